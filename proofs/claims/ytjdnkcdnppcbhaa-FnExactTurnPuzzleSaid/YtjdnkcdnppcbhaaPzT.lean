/- Puzzles turned, the specification. -/
import Derived.Test.YtjdnkcdnppcbhaaPzC
import Derived.Deep.Cut
import Derived.BigQuiet
namespace Go.Proofs.Ytjdnkcdnppcbhaa
open Go.RowKit
set_option linter.unusedVariables false

set_option maxRecDepth 100000 in
set_option maxHeartbeats 4000000 in
theorem c_specTurnPz (AT : Option Addr) (cT : Nat) (T : List (Int × Int)) (AC : Option Addr) (cC : Nat) (C : List Int) (w : World) (hT : RdT w AT T) (hC : RdI w AC C) (lT : T.length + C.length ≤ 1048576) (kT : T.length ≤ cT) :
    Calls Try.prog 35 #[.agg #[.slice AT T.length cT, .slice AC C.length cC]] w (RetPB w (selPT (pzB T C) T) (selPI (pzB T C) C.reverse) (pzB T C)) := by
  have conG := Lib.hid (fun W (hb : Below w.heap.size w W) => c_pzGood AT cT T AC cC C W (hT.below hb) (hC.below hb) lT kT)
  have con := Lib.hid (fun W (hb : Below w.heap.size w W) => (show Calls Try.prog 84 #[.slice AC C.length cC] W (fun e w' => ∃ A c, e = .returned (.slice A C.length c) ∧ w'.ownsRow W.heap.size 3 1 (.slice A C.length c) C.length (cellsI C.reverse) ∧ Below W.heap.size W w') from (c_haTurn AC cC C W (hC.below hb) (by omega)).mono (fun e w' h => by simpa [RetN] using h)))
  clear hC
  cases h : pzB T C
  · have cg := conG.out
    simp only [h] at cg
    have Cg := Lib.hid cg
    clear cg conG con h hT
    show Calls _ _ _ _ (RetPB w [] [] false)
    go_enter Try.func35, Try.ntmps35
    go_upto_region 1 with (fail)
    obtain ⟨w0, hw0⟩ : ∃ w0, w0 = (w.alloc (.cells #[.slice AT T.length cT, .slice AC C.length cC] 30)).alloc (.cells #[.slice none 0 0, .slice none 0 0] 30) := ⟨_, rfl⟩
    rw [← hw0]
    have hs0 : w0.heap.size = w.heap.size + 2 := by rw [hw0]; simp
    have ba : Bx2 w0 w.heap.size (.slice AT T.length cT) (.slice AC C.length cC) := by rw [hw0]; exact (Bx2.fresh w _ _ _).more _
    have br : Bx2 w0 (w.heap.size + 1) (.slice none 0 0) (.slice none 0 0) := by
      have h1 := Bx2.fresh (w.alloc (.cells #[.slice AT T.length cT, .slice AC C.length cC] 30)) (.slice none 0 0) (.slice none 0 0) 30
      rw [World.size_alloc] at h1
      rw [hw0]; exact h1
    have hb : Below w.heap.size w w0 := by rw [hw0]; go_grown
    have nr : w.heap.size + 1 < w0.heap.size := br.lt
    clear hw0 hs0
    have x0 := ba.c0
    have x1 := ba.c1
    go_wp2_with fail
    refine (Cg.out _ hb).mono ?_
    rintro e w1 ⟨rfl, h1⟩
    have hb1 := bstep hb h1
    have br1 := br.keep h1
    clear x0 x1 ba br hb
    have y0 := br1.c0
    have y1 := br1.c1
    have f0 := br1.fz 0
    have f1 := br1.fz 1
    have m2 := br1.lt
    go_wp2
    refine bodyPost_ret (v := .tuple #[.agg #[.slice none 0 0, .slice none 0 0], .bool false]) (by simp [results, Try.results35, go_sem, y0, y1]) rfl ⟨none, 0, none, 0, rfl, OwnP.none_ _ _ _, ?_⟩
    exact below_box (below_box hb1 (by omega)) (by omega)
  have cg := conG.out
  simp only [h] at cg
  have Cg := Lib.hid cg
  obtain ⟨hp1, hp9, _, hC10, _, _⟩ := pzB_parts h
  have hposT : 0 < T.length := by omega
  have hposC : 0 < C.length := by omega
  clear cg conG h hC10
  show Calls _ _ _ _ (RetPB w T C.reverse true)
  go_enter Try.func35, Try.ntmps35
  go_upto_region 1 with (fail)
  obtain ⟨w0, hw0⟩ : ∃ w0, w0 = (w.alloc (.cells #[.slice AT T.length cT, .slice AC C.length cC] 30)).alloc (.cells #[.slice none 0 0, .slice none 0 0] 30) := ⟨_, rfl⟩
  rw [← hw0]
  have hs0 : w0.heap.size = w.heap.size + 2 := by rw [hw0]; simp
  have ba : Bx2 w0 w.heap.size (.slice AT T.length cT) (.slice AC C.length cC) := by rw [hw0]; exact (Bx2.fresh w _ _ _).more _
  have br : Bx2 w0 (w.heap.size + 1) (.slice none 0 0) (.slice none 0 0) := by
    have h1 := Bx2.fresh (w.alloc (.cells #[.slice AT T.length cT, .slice AC C.length cC] 30)) (.slice none 0 0) (.slice none 0 0) 30
    rw [World.size_alloc] at h1
    rw [hw0]; exact h1
  have hb : Below w.heap.size w w0 := by rw [hw0]; go_grown
  have nr : w.heap.size + 1 < w0.heap.size := br.lt
  clear hw0 hs0
  have x0 := ba.c0
  have x1 := ba.c1
  go_wp2_with fail
  refine (Cg.out _ hb).mono ?_
  rintro e w1 ⟨rfl, h1⟩
  replace hb := bstep hb h1
  replace br := br.keep h1
  replace ba := ba.keep h1
  clear x0 x1 nr
  have nr := br.lt
  go_upto_region 3 with (fail)
  replace hb := hb.drew
  have p0 := gdG _ ba.c0
  have p1 := gdG _ ba.c1
  replace br := br.drew
  clear ba
  refine wp_region_held_drew (S := fun w' => w'.cell? ⟨w.heap.size, 0, none⟩ = some (.slice AT T.length cT) ∧ w'.cell? ⟨w.heap.size, 1, none⟩ = some (.slice AC C.length cC)) (by kernel_rfl) ⟨p0, p1⟩ (fun hH0 => ?_)
  clear hH0
  obtain ⟨v0, hv0⟩ : ∃ v, v = w1.drew := ⟨_, rfl⟩
  rw [← hv0] at hb p0 p1 br ⊢
  have nr0 : w.heap.size + 1 < v0.heap.size := by rw [hv0]; exact nr
  clear hv0 nr h1
  refine reg_take 1 rfl (by kernel_rfl) (by kernel_rfl) (by kernel_rfl) (fun _ _ _ h => h) (by rfl) (fun w _ => by first | (go_simp; done) | (go_simp; with_reducible rfl)) ⟨p0, p1⟩ ?_
  try simp only [Act.put, List.setIfInBounds_toArray, List.set_cons_zero, List.set_cons_succ, List.getElem_toArray, List.getElem_cons_zero, List.getElem_cons_succ]
  refine reg_take 2 rfl (by kernel_rfl) (by kernel_rfl) (by kernel_rfl) (fun _ _ _ h => h) (by rfl) (fun w hSw => by (try dsimp only at hSw); first | (go_simp; done) | (go_simp; with_reducible rfl)) ⟨p0, p1⟩ ?_
  try simp only [Act.put, List.setIfInBounds_toArray, List.set_cons_zero, List.set_cons_succ, List.getElem_toArray, List.getElem_cons_zero, List.getElem_cons_succ]
  refine reg_take 4 rfl (by kernel_rfl) (by kernel_rfl) (by kernel_rfl) (fun _ _ _ h => h) (by rfl) (fun w _ => by first | (go_simp; done) | (go_simp; with_reducible rfl)) ⟨p0, p1⟩ ?_
  try simp only [Act.put, List.setIfInBounds_toArray, List.set_cons_zero, List.set_cons_succ, List.getElem_toArray, List.getElem_cons_zero, List.getElem_cons_succ]
  refine reg_take 5 rfl (by kernel_rfl) (by kernel_rfl) (by kernel_rfl) (fun _ _ _ h => h) (by rfl) (fun w hSw => by (try dsimp only at hSw); first | (go_simp; done) | (go_simp; with_reducible rfl)) ⟨p0, p1⟩ ?_
  try simp only [Act.put, List.setIfInBounds_toArray, List.set_cons_zero, List.set_cons_succ, List.getElem_toArray, List.getElem_cons_zero, List.getElem_cons_succ]
  refine wpAnyH_ready (rs := [0]) (by kernel_rfl) (by simp) ?_
  refine AllReadyH.cons (i := 0) rfl (fun K hK => ?_) AllReadyH.nil
  go_simp
  obtain ⟨v1, hv⟩ : ∃ v, v = v0.alloc (.cells #[] 82) := ⟨_, rfl⟩
  have hv1 : Below v0.heap.size v0 v1 := by rw [hv]; exact (Below.refl _ _).alloc (Nat.le_refl _) _
  have zv1 : v0.heap.size < v1.heap.size := by rw [hv]; simp
  have oe0 : v1.ownsRow v0.heap.size 82 2 (.slice (some ⟨v0.heap.size, 0, none⟩) 0 0) 0 (cellsT []) := by rw [hv]; exact World.ownsRow_lit v0 #[] 0 (Nat.le_refl _) (by unfold maxLen; omega) rfl
  rw [← hv]
  clear hv
  obtain ⟨g0, hg0⟩ : ∃ n, n = v0.heap.size := ⟨_, rfl⟩
  rw [← hg0] at oe0 ⊢
  have ag0 : v0.heap.size ≤ g0 := Nat.le_of_eq hg0.symm
  have qg0 : g0 < v1.heap.size := by rw [hg0]; exact zv1
  have mg0 : w.heap.size + 1 < g0 := by have := br.lt; omega
  clear hg0
  replace hb := bstep hb hv1
  replace p0 := keepc hv1 p0
  replace p1 := keepc hv1 p1
  replace br := br.keep hv1
  have oe : v1.ownsRow (w.heap.size + 2) 82 2 (.slice (some ⟨g0, 0, none⟩) 0 0) 0 (cellsT []) := own_base oe0 (by omega)
  clear oe0
  refine hK.out _ _ ⟨p0, p1⟩ (fun hHx => ?_)
  clear hK K hHx
  try simp only [Act.put, List.setIfInBounds_toArray, List.set_cons_zero, List.set_cons_succ, List.getElem_toArray, List.getElem_cons_zero, List.getElem_cons_succ]
  refine wpAnyH_ready (rs := [3]) (by kernel_rfl) (by simp) ?_
  refine AllReadyH.cons (i := 3) rfl (fun K hK => ?_) AllReadyH.nil
  refine step_append_tilesP rfl (.tmp 8) (.tmp 10) rfl (w.heap.size + 2) g0 rfl oe AT cT T hposT rfl (hT.below hb) (by omega) (by have := br.lt; omega) ?_
  intro A1 c1 v2 ot hg
  have zv2 : v1.heap.size ≤ v2.heap.size := hg.size
  replace p0 := cell_grown hg p0 (by omega)
  replace p1 := cell_grown hg p1 (by omega)
  replace br := br.grown hg (by omega)
  replace hb := hb.trans (below_of_grown hg (by omega) (fun g h => by cases h; omega))
  have lt1 := ot.lt
  clear hg oe
  refine hK.out _ _ ⟨p0, p1⟩ (fun hHx => ?_)
  clear hK K hHx
  try simp only [Act.put, List.setIfInBounds_toArray, List.set_cons_zero, List.set_cons_succ, List.getElem_toArray, List.getElem_cons_zero, List.getElem_cons_succ]
  refine wpAnyH_ready (rs := [6]) (by kernel_rfl) (by simp) ?_
  refine AllReadyH.cons (i := 6) rfl (fun K hK => ?_) AllReadyH.nil
  go_simp
  refine (con.out _ hb).mono ?_
  rintro e v3 ⟨A2, c2, rfl, oc, hv3⟩
  have zv3 : v2.heap.size ≤ v3.heap.size := hv3.size
  have apTC : ApG (.slice A1 T.length c1) (.slice A2 C.length c2) := ApG.of_lt (m := v2.heap.size) (fun g hg => (ot.lt g hg).2) (fun g hg => (oc.lt g hg).1)
  have nx2 : True := trivial
  replace oc := own_base (b' := w.heap.size + 2) oc (by have := br.lt; omega)
  replace hb := bstep hb hv3
  replace p0 := keepc hv3 p0
  replace p1 := keepc hv3 p1
  replace br := br.keep hv3
  replace ot := own_keep ot hv3
  refine hK.out _ _ ⟨p0, p1⟩ (fun hHx => ?_)
  clear hK K hHx
  try simp only [Act.put, List.setIfInBounds_toArray, List.set_cons_zero, List.set_cons_succ, List.getElem_toArray, List.getElem_cons_zero, List.getElem_cons_succ]
  refine reg_take 7 rfl (by kernel_rfl) (by kernel_rfl) (by kernel_rfl) (fun _ _ _ h => h) (by rfl) (fun w _ => by first | (go_simp; done) | (go_simp; with_reducible rfl)) ⟨p0, p1⟩ ?_
  try simp only [Act.put, List.setIfInBounds_toArray, List.set_cons_zero, List.set_cons_succ, List.getElem_toArray, List.getElem_cons_zero, List.getElem_cons_succ]
  have y0 := br.c0
  have y1 := br.c1
  have f0 := br.fz 0
  have f1 := br.fz 1
  refine wpAnyH_ready (rs := [8]) (by kernel_rfl) (by simp) ?_
  refine AllReadyH.cons (i := 8) rfl (fun K hK => ?_) AllReadyH.nil
  go_simp
  refine hK.out _ _ ⟨far2 (by omega) p0, far2 (by omega) p1⟩ (fun hHx => ?_)
  clear hK K hHx
  try simp only [Act.put, List.setIfInBounds_toArray, List.set_cons_zero, List.set_cons_succ, List.getElem_toArray, List.getElem_cons_zero, List.getElem_cons_succ]
  refine reg_take 9 rfl (by kernel_rfl) (by kernel_rfl) (by kernel_rfl) (fun _ _ _ h => h) (by rfl) (fun w _ => by first | (go_simp; done) | (go_simp; with_reducible rfl)) ⟨far2 (by omega) p0, far2 (by omega) p1⟩ ?_
  try simp only [Act.put, List.setIfInBounds_toArray, List.set_cons_zero, List.set_cons_succ, List.getElem_toArray, List.getElem_cons_zero, List.getElem_cons_succ]
  refine wpAnyH_done (by kernel_rfl) ?_ _
  have bR := (br.set0 (.slice A1 T.length c1)).set1 (.slice A2 C.length c2)
  have oT := own_box (own_box (own_base (b' := w.heap.size + 2) ot (by omega)) (a := w.heap.size + 1) (j := 0) (u := .slice A1 T.length c1) (by omega)) (a := w.heap.size + 1) (j := 1) (u := .slice A2 C.length c2) (by omega)
  have oC := own_box (own_box (own_base (b' := w.heap.size + 2) oc (by omega)) (a := w.heap.size + 1) (j := 0) (u := .slice A1 T.length c1) (by omega)) (a := w.heap.size + 1) (j := 1) (u := .slice A2 C.length c2) (by omega)
  have hB := below_box (j := 1) (u := .slice A2 C.length c2) (below_box (j := 0) (u := .slice A1 T.length c1) hb (show w.heap.size ≤ w.heap.size + 1 by omega)) (show w.heap.size ≤ w.heap.size + 1 by omega)
  generalize (v3.setCell ⟨w.heap.size + 1, 0, none⟩ (.slice A1 T.length c1)).setCell ⟨w.heap.size + 1, 1, none⟩ (.slice A2 C.length c2) = W at *
  have r0 := bR.c0
  have r1 := bR.c1
  have OT := Lib.hid oT
  have OC := Lib.hid oC
  have HB := Lib.hid hB
  clear oT oC hB bR y0 y1 f0 f1 p0 p1 ot oc br hb
  go_wp2
  refine bodyPost_ret (v := .tuple #[.agg #[.slice A1 T.length c1, .slice A2 C.length c2], .bool true]) (by simp [results, Try.results35, go_sem, r0, r1]) rfl ⟨A1, c1, A2, c2, by rw [List.length_reverse], ?_, HB.out⟩
  rw [List.length_reverse]
  exact { f := own_base OT.out (by omega), r := own_base OC.out (by omega), hf := fun g h => (OT.out.lt g h).2, hr := fun g h => (OC.out.lt g h).2, fr := apTC }

end Go.Proofs.Ytjdnkcdnppcbhaa

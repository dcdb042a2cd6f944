/- Puzzles copied, the program: copied, with. -/
import Derived.Test.YtjdnkcdnppcbhaaPzI
import Derived.Test.YtjdnkcdnppcbhaaTurn
import Derived.Test.YtjdnkcdnppcbhaaRegS
import Derived.Test.YtjdnkcdnppcbhaaCat
import Derived.Test.YtjdnkcdnppcbhaaCatT
import Derived.Test.YtjdnkcdnppcbhaaPzC
import Derived.Deep.Cut
import Derived.BigQuiet
namespace Go.Proofs.Ytjdnkcdnppcbhaa
open Go.RowKit
set_option linter.unusedVariables false

set_option maxRecDepth 100000 in
set_option maxHeartbeats 2000000 in
theorem c_cloneR2 (A : Option Addr) (c : Nat) (xs : List Int) (w : World) (hr : RdI w A xs) (hl : xs.length ≤ 1048576) : Calls Try.prog 83 #[.slice A xs.length c] w (RetN w xs) := by
  by_cases hne : 0 < xs.length
  · exact c_clone A c xs w hr hl hne
  · have e0 : xs = [] := List.eq_nil_of_length_eq_zero (by omega)
    subst e0
    have ho0 : (w.alloc (.cells #[] 3)).ownsRow w.heap.size 3 1 (.slice (some ⟨w.heap.size, 0, none⟩) 0 0) 0 (cellsI []) := World.ownsRow_lit w #[] 0 (Nat.le_refl _) (by unfold maxLen; omega) rfl
    have hb0 : Below w.heap.size w (w.alloc (.cells #[] 3)) := (Below.refl _ _).alloc (Nat.le_refl _) _
    have q : ∀ (w : World) (a : Option Addr) (n c n' c' : Nat), (binOp .eql 23 (.slice a n c) (.slice none n' c')).run Try.prog w = .ok (.bool a.isNone) w := fun w a n c n' c' => Lib.run_eql_slice_nil w _ _ a n c n' c' Try.underlying23
    cases A with
    | none =>
      go_enter Try.func83, Try.ntmps83
      go_wp2
      go_ret
      exact ⟨none, 0, rfl, World.ownsRow_nil _ _ _ _, Below.refl _ _⟩
    | some ad =>
      go_enter Try.func83, Try.ntmps83
      go_wp2_with (at_builtin; refine wp_append_ints rfl _ _ rfl w.heap.size _ [] rfl ho0 _ c [] rfl (hr.below hb0) (by simp) (by simp) (by simp) ⟨_, _, rfl⟩ ?_; intro A4 c4 w4 ho4 hg4; have hb4 : Below w.heap.size w w4 := hb0.trans (below_of_grown hg4 hb0.size (fun g hg => by cases hg; exact Nat.le_refl _)); simp only [List.nil_append] at ho4)
      go_ret
      exact ⟨A4, c4, rfl, ho4, hb4⟩

set_option maxRecDepth 100000 in
set_option maxHeartbeats 4000000 in
theorem c_copiedP (AT : Option Addr) (cT : Nat) (T : List (Int × Int)) (AC : Option Addr) (cC : Nat) (C : List Int) (w : World) (hT : RdT w AT T) (hC : RdI w AC C) (lT : T.length + C.length ≤ 1048576) :
    Calls Try.prog 85 #[.agg #[.slice AT T.length cT, .slice AC C.length cC]] w (RetP w T C) := by
  have conT := Lib.hid (fun W (hb : Below w.heap.size w W) => c_cloneT AT cT T W (hT.below hb) (by omega))
  have conC := Lib.hid (fun W (hb : Below w.heap.size w W) => c_cloneR2 AC cC C W (hC.below hb) (by omega))
  clear hT hC
  go_enter Try.func85, Try.ntmps85
  go_upto_region 1 with (fail)
  obtain ⟨w0, hw0⟩ : ∃ w0, w0 = (w.alloc (.cells #[.slice AT T.length cT, .slice AC C.length cC] 30)).alloc (.cells #[.slice none 0 0, .slice none 0 0] 30) := ⟨_, rfl⟩
  rw [← hw0]
  have hs0 : w0.heap.size = w.heap.size + 2 := by rw [hw0]; simp
  have ba : Bx2 w0 w.heap.size (.slice AT T.length cT) (.slice AC C.length cC) := by rw [hw0]; exact (Bx2.fresh w _ _ _).more _
  have br : Bx2 w0 (w.heap.size + 1) (.slice none 0 0) (.slice none 0 0) := by
    have h1 := Bx2.fresh (w.alloc (.cells #[.slice AT T.length cT, .slice AC C.length cC] 30)) (.slice none 0 0) (.slice none 0 0) 30
    rw [World.size_alloc] at h1
    rw [hw0]; exact h1
  have hb : Below w.heap.size w w0 := by rw [hw0]; go_grown
  have nr : w.heap.size + 1 < w0.heap.size := br.lt
  clear hw0 hs0
  replace hb := hb.drew
  have p0 := gdG _ ba.c0
  have p1 := gdG _ ba.c1
  replace br := br.drew
  clear ba
  refine wp_region_held_drew (S := fun w' => w'.cell? ⟨w.heap.size, 0, none⟩ = some (.slice AT T.length cT) ∧ w'.cell? ⟨w.heap.size, 1, none⟩ = some (.slice AC C.length cC)) (by kernel_rfl) ⟨p0, p1⟩ (fun hH0 => ?_)
  clear hH0
  obtain ⟨v0, hv0⟩ : ∃ v, v = w0.drew := ⟨_, rfl⟩
  rw [← hv0] at hb p0 p1 br ⊢
  have nr0 : w.heap.size + 1 < v0.heap.size := by rw [hv0]; exact nr
  clear hv0 nr
  refine reg_take 0 rfl (by kernel_rfl) (by kernel_rfl) (by kernel_rfl) (fun _ _ _ h => h) (by rfl) (fun w _ => by first | (go_simp; done) | (go_simp; with_reducible rfl)) ⟨p0, p1⟩ ?_
  try simp only [Act.put, List.setIfInBounds_toArray, List.set_cons_zero, List.set_cons_succ, List.getElem_toArray, List.getElem_cons_zero]
  refine reg_take 1 rfl (by kernel_rfl) (by kernel_rfl) (by kernel_rfl) (fun _ _ _ h => h) (by rfl) (fun w hSw => by (try dsimp only at hSw); first | (go_simp; done) | (go_simp; with_reducible rfl)) ⟨p0, p1⟩ ?_
  try simp only [Act.put, List.setIfInBounds_toArray, List.set_cons_zero, List.set_cons_succ, List.getElem_toArray, List.getElem_cons_zero, List.getElem_cons_succ]
  refine reg_take 3 rfl (by kernel_rfl) (by kernel_rfl) (by kernel_rfl) (fun _ _ _ h => h) (by rfl) (fun w _ => by first | (go_simp; done) | (go_simp; with_reducible rfl)) ⟨p0, p1⟩ ?_
  try simp only [Act.put, List.setIfInBounds_toArray, List.set_cons_zero, List.set_cons_succ, List.getElem_toArray, List.getElem_cons_zero, List.getElem_cons_succ]
  refine reg_take 4 rfl (by kernel_rfl) (by kernel_rfl) (by kernel_rfl) (fun _ _ _ h => h) (by rfl) (fun w hSw => by (try dsimp only at hSw); first | (go_simp; done) | (go_simp; with_reducible rfl)) ⟨p0, p1⟩ ?_
  try simp only [Act.put, List.setIfInBounds_toArray, List.set_cons_zero, List.set_cons_succ, List.getElem_toArray, List.getElem_cons_zero, List.getElem_cons_succ]
  refine wpAnyH_ready (rs := [2]) (by kernel_rfl) (by simp) ?_
  refine AllReadyH.cons (i := 2) rfl (fun K hK => ?_) AllReadyH.nil
  go_simp
  refine (conT.out _ hb).mono ?_
  rintro e v1 ⟨A1, c1, rfl, ot, h1⟩
  have z1 : v0.heap.size ≤ v1.heap.size := h1.size
  replace hb := bstep hb h1
  replace p0 := keepc h1 p0
  replace p1 := keepc h1 p1
  replace br := br.keep h1
  refine hK.out _ _ ⟨p0, p1⟩ (fun hHx => ?_)
  clear hK K hHx
  try simp only [Act.put, List.setIfInBounds_toArray, List.set_cons_zero, List.set_cons_succ, List.getElem_toArray, List.getElem_cons_zero, List.getElem_cons_succ]
  refine wpAnyH_ready (rs := [5]) (by kernel_rfl) (by simp) ?_
  refine AllReadyH.cons (i := 5) rfl (fun K hK => ?_) AllReadyH.nil
  go_simp
  refine (conC.out _ hb).mono ?_
  rintro e v2 ⟨A2, c2, rfl, oc, h2⟩
  have z2 : v1.heap.size ≤ v2.heap.size := h2.size
  have apTC : ApG (.slice A1 T.length c1) (.slice A2 C.length c2) := ApG.of_lt (m := v1.heap.size) (fun g hg => (ot.lt g hg).2) (fun g hg => (oc.lt g hg).1)
  replace hb := bstep hb h2
  replace p0 := keepc h2 p0
  replace p1 := keepc h2 p1
  replace br := br.keep h2
  replace ot := own_keep ot h2
  refine hK.out _ _ ⟨p0, p1⟩ (fun hHx => ?_)
  clear hK K hHx
  try simp only [Act.put, List.setIfInBounds_toArray, List.set_cons_zero, List.set_cons_succ, List.getElem_toArray, List.getElem_cons_zero, List.getElem_cons_succ]
  refine reg_take 6 rfl (by kernel_rfl) (by kernel_rfl) (by kernel_rfl) (fun _ _ _ h => h) (by rfl) (fun w _ => by first | (go_simp; done) | (go_simp; with_reducible rfl)) ⟨p0, p1⟩ ?_
  try simp only [Act.put, List.setIfInBounds_toArray, List.set_cons_zero, List.set_cons_succ, List.getElem_toArray, List.getElem_cons_zero, List.getElem_cons_succ]
  have y0 := br.c0
  have y1 := br.c1
  have f0 := br.fz 0
  have f1 := br.fz 1
  refine wpAnyH_ready (rs := [7]) (by kernel_rfl) (by simp) ?_
  refine AllReadyH.cons (i := 7) rfl (fun K hK => ?_) AllReadyH.nil
  go_simp
  refine hK.out _ _ ⟨far2 (by omega) p0, far2 (by omega) p1⟩ (fun hHx => ?_)
  clear hK K hHx
  try simp only [Act.put, List.setIfInBounds_toArray, List.set_cons_zero, List.set_cons_succ, List.getElem_toArray, List.getElem_cons_zero, List.getElem_cons_succ]
  refine wpAnyH_done (by kernel_rfl) ?_ _
  have bR := (br.set0 (.slice A1 T.length c1)).set1 (.slice A2 C.length c2)
  have oT := own_box (own_box (own_base (b' := w.heap.size + 2) ot (by omega)) (a := w.heap.size + 1) (j := 0) (u := .slice A1 T.length c1) (by omega)) (a := w.heap.size + 1) (j := 1) (u := .slice A2 C.length c2) (by omega)
  have oC := own_box (own_box (own_base (b' := w.heap.size + 2) oc (by omega)) (a := w.heap.size + 1) (j := 0) (u := .slice A1 T.length c1) (by omega)) (a := w.heap.size + 1) (j := 1) (u := .slice A2 C.length c2) (by omega)
  have hB := below_box (j := 1) (u := .slice A2 C.length c2) (below_box (j := 0) (u := .slice A1 T.length c1) hb (show w.heap.size ≤ w.heap.size + 1 by omega)) (show w.heap.size ≤ w.heap.size + 1 by omega)
  generalize (v2.setCell ⟨w.heap.size + 1, 0, none⟩ (.slice A1 T.length c1)).setCell ⟨w.heap.size + 1, 1, none⟩ (.slice A2 C.length c2) = W at *
  have r0 := bR.c0
  have r1 := bR.c1
  have OT := Lib.hid oT
  have OC := Lib.hid oC
  have HB := Lib.hid hB
  clear oT oC hB bR y0 y1 f0 f1 p0 p1 ot oc br hb
  go_wp2
  refine bodyPost_ret (v := .agg #[.slice A1 T.length c1, .slice A2 C.length c2]) (by simp [results, Try.results85, go_sem, r0, r1]) rfl ⟨A1, c1, A2, c2, rfl, ?_, HB.out⟩
  exact { f := own_base OT.out (by omega), r := own_base OC.out (by omega), hf := fun g h => (OT.out.lt g h).2, hr := fun g h => (OC.out.lt g h).2, fr := apTC }

set_option maxRecDepth 100000 in
set_option maxHeartbeats 4000000 in
theorem c_implWith (AT : Option Addr) (cT : Nat) (T : List (Int × Int)) (AC : Option Addr) (cC : Nat) (C : List Int) (k : Nat) (x : Int) (w : World) (hT : RdT w AT T) (hC : RdI w AC C) (lT : T.length + C.length ≤ 1048576) (hposT : 0 < T.length) (hk : k < C.length) :
    Calls Try.prog 77 #[.agg #[.slice AT T.length cT, .slice AC C.length cC], .int .i64 k, .int .i64 x] w (RetP w T (C.set k x)) := by
  have con := Lib.hid (fun W (hb : Below w.heap.size w W) => c_copiedP AT cT T AC cC C W (hT.below hb) (hC.below hb) lT)
  have i0 : (0 : Int) ≤ (k : Int) := by omega
  have i1 : (k : Int) < (C.length : Int) := by omega
  clear hC hT
  go_enter Try.func77, Try.ntmps77
  go_upto_region 1 with (fail)
  obtain ⟨w0, hw0⟩ : ∃ w0, w0 = (w.alloc (.cells #[.slice AT T.length cT, .slice AC C.length cC] 30)).alloc (.cells #[.slice none 0 0, .slice none 0 0] 30) := ⟨_, rfl⟩
  rw [← hw0]
  have hs0 : w0.heap.size = w.heap.size + 2 := by rw [hw0]; simp
  have ba : Bx2 w0 w.heap.size (.slice AT T.length cT) (.slice AC C.length cC) := by rw [hw0]; exact (Bx2.fresh w _ _ _).more _
  have br : Bx2 w0 (w.heap.size + 1) (.slice none 0 0) (.slice none 0 0) := by
    have h1 := Bx2.fresh (w.alloc (.cells #[.slice AT T.length cT, .slice AC C.length cC] 30)) (.slice none 0 0) (.slice none 0 0) 30
    rw [World.size_alloc] at h1
    rw [hw0]; exact h1
  have hb : Below w.heap.size w w0 := by rw [hw0]; go_grown
  have nr : w.heap.size + 1 < w0.heap.size := br.lt
  clear hw0 hs0
  have x0 := ba.c0
  have x1 := ba.c1
  go_wp2_with fail
  refine (con.out _ hb).mono ?_
  rintro e w1 ⟨A1, c1, A2, c2, rfl, oP, h1⟩
  have nrw := nr
  replace hb := bstep hb h1
  replace br := br.keep h1
  clear x0 x1 ba nr
  have nr := br.lt
  obtain ⟨g2, hA2⟩ : ∃ g2, A2 = some ⟨g2, 0, none⟩ := by
    rcases oP.r.2 with ⟨_, hn⟩ | ⟨g2, _, _, hv, _⟩
    · omega
    · injection hv with e1
      exact ⟨g2, e1⟩
  subst hA2
  obtain ⟨g1, hA1⟩ : ∃ g1, A1 = some ⟨g1, 0, none⟩ := by
    rcases oP.f.2 with ⟨_, hn⟩ | ⟨g1, _, _, hv, _⟩
    · omega
    · injection hv with e1
      exact ⟨g1, e1⟩
  subst hA1
  have b1 := oP.f.lt g1 rfl
  have b2 := oP.r.lt g2 rfl
  have n12 : g1 ≠ g2 := fun h => oP.fr g1 rfl (by rw [h]; rfl)
  have q1 := h1.size
  have y0 := br.c0
  have y1 := br.c1
  have f0 := br.fz 0
  have f1 := br.fz 1
  have BRF := Lib.hid br.fz
  have fk := oP.r.frozenAt k
  have ck : ∃ u, w1.cell? ⟨g2, k, none⟩ = some u := ⟨.int .i64 C[k], (oP.r.cellAt k (by omega)).trans (by simp [cellsI, hk])⟩
  obtain ⟨u, ck⟩ := ck
  have OP := Lib.hid oP
  have HB := Lib.hid hb
  clear oP hb br h1
  go_upto_region 2 with (fail)
  obtain ⟨W, hW⟩ : ∃ W, W = w1.alloc (.cells #[.slice (some ⟨g1, 0, none⟩) T.length c1, .slice (some ⟨g2, 0, none⟩) C.length c2] 30) := ⟨_, rfl⟩
  rw [← hW]
  have hv : Below w1.heap.size w1 W := by rw [hW]; exact (Below.refl _ _).alloc (Nat.le_refl _) _
  have bX : Bx2 W w1.heap.size (.slice (some ⟨g1, 0, none⟩) T.length c1) (.slice (some ⟨g2, 0, none⟩) C.length c2) := by rw [hW]; exact Bx2.fresh w1 _ _ _
  clear hW
  have bR : Bx2 W (w.heap.size + 1) (.slice none 0 0) (.slice none 0 0) := Bx2.keep ⟨y0, y1, BRF.out⟩ hv
  have hB := bstep HB.out hv
  have oT := own_keep OP.out.f hv
  have oC := own_keep OP.out.r hv
  have zW := hv.size
  have hsz : True := trivial
  clear y0 y1 f0 f1 fk ck OP HB hv BRF
  have x0 := bX.c0
  have x1 := bX.c1
  have y0 := bR.c0
  have y1 := bR.c1
  have f0 := bR.fz 0
  have f1 := bR.fz 1
  have fk := oC.frozenAt k
  have ck : ∃ u, W.cell? ⟨g2, k, none⟩ = some u := ⟨.int .i64 C[k], (oC.cellAt k (by omega)).trans (by simp [cellsI, hk])⟩
  obtain ⟨u, ck⟩ := ck
  have m1 := bX.lt
  have m2 := bR.lt
  have m3 := (oC.lt g2 rfl).2
  have OT := Lib.hid oT
  have OC := Lib.hid oC
  have HB := Lib.hid hB
  clear oT oC hB bX bR hsz
  go_wp2
  refine bodyPost_ret (v := .agg #[.slice (some ⟨g1, 0, none⟩) T.length c1, .slice (some ⟨g2, 0, none⟩) C.length c2]) (by simp [results, Try.results77, go_sem, y0, y1]) rfl ⟨some ⟨g1, 0, none⟩, c1, some ⟨g2, 0, none⟩, c2, by rw [List.length_set], ?_, ?_⟩
  · have oS := (OC.out.stored k (.int .i64 x)).1
    have e1 : (cellsI C).set k (.int .i64 x) = cellsI (C.set k x) := by simp [cellsI]
    rw [e1] at oS
    have oS1 := own_box (own_base oS (b' := w.heap.size + 2) (by omega)) (a := w.heap.size + 1) (j := 0) (u := .slice (some ⟨g1, 0, none⟩) T.length c1) (by omega)
    have oS2 := own_box oS1 (a := w.heap.size + 1) (j := 1) (u := .slice (some ⟨g2, 0, none⟩) C.length c2) (by omega)
    have oU := own_off2 (nb := g2) (j := k) (u := .int .i64 x) OT.out (fun g h => by cases h; exact n12)
    have oU1 := own_box oU (a := w.heap.size + 1) (j := 0) (u := .slice (some ⟨g1, 0, none⟩) T.length c1) (by omega)
    have oU2 := own_box oU1 (a := w.heap.size + 1) (j := 1) (u := .slice (some ⟨g2, 0, none⟩) C.length c2) (by omega)
    rw [List.length_set]
    exact { f := own_base oU2 (by omega), r := own_base oS2 (by omega), hf := fun g h => (oU2.lt g h).2, hr := fun g h => (oS2.lt g h).2, fr := fun g h1 h2 => by cases h1; cases h2; exact n12 rfl }
  · exact below_box (below_box (below_box HB.out (by omega)) (by omega)) (by omega)

end Go.Proofs.Ytjdnkcdnppcbhaa

/- Puzzles copied, the specification: pzWith, TurnPuzzle. -/
import Derived.Test.YtjdnkcdnppcbhaaPzS
import Derived.Test.YtjdnkcdnppcbhaaTurn
import Derived.Test.YtjdnkcdnppcbhaaRegS
import Derived.Test.YtjdnkcdnppcbhaaCat
import Derived.Deep.Cut
import Derived.BigQuiet
namespace Go.Proofs.Ytjdnkcdnppcbhaa
open Go.RowKit
set_option linter.unusedVariables false

/-- A list of tiles appended to an own row, at a step of a region that draws its order. -/
theorem step_append_tilesP {w : World} {ops : Array Oper} {o : Oper} {a : Act} {K : Act → World → Prop} {Q : Exit → Act → World → Prop} {E : Prop} (hgd : o.guard = none) (s x : Operand)
    (ho : o.op = .call { callee := .builtin .append, args := #[s, x], argTypes := #[28, 28] }) (base g0 : Nat) (hs : a.eval s = .slice (some ⟨g0, 0, none⟩) 0 0)
    (hown : w.ownsRow base 82 2 (.slice (some ⟨g0, 0, none⟩) 0 0) 0 (cellsT [])) (A : Option Addr) (c : Nat) (us : List (Int × Int)) (hpos : 0 < us.length) (hx : a.eval x = .slice A us.length c) (hr : RdT w A us)
    (hlen' : us.length ≤ 2097152) (hbase : base ≤ w.heap.size)
    (h : ∀ A c w', w'.ownsRow base 82 2 (.slice A us.length c) us.length (cellsT us) → w.grownBy w' (some g0) → K (a.put o.dst (.slice A us.length c)) w') :
    if Region.wanted o (yielded ops a.tmps) = true then Oper.wp Try.prog o a w K Q else E := by
  have hw : Region.wanted o (yielded ops a.tmps) = true := by simp [Region.wanted, hgd]
  rw [if_pos hw]
  obtain ⟨i0, hi, hz0, hz1, hz2⟩ := info_parts Try.info_tile
  obtain ⟨b, off, rfl, _, hc⟩ := hr.at_ hpos
  refine wp_append_own w s x 28 ho base 82 i0 _ 2 16 Try.underlying28 hi hz0 hz1 hz2 rfl (by decide) _ 0 (cellsT []) hs hown ⟨b, off, none⟩ us.length c (cellsT us) hx (cellsT_length us) ?_ (cellsT_one us) (by unfold maxLen; omega) (by omega) hbase ?_
  · intro j u hj
    have hjl : j < us.length * 2 := by
      have := (List.getElem?_eq_some_iff.1 hj).1
      rw [cellsT_length] at this
      exact this
    have hk : j / 2 < us.length := by omega
    have hg := cellsT_get us (j / 2) hk
    have hcc := hc (j / 2) hk
    have hadd : (⟨b, off, none⟩ : Addr).add j = ⟨b, off + j, none⟩ := by
      unfold Addr.add
      split <;> simp_all
    rw [hadd]
    rcases (by omega : j % 2 = 0 ∨ j % 2 = 1) with h0 | h0
    · have e : j = j / 2 * 2 := by omega
      rw [← e] at hg
      rw [hg.1] at hj
      rw [← hj, ← hcc.1, ← e]
    · have e : j = j / 2 * 2 + 1 := by omega
      rw [← e] at hg
      rw [hg.2] at hj
      rw [← hj, ← hcc.2, Nat.add_assoc, ← e]
  · intro v' w' h1 h2 _
    rw [Nat.zero_add] at h1
    rw [show cellsT [] ++ cellsT us = cellsT us from rfl] at h1
    obtain ⟨A2, c2, rfl⟩ : ∃ A2 c2, v' = .slice A2 us.length c2 := by
      rcases h1.2 with ⟨hv, hn⟩ | ⟨g, cap, cur, rfl, _⟩
      · omega
      · exact ⟨_, cap, rfl⟩
    exact h A2 c2 w' h1 h2
theorem cell_grown {w w' : World} {g0 b j : Nat} {v : Value} (h : w.grownBy w' (some g0)) (hc : w.cell? ⟨b, j, none⟩ = some v) (hne : b ≠ g0) : w'.cell? ⟨b, j, none⟩ = some v :=
  (World.cell?_of_block (a := ⟨b, j, none⟩) (h.block b (block_lt hc) (fun e => hne (Option.some.inj e)))).trans hc
theorem Bx2.grown {w w' : World} {g0 b : Nat} {u0 u1 : Value} (h : Bx2 w b u0 u1) (hg : w.grownBy w' (some g0)) (hne : b ≠ g0) : Bx2 w' b u0 u1 := h.of_block (hg.block b h.lt (fun e => hne (Option.some.inj e)))

/-- A box of own values lies in no block of an own row. -/
theorem own_notbox {w : World} {b base n c g : Nat} {u0 u1 : Value} {ts : List (Int × Int)} (hb : Bx2 w b u0 u1) (hs : u0 = .slice none 0 0) (h : w.ownsRow base 82 2 (.slice (some ⟨g, 0, none⟩) n c) n (cellsT ts)) (hn : 0 < n) : b ≠ g := by
  rintro rfl
  have h1 := h.cellAt 0 (by omega)
  have h2 := cellsT_get ts 0 (by have := h.1; rw [cellsT_length] at this; omega)
  rw [show 0 * 2 = 0 from rfl] at h2
  rw [h2.1, hb.c0, hs] at h1
  cases h1
theorem own_notboxI {w : World} {b base n c g : Nat} {u0 u1 : Value} {xs : List Int} (hb : Bx2 w b u0 u1) (hs : u0 = .slice none 0 0) (h : w.ownsRow base 3 1 (.slice (some ⟨g, 0, none⟩) n c) n (cellsI xs)) (hn : 0 < n) : b ≠ g := by
  rintro rfl
  have h1 := h.cellAt 0 (by omega)
  have hl : 0 < xs.length := by have := h.1; rw [cellsI_length] at this; omega
  have h2 : (cellsI xs)[0]? = some (.int .i64 xs[0]) := by simp [cellsI, hl]
  rw [h2, hb.c0, hs] at h1
  cases h1

set_option maxRecDepth 100000 in
set_option maxHeartbeats 4000000 in
theorem c_pzWith (AT : Option Addr) (cT : Nat) (T : List (Int × Int)) (AC : Option Addr) (cC : Nat) (C : List Int) (k : Nat) (x : Int) (w : World) (hT : RdT w AT T) (hC : RdI w AC C) (lT : T.length + C.length ≤ 1048576) (hposT : 0 < T.length) (hk : k < C.length) :
    Calls Try.prog 75 #[.agg #[.slice AT T.length cT, .slice AC C.length cC], .int .i64 k, .int .i64 x] w (RetP w T (C.set k x)) := by
  have con := Lib.hid (fun W (hb : Below w.heap.size w W) => c_l1Own AC cC C W (hC.below hb) (by omega))
  have i0 : (0 : Int) ≤ (k : Int) := by omega
  have i1 : (k : Int) < (C.length : Int) := by omega
  clear hC
  go_enter Try.func75, Try.ntmps75
  go_upto_region 1 with (fail)
  obtain ⟨w0, hw0⟩ : ∃ w0, w0 = (w.alloc (.cells #[.slice AT T.length cT, .slice AC C.length cC] 30)).alloc (.cells #[.slice none 0 0, .slice none 0 0] 30) := ⟨_, rfl⟩
  rw [← hw0]
  have hs0 : w0.heap.size = w.heap.size + 2 := by rw [hw0]; simp
  have ba : Bx2 w0 w.heap.size (.slice AT T.length cT) (.slice AC C.length cC) := by rw [hw0]; exact (Bx2.fresh w _ _ _).more _
  have br : Bx2 w0 (w.heap.size + 1) (.slice none 0 0) (.slice none 0 0) := by
    have h1 := Bx2.fresh (w.alloc (.cells #[.slice AT T.length cT, .slice AC C.length cC] 30)) (.slice none 0 0) (.slice none 0 0) 30
    rw [World.size_alloc] at h1
    rw [hw0]; exact h1
  have hb : Below w.heap.size w w0 := by rw [hw0]; go_grown
  have nr : w.heap.size + 1 < w0.heap.size := br.lt
  clear hw0 hs0
  replace hb := hb.drew
  have p0 := gdG _ ba.c0
  have p1 := gdG _ ba.c1
  replace br := br.drew
  clear ba
  refine wp_region_held_drew (S := fun w' => w'.cell? ⟨w.heap.size, 0, none⟩ = some (.slice AT T.length cT) ∧ w'.cell? ⟨w.heap.size, 1, none⟩ = some (.slice AC C.length cC)) (by kernel_rfl) ⟨p0, p1⟩ (fun hH0 => ?_)
  clear hH0
  obtain ⟨v0, hv0⟩ : ∃ v, v = w0.drew := ⟨_, rfl⟩
  rw [← hv0] at hb p0 p1 br ⊢
  have nr0 : w.heap.size + 1 < v0.heap.size := by rw [hv0]; exact nr
  clear hv0 nr
  refine reg_take 1 rfl (by kernel_rfl) (by kernel_rfl) (by kernel_rfl) (fun _ _ _ h => h) (by rfl) (fun w _ => by first | (go_simp; done) | (go_simp; with_reducible rfl)) ⟨p0, p1⟩ ?_
  try simp only [Act.put, List.setIfInBounds_toArray, List.set_cons_zero, List.set_cons_succ, List.getElem_toArray, List.getElem_cons_zero, List.getElem_cons_succ]
  refine reg_take 2 rfl (by kernel_rfl) (by kernel_rfl) (by kernel_rfl) (fun _ _ _ h => h) (by rfl) (fun w hSw => by (try dsimp only at hSw); first | (go_simp; done) | (go_simp; with_reducible rfl)) ⟨p0, p1⟩ ?_
  try simp only [Act.put, List.setIfInBounds_toArray, List.set_cons_zero, List.set_cons_succ, List.getElem_toArray, List.getElem_cons_zero, List.getElem_cons_succ]
  refine reg_take 4 rfl (by kernel_rfl) (by kernel_rfl) (by kernel_rfl) (fun _ _ _ h => h) (by rfl) (fun w _ => by first | (go_simp; done) | (go_simp; with_reducible rfl)) ⟨p0, p1⟩ ?_
  try simp only [Act.put, List.setIfInBounds_toArray, List.set_cons_zero, List.set_cons_succ, List.getElem_toArray, List.getElem_cons_zero, List.getElem_cons_succ]
  refine reg_take 5 rfl (by kernel_rfl) (by kernel_rfl) (by kernel_rfl) (fun _ _ _ h => h) (by rfl) (fun w hSw => by (try dsimp only at hSw); first | (go_simp; done) | (go_simp; with_reducible rfl)) ⟨p0, p1⟩ ?_
  try simp only [Act.put, List.setIfInBounds_toArray, List.set_cons_zero, List.set_cons_succ, List.getElem_toArray, List.getElem_cons_zero, List.getElem_cons_succ]
  refine wpAnyH_ready (rs := [0, 8]) (by kernel_rfl) (by simp) ?_
  refine AllReadyH.cons (i := 0) rfl (fun K hK => ?_) (AllReadyH.cons (i := 8) rfl (fun K hK => ?_) AllReadyH.nil)
  · skip
    go_simp
    obtain ⟨v1, hv⟩ : ∃ v, v = v0.alloc (.cells #[] 82) := ⟨_, rfl⟩
    have hv1 : Below v0.heap.size v0 v1 := by rw [hv]; exact (Below.refl _ _).alloc (Nat.le_refl _) _
    have zv1 : v0.heap.size < v1.heap.size := by rw [hv]; simp
    have oe0 : v1.ownsRow v0.heap.size 82 2 (.slice (some ⟨v0.heap.size, 0, none⟩) 0 0) 0 (cellsT []) := by rw [hv]; exact World.ownsRow_lit v0 #[] 0 (Nat.le_refl _) (by unfold maxLen; omega) rfl
    rw [← hv]
    clear hv
    obtain ⟨g0, hg0⟩ : ∃ n, n = v0.heap.size := ⟨_, rfl⟩
    rw [← hg0] at oe0 ⊢
    have ag0 : v0.heap.size ≤ g0 := Nat.le_of_eq hg0.symm
    have qg0 : g0 < v1.heap.size := by rw [hg0]; exact zv1
    have mg0 : w.heap.size + 1 < g0 := by have := br.lt; omega
    clear hg0
    replace hb := bstep hb hv1
    replace p0 := keepc hv1 p0
    replace p1 := keepc hv1 p1
    replace br := br.keep hv1
    have oe : v1.ownsRow (w.heap.size + 2) 82 2 (.slice (some ⟨g0, 0, none⟩) 0 0) 0 (cellsT []) := own_base oe0 (by omega)
    clear oe0
    refine hK.out _ _ ⟨p0, p1⟩ (fun hHx => ?_)
    clear hK K hHx
    try simp only [Act.put, List.setIfInBounds_toArray, List.set_cons_zero, List.set_cons_succ, List.getElem_toArray, List.getElem_cons_zero, List.getElem_cons_succ]
    refine wpAnyH_ready (rs := [3, 8]) (by kernel_rfl) (by simp) ?_
    refine AllReadyH.cons (i := 3) rfl (fun K hK => ?_) (AllReadyH.cons (i := 8) rfl (fun K hK => ?_) AllReadyH.nil)
    · skip
      refine step_append_tilesP rfl (.tmp 8) (.tmp 10) rfl (w.heap.size + 2) g0 rfl oe AT cT T hposT rfl (hT.below hb) (by omega) (by have := br.lt; omega) ?_
      intro A1 c1 v2 ot hg
      have zv2 : v1.heap.size ≤ v2.heap.size := hg.size
      replace p0 := cell_grown hg p0 (by omega)
      replace p1 := cell_grown hg p1 (by omega)
      replace br := br.grown hg (by omega)
      replace hb := hb.trans (below_of_grown hg (by omega) (fun g h => by cases h; omega))
      have lt1 := ot.lt
      clear hg oe
      refine hK.out _ _ ⟨p0, p1⟩ (fun hHx => ?_)
      clear hK K hHx
      try simp only [Act.put, List.setIfInBounds_toArray, List.set_cons_zero, List.set_cons_succ, List.getElem_toArray, List.getElem_cons_zero, List.getElem_cons_succ]
      refine wpAnyH_ready (rs := [6, 8]) (by kernel_rfl) (by simp) ?_
      refine AllReadyH.cons (i := 6) rfl (fun K hK => ?_) (AllReadyH.cons (i := 8) rfl (fun K hK => ?_) AllReadyH.nil)
      · skip
        go_simp
        refine (con.out _ hb).mono ?_
        rintro e v3 ⟨A2, c2, rfl, oc, hv3⟩
        have zv3 : v2.heap.size ≤ v3.heap.size := hv3.size
        have apTC : ApG (.slice A1 T.length c1) (.slice A2 C.length c2) := ApG.of_lt (m := v2.heap.size) (fun g hg => (ot.lt g hg).2) (fun g hg => (oc.lt g hg).1)
        have nx2 : True := trivial
        replace oc := own_base (b' := w.heap.size + 2) oc (by have := br.lt; omega)
        replace hb := bstep hb hv3
        replace p0 := keepc hv3 p0
        replace p1 := keepc hv3 p1
        replace br := br.keep hv3
        replace ot := own_keep ot hv3
        refine hK.out _ _ ⟨p0, p1⟩ (fun hHx => ?_)
        clear hK K hHx
        try simp only [Act.put, List.setIfInBounds_toArray, List.set_cons_zero, List.set_cons_succ, List.getElem_toArray, List.getElem_cons_zero, List.getElem_cons_succ]
        refine reg_take 7 rfl (by kernel_rfl) (by kernel_rfl) (by kernel_rfl) (fun _ _ _ h => h) (by rfl) (fun w _ => by first | (go_simp; done) | (go_simp; with_reducible rfl)) ⟨p0, p1⟩ ?_
        try simp only [Act.put, List.setIfInBounds_toArray, List.set_cons_zero, List.set_cons_succ, List.getElem_toArray, List.getElem_cons_zero, List.getElem_cons_succ]
        refine wpAnyH_ready (rs := [8]) (by kernel_rfl) (by simp) ?_
        refine AllReadyH.cons (i := 8) rfl (fun K hK => ?_) AllReadyH.nil
        go_simp
        obtain ⟨v4, hv⟩ : ∃ v, v = v3.alloc (.cells #[.slice none 0 0, .slice none 0 0] 30) := ⟨_, rfl⟩
        have hv4 : Below v3.heap.size v3 v4 := by rw [hv]; exact (Below.refl _ _).alloc (Nat.le_refl _) _
        have zv4 : v3.heap.size < v4.heap.size := by rw [hv]; simp
        have bx0 : Bx2 v4 v3.heap.size (.slice none 0 0) (.slice none 0 0) := by rw [hv]; exact Bx2.fresh v3 _ _ _
        rw [← hv]
        clear hv
        obtain ⟨nb, hnb⟩ : ∃ n, n = v3.heap.size := ⟨_, rfl⟩
        rw [← hnb] at bx0 ⊢
        have anb : v3.heap.size ≤ nb := Nat.le_of_eq hnb.symm
        have qnb : nb < v4.heap.size := by rw [hnb]; exact zv4
        have mnb : w.heap.size + 1 < nb := by have := br.lt; omega
        clear hnb
        replace hb := bstep hb hv4
        replace p0 := keepc hv4 p0
        replace p1 := keepc hv4 p1
        replace br := br.keep hv4
        replace ot := own_keep ot hv4
        replace oc := own_keep oc hv4
        have bx := bx0
        clear bx0
        refine hK.out _ _ ⟨p0, p1⟩ (fun hHx => ?_)
        clear hK K hHx
        try simp only [Act.put, List.setIfInBounds_toArray, List.set_cons_zero, List.set_cons_succ, List.getElem_toArray, List.getElem_cons_zero, List.getElem_cons_succ]
        obtain ⟨g2, hA2⟩ : ∃ g2, A2 = some ⟨g2, 0, none⟩ := by
          rcases oc.2 with ⟨_, hn⟩ | ⟨g2, _, _, hv, _⟩
          · omega
          · injection hv with e1
            exact ⟨g2, e1⟩
        subst hA2
        obtain ⟨g1, hA1⟩ : ∃ g1, A1 = some ⟨g1, 0, none⟩ := by
          rcases ot.2 with ⟨_, hn⟩ | ⟨g1, _, _, hv, _⟩
          · omega
          · injection hv with e1
            exact ⟨g1, e1⟩
        subst hA1
        have b1 := ot.lt g1 rfl
        have b2 := oc.lt g2 rfl
        have n12 : g1 ≠ g2 := fun h => apTC g1 rfl (by rw [h]; rfl)
        have nb1 : nb ≠ g1 := own_notbox bx rfl ot (by omega)
        have nb2 : nb ≠ g2 := own_notboxI bx rfl oc (by omega)
        have nbr : nb ≠ w.heap.size + 1 := by omega
        have nbw : nb ≠ w.heap.size := by omega
        have xz0 := bx.c0
        have xz1 := bx.c1
        have xf0 := bx.fz 0
        have xf1 := bx.fz 1
        refine wpAnyH_ready (rs := [9]) (by kernel_rfl) (by simp) ?_
        refine AllReadyH.cons (i := 9) rfl (fun K hK => ?_) AllReadyH.nil
        go_simp
        refine hK.out _ _ ⟨far2 (by omega) p0, far2 (by omega) p1⟩ (fun hHx => ?_)
        clear hK K hHx
        refine wpAnyH_done (by kernel_rfl) ?_ _
        have bX := (bx.set0 (.slice (some ⟨g1, 0, none⟩) T.length c1)).set1 (.slice (some ⟨g2, 0, none⟩) C.length c2)
        have oT := own_off2 (nb := nb) (j := 1) (u := (.slice (some ⟨g2, 0, none⟩) C.length c2)) (own_off2 (nb := nb) (j := 0) (u := (.slice (some ⟨g1, 0, none⟩) T.length c1)) ot (fun g h => by cases h; exact nb1.symm)) (fun g h => by cases h; exact nb1.symm)
        have oC := own_off2 (nb := nb) (j := 1) (u := (.slice (some ⟨g2, 0, none⟩) C.length c2)) (own_off2 (nb := nb) (j := 0) (u := (.slice (some ⟨g1, 0, none⟩) T.length c1)) oc (fun g h => by cases h; exact nb2.symm)) (fun g h => by cases h; exact nb2.symm)
        have bR := (br.far (a := nb) (j := 0) (.slice (some ⟨g1, 0, none⟩) T.length c1) (by omega)).far (a := nb) (j := 1) (.slice (some ⟨g2, 0, none⟩) C.length c2) (by omega)
        have hB := below_box (j := 1) (u := (.slice (some ⟨g2, 0, none⟩) C.length c2)) (below_box (j := 0) (u := (.slice (some ⟨g1, 0, none⟩) T.length c1)) hb (show w.heap.size ≤ nb by omega)) (show w.heap.size ≤ nb by omega)
        have hsz : ((v4.setCell ⟨nb, 0, none⟩ (.slice (some ⟨g1, 0, none⟩) T.length c1)).setCell ⟨nb, 1, none⟩ (.slice (some ⟨g2, 0, none⟩) C.length c2)).heap.size = v4.heap.size := by simp [World.setCell]
        generalize (v4.setCell ⟨nb, 0, none⟩ (.slice (some ⟨g1, 0, none⟩) T.length c1)).setCell ⟨nb, 1, none⟩ (.slice (some ⟨g2, 0, none⟩) C.length c2) = W at *
        clear xz0 xz1 xf0 xf1 p0 p1 ot oc br bx hb
        have x0 := bX.c0
        have x1 := bX.c1
        have y0 := bR.c0
        have y1 := bR.c1
        have f0 := bR.fz 0
        have f1 := bR.fz 1
        have fk := oC.frozenAt k
        have ck : ∃ u, W.cell? ⟨g2, k, none⟩ = some u := ⟨.int .i64 C[k], (oC.cellAt k (by omega)).trans (by simp [cellsI, hk])⟩
        obtain ⟨u, ck⟩ := ck
        have m1 := bX.lt
        have m2 := bR.lt
        have m3 := (oC.lt g2 rfl).2
        have OT := Lib.hid oT
        have OC := Lib.hid oC
        have HB := Lib.hid hB
        clear oT oC hB bX bR hsz
        go_wp2
        refine bodyPost_ret (v := .agg #[.slice (some ⟨g1, 0, none⟩) T.length c1, .slice (some ⟨g2, 0, none⟩) C.length c2]) (by simp [results, Try.results75, go_sem, y0, y1]) rfl ⟨some ⟨g1, 0, none⟩, c1, some ⟨g2, 0, none⟩, c2, by rw [List.length_set], ?_, ?_⟩
        · have oS := (OC.out.stored k (.int .i64 x)).1
          have e1 : (cellsI C).set k (.int .i64 x) = cellsI (C.set k x) := by simp [cellsI]
          rw [e1] at oS
          have oS1 := own_box (own_base oS (b' := w.heap.size + 2) (by omega)) (a := w.heap.size + 1) (j := 0) (u := .slice (some ⟨g1, 0, none⟩) T.length c1) (by omega)
          have oS2 := own_box oS1 (a := w.heap.size + 1) (j := 1) (u := .slice (some ⟨g2, 0, none⟩) C.length c2) (by omega)
          have oU := own_off2 (nb := g2) (j := k) (u := .int .i64 x) OT.out (fun g h => by cases h; exact n12)
          have oU1 := own_box oU (a := w.heap.size + 1) (j := 0) (u := .slice (some ⟨g1, 0, none⟩) T.length c1) (by omega)
          have oU2 := own_box oU1 (a := w.heap.size + 1) (j := 1) (u := .slice (some ⟨g2, 0, none⟩) C.length c2) (by omega)
          rw [List.length_set]
          exact { f := own_base oU2 (by omega), r := own_base oS2 (by omega), hf := fun g h => (oU2.lt g h).2, hr := fun g h => (oS2.lt g h).2, fr := fun g h1 h2 => by cases h1; cases h2; exact n12 rfl }
        · exact below_box (below_box (below_box HB.out (by omega)) (by omega)) (by omega)
      · skip
        go_simp
        obtain ⟨v5, hv⟩ : ∃ v, v = v2.alloc (.cells #[.slice none 0 0, .slice none 0 0] 30) := ⟨_, rfl⟩
        have hv5 : Below v2.heap.size v2 v5 := by rw [hv]; exact (Below.refl _ _).alloc (Nat.le_refl _) _
        have zv5 : v2.heap.size < v5.heap.size := by rw [hv]; simp
        have bx0 : Bx2 v5 v2.heap.size (.slice none 0 0) (.slice none 0 0) := by rw [hv]; exact Bx2.fresh v2 _ _ _
        rw [← hv]
        clear hv
        obtain ⟨nb, hnb⟩ : ∃ n, n = v2.heap.size := ⟨_, rfl⟩
        rw [← hnb] at bx0 ⊢
        have anb : v2.heap.size ≤ nb := Nat.le_of_eq hnb.symm
        have qnb : nb < v5.heap.size := by rw [hnb]; exact zv5
        have mnb : w.heap.size + 1 < nb := by have := br.lt; omega
        clear hnb
        replace hb := bstep hb hv5
        replace p0 := keepc hv5 p0
        replace p1 := keepc hv5 p1
        replace br := br.keep hv5
        replace ot := own_keep ot hv5
        have bx := bx0
        clear bx0
        refine hK.out _ _ ⟨p0, p1⟩ (fun hHx => ?_)
        clear hK K hHx
        try simp only [Act.put, List.setIfInBounds_toArray, List.set_cons_zero, List.set_cons_succ, List.getElem_toArray, List.getElem_cons_zero, List.getElem_cons_succ]
        refine wpAnyH_ready (rs := [6]) (by kernel_rfl) (by simp) ?_
        refine AllReadyH.cons (i := 6) rfl (fun K hK => ?_) AllReadyH.nil
        go_simp
        refine (con.out _ hb).mono ?_
        rintro e v6 ⟨A2, c2, rfl, oc, hv6⟩
        have zv6 : v5.heap.size ≤ v6.heap.size := hv6.size
        have apTC : ApG (.slice A1 T.length c1) (.slice A2 C.length c2) := ApG.of_lt (m := v5.heap.size) (fun g hg => (ot.lt g hg).2) (fun g hg => (oc.lt g hg).1)
        have nx2 : ∀ g, (Value.slice A2 C.length c2).ownBlock = some g → nb < g := fun g hg => by have := (oc.lt g hg).1; have := bx.lt; omega
        replace oc := own_base (b' := w.heap.size + 2) oc (by have := br.lt; omega)
        replace hb := bstep hb hv6
        replace p0 := keepc hv6 p0
        replace p1 := keepc hv6 p1
        replace br := br.keep hv6
        replace ot := own_keep ot hv6
        replace bx := bx.keep hv6
        refine hK.out _ _ ⟨p0, p1⟩ (fun hHx => ?_)
        clear hK K hHx
        try simp only [Act.put, List.setIfInBounds_toArray, List.set_cons_zero, List.set_cons_succ, List.getElem_toArray, List.getElem_cons_zero, List.getElem_cons_succ]
        refine reg_take 7 rfl (by kernel_rfl) (by kernel_rfl) (by kernel_rfl) (fun _ _ _ h => h) (by rfl) (fun w _ => by first | (go_simp; done) | (go_simp; with_reducible rfl)) ⟨p0, p1⟩ ?_
        try simp only [Act.put, List.setIfInBounds_toArray, List.set_cons_zero, List.set_cons_succ, List.getElem_toArray, List.getElem_cons_zero, List.getElem_cons_succ]
        obtain ⟨g2, hA2⟩ : ∃ g2, A2 = some ⟨g2, 0, none⟩ := by
          rcases oc.2 with ⟨_, hn⟩ | ⟨g2, _, _, hv, _⟩
          · omega
          · injection hv with e1
            exact ⟨g2, e1⟩
        subst hA2
        obtain ⟨g1, hA1⟩ : ∃ g1, A1 = some ⟨g1, 0, none⟩ := by
          rcases ot.2 with ⟨_, hn⟩ | ⟨g1, _, _, hv, _⟩
          · omega
          · injection hv with e1
            exact ⟨g1, e1⟩
        subst hA1
        have b1 := ot.lt g1 rfl
        have b2 := oc.lt g2 rfl
        have n12 : g1 ≠ g2 := fun h => apTC g1 rfl (by rw [h]; rfl)
        have nb1 : nb ≠ g1 := own_notbox bx rfl ot (by omega)
        have nb2 : nb ≠ g2 := own_notboxI bx rfl oc (by omega)
        have nbr : nb ≠ w.heap.size + 1 := by omega
        have nbw : nb ≠ w.heap.size := by omega
        have xz0 := bx.c0
        have xz1 := bx.c1
        have xf0 := bx.fz 0
        have xf1 := bx.fz 1
        refine wpAnyH_ready (rs := [9]) (by kernel_rfl) (by simp) ?_
        refine AllReadyH.cons (i := 9) rfl (fun K hK => ?_) AllReadyH.nil
        go_simp
        refine hK.out _ _ ⟨far2 (by omega) p0, far2 (by omega) p1⟩ (fun hHx => ?_)
        clear hK K hHx
        refine wpAnyH_done (by kernel_rfl) ?_ _
        have bX := (bx.set0 (.slice (some ⟨g1, 0, none⟩) T.length c1)).set1 (.slice (some ⟨g2, 0, none⟩) C.length c2)
        have oT := own_off2 (nb := nb) (j := 1) (u := (.slice (some ⟨g2, 0, none⟩) C.length c2)) (own_off2 (nb := nb) (j := 0) (u := (.slice (some ⟨g1, 0, none⟩) T.length c1)) ot (fun g h => by cases h; exact nb1.symm)) (fun g h => by cases h; exact nb1.symm)
        have oC := own_off2 (nb := nb) (j := 1) (u := (.slice (some ⟨g2, 0, none⟩) C.length c2)) (own_off2 (nb := nb) (j := 0) (u := (.slice (some ⟨g1, 0, none⟩) T.length c1)) oc (fun g h => by cases h; exact nb2.symm)) (fun g h => by cases h; exact nb2.symm)
        have bR := (br.far (a := nb) (j := 0) (.slice (some ⟨g1, 0, none⟩) T.length c1) (by omega)).far (a := nb) (j := 1) (.slice (some ⟨g2, 0, none⟩) C.length c2) (by omega)
        have hB := below_box (j := 1) (u := (.slice (some ⟨g2, 0, none⟩) C.length c2)) (below_box (j := 0) (u := (.slice (some ⟨g1, 0, none⟩) T.length c1)) hb (show w.heap.size ≤ nb by omega)) (show w.heap.size ≤ nb by omega)
        have hsz : ((v6.setCell ⟨nb, 0, none⟩ (.slice (some ⟨g1, 0, none⟩) T.length c1)).setCell ⟨nb, 1, none⟩ (.slice (some ⟨g2, 0, none⟩) C.length c2)).heap.size = v6.heap.size := by simp [World.setCell]
        generalize (v6.setCell ⟨nb, 0, none⟩ (.slice (some ⟨g1, 0, none⟩) T.length c1)).setCell ⟨nb, 1, none⟩ (.slice (some ⟨g2, 0, none⟩) C.length c2) = W at *
        clear xz0 xz1 xf0 xf1 p0 p1 ot oc br bx hb
        have x0 := bX.c0
        have x1 := bX.c1
        have y0 := bR.c0
        have y1 := bR.c1
        have f0 := bR.fz 0
        have f1 := bR.fz 1
        have fk := oC.frozenAt k
        have ck : ∃ u, W.cell? ⟨g2, k, none⟩ = some u := ⟨.int .i64 C[k], (oC.cellAt k (by omega)).trans (by simp [cellsI, hk])⟩
        obtain ⟨u, ck⟩ := ck
        have m1 := bX.lt
        have m2 := bR.lt
        have m3 := (oC.lt g2 rfl).2
        have OT := Lib.hid oT
        have OC := Lib.hid oC
        have HB := Lib.hid hB
        clear oT oC hB bX bR hsz
        go_wp2
        refine bodyPost_ret (v := .agg #[.slice (some ⟨g1, 0, none⟩) T.length c1, .slice (some ⟨g2, 0, none⟩) C.length c2]) (by simp [results, Try.results75, go_sem, y0, y1]) rfl ⟨some ⟨g1, 0, none⟩, c1, some ⟨g2, 0, none⟩, c2, by rw [List.length_set], ?_, ?_⟩
        · have oS := (OC.out.stored k (.int .i64 x)).1
          have e1 : (cellsI C).set k (.int .i64 x) = cellsI (C.set k x) := by simp [cellsI]
          rw [e1] at oS
          have oS1 := own_box (own_base oS (b' := w.heap.size + 2) (by omega)) (a := w.heap.size + 1) (j := 0) (u := .slice (some ⟨g1, 0, none⟩) T.length c1) (by omega)
          have oS2 := own_box oS1 (a := w.heap.size + 1) (j := 1) (u := .slice (some ⟨g2, 0, none⟩) C.length c2) (by omega)
          have oU := own_off2 (nb := g2) (j := k) (u := .int .i64 x) OT.out (fun g h => by cases h; exact n12)
          have oU1 := own_box oU (a := w.heap.size + 1) (j := 0) (u := .slice (some ⟨g1, 0, none⟩) T.length c1) (by omega)
          have oU2 := own_box oU1 (a := w.heap.size + 1) (j := 1) (u := .slice (some ⟨g2, 0, none⟩) C.length c2) (by omega)
          rw [List.length_set]
          exact { f := own_base oU2 (by omega), r := own_base oS2 (by omega), hf := fun g h => (oU2.lt g h).2, hr := fun g h => (oS2.lt g h).2, fr := fun g h1 h2 => by cases h1; cases h2; exact n12 rfl }
        · exact below_box (below_box (below_box HB.out (by omega)) (by omega)) (by omega)
    · skip
      go_simp
      obtain ⟨v7, hv⟩ : ∃ v, v = v1.alloc (.cells #[.slice none 0 0, .slice none 0 0] 30) := ⟨_, rfl⟩
      have hv7 : Below v1.heap.size v1 v7 := by rw [hv]; exact (Below.refl _ _).alloc (Nat.le_refl _) _
      have zv7 : v1.heap.size < v7.heap.size := by rw [hv]; simp
      have bx0 : Bx2 v7 v1.heap.size (.slice none 0 0) (.slice none 0 0) := by rw [hv]; exact Bx2.fresh v1 _ _ _
      rw [← hv]
      clear hv
      obtain ⟨nb, hnb⟩ : ∃ n, n = v1.heap.size := ⟨_, rfl⟩
      rw [← hnb] at bx0 ⊢
      have anb : v1.heap.size ≤ nb := Nat.le_of_eq hnb.symm
      have qnb : nb < v7.heap.size := by rw [hnb]; exact zv7
      have mnb : w.heap.size + 1 < nb := by have := br.lt; omega
      have ngx : nb ≠ g0 := by omega
      clear hnb
      replace hb := bstep hb hv7
      replace p0 := keepc hv7 p0
      replace p1 := keepc hv7 p1
      replace br := br.keep hv7
      replace oe := own_keep oe hv7
      have bx := bx0
      clear bx0
      refine hK.out _ _ ⟨p0, p1⟩ (fun hHx => ?_)
      clear hK K hHx
      try simp only [Act.put, List.setIfInBounds_toArray, List.set_cons_zero, List.set_cons_succ, List.getElem_toArray, List.getElem_cons_zero, List.getElem_cons_succ]
      refine wpAnyH_ready (rs := [3]) (by kernel_rfl) (by simp) ?_
      refine AllReadyH.cons (i := 3) rfl (fun K hK => ?_) AllReadyH.nil
      refine step_append_tilesP rfl (.tmp 8) (.tmp 10) rfl (w.heap.size + 2) g0 rfl oe AT cT T hposT rfl (hT.below hb) (by omega) (by have := br.lt; omega) ?_
      intro A1 c1 v8 ot hg
      have zv8 : v7.heap.size ≤ v8.heap.size := hg.size
      replace p0 := cell_grown hg p0 (by omega)
      replace p1 := cell_grown hg p1 (by omega)
      replace br := br.grown hg (by omega)
      replace hb := hb.trans (below_of_grown hg (by omega) (fun g h => by cases h; omega))
      replace bx := bx.grown hg ngx
      have lt1 := ot.lt
      clear hg oe
      refine hK.out _ _ ⟨p0, p1⟩ (fun hHx => ?_)
      clear hK K hHx
      try simp only [Act.put, List.setIfInBounds_toArray, List.set_cons_zero, List.set_cons_succ, List.getElem_toArray, List.getElem_cons_zero, List.getElem_cons_succ]
      refine wpAnyH_ready (rs := [6]) (by kernel_rfl) (by simp) ?_
      refine AllReadyH.cons (i := 6) rfl (fun K hK => ?_) AllReadyH.nil
      go_simp
      refine (con.out _ hb).mono ?_
      rintro e v9 ⟨A2, c2, rfl, oc, hv9⟩
      have zv9 : v8.heap.size ≤ v9.heap.size := hv9.size
      have apTC : ApG (.slice A1 T.length c1) (.slice A2 C.length c2) := ApG.of_lt (m := v8.heap.size) (fun g hg => (ot.lt g hg).2) (fun g hg => (oc.lt g hg).1)
      have nx2 : ∀ g, (Value.slice A2 C.length c2).ownBlock = some g → nb < g := fun g hg => by have := (oc.lt g hg).1; have := bx.lt; omega
      replace oc := own_base (b' := w.heap.size + 2) oc (by have := br.lt; omega)
      replace hb := bstep hb hv9
      replace p0 := keepc hv9 p0
      replace p1 := keepc hv9 p1
      replace br := br.keep hv9
      replace ot := own_keep ot hv9
      replace bx := bx.keep hv9
      refine hK.out _ _ ⟨p0, p1⟩ (fun hHx => ?_)
      clear hK K hHx
      try simp only [Act.put, List.setIfInBounds_toArray, List.set_cons_zero, List.set_cons_succ, List.getElem_toArray, List.getElem_cons_zero, List.getElem_cons_succ]
      refine reg_take 7 rfl (by kernel_rfl) (by kernel_rfl) (by kernel_rfl) (fun _ _ _ h => h) (by rfl) (fun w _ => by first | (go_simp; done) | (go_simp; with_reducible rfl)) ⟨p0, p1⟩ ?_
      try simp only [Act.put, List.setIfInBounds_toArray, List.set_cons_zero, List.set_cons_succ, List.getElem_toArray, List.getElem_cons_zero, List.getElem_cons_succ]
      obtain ⟨g2, hA2⟩ : ∃ g2, A2 = some ⟨g2, 0, none⟩ := by
        rcases oc.2 with ⟨_, hn⟩ | ⟨g2, _, _, hv, _⟩
        · omega
        · injection hv with e1
          exact ⟨g2, e1⟩
      subst hA2
      obtain ⟨g1, hA1⟩ : ∃ g1, A1 = some ⟨g1, 0, none⟩ := by
        rcases ot.2 with ⟨_, hn⟩ | ⟨g1, _, _, hv, _⟩
        · omega
        · injection hv with e1
          exact ⟨g1, e1⟩
      subst hA1
      have b1 := ot.lt g1 rfl
      have b2 := oc.lt g2 rfl
      have n12 : g1 ≠ g2 := fun h => apTC g1 rfl (by rw [h]; rfl)
      have nb1 : nb ≠ g1 := own_notbox bx rfl ot (by omega)
      have nb2 : nb ≠ g2 := own_notboxI bx rfl oc (by omega)
      have nbr : nb ≠ w.heap.size + 1 := by omega
      have nbw : nb ≠ w.heap.size := by omega
      have xz0 := bx.c0
      have xz1 := bx.c1
      have xf0 := bx.fz 0
      have xf1 := bx.fz 1
      refine wpAnyH_ready (rs := [9]) (by kernel_rfl) (by simp) ?_
      refine AllReadyH.cons (i := 9) rfl (fun K hK => ?_) AllReadyH.nil
      go_simp
      refine hK.out _ _ ⟨far2 (by omega) p0, far2 (by omega) p1⟩ (fun hHx => ?_)
      clear hK K hHx
      refine wpAnyH_done (by kernel_rfl) ?_ _
      have bX := (bx.set0 (.slice (some ⟨g1, 0, none⟩) T.length c1)).set1 (.slice (some ⟨g2, 0, none⟩) C.length c2)
      have oT := own_off2 (nb := nb) (j := 1) (u := (.slice (some ⟨g2, 0, none⟩) C.length c2)) (own_off2 (nb := nb) (j := 0) (u := (.slice (some ⟨g1, 0, none⟩) T.length c1)) ot (fun g h => by cases h; exact nb1.symm)) (fun g h => by cases h; exact nb1.symm)
      have oC := own_off2 (nb := nb) (j := 1) (u := (.slice (some ⟨g2, 0, none⟩) C.length c2)) (own_off2 (nb := nb) (j := 0) (u := (.slice (some ⟨g1, 0, none⟩) T.length c1)) oc (fun g h => by cases h; exact nb2.symm)) (fun g h => by cases h; exact nb2.symm)
      have bR := (br.far (a := nb) (j := 0) (.slice (some ⟨g1, 0, none⟩) T.length c1) (by omega)).far (a := nb) (j := 1) (.slice (some ⟨g2, 0, none⟩) C.length c2) (by omega)
      have hB := below_box (j := 1) (u := (.slice (some ⟨g2, 0, none⟩) C.length c2)) (below_box (j := 0) (u := (.slice (some ⟨g1, 0, none⟩) T.length c1)) hb (show w.heap.size ≤ nb by omega)) (show w.heap.size ≤ nb by omega)
      have hsz : ((v9.setCell ⟨nb, 0, none⟩ (.slice (some ⟨g1, 0, none⟩) T.length c1)).setCell ⟨nb, 1, none⟩ (.slice (some ⟨g2, 0, none⟩) C.length c2)).heap.size = v9.heap.size := by simp [World.setCell]
      generalize (v9.setCell ⟨nb, 0, none⟩ (.slice (some ⟨g1, 0, none⟩) T.length c1)).setCell ⟨nb, 1, none⟩ (.slice (some ⟨g2, 0, none⟩) C.length c2) = W at *
      clear xz0 xz1 xf0 xf1 p0 p1 ot oc br bx hb
      have x0 := bX.c0
      have x1 := bX.c1
      have y0 := bR.c0
      have y1 := bR.c1
      have f0 := bR.fz 0
      have f1 := bR.fz 1
      have fk := oC.frozenAt k
      have ck : ∃ u, W.cell? ⟨g2, k, none⟩ = some u := ⟨.int .i64 C[k], (oC.cellAt k (by omega)).trans (by simp [cellsI, hk])⟩
      obtain ⟨u, ck⟩ := ck
      have m1 := bX.lt
      have m2 := bR.lt
      have m3 := (oC.lt g2 rfl).2
      have OT := Lib.hid oT
      have OC := Lib.hid oC
      have HB := Lib.hid hB
      clear oT oC hB bX bR hsz
      go_wp2
      refine bodyPost_ret (v := .agg #[.slice (some ⟨g1, 0, none⟩) T.length c1, .slice (some ⟨g2, 0, none⟩) C.length c2]) (by simp [results, Try.results75, go_sem, y0, y1]) rfl ⟨some ⟨g1, 0, none⟩, c1, some ⟨g2, 0, none⟩, c2, by rw [List.length_set], ?_, ?_⟩
      · have oS := (OC.out.stored k (.int .i64 x)).1
        have e1 : (cellsI C).set k (.int .i64 x) = cellsI (C.set k x) := by simp [cellsI]
        rw [e1] at oS
        have oS1 := own_box (own_base oS (b' := w.heap.size + 2) (by omega)) (a := w.heap.size + 1) (j := 0) (u := .slice (some ⟨g1, 0, none⟩) T.length c1) (by omega)
        have oS2 := own_box oS1 (a := w.heap.size + 1) (j := 1) (u := .slice (some ⟨g2, 0, none⟩) C.length c2) (by omega)
        have oU := own_off2 (nb := g2) (j := k) (u := .int .i64 x) OT.out (fun g h => by cases h; exact n12)
        have oU1 := own_box oU (a := w.heap.size + 1) (j := 0) (u := .slice (some ⟨g1, 0, none⟩) T.length c1) (by omega)
        have oU2 := own_box oU1 (a := w.heap.size + 1) (j := 1) (u := .slice (some ⟨g2, 0, none⟩) C.length c2) (by omega)
        rw [List.length_set]
        exact { f := own_base oU2 (by omega), r := own_base oS2 (by omega), hf := fun g h => (oU2.lt g h).2, hr := fun g h => (oS2.lt g h).2, fr := fun g h1 h2 => by cases h1; cases h2; exact n12 rfl }
      · exact below_box (below_box (below_box HB.out (by omega)) (by omega)) (by omega)
  · skip
    go_simp
    obtain ⟨v10, hv⟩ : ∃ v, v = v0.alloc (.cells #[.slice none 0 0, .slice none 0 0] 30) := ⟨_, rfl⟩
    have hv10 : Below v0.heap.size v0 v10 := by rw [hv]; exact (Below.refl _ _).alloc (Nat.le_refl _) _
    have zv10 : v0.heap.size < v10.heap.size := by rw [hv]; simp
    have bx0 : Bx2 v10 v0.heap.size (.slice none 0 0) (.slice none 0 0) := by rw [hv]; exact Bx2.fresh v0 _ _ _
    rw [← hv]
    clear hv
    obtain ⟨nb, hnb⟩ : ∃ n, n = v0.heap.size := ⟨_, rfl⟩
    rw [← hnb] at bx0 ⊢
    have anb : v0.heap.size ≤ nb := Nat.le_of_eq hnb.symm
    have qnb : nb < v10.heap.size := by rw [hnb]; exact zv10
    have mnb : w.heap.size + 1 < nb := by have := br.lt; omega
    clear hnb
    replace hb := bstep hb hv10
    replace p0 := keepc hv10 p0
    replace p1 := keepc hv10 p1
    replace br := br.keep hv10
    have bx := bx0
    clear bx0
    refine hK.out _ _ ⟨p0, p1⟩ (fun hHx => ?_)
    clear hK K hHx
    try simp only [Act.put, List.setIfInBounds_toArray, List.set_cons_zero, List.set_cons_succ, List.getElem_toArray, List.getElem_cons_zero, List.getElem_cons_succ]
    refine wpAnyH_ready (rs := [0]) (by kernel_rfl) (by simp) ?_
    refine AllReadyH.cons (i := 0) rfl (fun K hK => ?_) AllReadyH.nil
    go_simp
    obtain ⟨v11, hv⟩ : ∃ v, v = v10.alloc (.cells #[] 82) := ⟨_, rfl⟩
    have hv11 : Below v10.heap.size v10 v11 := by rw [hv]; exact (Below.refl _ _).alloc (Nat.le_refl _) _
    have zv11 : v10.heap.size < v11.heap.size := by rw [hv]; simp
    have oe0 : v11.ownsRow v10.heap.size 82 2 (.slice (some ⟨v10.heap.size, 0, none⟩) 0 0) 0 (cellsT []) := by rw [hv]; exact World.ownsRow_lit v10 #[] 0 (Nat.le_refl _) (by unfold maxLen; omega) rfl
    rw [← hv]
    clear hv
    obtain ⟨g0, hg0⟩ : ∃ n, n = v10.heap.size := ⟨_, rfl⟩
    rw [← hg0] at oe0 ⊢
    have ag0 : v10.heap.size ≤ g0 := Nat.le_of_eq hg0.symm
    have qg0 : g0 < v11.heap.size := by rw [hg0]; exact zv11
    have mg0 : w.heap.size + 1 < g0 := by have := br.lt; omega
    have ngx : nb ≠ g0 := by omega
    clear hg0
    replace hb := bstep hb hv11
    replace p0 := keepc hv11 p0
    replace p1 := keepc hv11 p1
    replace br := br.keep hv11
    replace bx := bx.keep hv11
    have oe : v11.ownsRow (w.heap.size + 2) 82 2 (.slice (some ⟨g0, 0, none⟩) 0 0) 0 (cellsT []) := own_base oe0 (by omega)
    clear oe0
    refine hK.out _ _ ⟨p0, p1⟩ (fun hHx => ?_)
    clear hK K hHx
    try simp only [Act.put, List.setIfInBounds_toArray, List.set_cons_zero, List.set_cons_succ, List.getElem_toArray, List.getElem_cons_zero, List.getElem_cons_succ]
    refine wpAnyH_ready (rs := [3]) (by kernel_rfl) (by simp) ?_
    refine AllReadyH.cons (i := 3) rfl (fun K hK => ?_) AllReadyH.nil
    refine step_append_tilesP rfl (.tmp 8) (.tmp 10) rfl (w.heap.size + 2) g0 rfl oe AT cT T hposT rfl (hT.below hb) (by omega) (by have := br.lt; omega) ?_
    intro A1 c1 v12 ot hg
    have zv12 : v11.heap.size ≤ v12.heap.size := hg.size
    replace p0 := cell_grown hg p0 (by omega)
    replace p1 := cell_grown hg p1 (by omega)
    replace br := br.grown hg (by omega)
    replace hb := hb.trans (below_of_grown hg (by omega) (fun g h => by cases h; omega))
    replace bx := bx.grown hg ngx
    have lt1 := ot.lt
    clear hg oe
    refine hK.out _ _ ⟨p0, p1⟩ (fun hHx => ?_)
    clear hK K hHx
    try simp only [Act.put, List.setIfInBounds_toArray, List.set_cons_zero, List.set_cons_succ, List.getElem_toArray, List.getElem_cons_zero, List.getElem_cons_succ]
    refine wpAnyH_ready (rs := [6]) (by kernel_rfl) (by simp) ?_
    refine AllReadyH.cons (i := 6) rfl (fun K hK => ?_) AllReadyH.nil
    go_simp
    refine (con.out _ hb).mono ?_
    rintro e v13 ⟨A2, c2, rfl, oc, hv13⟩
    have zv13 : v12.heap.size ≤ v13.heap.size := hv13.size
    have apTC : ApG (.slice A1 T.length c1) (.slice A2 C.length c2) := ApG.of_lt (m := v12.heap.size) (fun g hg => (ot.lt g hg).2) (fun g hg => (oc.lt g hg).1)
    have nx2 : ∀ g, (Value.slice A2 C.length c2).ownBlock = some g → nb < g := fun g hg => by have := (oc.lt g hg).1; have := bx.lt; omega
    replace oc := own_base (b' := w.heap.size + 2) oc (by have := br.lt; omega)
    replace hb := bstep hb hv13
    replace p0 := keepc hv13 p0
    replace p1 := keepc hv13 p1
    replace br := br.keep hv13
    replace ot := own_keep ot hv13
    replace bx := bx.keep hv13
    refine hK.out _ _ ⟨p0, p1⟩ (fun hHx => ?_)
    clear hK K hHx
    try simp only [Act.put, List.setIfInBounds_toArray, List.set_cons_zero, List.set_cons_succ, List.getElem_toArray, List.getElem_cons_zero, List.getElem_cons_succ]
    refine reg_take 7 rfl (by kernel_rfl) (by kernel_rfl) (by kernel_rfl) (fun _ _ _ h => h) (by rfl) (fun w _ => by first | (go_simp; done) | (go_simp; with_reducible rfl)) ⟨p0, p1⟩ ?_
    try simp only [Act.put, List.setIfInBounds_toArray, List.set_cons_zero, List.set_cons_succ, List.getElem_toArray, List.getElem_cons_zero, List.getElem_cons_succ]
    obtain ⟨g2, hA2⟩ : ∃ g2, A2 = some ⟨g2, 0, none⟩ := by
      rcases oc.2 with ⟨_, hn⟩ | ⟨g2, _, _, hv, _⟩
      · omega
      · injection hv with e1
        exact ⟨g2, e1⟩
    subst hA2
    obtain ⟨g1, hA1⟩ : ∃ g1, A1 = some ⟨g1, 0, none⟩ := by
      rcases ot.2 with ⟨_, hn⟩ | ⟨g1, _, _, hv, _⟩
      · omega
      · injection hv with e1
        exact ⟨g1, e1⟩
    subst hA1
    have b1 := ot.lt g1 rfl
    have b2 := oc.lt g2 rfl
    have n12 : g1 ≠ g2 := fun h => apTC g1 rfl (by rw [h]; rfl)
    have nb1 : nb ≠ g1 := own_notbox bx rfl ot (by omega)
    have nb2 : nb ≠ g2 := own_notboxI bx rfl oc (by omega)
    have nbr : nb ≠ w.heap.size + 1 := by omega
    have nbw : nb ≠ w.heap.size := by omega
    have xz0 := bx.c0
    have xz1 := bx.c1
    have xf0 := bx.fz 0
    have xf1 := bx.fz 1
    refine wpAnyH_ready (rs := [9]) (by kernel_rfl) (by simp) ?_
    refine AllReadyH.cons (i := 9) rfl (fun K hK => ?_) AllReadyH.nil
    go_simp
    refine hK.out _ _ ⟨far2 (by omega) p0, far2 (by omega) p1⟩ (fun hHx => ?_)
    clear hK K hHx
    refine wpAnyH_done (by kernel_rfl) ?_ _
    have bX := (bx.set0 (.slice (some ⟨g1, 0, none⟩) T.length c1)).set1 (.slice (some ⟨g2, 0, none⟩) C.length c2)
    have oT := own_off2 (nb := nb) (j := 1) (u := (.slice (some ⟨g2, 0, none⟩) C.length c2)) (own_off2 (nb := nb) (j := 0) (u := (.slice (some ⟨g1, 0, none⟩) T.length c1)) ot (fun g h => by cases h; exact nb1.symm)) (fun g h => by cases h; exact nb1.symm)
    have oC := own_off2 (nb := nb) (j := 1) (u := (.slice (some ⟨g2, 0, none⟩) C.length c2)) (own_off2 (nb := nb) (j := 0) (u := (.slice (some ⟨g1, 0, none⟩) T.length c1)) oc (fun g h => by cases h; exact nb2.symm)) (fun g h => by cases h; exact nb2.symm)
    have bR := (br.far (a := nb) (j := 0) (.slice (some ⟨g1, 0, none⟩) T.length c1) (by omega)).far (a := nb) (j := 1) (.slice (some ⟨g2, 0, none⟩) C.length c2) (by omega)
    have hB := below_box (j := 1) (u := (.slice (some ⟨g2, 0, none⟩) C.length c2)) (below_box (j := 0) (u := (.slice (some ⟨g1, 0, none⟩) T.length c1)) hb (show w.heap.size ≤ nb by omega)) (show w.heap.size ≤ nb by omega)
    have hsz : ((v13.setCell ⟨nb, 0, none⟩ (.slice (some ⟨g1, 0, none⟩) T.length c1)).setCell ⟨nb, 1, none⟩ (.slice (some ⟨g2, 0, none⟩) C.length c2)).heap.size = v13.heap.size := by simp [World.setCell]
    generalize (v13.setCell ⟨nb, 0, none⟩ (.slice (some ⟨g1, 0, none⟩) T.length c1)).setCell ⟨nb, 1, none⟩ (.slice (some ⟨g2, 0, none⟩) C.length c2) = W at *
    clear xz0 xz1 xf0 xf1 p0 p1 ot oc br bx hb
    have x0 := bX.c0
    have x1 := bX.c1
    have y0 := bR.c0
    have y1 := bR.c1
    have f0 := bR.fz 0
    have f1 := bR.fz 1
    have fk := oC.frozenAt k
    have ck : ∃ u, W.cell? ⟨g2, k, none⟩ = some u := ⟨.int .i64 C[k], (oC.cellAt k (by omega)).trans (by simp [cellsI, hk])⟩
    obtain ⟨u, ck⟩ := ck
    have m1 := bX.lt
    have m2 := bR.lt
    have m3 := (oC.lt g2 rfl).2
    have OT := Lib.hid oT
    have OC := Lib.hid oC
    have HB := Lib.hid hB
    clear oT oC hB bX bR hsz
    go_wp2
    refine bodyPost_ret (v := .agg #[.slice (some ⟨g1, 0, none⟩) T.length c1, .slice (some ⟨g2, 0, none⟩) C.length c2]) (by simp [results, Try.results75, go_sem, y0, y1]) rfl ⟨some ⟨g1, 0, none⟩, c1, some ⟨g2, 0, none⟩, c2, by rw [List.length_set], ?_, ?_⟩
    · have oS := (OC.out.stored k (.int .i64 x)).1
      have e1 : (cellsI C).set k (.int .i64 x) = cellsI (C.set k x) := by simp [cellsI]
      rw [e1] at oS
      have oS1 := own_box (own_base oS (b' := w.heap.size + 2) (by omega)) (a := w.heap.size + 1) (j := 0) (u := .slice (some ⟨g1, 0, none⟩) T.length c1) (by omega)
      have oS2 := own_box oS1 (a := w.heap.size + 1) (j := 1) (u := .slice (some ⟨g2, 0, none⟩) C.length c2) (by omega)
      have oU := own_off2 (nb := g2) (j := k) (u := .int .i64 x) OT.out (fun g h => by cases h; exact n12)
      have oU1 := own_box oU (a := w.heap.size + 1) (j := 0) (u := .slice (some ⟨g1, 0, none⟩) T.length c1) (by omega)
      have oU2 := own_box oU1 (a := w.heap.size + 1) (j := 1) (u := .slice (some ⟨g2, 0, none⟩) C.length c2) (by omega)
      rw [List.length_set]
      exact { f := own_base oU2 (by omega), r := own_base oS2 (by omega), hf := fun g h => (oU2.lt g h).2, hr := fun g h => (oS2.lt g h).2, fr := fun g h1 h2 => by cases h1; cases h2; exact n12 rfl }
    · exact below_box (below_box (below_box HB.out (by omega)) (by omega)) (by omega)

end Go.Proofs.Ytjdnkcdnppcbhaa

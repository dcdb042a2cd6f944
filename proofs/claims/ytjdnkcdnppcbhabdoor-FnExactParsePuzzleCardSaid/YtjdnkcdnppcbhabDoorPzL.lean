/- The laws' own small functions over puzzles. -/
import Derived.Test.YtjdnkcdnppcbhabDoorPzB
namespace Go.Proofs.YtjdnkcdnppcbhabDoor
open Go.RowKit
set_option linter.unusedVariables false

set_option maxHeartbeats 400000 in
theorem c_szIntSp (A : Option Addr) (c n : Nat) (q : Int) (w : World) (hn : n ≤ 9223372036854775807) (h0 : 0 ≤ q) (h1 : q ≤ 9223372036854775807) :
    Calls Tryd.prog 15 #[.slice A n c, .int .i64 q] w fun e w' => e = .returned (.int .i64 (if q - n < 0 then -1 else q - n)) ∧ w = w' := by
  by_cases h : q - n < 0
  all_goals
    go_enter Tryd.func15, Tryd.ntmps15
    go_wp2
    go_ret
    exact ⟨ret_i (by first | omega | (split <;> omega)), rfl⟩

set_option maxRecDepth 100000 in
set_option maxHeartbeats 1000000 in
theorem c_szPuzzle_yes (AT : Option Addr) (cT : Nat) (T : List (Int × Int)) (AC : Option Addr) (cC : Nat) (C : List Int) (w : World) (h : T.length + C.length ≤ 1048576) :
    Calls Tryd.prog 5 #[.agg #[.slice AT T.length cT, .slice AC C.length cC], .int .i64 1048576] w fun e w' => e = .returned (.int .i64 (1048576 - (T.length : Int) - (C.length : Int))) ∧ Below w.heap.size w w' := by
  have c1 := fun W => c_szTileS AT cT T.length 1048576 W (by omega) (by omega) (by omega)
  have c3 := fun W => c_szIntSp AC cC C.length (1048576 - (T.length : Int)) W (by omega) (by omega) (by omega)
  have e1 : ¬ 1048576 - (T.length : Int) < 0 := by omega
  have e3 : ¬ 1048576 - (T.length : Int) - (C.length : Int) < 0 := by omega
  simp only [if_neg e1] at c1
  simp only [if_neg e3] at c3
  have C1 := Lib.hid c1
  have C3 := Lib.hid c3
  clear c1 c3
  go_enter Tryd.func5, Tryd.ntmps5
  go_wp2_with (first | (go_at_call 14; refine (C1.out _).mono ?_; rintro e w1 ⟨rfl, rfl⟩) | (go_at_call 15; refine (C3.out _).mono ?_; rintro e w1 ⟨rfl, rfl⟩))
  go_ret
  exact ⟨rfl, by go_grown⟩

set_option maxRecDepth 100000 in
set_option maxHeartbeats 1000000 in
theorem c_szPuzzle_no (AT : Option Addr) (cT : Nat) (T : List (Int × Int)) (AC : Option Addr) (cC : Nat) (C : List Int) (w : World) (lT : T.length ≤ 9223372036854775807) (lC : C.length ≤ 9223372036854775807) (h : 1048576 < T.length + C.length) :
    Calls Tryd.prog 5 #[.agg #[.slice AT T.length cT, .slice AC C.length cC], .int .i64 1048576] w fun e w' => e = .returned (.int .i64 (-1)) ∧ Below w.heap.size w w' := by
  have c1 := fun W => c_szTileS AT cT T.length 1048576 W (by omega) (by omega) (by omega)
  by_cases e1 : 1048576 - (T.length : Int) < 0
  · simp only [if_pos e1] at c1
    have C1 := Lib.hid c1
    clear c1
    go_enter Tryd.func5, Tryd.ntmps5
    go_wp2_with (go_at_call 14; refine (C1.out _).mono ?_; rintro e w1 ⟨rfl, rfl⟩)
    go_ret
    exact ⟨rfl, by go_grown⟩
  · simp only [if_neg e1] at c1
    have e3 : 1048576 - (T.length : Int) - (C.length : Int) < 0 := by omega
    have c3 := fun W => c_szIntSp AC cC C.length (1048576 - (T.length : Int)) W (by omega) (by omega) (by omega)
    simp only [if_pos e3] at c3
    have C1 := Lib.hid c1
    have C3 := Lib.hid c3
    clear c1 c3
    go_enter Tryd.func5, Tryd.ntmps5
    go_wp2_with (first | (go_at_call 14; refine (C1.out _).mono ?_; rintro e w1 ⟨rfl, rfl⟩) | (go_at_call 15; refine (C3.out _).mono ?_; rintro e w1 ⟨rfl, rfl⟩))
    go_ret
    exact ⟨rfl, by go_grown⟩

set_option maxRecDepth 100000 in
set_option maxHeartbeats 1000000 in
theorem c_toPuzzle (AT : Option Addr) (cT : Nat) (T : List (Int × Int)) (AC : Option Addr) (cC : Nat) (C : List Int) (w : World) (hT : RdT w AT T) (hC : RdI w AC C) (h : T.length + C.length ≤ 1048576) :
    Calls Tryd.prog 7 #[.agg #[.slice AT T.length cT, .slice AC C.length cC]] w (RetP w T C) := by
  go_enter Tryd.func7, Tryd.ntmps7
  go_wp2_with fail
  obtain ⟨w0, hw0⟩ : ∃ w0, w0 = ((w.alloc (.cells #[.slice AT T.length cT, .slice AC C.length cC] 25)).alloc (.cells #[.slice none 0 0, .slice none 0 0] 31)).alloc (.cells #[.slice none 0 0, .slice none 0 0] 31) := ⟨_, rfl⟩
  rw [← hw0]
  have hs0 : w0.heap.size = w.heap.size + 3 := by rw [hw0]; simp
  have ba : Bx2 w0 w.heap.size (.slice AT T.length cT) (.slice AC C.length cC) := by rw [hw0]; exact ((Bx2.fresh w _ _ _).more _).more _
  have br : Bx2 w0 (w.heap.size + 1) (.slice none 0 0) (.slice none 0 0) := by
    have h1 := Bx2.fresh (w.alloc (.cells #[.slice AT T.length cT, .slice AC C.length cC] 25)) (.slice none 0 0) (.slice none 0 0) 31
    rw [World.size_alloc] at h1
    rw [hw0]; exact h1.more _
  have bo : Bx2 w0 (w.heap.size + 2) (.slice none 0 0) (.slice none 0 0) := by
    have h1 := Bx2.fresh ((w.alloc (.cells #[.slice AT T.length cT, .slice AC C.length cC] 25)).alloc (.cells #[.slice none 0 0, .slice none 0 0] 31)) (.slice none 0 0) (.slice none 0 0) 31
    rw [World.size_alloc, World.size_alloc] at h1
    rw [hw0]; exact h1
  have hb0 : Below w.heap.size w w0 := by rw [hw0]; go_grown
  have hC0 := hC
  have hT0 := hT
  clear hT hC
  clear hw0
  refine (c_toTileS AT cT T w0 (hT0.below hb0) (by omega)).mono ?_
  rintro e w1 ⟨rfl, o1, hb1⟩
  generalize hA1 : (some ⟨w0.heap.size, 0, none⟩ : Option Addr) = A1 at o1 ⊢
  clear hA1
  have ba1 := ba.keep hb1
  have br1 := br.keep hb1
  have bo1 := bo.keep hb1
  have p1 := hb1.size
  have x0 := ba1.c1
  have y0 := bo1.c0
  have f0 := bo1.fz 0
  go_wp2_with fail
  obtain ⟨v1, hv1⟩ : ∃ v1, v1 = w1.setCell ⟨w.heap.size + 2, 0, none⟩ (.slice A1 T.length T.length) := ⟨_, rfl⟩
  rw [← hv1]
  have ba2 : Bx2 v1 w.heap.size (.slice AT T.length cT) (.slice AC C.length cC) := by rw [hv1]; exact ba1.far _ (by omega)
  have br2 : Bx2 v1 (w.heap.size + 1) (.slice none 0 0) (.slice none 0 0) := by rw [hv1]; exact br1.far _ (by omega)
  have bo2 : Bx2 v1 (w.heap.size + 2) (.slice A1 T.length T.length) (.slice none 0 0) := by rw [hv1]; exact bo1.set0 _
  have o2 : v1.ownsRow w0.heap.size 61 2 (.slice A1 T.length T.length) T.length (cellsT T) := by rw [hv1]; exact own_box o1 (by omega)
  have l1 := o1.lt
  have hs2 : v1.heap.size = w1.heap.size := by rw [hv1]; simp [World.setCell]
  have hq2 : Below w.heap.size w v1 := by rw [hv1]; exact below_box (bstep hb0 hb1) (Nat.le_add_right _ _)
  clear hv1 ba ba1 br br1 bo bo1 x0 y0 f0 o1
  refine (c_toIntS AC cC C v1 (hC0.below hq2) (by omega)).mono ?_
  rintro e w3 ⟨rfl, o6, hb6⟩
  generalize hA3 : (some ⟨v1.heap.size, 0, none⟩ : Option Addr) = A3 at o6 ⊢
  clear hA3
  have br6 := br2.keep hb6
  have bo6 := bo2.keep hb6
  have p6 := hb6.size
  have y0 := bo6.c0
  have y1 := bo6.c1
  have f1 := bo6.fz 1
  have r0 := br6.c0
  have r1 := br6.c1
  have z0 := br6.fz 0
  have z1 := br6.fz 1
  have o5' := own_keep o2 hb6
  have l6 := o6.lt
  have HQ := Lib.hid (bstep hq2 hb6)
  have n1 : w.heap.size + 1 < w3.heap.size := by omega
  have n2 : w.heap.size + 2 < w3.heap.size := by omega
  have g3 : OwnP w3 (w.heap.size + 3) w3.heap.size (.slice A1 T.length T.length) T.length T (.slice A3 C.length C.length) C.length C :=
    { f := own_base o5' (by omega), r := own_base o6 (by omega), hf := fun g hg => (o5'.lt g hg).2, hr := fun g hg => (o6.lt g hg).2, fr := ApG.of_lt (m := w1.heap.size) (fun g hg => (l1 g hg).2) (fun g hg => by have := (l6 g hg).1; omega) }
  have G3 := Lib.hid g3
  clear g3 ba2 br2 br6 bo2 bo6 o2 o5' o6 l1 l6 hT0 hC0 hb0 hq2 hb1 hb6 p1 p6 hs0 hs2
  go_wp2
  refine bodyPost_ret (v := .agg #[.slice A1 T.length T.length, .slice A3 C.length C.length]) (by simp [results, Tryd.results7, go_sem, r0, r1]) rfl ⟨A1, T.length, A3, C.length, rfl, ?_, ?_⟩
  · exact (((G3.out.box (by omega)).box (by omega)).box (by omega)).base (by omega) |>.top (by simp [World.setCell])
  · exact below_box (below_box (below_box HQ.out (by omega)) (by omega)) (by omega)

set_option maxRecDepth 100000 in
set_option maxHeartbeats 1000000 in
theorem c_eqPuzzle_same (AT : Option Addr) (cT : Nat) (AC : Option Addr) (cC : Nat) (BT : Option Addr) (dT : Nat) (BC : Option Addr) (dC : Nat) (T : List (Int × Int)) (C : List Int) (w : World)
    (hT : RdT w AT T) (hC : RdI w AC C) (gT : RdT w BT T) (gC : RdI w BC C) (lT : T.length ≤ 9223372036854775807) (lC : C.length ≤ 9223372036854775807) :
    Calls Tryd.prog 9 #[.agg #[.slice AT T.length cT, .slice AC C.length cC], .agg #[.slice BT T.length dT, .slice BC C.length dC]] w fun e w' => e = .returned (.bool true) ∧ Below w.heap.size w w' := by
  go_enter Tryd.func9, Tryd.ntmps9
  go_wp2_with fail
  obtain ⟨w0, hw0⟩ : ∃ w0, w0 = (w.alloc (.cells #[.slice AT T.length cT, .slice AC C.length cC] 31)).alloc (.cells #[.slice BT T.length dT, .slice BC C.length dC] 31) := ⟨_, rfl⟩
  rw [← hw0]
  have ba : Bx2 w0 w.heap.size (.slice AT T.length cT) (.slice AC C.length cC) := by rw [hw0]; exact (Bx2.fresh w _ _ _).more _
  have br : Bx2 w0 (w.heap.size + 1) (.slice BT T.length dT) (.slice BC C.length dC) := by
    have h1 := Bx2.fresh (w.alloc (.cells #[.slice AT T.length cT, .slice AC C.length cC] 31)) (.slice BT T.length dT) (.slice BC C.length dC) 31
    rw [World.size_alloc] at h1
    rw [hw0]; exact h1
  have hb0 : Below w.heap.size w w0 := by rw [hw0]; go_grown
  clear hw0
  refine (c_eqTileS_same AT BT cT dT T w0 (hT.below hb0) (gT.below hb0) lT).mono ?_
  rintro e w1 ⟨rfl, hb1⟩
  have hb1' := bstep hb0 hb1
  have ba1 := ba.keep hb1
  have br1 := br.keep hb1
  have x1 := ba1.c1
  have y1 := br1.c1
  clear ba br hb0 hb1
  go_wp2_with fail
  refine (c_eqIntS_same AC BC cC dC C w1 (hC.below hb1') (gC.below hb1') lC).mono ?_
  rintro e w3 ⟨rfl, hb3⟩
  have hb3' := bstep hb1' hb3
  clear ba1 br1 hb1' hb3 x1 y1
  go_wp2
  go_ret
  exact ⟨rfl, hb3'⟩

set_option maxRecDepth 100000 in
set_option maxHeartbeats 1000000 in
theorem c_markPuzzle (AT : Option Addr) (cT : Nat) (T : List (Int × Int)) (AC : Option Addr) (cC : Nat) (C : List Int) (lo hi : Nat) (q : Int) (w : World) (h : OwnP w lo hi (.slice AT T.length cT) T.length T (.slice AC C.length cC) C.length C)
    (hlo : lo ≤ w.heap.size) (hh : hi ≤ w.heap.size) (h0 : 0 ≤ q) (h1 : q ≤ 1048576) (hl : T.length + C.length ≤ 1048576) :
    Calls Tryd.prog 12 #[.agg #[.slice AT T.length cT, .slice AC C.length cC], .int .i64 q] w fun e w' => e = .returned (.int .i64 (q + 2 * (T.length : Int) + (C.length : Int))) ∧
      OwnP w' lo hi (.slice AT T.length cT) T.length (marks q T.length) (.slice AC C.length cC) C.length (marksI (q + 2 * (T.length : Int)) C.length) ∧
      Below lo w w' ∧ (∀ b, b < lo ∨ hi ≤ b → b < w.heap.size → w'.heap[b]? = w.heap[b]?) := by
  go_enter Tryd.func12, Tryd.ntmps12
  go_wp2_with fail
  obtain ⟨w0, hw0⟩ : ∃ w0, w0 = w.alloc (.cells #[.slice AT T.length cT, .slice AC C.length cC] 31) := ⟨_, rfl⟩
  rw [← hw0]
  have ba : Bx2 w0 w.heap.size (.slice AT T.length cT) (.slice AC C.length cC) := by rw [hw0]; exact Bx2.fresh w _ _ _
  have hb0 : Below w.heap.size w w0 := by rw [hw0]; go_grown
  clear hw0
  have g0 := h.below hb0 hh
  have k0 : ∀ b, b < w.heap.size → w0.heap[b]? = w.heap[b]? := fun b hb => hb0.block b hb
  have s0 := hb0.size
  have bl0 := hb0.mono hlo
  clear h hb0
  refine (c_markTileS AT cT lo T q w0 g0.f h0 (by omega)).mono ?_
  rintro e w1 ⟨rfl, o1, hg1⟩
  have b1 := hg1.block
  have ba1 := ba.of_block (b1 w.heap.size ba.lt (fun e => by have := g0.hf _ e.symm; omega))
  have bl1 := bl0.trans (below_of_grown hg1 (by omega) (fun g hg => (g0.f.lt g hg).1))
  have s1 := hg1.size
  have gr1 := g0.r.kept hg1 g0.fr.symm.kept
  have k1 : ∀ b, b < lo ∨ hi ≤ b → b < w.heap.size → w1.heap[b]? = w.heap[b]? := fun b hb hw => (b1 b (by omega) (fun e => by have := g0.hf _ e.symm; have := (g0.f.lt _ e.symm).1; omega)).trans (k0 b hw)
  have x1 := ba1.c1
  clear ba bl0 k0 b1
  go_wp2_with fail
  refine (c_markIntS AC cC lo C (q + 2 * (T.length : Int)) w1 gr1 (by omega) (by omega)).mono ?_
  rintro e w3 ⟨rfl, o3, hg3⟩
  have b3 := hg3.block
  have bl3 := bl1.trans (below_of_grown hg3 (by omega) (fun g hg => (gr1.lt g hg).1))
  have of3 := o1.kept hg3 g0.fr.kept
  have k3 : ∀ b, b < lo ∨ hi ≤ b → b < w.heap.size → w3.heap[b]? = w.heap[b]? := fun b hb hw => (b3 b (by omega) (fun e => by have := g0.hr _ e.symm; have := (gr1.lt _ e.symm).1; omega)).trans (k1 b hb hw)
  have G3 := Lib.hid (OwnP.mk of3 o3 g0.hf g0.hr g0.fr)
  clear ba1 bl1 k1 b3 x1 o1 gr1 hg1 hg3 of3 o3 g0
  go_wp2
  go_ret
  exact ⟨rfl, G3.out, bl3, k3⟩

set_option maxRecDepth 100000 in
set_option maxHeartbeats 1000000 in
theorem c_heldPuzzle (AT : Option Addr) (cT nT : Nat) (AC : Option Addr) (cC nC : Nat) (q : Int) (w : World) (hT : RdT w AT (marks q nT)) (hC : RdI w AC (marksI (q + 2 * (nT : Int)) nC))
    (h0 : 0 ≤ q) (h1 : q ≤ 1048576) (hl : nT + nC ≤ 1048576) :
    Calls Tryd.prog 13 #[.agg #[.slice AT nT cT, .slice AC nC cC], .int .i64 q] w fun e w' => e = .returned (.int .i64 (q + 2 * (nT : Int) + (nC : Int))) ∧ Below w.heap.size w w' := by
  go_enter Tryd.func13, Tryd.ntmps13
  go_wp2_with fail
  obtain ⟨w0, hw0⟩ : ∃ w0, w0 = w.alloc (.cells #[.slice AT nT cT, .slice AC nC cC] 31) := ⟨_, rfl⟩
  rw [← hw0]
  have ba : Bx2 w0 w.heap.size (.slice AT nT cT) (.slice AC nC cC) := by rw [hw0]; exact Bx2.fresh w _ _ _
  have hb0 : Below w.heap.size w w0 := by rw [hw0]; go_grown
  have x1 := ba.c1
  have i1 : ¬ (q + 2 * (nT : Int)) < 0 := by omega
  have i3 : ¬ (q + 2 * (nT : Int) + (nC : Int)) < 0 := by omega
  clear hw0 ba
  refine (c_heldTileS AT cT nT q w0 (hT.below hb0) h0 (by omega)).mono ?_
  rintro e w1 ⟨rfl, rfl⟩
  go_wp2_with fail
  refine (c_heldIntS AC cC nC (q + 2 * (nT : Int)) w0 (hC.below hb0) (by omega) (by omega)).mono ?_
  rintro e w1 ⟨rfl, rfl⟩
  go_wp2
  go_ret
  exact ⟨rfl, hb0⟩

end Go.Proofs.YtjdnkcdnppcbhabDoor

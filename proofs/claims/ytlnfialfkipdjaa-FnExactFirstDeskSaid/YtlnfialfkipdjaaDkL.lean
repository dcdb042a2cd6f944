/- The laws' own small functions over desks: a hand and a number. -/
import Derived.Test.YtlnfialfkipdjaaPzA
import Derived.Test.YtlnfialfkipdjaaGames
namespace Go.Proofs.Ytlnfialfkipdjaa
open Go.RowKit
set_option linter.unusedVariables false

/-- What a call gives back: a new desk. -/
def RetD (w : World) (T : List (Int × Int)) (top : Int) (e : Ending) (w' : World) : Prop :=
  ∃ AT cT, e = .returned (.agg #[.slice AT T.length cT, .int .i64 top]) ∧ w'.ownsRow w.heap.size 95 2 (.slice AT T.length cT) T.length (cellsT T) ∧ Below w.heap.size w w'

set_option maxRecDepth 100000 in
set_option maxHeartbeats 1000000 in
theorem c_szDesk (AT : Option Addr) (cT : Nat) (T : List (Int × Int)) (top : Int) (w : World) (lT : T.length ≤ 9223372036854775807) :
    Calls Try.prog 19 #[.agg #[.slice AT T.length cT, .int .i64 top], .int .i64 1048576] w fun e w' => e = .returned (.int .i64 (if 1048576 - (T.length : Int) < 0 then -1 else 1048576 - (T.length : Int))) ∧ Below w.heap.size w w' := by
  have c1 := fun W => c_szTileS AT cT T.length 1048576 W (by omega) (by omega) (by omega)
  by_cases e1 : 1048576 - (T.length : Int) < 0
  · simp only [if_pos e1] at c1 ⊢
    have C1 := Lib.hid c1
    clear c1
    go_enter Try.func19, Try.ntmps19
    go_wp2_with (go_at_call 29; refine (C1.out _).mono ?_; rintro e w1 ⟨rfl, rfl⟩)
    go_ret
    exact ⟨rfl, by go_grown⟩
  · simp only [if_neg e1] at c1 ⊢
    have C1 := Lib.hid c1
    clear c1
    go_enter Try.func19, Try.ntmps19
    go_wp2_with (go_at_call 29; refine (C1.out _).mono ?_; rintro e w1 ⟨rfl, rfl⟩)
    go_ret
    exact ⟨rfl, by go_grown⟩

set_option maxRecDepth 100000 in
set_option maxHeartbeats 1000000 in
theorem c_toDesk (AT : Option Addr) (cT : Nat) (T : List (Int × Int)) (top : Int) (w : World) (hT : RdT w AT T) (h : T.length ≤ 1048576) :
    Calls Try.prog 21 #[.agg #[.slice AT T.length cT, .int .i64 top]] w (RetD w T top) := by
  go_enter Try.func21, Try.ntmps21
  go_wp2_with fail
  obtain ⟨w0, hw0⟩ : ∃ w0, w0 = ((w.alloc (.cells #[.slice AT T.length cT, .int .i64 top] 31)).alloc (.cells #[.slice none 0 0, .int .i64 0] 24)).alloc (.cells #[.slice none 0 0, .int .i64 0] 24) := ⟨_, rfl⟩
  rw [← hw0]
  have hs0 : w0.heap.size = w.heap.size + 3 := by rw [hw0]; simp
  have ba : Bx2 w0 w.heap.size (.slice AT T.length cT) (.int .i64 top) := by rw [hw0]; exact ((Bx2.fresh w _ _ _).more _).more _
  have br : Bx2 w0 (w.heap.size + 1) (.slice none 0 0) (.int .i64 0) := by
    have h1 := Bx2.fresh (w.alloc (.cells #[.slice AT T.length cT, .int .i64 top] 31)) (.slice none 0 0) (.int .i64 0) 24
    rw [World.size_alloc] at h1
    rw [hw0]; exact h1.more _
  have bo : Bx2 w0 (w.heap.size + 2) (.slice none 0 0) (.int .i64 0) := by
    have h1 := Bx2.fresh ((w.alloc (.cells #[.slice AT T.length cT, .int .i64 top] 31)).alloc (.cells #[.slice none 0 0, .int .i64 0] 24)) (.slice none 0 0) (.int .i64 0) 24
    rw [World.size_alloc, World.size_alloc] at h1
    rw [hw0]; exact h1
  have hb0 : Below w.heap.size w w0 := by rw [hw0]; go_grown
  have hT0 := hT
  clear hT hw0
  refine (c_toTileS AT cT T w0 (hT0.below hb0) (by omega)).mono ?_
  rintro e w1 ⟨rfl, o1, hb1⟩
  generalize hA1 : (some ⟨w0.heap.size, 0, none⟩ : Option Addr) = A1 at o1 ⊢
  clear hA1
  have ba1 := ba.keep hb1
  have br1 := br.keep hb1
  have bo1 := bo.keep hb1
  have p1 := hb1.size
  have x1 := ba1.c1
  have y0 := bo1.c0
  have y1 := bo1.c1
  have f0 := bo1.fz 0
  have f1 := bo1.fz 1
  have r0 := br1.c0
  have r1 := br1.c1
  have z0 := br1.fz 0
  have z1 := br1.fz 1
  have n0 : w.heap.size < w1.heap.size := by omega
  have n1 : w.heap.size + 1 < w1.heap.size := by omega
  have n2 : w.heap.size + 2 < w1.heap.size := by omega
  have O1 := Lib.hid (own_base o1 (show w.heap.size + 3 ≤ w0.heap.size by omega))
  have HQ := Lib.hid (bstep hb0 hb1)
  clear ba ba1 br br1 bo bo1 o1 hb0 hb1 p1 hs0 hT0
  go_wp2
  refine bodyPost_ret (v := .agg #[.slice A1 T.length T.length, .int .i64 top]) (by simp [results, Try.results21, go_sem, r0, r1]) rfl ⟨A1, T.length, rfl, ?_, ?_⟩
  · exact own_base (own_box (own_box (own_box (own_box O1.out (by omega)) (by omega)) (by omega)) (by omega)) (by omega)
  · exact below_box (below_box (below_box (below_box HQ.out (by omega)) (by omega)) (by omega)) (by omega)

set_option maxRecDepth 100000 in
set_option maxHeartbeats 1000000 in
theorem c_eqDesk_same (AT : Option Addr) (cT : Nat) (BT : Option Addr) (dT : Nat) (T : List (Int × Int)) (top : Int) (w : World)
    (hT : RdT w AT T) (gT : RdT w BT T) (lT : T.length ≤ 9223372036854775807) :
    Calls Try.prog 16 #[.agg #[.slice AT T.length cT, .int .i64 top], .agg #[.slice BT T.length dT, .int .i64 top]] w fun e w' => e = .returned (.bool true) ∧ Below w.heap.size w w' := by
  go_enter Try.func16, Try.ntmps16
  go_wp2_with fail
  obtain ⟨w0, hw0⟩ : ∃ w0, w0 = (w.alloc (.cells #[.slice AT T.length cT, .int .i64 top] 24)).alloc (.cells #[.slice BT T.length dT, .int .i64 top] 24) := ⟨_, rfl⟩
  rw [← hw0]
  have ba : Bx2 w0 w.heap.size (.slice AT T.length cT) (.int .i64 top) := by rw [hw0]; exact (Bx2.fresh w _ _ _).more _
  have br : Bx2 w0 (w.heap.size + 1) (.slice BT T.length dT) (.int .i64 top) := by
    have h1 := Bx2.fresh (w.alloc (.cells #[.slice AT T.length cT, .int .i64 top] 24)) (.slice BT T.length dT) (.int .i64 top) 24
    rw [World.size_alloc] at h1
    rw [hw0]; exact h1
  have hb0 : Below w.heap.size w w0 := by rw [hw0]; go_grown
  clear hw0
  refine (c_eqTileS_same AT BT cT dT T w0 (hT.below hb0) (gT.below hb0) lT).mono ?_
  rintro e w1 ⟨rfl, hb1⟩
  have hb1' := bstep hb0 hb1
  have ba1 := ba.keep hb1
  have br1 := br.keep hb1
  have x1 := ba1.c1
  have y1 := br1.c1
  clear ba br hb0 hb1
  go_wp2
  go_ret
  exact ⟨rfl, hb1'⟩

set_option maxRecDepth 100000 in
set_option maxHeartbeats 1000000 in
theorem c_markDesk (AT : Option Addr) (cT : Nat) (T : List (Int × Int)) (top : Int) (lo : Nat) (q : Int) (w : World) (h : w.ownsRow lo 95 2 (.slice AT T.length cT) T.length (cellsT T)) (hlo : lo ≤ w.heap.size)
    (h0 : 0 ≤ q) (h1 : q ≤ 1048576) (hl : T.length ≤ 1048576) :
    Calls Try.prog 17 #[.agg #[.slice AT T.length cT, .int .i64 top], .int .i64 q] w fun e w' => e = .returned (.int .i64 (q + 2 * (T.length : Int))) ∧
      w'.ownsRow lo 95 2 (.slice AT T.length cT) T.length (cellsT (marks q T.length)) ∧ w.heap.size ≤ w'.heap.size ∧ Below lo w w' ∧ ∀ b, b < w.heap.size → (Value.slice AT T.length cT).ownBlock ≠ some b → w'.heap[b]? = w.heap[b]? := by
  go_enter Try.func17, Try.ntmps17
  go_wp2_with fail
  obtain ⟨w0, hw0⟩ : ∃ w0, w0 = w.alloc (.cells #[.slice AT T.length cT, .int .i64 top] 24) := ⟨_, rfl⟩
  rw [← hw0]
  have hb0 : Below w.heap.size w w0 := by rw [hw0]; go_grown
  clear hw0
  have g0 := own_keep h hb0
  have s0 := hb0.size
  have k0 : ∀ b, b < w.heap.size → w0.heap[b]? = w.heap[b]? := fun b hb => hb0.block b hb
  have bl0 := hb0.mono hlo
  clear h hb0
  refine (c_markTileS AT cT lo T q w0 g0 h0 (by omega)).mono ?_
  rintro e w1 ⟨rfl, o1, hg1⟩
  have bl1 := bl0.trans (below_of_grown hg1 (by omega) (fun g hg => (g0.lt g hg).1))
  have bk1 : ∀ b, b < w.heap.size → (Value.slice AT T.length cT).ownBlock ≠ some b → w1.heap[b]? = w.heap[b]? := fun b hb hne => (hg1.block b (by omega) (fun e => hne e.symm)).trans (k0 b hb)
  have z1 := hg1.size
  have Bk := Lib.hid bk1
  clear bl0 hg1 g0 k0 bk1
  go_wp2
  go_ret
  exact ⟨rfl, o1, by omega, bl1, Bk.out⟩

set_option maxRecDepth 100000 in
set_option maxHeartbeats 1000000 in
theorem c_heldDesk (AT : Option Addr) (cT nT : Nat) (top : Int) (q : Int) (w : World) (hT : RdT w AT (marks q nT))
    (h0 : 0 ≤ q) (h1 : q ≤ 1048576) (hl : nT ≤ 1048576) :
    Calls Try.prog 18 #[.agg #[.slice AT nT cT, .int .i64 top], .int .i64 q] w fun e w' => e = .returned (.int .i64 (q + 2 * (nT : Int))) ∧ Below w.heap.size w w' := by
  go_enter Try.func18, Try.ntmps18
  go_wp2_with fail
  have hb0 : Below w.heap.size w (w.alloc (.cells #[.slice AT nT cT, .int .i64 top] 24)) := by go_grown
  have i1 : ¬ (q + 2 * (nT : Int)) < 0 := by omega
  refine (c_heldTileS AT cT nT q _ (hT.below hb0) h0 (by omega)).mono ?_
  rintro e w1 ⟨rfl, rfl⟩
  go_wp2
  go_ret
  exact ⟨rfl, hb0⟩

end Go.Proofs.Ytlnfialfkipdjaa

/- BestPoints: both sides'. -/
import Derived.Test.YtgjdpiooocpmhabGreatDoorBst
import Derived.Deep.Cut
import Derived.BigQuiet
namespace Go.Proofs.YtgjdpiooocpmhabGreatDoor
open Go.RowKit
set_option linter.unusedVariables false

def smallB (F S : List (Int × Int)) (R : List Int) (t u : Int) : Bool := gameB F S R t u && decide (F.length + S.length ≤ 8)
theorem small_siz {F S : List (Int × Int)} {R : List Int} {t u : Int} (h : smallB F S R t u = true) : gameB F S R t u = true ∧ sizG F S u < 27 := by
  unfold smallB at h
  simp only [Bool.and_eq_true, decide_eq_true_eq] at h
  have h1 := (gameB_parts h.1).1
  unfold turnB at h1
  simp only [Bool.and_eq_true, decide_eq_true_eq] at h1
  refine ⟨h.1, ?_⟩
  unfold sizG
  omega
def bpV (F S : List (Int × Int)) (R : List Int) (t u : Int) : Int := if smallB F S R t u then bstN 27 F S R t u else 0

set_option maxRecDepth 100000 in
set_option maxHeartbeats 1000000 in
theorem c_isHeld (AF : Option Addr) (cF : Nat) (F : List (Int × Int)) (AS : Option Addr) (cS : Nat) (S : List (Int × Int)) (AR : Option Addr) (cR : Nat) (R : List Int) (t u : Int) (w : World) (hF : RdT w AF F) (hS : RdT w AS S) (hR : RdI w AR R) (lFS : F.length + S.length ≤ 1048576) (lR : R.length ≤ 1048576)  :
    Calls Tryz.prog 60 #[.agg #[.slice AF F.length cF, .slice AS S.length cS, .slice AR R.length cR, .int .i64 t, .int .i64 u]] w fun e w' => e = .returned (.bool (smallB F S R t u)) ∧ Below w.heap.size w w' := by
  have conG := fun W (hb : Below w.heap.size w W) => c_implIsGame AF cF F AS cS S AR cR R t u W (hF.below hb) (hS.below hb) (hR.below hb) lFS lR
  unfold smallB
  clear hF hS hR
  cases hg : gameB F S R t u
  · simp only [hg] at conG
    clear hg
    rw [Bool.false_and]
    go_enter Tryz.func60, Tryz.ntmps60
    go_wp2_with fail
    obtain ⟨w0, hw0⟩ : ∃ w0, w0 = w.alloc (.cells #[.slice AF F.length cF, .slice AS S.length cS, .slice AR R.length cR, .int .i64 t, .int .i64 u] 32) := ⟨_, rfl⟩
    rw [← hw0]
    have ba0 : BoxAt w0 w.heap.size (.slice AF F.length cF) (.slice AS S.length cS) (.slice AR R.length cR) (.int .i64 t) (.int .i64 u) := by rw [hw0]; exact BoxAt.fresh w _ _ _ _ _ _
    have hb0 : Below w.heap.size w w0 := by rw [hw0]; go_grown
    clear hw0
    refine (conG w0 hb0).mono ?_
    rintro e w1 ⟨rfl, h1⟩
    have hb1 := bstep hb0 h1
    have ba1 := ba0.keep h1
    clear ba0
    have x0 := ba1.c0
    have x1 := ba1.c1
    have x2 := ba1.c2
    have x3 := ba1.c3
    have x4 := ba1.c4
    clear conG
    go_wp2
    go_ret
    exact ⟨rfl, hb1⟩
  · simp only [hg] at conG
    clear hg
    rw [Bool.true_and]
    have ew : IntKind.i64.wrap ((F.length : Int) + (S.length : Int)) = (F.length : Int) + (S.length : Int) := IntWalk.i64_in _ (by omega)
    by_cases h8 : F.length + S.length ≤ 8
    · have e8 : ((F.length : Int) + (S.length : Int)) ≤ 8 := by omega
      have d8 : decide (((F.length : Int) + (S.length : Int)) ≤ 8) = true := decide_eq_true e8
      rw [decide_eq_true h8]
      go_enter Tryz.func60, Tryz.ntmps60
      go_wp2_with fail
      obtain ⟨w0, hw0⟩ : ∃ w0, w0 = w.alloc (.cells #[.slice AF F.length cF, .slice AS S.length cS, .slice AR R.length cR, .int .i64 t, .int .i64 u] 32) := ⟨_, rfl⟩
      rw [← hw0]
      have ba0 : BoxAt w0 w.heap.size (.slice AF F.length cF) (.slice AS S.length cS) (.slice AR R.length cR) (.int .i64 t) (.int .i64 u) := by rw [hw0]; exact BoxAt.fresh w _ _ _ _ _ _
      have hb0 : Below w.heap.size w w0 := by rw [hw0]; go_grown
      clear hw0
      refine (conG w0 hb0).mono ?_
      rintro e w1 ⟨rfl, h1⟩
      have hb1 := bstep hb0 h1
      have ba1 := ba0.keep h1
      clear ba0
      have x0 := ba1.c0
      have x1 := ba1.c1
      have x2 := ba1.c2
      have x3 := ba1.c3
      have x4 := ba1.c4
      clear conG h8
      go_wp2
      go_ret
      exact ⟨rfl, hb1⟩
    · have e8 : ¬ ((F.length : Int) + (S.length : Int)) ≤ 8 := by omega
      have d8 : decide (((F.length : Int) + (S.length : Int)) ≤ 8) = false := decide_eq_false e8
      rw [decide_eq_false h8]
      go_enter Tryz.func60, Tryz.ntmps60
      go_wp2_with fail
      obtain ⟨w0, hw0⟩ : ∃ w0, w0 = w.alloc (.cells #[.slice AF F.length cF, .slice AS S.length cS, .slice AR R.length cR, .int .i64 t, .int .i64 u] 32) := ⟨_, rfl⟩
      rw [← hw0]
      have ba0 : BoxAt w0 w.heap.size (.slice AF F.length cF) (.slice AS S.length cS) (.slice AR R.length cR) (.int .i64 t) (.int .i64 u) := by rw [hw0]; exact BoxAt.fresh w _ _ _ _ _ _
      have hb0 : Below w.heap.size w w0 := by rw [hw0]; go_grown
      clear hw0
      refine (conG w0 hb0).mono ?_
      rintro e w1 ⟨rfl, h1⟩
      have hb1 := bstep hb0 h1
      have ba1 := ba0.keep h1
      clear ba0
      have x0 := ba1.c0
      have x1 := ba1.c1
      have x2 := ba1.c2
      have x3 := ba1.c3
      have x4 := ba1.c4
      clear conG h8
      go_wp2
      go_ret
      exact ⟨rfl, hb1⟩

set_option maxRecDepth 100000 in
set_option maxHeartbeats 1000000 in
theorem c_plSmall (AF : Option Addr) (cF : Nat) (F : List (Int × Int)) (AS : Option Addr) (cS : Nat) (S : List (Int × Int)) (AR : Option Addr) (cR : Nat) (R : List Int) (t u : Int) (w : World) (hF : RdT w AF F) (hS : RdT w AS S) (hR : RdI w AR R) (lFS : F.length + S.length ≤ 1048576) (lR : R.length ≤ 1048576) (kF : F.length ≤ cF) (kS : S.length ≤ cS) :
    Calls Tryz.prog 58 #[.agg #[.slice AF F.length cF, .slice AS S.length cS, .slice AR R.length cR, .int .i64 t, .int .i64 u]] w fun e w' => e = .returned (.bool (smallB F S R t u)) ∧ Below w.heap.size w w' := by
  have conG := fun W (hb : Below w.heap.size w W) => c_plGood AF cF F AS cS S AR cR R t u W (hF.below hb) (hS.below hb) (hR.below hb) (by omega) (by omega) lR kF kS
  unfold smallB
  clear hF hS hR
  cases hg : gameB F S R t u
  · simp only [hg] at conG
    clear hg
    rw [Bool.false_and]
    go_enter Tryz.func58, Tryz.ntmps58
    go_wp2_with fail
    obtain ⟨w0, hw0⟩ : ∃ w0, w0 = w.alloc (.cells #[.slice AF F.length cF, .slice AS S.length cS, .slice AR R.length cR, .int .i64 t, .int .i64 u] 32) := ⟨_, rfl⟩
    rw [← hw0]
    have ba0 : BoxAt w0 w.heap.size (.slice AF F.length cF) (.slice AS S.length cS) (.slice AR R.length cR) (.int .i64 t) (.int .i64 u) := by rw [hw0]; exact BoxAt.fresh w _ _ _ _ _ _
    have hb0 : Below w.heap.size w w0 := by rw [hw0]; go_grown
    clear hw0
    refine (conG w0 hb0).mono ?_
    rintro e w1 ⟨rfl, h1⟩
    have hb1 := bstep hb0 h1
    have ba1 := ba0.keep h1
    clear ba0
    have x0 := ba1.c0
    have x1 := ba1.c1
    have x2 := ba1.c2
    have x3 := ba1.c3
    have x4 := ba1.c4
    clear conG
    go_wp2
    go_ret
    exact ⟨rfl, hb1⟩
  · simp only [hg] at conG
    clear hg
    rw [Bool.true_and]
    have ew : IntKind.i64.wrap ((F.length : Int) + (S.length : Int)) = (F.length : Int) + (S.length : Int) := IntWalk.i64_in _ (by omega)
    by_cases h8 : F.length + S.length ≤ 8
    · have e8 : ((F.length : Int) + (S.length : Int)) ≤ 8 := by omega
      have d8 : decide (((F.length : Int) + (S.length : Int)) ≤ 8) = true := decide_eq_true e8
      rw [decide_eq_true h8]
      go_enter Tryz.func58, Tryz.ntmps58
      go_wp2_with fail
      obtain ⟨w0, hw0⟩ : ∃ w0, w0 = w.alloc (.cells #[.slice AF F.length cF, .slice AS S.length cS, .slice AR R.length cR, .int .i64 t, .int .i64 u] 32) := ⟨_, rfl⟩
      rw [← hw0]
      have ba0 : BoxAt w0 w.heap.size (.slice AF F.length cF) (.slice AS S.length cS) (.slice AR R.length cR) (.int .i64 t) (.int .i64 u) := by rw [hw0]; exact BoxAt.fresh w _ _ _ _ _ _
      have hb0 : Below w.heap.size w w0 := by rw [hw0]; go_grown
      clear hw0
      refine (conG w0 hb0).mono ?_
      rintro e w1 ⟨rfl, h1⟩
      have hb1 := bstep hb0 h1
      have ba1 := ba0.keep h1
      clear ba0
      have x0 := ba1.c0
      have x1 := ba1.c1
      have x2 := ba1.c2
      have x3 := ba1.c3
      have x4 := ba1.c4
      clear conG h8
      go_wp2
      go_ret
      exact ⟨rfl, hb1⟩
    · have e8 : ¬ ((F.length : Int) + (S.length : Int)) ≤ 8 := by omega
      have d8 : decide (((F.length : Int) + (S.length : Int)) ≤ 8) = false := decide_eq_false e8
      rw [decide_eq_false h8]
      go_enter Tryz.func58, Tryz.ntmps58
      go_wp2_with fail
      obtain ⟨w0, hw0⟩ : ∃ w0, w0 = w.alloc (.cells #[.slice AF F.length cF, .slice AS S.length cS, .slice AR R.length cR, .int .i64 t, .int .i64 u] 32) := ⟨_, rfl⟩
      rw [← hw0]
      have ba0 : BoxAt w0 w.heap.size (.slice AF F.length cF) (.slice AS S.length cS) (.slice AR R.length cR) (.int .i64 t) (.int .i64 u) := by rw [hw0]; exact BoxAt.fresh w _ _ _ _ _ _
      have hb0 : Below w.heap.size w w0 := by rw [hw0]; go_grown
      clear hw0
      refine (conG w0 hb0).mono ?_
      rintro e w1 ⟨rfl, h1⟩
      have hb1 := bstep hb0 h1
      have ba1 := ba0.keep h1
      clear ba0
      have x0 := ba1.c0
      have x1 := ba1.c1
      have x2 := ba1.c2
      have x3 := ba1.c3
      have x4 := ba1.c4
      clear conG h8
      go_wp2
      go_ret
      exact ⟨rfl, hb1⟩

end Go.Proofs.YtgjdpiooocpmhabGreatDoor

/- Tiles by value: what the small functions on one tile and on two numbers answer. -/
import Derived.Test.YtbanpgifhnbjoaaLib
namespace Go.Proofs.Ytbanpgifhnbjoaa
open Go.RowKit
set_option linter.unusedVariables false

def numB (n : Int) : Bool := decide (0 ≤ n) && decide (n ≤ 9)
def sameB (a b c d : Int) : Bool := decide (a = c ∧ b = d)
def goodB (a b : Int) : Bool := numB a && (numB b && decide (a ≤ b))

set_option maxHeartbeats 400000 in
theorem c_isNumber (n : Int) (w : World) : Calls Try.prog 99 #[.int .i64 n] w fun e w' => e = .returned (.bool (numB n)) ∧ w = w' := by
  by_cases h0 : 0 ≤ n <;> by_cases h9 : n ≤ 9
  all_goals
    go_enter Try.func99, Try.ntmps99
    go_wp2
    go_ret
    exact ⟨by simp [numB, h0, h9], rfl⟩

set_option maxHeartbeats 400000 in
theorem c_l1In (n lo hi : Int) (w : World) : Calls Try.prog 44 #[.int .i64 n, .int .i64 lo, .int .i64 hi] w fun e w' => e = .returned (.bool (decide (lo ≤ n) && decide (n ≤ hi))) ∧ w = w' := by
  by_cases h0 : lo ≤ n <;> by_cases h9 : n ≤ hi
  all_goals
    go_enter Try.func44, Try.ntmps44
    go_wp2
    go_ret
    exact ⟨by simp [h0, h9], rfl⟩

set_option maxHeartbeats 400000 in
theorem c_implIsTile (a b : Int) (w : World) : Calls Try.prog 72 #[.agg #[.int .i64 a, .int .i64 b]] w fun e w' => e = .returned (.bool (goodB a b)) ∧ Below w.heap.size w w' := by
  go_enter Try.func72, Try.ntmps72
  go_wp2_with (go_at_call 99; refine (c_isNumber _ _).mono ?_; rintro e w' ⟨rfl, rfl⟩)
  all_goals
    go_ret
    exact ⟨by simp_all [goodB], by go_grown⟩

set_option maxHeartbeats 400000 in
theorem c_tiGood (a b : Int) (w : World) : Calls Try.prog 63 #[.agg #[.int .i64 a, .int .i64 b]] w fun e w' => e = .returned (.bool (goodB a b)) ∧ Below w.heap.size w w' := by
  go_enter Try.func63, Try.ntmps63
  go_wp2_with (go_at_call 44; refine (c_l1In _ _ _ _).mono ?_; rintro e w' ⟨rfl, rfl⟩)
  all_goals
    go_ret
    exact ⟨ret_b (by unfold goodB numB; rw [Bool.eq_iff_iff]; simp at *; omega), by go_grown⟩

set_option maxHeartbeats 400000 in
theorem c_toTile (a b : Int) (w : World) : Calls Try.prog 29 #[.agg #[.int .i64 a, .int .i64 b]] w fun e w' => e = .returned (.agg #[.int .i64 a, .int .i64 b]) ∧ Below w.heap.size w w' := by
  go_enter Try.func29, Try.ntmps29
  go_wp2
  go_returns
  exact ⟨rfl, by go_grown⟩

set_option maxHeartbeats 400000 in
theorem c_eqTile (a b c d : Int) (w : World) : Calls Try.prog 32 #[.agg #[.int .i64 a, .int .i64 b], .agg #[.int .i64 c, .int .i64 d]] w fun e w' => e = .returned (.bool (sameB a b c d)) ∧ Below w.heap.size w w' := by
  by_cases h0 : a = c
  · have h0' : (a != c) = false := by simp [h0]
    by_cases h1 : b = d
    · have h1' : (b != d) = false := by simp [h1]
      clear h0 h1
      go_enter Try.func32, Try.ntmps32
      go_wp2
      go_ret
      exact ⟨by simp at h0' h1'; simp [sameB, h0', h1'], by go_grown⟩
    · have h1' : (b != d) = true := by simp [h1]
      clear h0 h1
      go_enter Try.func32, Try.ntmps32
      go_wp2
      go_ret
      exact ⟨by simp at h0' h1'; simp [sameB, h0', h1'], by go_grown⟩
  · have h0' : (a != c) = true := by simp [h0]
    clear h0
    go_enter Try.func32, Try.ntmps32
    go_wp2
    go_ret
    exact ⟨by simp at h0'; simp [sameB, h0'], by go_grown⟩

set_option maxHeartbeats 400000 in
theorem c_l1Least (a b : Int) (w : World) : Calls Try.prog 96 #[.int .i64 a, .int .i64 b] w fun e w' => e = .returned (.int .i64 (min a b)) ∧ w = w' := by
  by_cases h : a < b
  all_goals
    go_enter Try.func96, Try.ntmps96
    go_wp2
    go_ret
    exact ⟨ret_i (by omega), rfl⟩

set_option maxHeartbeats 400000 in
theorem c_l1Most (a b : Int) (w : World) : Calls Try.prog 97 #[.int .i64 a, .int .i64 b] w fun e w' => e = .returned (.int .i64 (max a b)) ∧ w = w' := by
  by_cases h : b < a
  all_goals
    go_enter Try.func97, Try.ntmps97
    go_wp2
    go_ret
    exact ⟨ret_i (by omega), rfl⟩

set_option maxHeartbeats 400000 in
theorem c_tiOf (a b : Int) (w : World) : Calls Try.prog 69 #[.int .i64 a, .int .i64 b] w fun e w' => e = .returned (.agg #[.int .i64 (min a b), .int .i64 (max a b)]) ∧ Below w.heap.size w w' := by
  go_enter Try.func69, Try.ntmps69
  go_wp2_with (first | (go_at_call 96; refine (c_l1Least _ _ _).mono ?_; rintro e w' ⟨rfl, rfl⟩) | (go_at_call 97; refine (c_l1Most _ _ _).mono ?_; rintro e w' ⟨rfl, rfl⟩))
  go_returns
  exact ⟨rfl, by go_grown⟩

def bothNum (a b : Int) : Bool := numB a && numB b
def ofLow (a b : Int) : Int := if bothNum a b then min a b else 0
def ofHigh (a b : Int) : Int := if bothNum a b then max a b else 0
end Go.Proofs.Ytbanpgifhnbjoaa

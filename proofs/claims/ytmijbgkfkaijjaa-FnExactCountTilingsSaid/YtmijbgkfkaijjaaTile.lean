/- Tiles by value: what the small functions on one tile and on two numbers answer. -/
import Derived.Test.YtmijbgkfkaijjaaLib
namespace Go.Proofs.Ytmijbgkfkaijjaa
open Go.RowKit
set_option linter.unusedVariables false

def numB (n : Int) : Bool := decide (0 ≤ n) && decide (n ≤ 9)
def sameB (a b c d : Int) : Bool := decide (a = c ∧ b = d)
def goodB (a b : Int) : Bool := numB a && (numB b && decide (a ≤ b))

set_option maxHeartbeats 400000 in
theorem c_l1In (n lo hi : Int) (w : World) : Calls Try.prog 6 #[.int .i64 n, .int .i64 lo, .int .i64 hi] w fun e w' => e = .returned (.bool (decide (lo ≤ n) && decide (n ≤ hi))) ∧ w = w' := by
  by_cases h0 : lo ≤ n <;> by_cases h9 : n ≤ hi
  all_goals
    go_enter Try.func6, Try.ntmps6
    go_wp2
    go_ret
    exact ⟨by simp [h0, h9], rfl⟩

set_option maxHeartbeats 400000 in
theorem c_l1Least (a b : Int) (w : World) : Calls Try.prog 18 #[.int .i64 a, .int .i64 b] w fun e w' => e = .returned (.int .i64 (min a b)) ∧ w = w' := by
  by_cases h : a < b
  all_goals
    go_enter Try.func18, Try.ntmps18
    go_wp2
    go_ret
    exact ⟨ret_i (by omega), rfl⟩

set_option maxHeartbeats 400000 in
theorem c_l1Most (a b : Int) (w : World) : Calls Try.prog 19 #[.int .i64 a, .int .i64 b] w fun e w' => e = .returned (.int .i64 (max a b)) ∧ w = w' := by
  by_cases h : b < a
  all_goals
    go_enter Try.func19, Try.ntmps19
    go_wp2
    go_ret
    exact ⟨ret_i (by omega), rfl⟩

set_option maxHeartbeats 400000 in
theorem c_tiOf (a b : Int) (w : World) : Calls Try.prog 15 #[.int .i64 a, .int .i64 b] w fun e w' => e = .returned (.agg #[.int .i64 (min a b), .int .i64 (max a b)]) ∧ Below w.heap.size w w' := by
  go_enter Try.func15, Try.ntmps15
  go_wp2_with (first | (go_at_call 18; refine (c_l1Least _ _ _).mono ?_; rintro e w' ⟨rfl, rfl⟩) | (go_at_call 19; refine (c_l1Most _ _ _).mono ?_; rintro e w' ⟨rfl, rfl⟩))
  go_returns
  exact ⟨rfl, by go_grown⟩

def bothNum (a b : Int) : Bool := numB a && numB b
def ofLow (a b : Int) : Int := if bothNum a b then min a b else 0
def ofHigh (a b : Int) : Int := if bothNum a b then max a b else 0
end Go.Proofs.Ytmijbgkfkaijjaa

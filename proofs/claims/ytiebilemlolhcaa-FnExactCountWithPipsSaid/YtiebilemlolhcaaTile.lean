/- Tiles by value: what the small functions on one tile and on two numbers answer. -/
import Derived.Test.YtiebilemlolhcaaLib
namespace Go.Proofs.Ytiebilemlolhcaa
open Go.RowKit
set_option linter.unusedVariables false

def numB (n : Int) : Bool := decide (0 ≤ n) && decide (n ≤ 9)
def sameB (a b c d : Int) : Bool := decide (a = c ∧ b = d)
def goodB (a b : Int) : Bool := numB a && (numB b && decide (a ≤ b))

set_option maxHeartbeats 400000 in
theorem c_isNumber (n : Int) (w : World) : Calls Try.prog 26 #[.int .i64 n] w fun e w' => e = .returned (.bool (numB n)) ∧ w = w' := by
  by_cases h0 : 0 ≤ n <;> by_cases h9 : n ≤ 9
  all_goals
    go_enter Try.func26, Try.ntmps26
    go_wp2
    go_ret
    exact ⟨by simp [numB, h0, h9], rfl⟩

set_option maxHeartbeats 400000 in
theorem c_l1In (n lo hi : Int) (w : World) : Calls Try.prog 11 #[.int .i64 n, .int .i64 lo, .int .i64 hi] w fun e w' => e = .returned (.bool (decide (lo ≤ n) && decide (n ≤ hi))) ∧ w = w' := by
  by_cases h0 : lo ≤ n <;> by_cases h9 : n ≤ hi
  all_goals
    go_enter Try.func11, Try.ntmps11
    go_wp2
    go_ret
    exact ⟨by simp [h0, h9], rfl⟩

def bothNum (a b : Int) : Bool := numB a && numB b
def ofLow (a b : Int) : Int := if bothNum a b then min a b else 0
def ofHigh (a b : Int) : Int := if bothNum a b then max a b else 0
end Go.Proofs.Ytiebilemlolhcaa

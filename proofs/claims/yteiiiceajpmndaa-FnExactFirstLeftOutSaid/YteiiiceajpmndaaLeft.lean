/- The least number of tiles left out of a set. -/
import Derived.Test.YteiiiceajpmndaaSet
namespace Go.Proofs.Yteiiiceajpmndaa
open Go.RowKit
set_option linter.unusedVariables false

def leftV (n : Int) : Int := if numB n then (if n % 2 = 0 then 0 else (n - 1) / 2) else 0

set_option maxHeartbeats 1000000 in
theorem c_whLeft (n : Int) (w : World) (h : numB n = true) : Calls Try.prog 61 #[.int .i64 n] w fun e w' => e = .returned (.int .i64 (leftV n)) ∧ w = w' := by
  obtain ⟨m, hm, rfl⟩ := numB_nat h
  have h9 : m = 0 ∨ m = 1 ∨ m = 2 ∨ m = 3 ∨ m = 4 ∨ m = 5 ∨ m = 6 ∨ m = 7 ∨ m = 8 ∨ m = 9 := by omega
  clear h hm
  rcases h9 with rfl | rfl | rfl | rfl | rfl | rfl | rfl | rfl | rfl | rfl
  all_goals
    go_enter Try.func61, Try.ntmps61
    go_wp2
    go_ret
    exact ⟨rfl, rfl⟩

set_option maxHeartbeats 1000000 in
theorem c_specLeastLeft (n : Int) (w : World) : Calls Try.prog 24 #[.int .i64 n] w fun e w' => e = .returned (.tuple #[.int .i64 (leftV n), .bool (numB n)]) ∧ Below w.heap.size w w' := by
  by_cases h : numB n = true
  · have con := Lib.hid (c_whLeft n w h)
    rw [h]
    go_enter Try.func24, Try.ntmps24
    go_wp2_with (first | (go_at_call 60; refine (c_tiNumber _ _).mono ?_; rintro e w' ⟨rfl, rfl⟩) | (go_at_call 61; refine con.out.mono ?_; rintro e w' ⟨rfl, rfl⟩))
    go_returns
    exact ⟨rfl, Below.refl _ _⟩
  · have h' : numB n = false := by simpa using h
    have e1 : leftV n = 0 := by simp [leftV, h']
    rw [e1, h']
    clear h e1
    go_enter Try.func24, Try.ntmps24
    go_wp2_with (go_at_call 60; refine (c_tiNumber _ _).mono ?_; rintro e w' ⟨rfl, rfl⟩)
    go_returns
    exact ⟨rfl, Below.refl _ _⟩

set_option maxHeartbeats 1000000 in
theorem c_implLeastLeft (n : Int) (w : World) : Calls Try.prog 25 #[.int .i64 n] w fun e w' => e = .returned (.tuple #[.int .i64 (leftV n), .bool (numB n)]) ∧ Below w.heap.size w w' := by
  by_cases h : numB n = true
  · obtain ⟨m, hm, rfl⟩ := numB_nat h
    have h9 : m = 0 ∨ m = 1 ∨ m = 2 ∨ m = 3 ∨ m = 4 ∨ m = 5 ∨ m = 6 ∨ m = 7 ∨ m = 8 ∨ m = 9 := by omega
    clear h hm
    rcases h9 with rfl | rfl | rfl | rfl | rfl | rfl | rfl | rfl | rfl | rfl
    all_goals
      go_enter Try.func25, Try.ntmps25
      go_wp2_with (go_at_call 62; refine (c_isNumber _ _).mono ?_; rintro e w' ⟨rfl, rfl⟩)
      go_returns
      exact ⟨rfl, Below.refl _ _⟩
  · have h' : numB n = false := by simpa using h
    have e1 : leftV n = 0 := by simp [leftV, h']
    rw [e1, h']
    clear h e1
    go_enter Try.func25, Try.ntmps25
    go_wp2_with (go_at_call 62; refine (c_isNumber _ _).mono ?_; rintro e w' ⟨rfl, rfl⟩)
    go_returns
    exact ⟨rfl, Below.refl _ _⟩

end Go.Proofs.Yteiiiceajpmndaa

/- Ratios compared by the laws. -/
import Derived.Test.YtiebilemlolhcaaHelp
namespace Go.Proofs.Ytiebilemlolhcaa
open Go.RowKit
set_option linter.unusedVariables false

set_option maxHeartbeats 400000 in
theorem c_eqRatio_same (a b : Int) (w : World) : Calls Try.prog 9 #[.agg #[.int .i64 a, .int .i64 b], .agg #[.int .i64 a, .int .i64 b]] w fun e w' => e = .returned (.bool true) ∧ Below w.heap.size w w' := by
  have h0 : (a != a) = false := by simp
  have h1 : (b != b) = false := by simp
  go_enter Try.func9, Try.ntmps9
  go_wp2
  go_ret
  exact ⟨rfl, by go_grown⟩

end Go.Proofs.Ytiebilemlolhcaa

/- The program's sums, sides and answers on windows. -/
import Derived.Test.YtepedcdnaodhcaaWinI
import Derived.Test.YtepedcdnaodhcaaWinU
namespace Go.Proofs.Ytepedcdnaodhcaa
open Go.RowKit
set_option linter.unusedVariables false

theorem sums_sides {f : Nat → Int} {xs : List Int} (hf : ∀ i, f i = xs.getD i 0) : sumsL (fun i j => f ((2 * i + j) % 8)) 4 3 = sidesTo xs 4 := by
  unfold sumsL sidesTo
  refine List.map_congr_left fun i hi => ?_
  have hi4 := List.mem_range.1 hi
  simp only [sumF, sideV, hf]
  rw [show (2 * i + 0) % 8 = 2 * i from by omega, show (2 * i + 1) % 8 = 2 * i + 1 from by omega]
  omega

end Go.Proofs.Ytepedcdnaodhcaa

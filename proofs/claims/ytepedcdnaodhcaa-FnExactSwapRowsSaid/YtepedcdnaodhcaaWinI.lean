/- The program's windows. -/
import Derived.Test.YtepedcdnaodhcaaWinA
import Derived.Laws.Cover3
namespace Go.Proofs.Ytepedcdnaodhcaa
open Go.RowKit
set_option linter.unusedVariables false

def winF (xs : List Int) (i : Nat) : Int := if winB xs then xs.getD i 0 else 0

theorem winF_no {xs : List Int} (h : winB xs = false) (i : Nat) : winF xs i = 0 := by simp [winF, h]

theorem winF_yes {xs : List Int} (h : winB xs = true) (i : Nat) : winF xs i = xs.getD i 0 := by simp [winF, h]

def spinF (f : Nat → Int) (k i : Nat) : Int := f ((2 * k + i) % 8)

def mirF (f : Nat → Int) (i : Nat) : Int := f ((9 - i) % 8)

end Go.Proofs.Ytepedcdnaodhcaa

/- Where a tile stands in a hand. -/
import Derived.Test.YtiebilemlolhcaaTile
namespace Go.Proofs.Ytiebilemlolhcaa
open Go.RowKit
set_option linter.unusedVariables false

def eqTS (xs ys : List (Int × Int)) : Bool := decide (xs = ys)
end Go.Proofs.Ytiebilemlolhcaa

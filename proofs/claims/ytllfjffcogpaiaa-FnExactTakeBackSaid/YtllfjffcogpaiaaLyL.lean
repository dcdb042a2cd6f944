/- How long the answers are. -/
import Derived.Test.YtllfjffcogpaiaaLySp
namespace Go.Proofs.Ytllfjffcogpaiaa
open Go.RowKit
set_option linter.unusedVariables false

theorem brdArms_len (ps : List (Int × Int × Int)) : (brdD ps).arms.length ≤ 110 := by have := (brdD_ok ps).four; omega
def laidHL (ps : List (Int × Int × Int)) : List (Int × Int) := (brdD ps).ps.map tileOf
theorem laidHL_len (ps : List (Int × Int × Int)) : (laidHL ps).length ≤ 110 := by unfold laidHL; rw [List.length_map]; have := (brdD_ok ps).len; omega
theorem c_specLaidH (A : Option Addr) (c : Nat) (ps : List (Int × Int × Int)) (w : World) (hr : RdP w A ps) (hl : ps.length ≤ 1048576) :
    Calls Try.prog 26 #[.slice A ps.length c] w (RetT w (laidHL ps) (okL ps)) := c_specLaid A c ps w hr hl
theorem c_implLaidH (A : Option Addr) (c : Nat) (ps : List (Int × Int × Int)) (w : World) (hr : RdP w A ps) (hl : ps.length ≤ 1048576) :
    Calls Try.prog 27 #[.slice A ps.length c] w (RetT w (laidHL ps) (okL ps)) := c_implLaid A c ps w hr hl
end Go.Proofs.Ytllfjffcogpaiaa

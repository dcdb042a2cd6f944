/- What is told of a list of plays: the program's. -/
import Derived.Test.YtnnkdnleencofabBrdO
namespace Go.Proofs.Ytnnkdnleencofab
open Go.RowKit
set_option linter.unusedVariables false

set_option maxRecDepth 100000 in
set_option maxHeartbeats 1000000 in
theorem c_implIsSpread (A : Option Addr) (c : Nat) (ps : List (Int × Int × Int)) (w : World) (hr : RdP w A ps) (hl : ps.length ≤ 1048576) :
    Calls Try.prog 72 #[.slice A ps.length c] w fun e w' => e = .returned (.bool (okL ps)) ∧ Below w.heap.size w w' := by
  have con := Lib.hid (c_boardOf A c ps w hr hl)
  clear hr
  go_enter Try.func72, Try.ntmps72
  go_wp2_with (go_at_call 103; refine con.out.mono ?_; rintro e w1 ⟨A1, c1, D1, d1, rfl, ho1, ha1, hb1⟩)
  go_ret
  exact ⟨rfl, Below.trans hb1 ((Below.refl _ _).alloc hb1.size _)⟩

theorem brd_zero {ps : List (Int × Int × Int)} (h : okL ps = false) : sumL (brdD ps).ps.length (brdD ps).arms = 0 ∧ ptsL (brdD ps).ps.length (brdD ps).arms = 0 ∧ (brdD ps).fives = 0 := by
  rw [brdD_no h]
  exact ⟨rfl, rfl, rfl⟩
end Go.Proofs.Ytnnkdnleencofab

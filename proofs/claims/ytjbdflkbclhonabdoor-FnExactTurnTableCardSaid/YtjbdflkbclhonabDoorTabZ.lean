/- IsLayout on both sides. -/
import Derived.Test.YtjbdflkbclhonabDoorTabY
namespace Go.Proofs.YtjbdflkbclhonabDoor
open Go.RowKit
set_option linter.unusedVariables false

def isLay (s t : ByteArray) : Bool := tabB s && layT (widK true s) (cellsK true s).length t
def RetIL (w : World) (s t : ByteArray) (e : Ending) (w' : World) : Prop := e = .returned (.tuple #[.bool (isLay s t), .bool (tabB s)]) ∧ Below w.heap.size w w'
theorem tab_grid {s : ByteArray} (h : tabB s = true) : gridB s = true := by unfold tabB at h; rw [Bool.and_eq_true] at h; exact h.1
theorem tab_small {s : ByteArray} (h : tabB s = true) : 0 < widK true s ∧ widK true s ≤ 30 ∧ (cellsK true s).length ≤ 30 ∧ 2 ≤ (cellsK true s).length ∧ hgtK true s ≤ 30 ∧ (cellsK true s).length = hgtK true s * widK true s := by
  have hg := tab_grid h
  have hgd := hgt_div hg
  have hgk := gridB_ok hg
  have hp := hgk.pos
  have hr := hgt_rows hg
  have e : widK true s = widR (rowsOf s) := rfl
  have e2 : (cellsK true s).length = (rowsOf s).flatten.length := rfl
  have e3 : hgtK true s = (rowsOf s).length := rfl
  have h1 := Nat.le_mul_of_pos_right (rowsOf s).length hgd.2.1
  refine ⟨hgd.2.1, by omega, hgd.2.2, by omega, ?_, by rw [e3]; exact hr⟩
  rw [e3]
  omega
end Go.Proofs.YtjbdflkbclhonabDoor

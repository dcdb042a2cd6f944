/- The tiles of a hand that are no doubles. -/
import Derived.Test.YtcofambcicnonaaPick
import Derived.Test.YtcofambcicnonaaApp
namespace Go.Proofs.Ytcofambcicnonaa
open Go.RowKit
set_option linter.unusedVariables false

/-- No double. -/
def wdB (t : Int × Int) : Bool := decide (t.1 ≠ t.2)
def wdL (us : List (Int × Int)) : List (Int × Int) := us.filter wdB
def wdTo (us : List (Int × Int)) (k : Nat) : List (Int × Int) := (us.take k).filter wdB
theorem wdTo_yes {us : List (Int × Int)} {k : Nat} (hk : k < us.length) (h : wdB us[k] = true) : wdTo us (k + 1) = wdTo us k ++ [us[k]] := by
  unfold wdTo
  rw [List.take_succ_eq_append_getElem hk, List.filter_append]
  simp [h]
theorem wdTo_no {us : List (Int × Int)} {k : Nat} (hk : k < us.length) (h : ¬ wdB us[k] = true) : wdTo us (k + 1) = wdTo us k := by
  unfold wdTo
  rw [List.take_succ_eq_append_getElem hk, List.filter_append]
  simp [h]
theorem wdTo_len (us : List (Int × Int)) (k : Nat) : (wdTo us k).length ≤ us.length := Nat.le_trans (List.length_filter_le _ _) (by simp; omega)
theorem wdTo_all (us : List (Int × Int)) : wdTo us us.length = wdL us := by unfold wdTo wdL; rw [List.take_length]
/-- No double: the lower number stands first. -/
def pnB (t : Int × Int) : Bool := decide (t.1 < t.2)
def pnL (us : List (Int × Int)) : List (Int × Int) := us.filter pnB
def pnTo (us : List (Int × Int)) (k : Nat) : List (Int × Int) := (us.take k).filter pnB
theorem pnTo_yes {us : List (Int × Int)} {k : Nat} (hk : k < us.length) (h : pnB us[k] = true) : pnTo us (k + 1) = pnTo us k ++ [us[k]] := by
  unfold pnTo
  rw [List.take_succ_eq_append_getElem hk, List.filter_append]
  simp [h]
theorem pnTo_no {us : List (Int × Int)} {k : Nat} (hk : k < us.length) (h : ¬ pnB us[k] = true) : pnTo us (k + 1) = pnTo us k := by
  unfold pnTo
  rw [List.take_succ_eq_append_getElem hk, List.filter_append]
  simp [h]
theorem pnTo_len (us : List (Int × Int)) (k : Nat) : (pnTo us k).length ≤ us.length := Nat.le_trans (List.length_filter_le _ _) (by simp; omega)
theorem pnTo_all (us : List (Int × Int)) : pnTo us us.length = pnL us := by unfold pnTo pnL; rw [List.take_length]

end Go.Proofs.Ytcofambcicnonaa

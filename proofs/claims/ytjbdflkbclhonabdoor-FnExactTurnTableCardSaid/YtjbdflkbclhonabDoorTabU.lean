/- Tables: their sizes and how often they have a number, on both sides. -/
import Derived.Test.YtjbdflkbclhonabDoorTabT
namespace Go.Proofs.YtjbdflkbclhonabDoor
open Go.RowKit
set_option linter.unusedVariables false

def RetSz (w : World) (s : ByteArray) (e : Ending) (w' : World) : Prop := e = .returned (.tuple #[.int .i64 (widK (tabB s) s), .int .i64 (hgtK (tabB s) s), .bool (tabB s)]) ∧ Below w.heap.size w w'

def countU (L : List UInt8) (n : Int) (k : Nat) : Nat := ((digL L).take k).count n
theorem countU_zero (L : List UInt8) (n : Int) : countU L n 0 = 0 := rfl
theorem countU_yes {L : List UInt8} {n : Int} {k : Nat} (h : k < L.length) (e : (L[k].toNat : Int) - 48 = n) : countU L n (k + 1) = countU L n k + 1 := by
  have h' : k < (digL L).length := by rw [digL_len]; exact h
  have e2 : (digL L)[k] = n := by simp [digL, e]
  unfold countU
  rw [List.take_succ_eq_append_getElem h', e2, List.count_append]
  simp
theorem countU_no {L : List UInt8} {n : Int} {k : Nat} (h : k < L.length) (e : ¬ (L[k].toNat : Int) - 48 = n) : countU L n (k + 1) = countU L n k := by
  have h' : k < (digL L).length := by rw [digL_len]; exact h
  have e2 : (digL L)[k] = (L[k].toNat : Int) - 48 := by simp [digL]
  unfold countU
  rw [List.take_succ_eq_append_getElem h', e2, List.count_append]
  simp [e]
theorem countU_le (L : List UInt8) (n : Int) (k : Nat) : countU L n k ≤ L.length := by
  unfold countU
  have h1 := List.count_le_length (a := n) (l := (digL L).take k)
  rw [List.length_take, digL_len] at h1
  omega
def numV (s : ByteArray) (n : Int) : Nat := if tabB s && numB n then countU (cellsK true s) n (cellsK true s).length else 0
def RetNm (w : World) (s : ByteArray) (n : Int) (e : Ending) (w' : World) : Prop := e = .returned (.tuple #[.int .i64 (numV s n), .bool (tabB s && numB n)]) ∧ Below w.heap.size w w'
end Go.Proofs.YtjbdflkbclhonabDoor

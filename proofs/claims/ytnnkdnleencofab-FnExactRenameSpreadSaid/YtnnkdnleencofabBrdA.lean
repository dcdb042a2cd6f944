/- A play added, plays taken back: the program's. -/
import Derived.Test.YtnnkdnleencofabBrdT
namespace Go.Proofs.Ytnnkdnleencofab
open Go.RowKit
set_option linter.unusedVariables false

def addB (ps : List (Int × Int × Int)) (p : Int × Int × Int) : Bool := okL ps && fitsL (brdD ps) p
def addHL (ps : List (Int × Int × Int)) (p : Int × Int × Int) : List (Int × Int × Int) := if addB ps p then ps ++ [p] else []
theorem addHL_len (ps : List (Int × Int × Int)) (p : Int × Int × Int) : (addHL ps p).length ≤ 110 := by
  unfold addHL
  split
  · rename_i h
    unfold addB at h
    rw [Bool.and_eq_true] at h
    have h1 := ((brdD_ok ps).with_ h.2).len
    have h2 : (withL (brdD ps) p).ps = ps ++ [p] := by
      have := brdD_ps h.1
      simp only [withL, this]
    rw [h2] at h1
    omega
  · simp

theorem Try.field_brd (A : Option Addr) (n c : Nat) (q r : Value) (W : World) : (Instr.field 94 (.agg #[.slice A n c, q, r]) 0).run Try.prog W = .ok (.slice A n c) W := by kernel_rfl

def backB (ps : List (Int × Int × Int)) (n : Int) : Bool := okL ps && (decide (0 ≤ n) && decide (n ≤ ps.length))
def backHL (ps : List (Int × Int × Int)) (n : Int) : List (Int × Int × Int) := if backB ps n then ps.take (ps.length - n.toNat) else []
theorem backHL_len (ps : List (Int × Int × Int)) (n : Int) : (backHL ps n).length ≤ 110 := by
  unfold backHL
  split
  · rename_i h
    unfold backB at h
    rw [Bool.and_eq_true] at h
    have h1 := (brdD_ok ps).len
    rw [brdD_ps h.1] at h1
    simp
    omega
  · simp
end Go.Proofs.Ytnnkdnleencofab

/- Whole sets, tile by tile. -/
import Derived.Test.YtjbdflkbclhonaaHelp
namespace Go.Proofs.Ytjbdflkbclhonaa
open Go.RowKit
set_option linter.unusedVariables false

/-- The tiles with low number lo and high numbers from lo up to before hi. -/
def rowL (lo hi : Nat) : List (Int × Int) := (List.range (hi - lo)).map fun i => ((lo : Int), ((lo + i : Nat) : Int))
/-- The first k rows of the set of n. -/
def setP (n k : Nat) : List (Int × Int) := (List.range k).flatMap fun lo => rowL lo (n + 1)
def setL (n : Nat) : List (Int × Int) := setP n (n + 1)
theorem rowL_self (lo : Nat) : rowL lo lo = [] := by simp [rowL]
theorem rowL_step {lo hi : Nat} (h : lo ≤ hi) : rowL lo (hi + 1) = rowL lo hi ++ [((lo : Int), (hi : Int))] := by
  unfold rowL
  rw [show hi + 1 - lo = (hi - lo) + 1 from by omega, List.range_succ, List.map_append]
  simp
  omega
theorem setP_step (n k : Nat) : setP n (k + 1) = setP n k ++ rowL k (n + 1) := by
  unfold setP
  rw [List.range_succ, List.flatMap_append]
  simp
theorem rowL_len (lo hi : Nat) : (rowL lo hi).length = hi - lo := by simp [rowL]
theorem setP_len {n : Nat} (hn : n ≤ 9) : ∀ k, k ≤ n + 1 → (setP n k ++ rowL k (n + 1)).length ≤ 10 * (k + 1)
  | 0, _ => by simp [setP, rowL_len]; omega
  | k + 1, h => by
    have := setP_len hn k (by omega)
    rw [setP_step, List.length_append, rowL_len]
    omega
/-- k rows, and the next one up to before h. -/
def setQ (n k h : Nat) : List (Int × Int) := setP n k ++ rowL k h
theorem setQ_self (n k : Nat) : setQ n k k = setP n k := by simp [setQ, rowL_self]
theorem setQ_step {n k h : Nat} (hk : k ≤ h) : setQ n k (h + 1) = setQ n k h ++ [((k : Int), (h : Int))] := by simp [setQ, rowL_step hk]
theorem setQ_all (n k : Nat) : setQ n k (n + 1) = setP n (k + 1) := (setP_step n k).symm
theorem setQ_len {n k h : Nat} (hn : n ≤ 9) (hk : k ≤ n) (hh : h ≤ n + 1) : (setQ n k h).length ≤ 110 := by
  have := setP_len hn k (by omega)
  unfold setQ
  simp only [List.length_append, rowL_len] at *
  omega
theorem setL_len {n : Nat} (hn : n ≤ 9) : (setL n).length ≤ 110 := by
  have := setP_len hn (n + 1) (Nat.le_refl _)
  unfold setL
  rw [List.length_append] at this
  omega

theorem numB_nat {n : Int} (h : numB n = true) : ∃ m : Nat, m ≤ 9 ∧ n = m := by
  simp only [numB, Bool.and_eq_true, decide_eq_true_eq] at h
  exact ⟨n.toNat, by omega, by omega⟩
def setOfL (n : Int) : List (Int × Int) := if numB n then setL n.toNat else []
theorem setOfL_len (n : Int) : (setOfL n).length ≤ 110 := by
  unfold setOfL
  split
  · rename_i h
    obtain ⟨m, hm, rfl⟩ := numB_nat h
    exact setL_len hm
  · simp
end Go.Proofs.Ytjbdflkbclhonaa

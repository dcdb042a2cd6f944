/- Numbers of ways, and ratios in lowest terms. No function of the program is named here. -/
import Derived.Test.YtiebilemlolhcaaSet
namespace Go.Proofs.Ytiebilemlolhcaa
open Go.RowKit
set_option linter.unusedVariables false

/-- The ways to take i of so many things, as they are reckoned step by step. -/
def chF (many : Nat) : Nat → Nat
  | 0 => 1
  | i + 1 => chF many i * (many - i) / (i + 1)
def chV (many : Nat) (k : Int) : Nat := if 0 ≤ k ∧ k ≤ many then chF many k.toNat else 0

theorem chF_all : ((List.range 29).all fun m => (List.range (m + 1)).all fun i => decide (chF m i ≤ 40116600)) = true := by decide +kernel
theorem chF_bd {m i : Nat} (hm : m ≤ 28) (hi : i ≤ m) : chF m i ≤ 40116600 := by
  have h := List.all_eq_true.1 chF_all m (List.mem_range.2 (by omega))
  exact of_decide_eq_true (List.all_eq_true.1 h i (List.mem_range.2 (by omega)))
theorem ch_step {x a m j : Nat} (h : x ≤ 40116600) (ha : m - j ≤ 28) (hj : j ≤ m) : (x : Int) * ((m : Int) - (j : Int)) ≤ 1123264800 ∧ 0 ≤ (x : Int) * ((m : Int) - (j : Int)) := by
  rw [← Int.ofNat_sub hj, ← Int.natCast_mul]
  have := Nat.mul_le_mul h ha
  omega
theorem chF_int {m j : Nat} (hj : j ≤ m) : (chF m (j + 1) : Int) = (chF m j : Int) * ((m : Int) - (j : Int)) / ((j : Int) + 1) := by
  rw [← Int.ofNat_sub hj, ← Int.natCast_mul, show (j : Int) + 1 = ((j + 1 : Nat) : Int) from rfl, ← Int.natCast_ediv]
  rfl
theorem chV_bd {m : Nat} (hm : m ≤ 28) (k : Int) : chV m k ≤ 40116600 := by
  unfold chV
  split
  · exact chF_bd hm (by omega)
  · omega
theorem chV_none {m : Nat} {k : Int} (h : ¬ (0 ≤ k ∧ k ≤ m)) : chV m k = 0 := if_neg h
theorem chV_nat {m k : Nat} (h : k ≤ m) : chV m (k : Int) = chF m k := by unfold chV; rw [if_pos ⟨by omega, by omega⟩]; rfl

/-- The number of tiles of a set. -/
def tilesN (n : Nat) : Nat := (n + 1) * (n + 2) / 2
theorem tilesN_bd {n : Nat} (h : n ≤ 6) : 1 ≤ tilesN n ∧ tilesN n ≤ 28 ∧ n + 1 ≤ tilesN n := by
  have h9 : n = 0 ∨ n = 1 ∨ n = 2 ∨ n = 3 ∨ n = 4 ∨ n = 5 ∨ n = 6 := by omega
  rcases h9 with rfl | rfl | rfl | rfl | rfl | rfl | rfl <;> decide
theorem setL_tiles {n : Nat} (h : n ≤ 6) : (setL n).length = tilesN n := by
  have h9 : n = 0 ∨ n = 1 ∨ n = 2 ∨ n = 3 ∨ n = 4 ∨ n = 5 ∨ n = 6 := by omega
  rcases h9 with rfl | rfl | rfl | rfl | rfl | rfl | rfl <;> decide
def goodD (n k : Int) : Bool := (decide (0 ≤ n) && decide (n ≤ 6)) && (decide (0 ≤ k) && decide (k ≤ tilesN n.toNat))
theorem goodD_nat {n k : Int} (h : goodD n k = true) : ∃ a b : Nat, n = a ∧ k = b ∧ a ≤ 6 ∧ b ≤ tilesN a := by
  simp only [goodD, Bool.and_eq_true, decide_eq_true_eq] at h
  exact ⟨n.toNat, k.toNat, by omega, by omega, by omega, by omega⟩
theorem goodD_of {a b : Nat} (h1 : a ≤ 6) (h2 : b ≤ tilesN a) : goodD a b = true := by
  simp only [goodD, Bool.and_eq_true, decide_eq_true_eq, Int.toNat_natCast]; omega

/-- A ratio in lowest terms. -/
def rat (a b : Nat) : Int × Int := (((a / Nat.gcd a b : Nat) : Int), ((b / Nat.gcd a b : Nat) : Int))
def ratV (ok : Bool) (r : Int × Int) : Int × Int := if ok then r else (0, 0)
theorem wrap_div {a p : Nat} (h : a ≤ 4611686018427387904) : wrap64 ((a : Int) / (p : Int)) = (a : Int) / (p : Int) := by
  have h1 : ((a / p : Nat) : Int) = (a : Int) / (p : Int) := Int.natCast_ediv a p
  have h2 := Nat.div_le_self a p
  rw [← h1]
  clear h1
  generalize a / p = q at *
  exact IntWalk.wrap64_in _ (by omega)
theorem gcd_pos_r {a b : Nat} (hb : 1 ≤ b) : 1 ≤ Nat.gcd a b := Nat.gcd_pos_of_pos_right a hb

/-- A kind of tiles all of which are given: the ways to take the others alone. -/
theorem chF_self_all : ((List.range 29).all fun m => decide (chF m m = 1)) = true := by decide +kernel
theorem chF_self {m : Nat} (h : m ≤ 28) : chF m m = 1 := of_decide_eq_true (List.all_eq_true.1 chF_self_all m (List.mem_range.2 (by omega)))
theorem chV_self {m : Nat} (h : m ≤ 28) : chV m (m : Int) = 1 := by rw [chV_nat (Nat.le_refl _), chF_self h]
theorem chV_zero (m : Nat) : chV m 0 = 1 := by rw [show (0 : Int) = ((0 : Nat) : Int) from rfl, chV_nat (Nat.zero_le _)]; rfl
theorem one_tile_all : ((List.range 7).all fun n => (List.range (tilesN n + 1)).all fun k => decide (rat (chV 1 1 * chV (tilesN n - 1) ((k : Int) - 1)) (chV (tilesN n) k) = rat k (tilesN n))) = true := by decide +kernel
theorem one_tile {n k : Nat} (hn : n ≤ 6) (hk : k ≤ tilesN n) : rat (chV 1 1 * chV (tilesN n - 1) ((k : Int) - 1)) (chV (tilesN n) k) = rat k (tilesN n) := by
  have h := List.all_eq_true.1 one_tile_all n (List.mem_range.2 (by omega))
  exact of_decide_eq_true (List.all_eq_true.1 h k (List.mem_range.2 (by omega)))
theorem chV_pos_all : ((List.range 29).all fun m => (List.range (m + 1)).all fun i => decide (1 ≤ chF m i)) = true := by decide +kernel
theorem chV_pos {m k : Nat} (hm : m ≤ 28) (hk : k ≤ m) : 1 ≤ chV m (k : Int) := by
  rw [chV_nat hk]
  have h := List.all_eq_true.1 chV_pos_all m (List.mem_range.2 (by omega))
  exact of_decide_eq_true (List.all_eq_true.1 h k (List.mem_range.2 (by omega)))
/-- Hands with an opening are not more than all. -/
theorem open_all : ((List.range 7).all fun n => (List.range (tilesN n + 1)).all fun k => decide (chV (n + 1) 0 * chV (tilesN n - (n + 1)) k ≤ chV (tilesN n) k)) = true := by decide +kernel
theorem open_le {n k : Nat} (hn : n ≤ 6) (hk : k ≤ tilesN n) : chV (n + 1) 0 * chV (tilesN n - (n + 1)) k ≤ chV (tilesN n) k := by
  have h := List.all_eq_true.1 open_all n (List.mem_range.2 (by omega))
  exact of_decide_eq_true (List.all_eq_true.1 h k (List.mem_range.2 (by omega)))
end Go.Proofs.Ytiebilemlolhcaa

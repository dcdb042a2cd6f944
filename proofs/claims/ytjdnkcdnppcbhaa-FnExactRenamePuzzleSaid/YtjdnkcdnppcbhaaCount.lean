/- Counts over hands: pips, how often a number is in one, the numbers in one. -/
import Derived.Test.YtjdnkcdnppcbhaaMap
import Derived.Test.YtjdnkcdnppcbhaaSet
namespace Go.Proofs.Ytjdnkcdnppcbhaa
open Go.RowKit
set_option linter.unusedVariables false

def countV (n : Int) : Int := if numB n then (n + 1) * (n + 2) / 2 else 0
def pipsI (ts : List (Int × Int)) : Int := (ts.map fun t => t.1 + t.2).sum
theorem pipsI_step {ts : List (Int × Int)} {k : Nat} (h : k < ts.length) : pipsI (ts.take (k + 1)) = pipsI (ts.take k) + (ts[k].1 + ts[k].2) := by
  unfold pipsI
  rw [List.take_succ_eq_append_getElem h, List.map_append, List.sum_append]
  simp
theorem good_bd {a b : Int} (h : goodB a b = true) : 0 ≤ a ∧ a ≤ b ∧ b ≤ 9 := by
  simp only [goodB, numB, Bool.and_eq_true, decide_eq_true_eq] at h
  omega
theorem pipsI_bd {ts : List (Int × Int)} (hg : ∀ t ∈ ts, goodB t.1 t.2 = true) : ∀ k, k ≤ ts.length → 0 ≤ pipsI (ts.take k) ∧ pipsI (ts.take k) ≤ 18 * k
  | 0, _ => by simp [pipsI]
  | k + 1, h => by
    have h1 := pipsI_bd hg k (by omega)
    have h2 := good_bd (hg _ (List.getElem_mem (show k < ts.length by omega)))
    rw [pipsI_step (by omega)]
    omega
def okHN (ts : List (Int × Int)) (q : Int) : Bool := handB ts && numB q
def hitI (t : Int × Int) (q : Int) : Int := (if t.1 = q then 1 else 0) + (if t.2 = q then 1 else 0)
def timesI (ts : List (Int × Int)) (q : Int) : Int := (ts.map fun t => hitI t q).sum
theorem timesI_step {ts : List (Int × Int)} {k : Nat} {q : Int} (h : k < ts.length) : timesI (ts.take (k + 1)) q = timesI (ts.take k) q + hitI ts[k] q := by
  unfold timesI
  rw [List.take_succ_eq_append_getElem h, List.map_append, List.sum_append]
  simp
theorem hitI_bd (t : Int × Int) (q : Int) : 0 ≤ hitI t q ∧ hitI t q ≤ 2 := by
  unfold hitI
  split <;> split <;> omega
theorem timesI_bd (ts : List (Int × Int)) (q : Int) : ∀ k, k ≤ ts.length → 0 ≤ timesI (ts.take k) q ∧ timesI (ts.take k) q ≤ 2 * k
  | 0, _ => by simp [timesI]
  | k + 1, h => by
    have h1 := timesI_bd ts q k (by omega)
    have h2 := hitI_bd ts[k] q
    rw [timesI_step (by omega)]
    omega
def timesV (ts : List (Int × Int)) (q : Int) : Int := if handB ts && numB q then timesI ts q else 0
/-- The numbers below k that are in a hand. -/
def numsTo (ts : List (Int × Int)) (k : Nat) : List Int := ((List.range k).filter fun i : Nat => decide (0 < timesI ts (i : Int))).map fun i : Nat => (i : Int)
theorem numsTo_yes {ts : List (Int × Int)} {k : Nat} (h : 0 < timesI ts k) : numsTo ts (k + 1) = numsTo ts k ++ [(k : Int)] := by
  unfold numsTo
  rw [List.range_succ, List.filter_append, List.map_append]
  simp [h]
theorem numsTo_no {ts : List (Int × Int)} {k : Nat} (h : ¬ 0 < timesI ts k) : numsTo ts (k + 1) = numsTo ts k := by
  unfold numsTo
  rw [List.range_succ, List.filter_append]
  simp [h]
theorem numsTo_len (ts : List (Int × Int)) (k : Nat) : (numsTo ts k).length ≤ k := by
  unfold numsTo
  rw [List.length_map]
  exact Nat.le_trans (List.length_filter_le _ _) (by simp)
def numbersL (ts : List (Int × Int)) : List Int := if handB ts then numsTo ts 10 else []
theorem numbersL_len (ts : List (Int × Int)) : (numbersL ts).length ≤ 10 := by
  unfold numbersL
  split
  · exact numsTo_len ts 10
  · simp
theorem handB_good {ts : List (Int × Int)} (h : handB ts = true) : ts.length ≤ 55 ∧ ∀ t ∈ ts, goodB t.1 t.2 = true := ⟨(of_decide_eq_true h).1, (of_decide_eq_true h).2.1⟩

def pipsV (ts : List (Int × Int)) : Int := if handB ts then pipsI ts else 0

end Go.Proofs.Ytjdnkcdnppcbhaa

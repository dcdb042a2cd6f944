/- The tiles of a set that a hand misses. -/
import Derived.Test.YtcofambcicnonaaJoin
namespace Go.Proofs.Ytcofambcicnonaa
open Go.RowKit
set_option linter.unusedVariables false

def withinB (ts : List (Int × Int)) (n : Int) : Bool := decide (∀ t ∈ ts, t.2 ≤ n)
theorem within_bad {ts : List (Int × Int)} {n : Int} {k : Nat} (h : k < ts.length) (h1 : ¬ ts[k].2 ≤ n) : withinB ts n = false := decide_eq_false fun hp => h1 (hp _ (List.getElem_mem h))
theorem within_all {ts : List (Int × Int)} {n : Int} (h : ∀ j (hj : j < ts.length), ts[j].2 ≤ n) : withinB ts n = true := decide_eq_true fun t ht => by
  obtain ⟨j, hj, rfl⟩ := List.getElem_of_mem ht
  exact h j hj
def okMiss (ts : List (Int × Int)) (n : Int) : Bool := handB ts && numB n && withinB ts n
def missL (ts : List (Int × Int)) (n : Int) : List (Int × Int) := if okMiss ts n then pickL n.toNat ts false else []
theorem missL_len (ts : List (Int × Int)) (n : Int) : (missL ts n).length ≤ 110 := by
  unfold missL
  split
  · rename_i h
    simp only [okMiss, Bool.and_eq_true] at h
    obtain ⟨m, hm, rfl⟩ := numB_nat h.1.2
    exact pickL_len hm ts false
  · simp

set_option maxRecDepth 100000 in
theorem set_facts : ∀ n : Fin 10, sortL (setL n.1) = setL n.1 ∧ handB (setL n.1) = true := by decide +kernel
theorem set_sorted {n : Nat} (h : n ≤ 9) : sortL (setL n) = setL n := (set_facts ⟨n, by omega⟩).1
theorem set_hand {n : Nat} (h : n ≤ 9) : handB (setL n) = true := (set_facts ⟨n, by omega⟩).2

end Go.Proofs.Ytcofambcicnonaa

/- The tiles of a hand that have a number. -/
import Derived.Test.YtllfjffcogpaiacJoin
namespace Go.Proofs.Ytllfjffcogpaiac
open Go.RowKit Go.Maps Go.ChangeMaps
set_option linter.unusedVariables false

def hasN (n : Int) (t : Int × Int) : Bool := decide (t.1 = n) || decide (t.2 = n)
def okWith (ts : List (Int × Int)) (n : Int) : Bool := handB ts && numB n
def withL (ts : List (Int × Int)) (n : Int) : List (Int × Int) := if okWith ts n then (sortL ts).filter (hasN n) else []
theorem withL_len (ts : List (Int × Int)) (n : Int) : (withL ts n).length ≤ 110 := by
  unfold withL
  split
  · exact Nat.le_trans (List.length_filter_le _ _) (sortL_len ts)
  · simp
def passTo (us : List (Int × Int)) (f : Int × Int → Bool) (k : Nat) : List (Int × Int) := (us.take k).filter f
theorem passTo_yes {us : List (Int × Int)} {f : Int × Int → Bool} {k : Nat} (hk : k < us.length) (h : f us[k] = true) : passTo us f (k + 1) = passTo us f k ++ [us[k]] := by
  unfold passTo
  rw [List.take_succ_eq_append_getElem hk, List.filter_append]
  simp [h]
theorem passTo_no {us : List (Int × Int)} {f : Int × Int → Bool} {k : Nat} (hk : k < us.length) (h : f us[k] = false) : passTo us f (k + 1) = passTo us f k := by
  unfold passTo
  rw [List.take_succ_eq_append_getElem hk, List.filter_append]
  simp [h]
theorem passTo_len (us : List (Int × Int)) (f : Int × Int → Bool) (k : Nat) : (passTo us f k).length ≤ us.length := by
  unfold passTo
  exact Nat.le_trans (List.length_filter_le _ _) (by simp; omega)
theorem passTo_all (us : List (Int × Int)) (f : Int × Int → Bool) : passTo us f us.length = us.filter f := by simp [passTo]

/-- Struck so far: the map holds the tiles that pass, or that are still to come. -/
structure Strk (ts : List (Int × Int)) (f : Int × Int → Bool) (D : DataW Unit) (left : Lit → Bool) : Prop where
  hasD : ∀ t, wfT t → has D (kl t) = (decide (t ∈ ts) && (left (kl t) || f t))
  sub : ∀ t, wfT t → left (kl t) = true → t ∈ ts
theorem Strk.start {ts : List (Int × Int)} {f : Int × Int → Bool} {D : DataW Unit} (hD : ∀ t, wfT t → has D (kl t) = decide (t ∈ ts)) : Strk ts f D (has D) where
  hasD t ht := by rw [hD t ht]; by_cases h : t ∈ ts <;> simp [h]
  sub t ht h := by rw [hD t ht] at h; exact of_decide_eq_true h
theorem Strk.stay {ts : List (Int × Int)} {f : Int × Int → Bool} {D : DataW Unit} {left left' : Lit → Bool} (h : Strk ts f D left) {x : Int × Int} (hx : wfT x) (hf : f x = true) (hl : ∀ z, left' z = (left z && !z.sameKey (kl x))) : Strk ts f D left' where
  hasD t ht := by
    rw [h.hasD t ht, hl, kl_same ht hx]
    by_cases e : t = x
    · subst e
      simp [hf]
    · simp [e]
  sub t ht h2 := by
    rw [hl] at h2
    simp only [Bool.and_eq_true] at h2
    exact h.sub t ht h2.1
theorem Strk.strike {ts : List (Int × Int)} {f : Int × Int → Bool} {D : DataW Unit} {left left' : Lit → Bool} (h : Strk ts f D left) {x : Int × Int} (hx : wfT x) (hf : f x = false) (hl : ∀ z, left' z = (left z && !z.sameKey (kl x))) : Strk ts f (D.del (kl x)) left' where
  hasD t ht := by
    rw [hl, kl_same ht hx]
    by_cases e : t = x
    · subst e
      rw [has_del_same]
      simp [hf]
    · rw [has_del_other (fun h => e (kl_inj ht hx h)), h.hasD t ht]
      simp [e]
  sub t ht h2 := by
    rw [hl] at h2
    simp only [Bool.and_eq_true] at h2
    exact h.sub t ht h2.1
theorem Strk.done {ts : List (Int × Int)} {f : Int × Int → Bool} {D : DataW Unit} {left : Lit → Bool} (h : Strk ts f D left) (h0 : ∀ z, left z = false) (t : Int × Int) (ht : wfT t) : has D (kl t) = decide (t ∈ ts.filter f) := by
  rw [h.hasD t ht, h0]
  by_cases h1 : t ∈ ts <;> by_cases h2 : f t = true <;> simp [h1, h2]

end Go.Proofs.Ytllfjffcogpaiac

/- How many chains of a hand have so many tiles: the program's own. -/
import Derived.Test.YtcofambcicnonaaCsF
import Derived.Test.YtcofambcicnonaaMap
namespace Go.Proofs.Ytcofambcicnonaa
open Go Go.RowKit
set_option linter.unusedVariables false

def chB (H : List (Int × Int)) : Bool := handB H && decide (H.length ≤ 8)
def cntStep (cs : List Int) (c : List Int) : List Int := if 1 < c.length then cs.set (c.length - 2) (cs.getD (c.length - 2) 0 + 1) else cs
def cntL (n : Nat) (L : List (List Int)) : List Int := L.foldl cntStep (List.replicate n 0)
theorem cntL_snoc (n : Nat) (L : List (List Int)) (c : List Int) : cntL n (L ++ [c]) = cntStep (cntL n L) c := by
  unfold cntL
  rw [List.foldl_append]
  rfl
theorem cntStep_len (cs c : List Int) : (cntStep cs c).length = cs.length := by
  unfold cntStep
  split <;> simp
theorem cnt_inv (n : Nat) : ∀ (L : List (List Int)) (cs : List Int) (k : Nat), cs.length = n → (∀ j, 0 ≤ cs.getD j 0 ∧ cs.getD j 0 ≤ k) → (L.foldl cntStep cs).length = n ∧ ∀ j, 0 ≤ (L.foldl cntStep cs).getD j 0 ∧ (L.foldl cntStep cs).getD j 0 ≤ k + L.length
  | [], cs, k, h1, h2 => ⟨h1, fun j => by simpa using h2 j⟩
  | c :: L, cs, k, h1, h2 => by
    have h3 : ∀ j, 0 ≤ (cntStep cs c).getD j 0 ∧ (cntStep cs c).getD j 0 ≤ ((k + 1 : Nat) : Int) := by
      intro j
      have := h2 j
      unfold cntStep
      split
      · by_cases e : j = c.length - 2
        · subst e
          by_cases hlt : c.length - 2 < cs.length
          · rw [List.getD_eq_getElem?_getD, List.getElem?_set_self hlt]
            simp only [Option.getD_some]
            omega
          · rw [List.set_eq_of_length_le (by omega)]
            omega
        · rw [List.getD_eq_getElem?_getD, List.getElem?_set_ne (fun h => e h.symm), ← List.getD_eq_getElem?_getD]
          omega
      · omega
    have h4 := cnt_inv n L (cntStep cs c) (k + 1) (by rw [cntStep_len]; exact h1) h3
    refine ⟨h4.1, fun j => ?_⟩
    have := h4.2 j
    rw [List.length_cons]
    show 0 ≤ (L.foldl cntStep (cntStep cs c)).getD j 0 ∧ (L.foldl cntStep (cntStep cs c)).getD j 0 ≤ _
    push_cast at this ⊢
    omega
theorem cntL_inv (n : Nat) (L : List (List Int)) : (cntL n L).length = n ∧ ∀ j, 0 ≤ (cntL n L).getD j 0 ∧ (cntL n L).getD j 0 ≤ (L.length : Int) := by
  have := cnt_inv n L (List.replicate n 0) 0 (by simp) (fun j => by
    rw [List.getD_eq_getElem?_getD]
    by_cases h : j < n
    · simp [h]
    · rw [List.getElem?_eq_none (by simp; omega)]; simp)
  unfold cntL
  simpa using this

end Go.Proofs.Ytcofambcicnonaa

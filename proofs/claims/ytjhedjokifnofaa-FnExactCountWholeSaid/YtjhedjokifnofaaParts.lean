/- All parts of a hand: by the specification, group after group of what is left. -/
import Derived.Test.YtjhedjokifnofaaReach
import Derived.Test.YtjhedjokifnofaaNest
namespace Go.Proofs.Ytjhedjokifnofaa
open Go.RowKit
set_option linter.unusedVariables false

def lenV : Value → Nat
  | .slice _ n _ => n
  | _ => 0

/-- All parts together have no more tiles than the set of 9. -/
theorem sumTo_cons {α : Type} (t : List α) (tss : List (List α)) (k : Nat) : sumTo (t :: tss) (k + 1) = t.length + sumTo tss k := by simp [sumTo]
theorem sumTo_le {α : Type} {tss : List (List α)} {n : Nat} (h : ∀ t ∈ tss, t.length ≤ n) : ∀ k, sumTo tss k ≤ k * n := by
  intro k
  induction k with
  | zero => simp [sumTo]
  | succ k ih =>
    rcases Nat.lt_or_ge k tss.length with hlt | hge
    · rw [sumTo_step hlt, Nat.add_mul]
      have := h _ (List.getElem_mem hlt)
      have e1 : tss.getD k [] = tss[k] := by simp [hlt]
      rw [e1]
      omega
    · have e1 : sumTo tss (k + 1) = sumTo tss k := by
        unfold sumTo
        rw [List.take_of_length_le (by omega), List.take_of_length_le hge]
      rw [e1, Nat.add_mul]
      omega
theorem partsHL_bd (ts : List (Int × Int)) : (partsHL ts).length ≤ 10 ∧ sumTo (partsHL ts) (partsHL ts).length ≤ 1100 := by
  have h1 : (partsHL ts).length ≤ 10 := by
    unfold partsHL
    split
    · exact partsTo_len ts 10
    · simp
  have h2 : ∀ t ∈ partsHL ts, t.length ≤ 110 := by
    intro t ht
    unfold partsHL at ht
    split at ht
    · unfold partsL partsTo at ht
      obtain ⟨i, _, rfl⟩ := List.mem_map.1 (List.mem_filter.1 ht).1
      exact partAt_len ts _
    · simp at ht
  have := sumTo_le h2 (partsHL ts).length
  omega

end Go.Proofs.Ytjhedjokifnofaa

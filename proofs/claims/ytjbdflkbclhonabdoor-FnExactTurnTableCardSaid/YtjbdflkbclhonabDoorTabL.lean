/- Layouts, cell by cell: the other cell that a letter tells, on both sides. -/
import Derived.Test.YtjbdflkbclhonabDoorTabU
import Derived.BigQuiet
namespace Go.Proofs.YtjbdflkbclhonabDoor
open Go.RowKit
set_option linter.unusedVariables false

/-- The other cell that the letter b of cell i tells, in n cells, W in a row. -/
def othU (W n i : Nat) (b : UInt8) : Option Nat :=
  if b.toNat = 110 then (if W ≤ i then some (i - W) else none)
  else if b.toNat = 115 then (if i + W < n then some (i + W) else none)
  else if b.toNat = 101 then (if i % W + 1 < W then some (i + 1) else none)
  else if b.toNat = 119 then (if 0 < i % W then some (i - 1) else none)
  else none
def othI (W n i : Nat) (b : UInt8) : Int := match othU W n i b with | some j => (j : Int) | none => -1
def backU (b : UInt8) : Nat := if b.toNat = 110 then 115 else if b.toNat = 115 then 110 else if b.toNat = 101 then 119 else 101
/-- The pair that the letter of a cell tells. -/
def prU (W n i : Nat) (b : UInt8) : Nat × Nat := match othU W n i b with | some j => (min i j, max i j) | none => (0, 0)
def prB (W n i : Nat) (b : UInt8) : Bool := (othU W n i b).isSome
theorem oth_lt {W n i j : Nat} {b : UInt8} (hW : 0 < W) (hr : ∃ H, n = H * W) (hi : i < n) (h : othU W n i b = some j) : j < n ∧ j ≠ i := by
  unfold othU at h
  split at h
  · split at h
    · cases h; omega
    · cases h
  · split at h
    · split at h
      · cases h; omega
      · cases h
    · split at h
      · split at h
        · cases h
          obtain ⟨H, rfl⟩ := hr
          rename_i h1
          refine ⟨?_, by omega⟩
          have hd := Nat.div_add_mod i W
          have hq : i / W < H := (Nat.div_lt_iff_lt_mul hW).2 hi
          have hm : W * (i / W) + W ≤ H * W := by
            have := Nat.mul_le_mul_left W (Nat.succ_le_of_lt hq)
            rw [Nat.mul_succ, Nat.mul_comm W H] at this
            exact this
          omega
        · cases h
      · split at h
        · split at h
          · cases h
            rename_i h1
            have : i ≠ 0 := by rintro rfl; simp at h1
            omega
          · cases h
        · cases h
/-- The other cell tells this one just where its letter is the one back. -/
theorem oth_back {W n i j : Nat} {a b : UInt8} (hW : 0 < W) (hi : i < n) (hj : j < n) (h : othU W n i a = some j) : othU W n j b = some i ↔ b.toNat = backU a := by
  have hone : W = 1 → ∀ x, x % W = 0 := fun e x => by rw [e]; exact Nat.mod_one x
  unfold othU at h
  unfold backU
  by_cases a1 : a.toNat = 110
  · rw [if_pos a1] at h ⊢
    by_cases c1 : W ≤ i
    · rw [if_pos c1] at h
      cases h
      have m1 := hone
      unfold othU
      by_cases b1 : b.toNat = 110
      · simp only [b1, if_true]; split <;> simp <;> omega
      · by_cases b2 : b.toNat = 115
        · simp only [b2, if_true, if_neg (show ¬ (115 = 110) by decide)]
          rw [if_pos (by omega)]
          simp; omega
        · by_cases b3 : b.toNat = 101
          · simp only [b3, if_true]
            simp only [show ¬ (101 = 110) by decide, show ¬ (101 = 115) by decide, if_false]
            split
            · rename_i hh
              simp
              intro e
              have e1 : W = 1 := by omega
              have := m1 e1 (i - W)
              omega
            · simp
          · by_cases b4 : b.toNat = 119
            · simp only [b4]
              simp only [show ¬ (119 = 110) by decide, show ¬ (119 = 115) by decide, show ¬ (119 = 101) by decide, if_false, if_true]
              split
              · simp; omega
              · simp
            · simp [b1, b2, b3, b4]
    · rw [if_neg c1] at h; cases h
  · rw [if_neg a1] at h ⊢
    by_cases a2 : a.toNat = 115
    · rw [if_pos a2] at h ⊢
      by_cases c1 : i + W < n
      · rw [if_pos c1] at h
        cases h
        unfold othU
        by_cases b1 : b.toNat = 110
        · simp only [b1, if_true]
          rw [if_pos (by omega)]
          simp
        · by_cases b2 : b.toNat = 115
          · simp only [b2, if_true, if_neg (show ¬ (115 = 110) by decide)]
            split
            · simp; omega
            · simp
          · by_cases b3 : b.toNat = 101
            · simp only [b3]
              simp only [show ¬ (101 = 110) by decide, show ¬ (101 = 115) by decide, if_false, if_true]
              split
              · simp; omega
              · simp
            · by_cases b4 : b.toNat = 119
              · simp only [b4]
                simp only [show ¬ (119 = 110) by decide, show ¬ (119 = 115) by decide, show ¬ (119 = 101) by decide, if_false, if_true]
                split
                · rename_i hh
                  simp
                  intro e
                  have e1 : W = 1 := by omega
                  have := hone e1 (i + W)
                  omega
                · simp
              · simp [b1, b2, b3, b4]
      · rw [if_neg c1] at h; cases h
    · rw [if_neg a2] at h ⊢
      by_cases a3 : a.toNat = 101
      · rw [if_pos a3] at h ⊢
        by_cases c1 : i % W + 1 < W
        · rw [if_pos c1] at h
          cases h
          have hm : (i + 1) % W = i % W + 1 := by
            rw [Nat.add_mod, Nat.mod_eq_of_lt (show 1 < W by omega), Nat.mod_eq_of_lt c1]
          unfold othU
          by_cases b1 : b.toNat = 110
          · simp only [b1, if_true]
            split
            · simp; omega
            · simp
          · by_cases b2 : b.toNat = 115
            · simp only [b2, if_true, if_neg (show ¬ (115 = 110) by decide)]
              split
              · simp; omega
              · simp
            · by_cases b3 : b.toNat = 101
              · simp only [b3]
                simp only [show ¬ (101 = 110) by decide, show ¬ (101 = 115) by decide, if_false, if_true]
                split
                · simp; omega
                · simp
              · by_cases b4 : b.toNat = 119
                · simp only [b4]
                  simp only [show ¬ (119 = 110) by decide, show ¬ (119 = 115) by decide, show ¬ (119 = 101) by decide, if_false, if_true]
                  rw [if_pos (by omega)]
                  simp
                · simp [b1, b2, b3, b4]
        · rw [if_neg c1] at h; cases h
      · rw [if_neg a3] at h ⊢
        by_cases a4 : a.toNat = 119
        · rw [if_pos a4] at h
          by_cases c1 : 0 < i % W
          · rw [if_pos c1] at h
            cases h
            have hi0 : i ≠ 0 := by rintro rfl; simp at c1
            have hm : (i - 1) % W = i % W - 1 := by
              have hd := Nat.div_add_mod i W
              have e : i - 1 = W * (i / W) + (i % W - 1) := by omega
              have hlt := Nat.mod_lt i hW
              rw [e, Nat.mul_add_mod, Nat.mod_eq_of_lt (by omega)]
            have hlt := Nat.mod_lt i hW
            unfold othU
            by_cases b1 : b.toNat = 110
            · simp only [b1, if_true]
              split
              · simp; omega
              · simp
            · by_cases b2 : b.toNat = 115
              · simp only [b2, if_true, if_neg (show ¬ (115 = 110) by decide)]
                split
                · simp
                  intro e
                  have := hone (by omega) i
                  omega
                · simp
              · by_cases b3 : b.toNat = 101
                · simp only [b3]
                  simp only [show ¬ (101 = 110) by decide, show ¬ (101 = 115) by decide, if_false, if_true]
                  rw [if_pos (by omega)]
                  simp; omega
                · by_cases b4 : b.toNat = 119
                  · simp only [b4]
                    simp only [show ¬ (119 = 110) by decide, show ¬ (119 = 115) by decide, show ¬ (119 = 101) by decide, if_false, if_true]
                    split
                    · simp; omega
                    · simp
                  · simp [b1, b2, b3, b4]
          · rw [if_neg c1] at h; cases h
        · rw [if_neg a4] at h; cases h

theorem oth_n {W n i : Nat} {b : UInt8} (h : b.toNat = 110) : othU W n i b = if W ≤ i then some (i - W) else none := by unfold othU; rw [if_pos h]
theorem oth_s {W n i : Nat} {b : UInt8} (h : b.toNat = 115) : othU W n i b = if i + W < n then some (i + W) else none := by unfold othU; rw [if_neg (by omega), if_pos h]
theorem oth_e {W n i : Nat} {b : UInt8} (h : b.toNat = 101) : othU W n i b = if i % W + 1 < W then some (i + 1) else none := by unfold othU; rw [if_neg (by omega), if_neg (by omega), if_pos h]
theorem oth_w {W n i : Nat} {b : UInt8} (h : b.toNat = 119) : othU W n i b = if 0 < i % W then some (i - 1) else none := by unfold othU; rw [if_neg (by omega), if_neg (by omega), if_neg (by omega), if_pos h]
theorem oth_x {W n i : Nat} {b : UInt8} (h1 : b.toNat ≠ 110) (h2 : b.toNat ≠ 115) (h3 : b.toNat ≠ 101) (h4 : b.toNat ≠ 119) : othU W n i b = none := by unfold othU; rw [if_neg h1, if_neg h2, if_neg h3, if_neg h4]

end Go.Proofs.YtjbdflkbclhonabDoor

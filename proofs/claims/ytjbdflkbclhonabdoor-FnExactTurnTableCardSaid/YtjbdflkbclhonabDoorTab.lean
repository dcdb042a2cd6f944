/- Tables as lists: rows of the same length, their cells one after another; places of tiles; layouts. -/
import Derived.Test.YtjbdflkbclhonabDoorTWords
namespace Go.Proofs.YtjbdflkbclhonabDoor
open Go.RowKit
set_option linter.unusedVariables false

/-- Rows of one length of at least 1, with an even number of cells, at most 30. -/
def evenR (R : List (List UInt8)) : Bool :=
  (R.all fun r => decide (r.length = (R.headD []).length)) && (decide (0 < (R.headD []).length) && (decide ((R.length * (R.headD []).length) % 2 = 0) && decide (R.length * (R.headD []).length ≤ 30)))
def rowsOf (s : ByteArray) : List (List UInt8) := rowsW s.data.toList
def gridB (s : ByteArray) : Bool := evenR (rowsOf s)
def widR (R : List (List UInt8)) : Nat := (R.headD []).length
def digB (b : UInt8) : Bool := decide (48 ≤ b.toNat) && decide (b.toNat ≤ 57)
def tabB (s : ByteArray) : Bool := gridB s && (rowsOf s).flatten.all digB
/-- The cells of a text, none of one that is no grid. -/
def cellsG (s : ByteArray) : List UInt8 := if gridB s then (rowsOf s).flatten else []
def widG (s : ByteArray) : Nat := if gridB s then widR (rowsOf s) else 0
def digL (L : List UInt8) : List Int := L.map fun b => (b.toNat : Int) - 48

theorem rowsOf_ne (s : ByteArray) : rowsOf s ≠ [] := rowsW_ne _
theorem sum_same {W : Nat} : ∀ (R : List (List UInt8)), (∀ r ∈ R, r.length = W) → (R.map List.length).sum = R.length * W
  | [], _ => by simp
  | r :: R, h => by
    have h1 := h r (by simp)
    have h2 := sum_same R fun x hx => h x (by simp [hx])
    simp only [List.map_cons, List.sum_cons, List.length_cons, h1, h2, Nat.succ_mul]
    omega
theorem flat_len {W : Nat} (R : List (List UInt8)) (h : ∀ r ∈ R, r.length = W) : R.flatten.length = R.length * W := by
  rw [List.length_flatten, sum_same R h]
theorem evenR_iff {R : List (List UInt8)} : evenR R = true ↔ (∀ r ∈ R, r.length = widR R) ∧ 0 < widR R ∧ (R.length * widR R) % 2 = 0 ∧ R.length * widR R ≤ 30 := by
  simp only [evenR, widR, Bool.and_eq_true, List.all_eq_true, decide_eq_true_eq]
theorem gridB_size {s : ByteArray} (h : gridB s = true) : s.size ≤ 59 := by
  obtain ⟨h1, h2, h3, h4⟩ := evenR_iff.1 h
  have hs := rowsW_size s.data.toList
  have e : (rowsW s.data.toList) = rowsOf s := rfl
  rw [e, sum_same _ h1] at hs
  have hsz : s.data.toList.length = s.size := by simp
  have hl : (rowsOf s).length ≤ (rowsOf s).length * widR (rowsOf s) := Nat.le_mul_of_pos_right _ h2
  omega
structure Gok (W : Nat) (L : List UInt8) : Prop where
  wid : 0 < W
  rows : ∃ H, 0 < H ∧ L.length = H * W
  even : L.length % 2 = 0
  most : L.length ≤ 30
theorem gridB_ok {s : ByteArray} (h : gridB s = true) : Gok (widR (rowsOf s)) (rowsOf s).flatten := by
  obtain ⟨h1, h2, h3, h4⟩ := evenR_iff.1 h
  have hl := flat_len _ h1
  exact ⟨h2, ⟨_, List.length_pos_iff.2 (rowsOf_ne s), hl⟩, by rw [hl]; exact h3, by rw [hl]; exact h4⟩
theorem Gok.div {W : Nat} {L : List UInt8} (h : Gok W L) : ∃ H, 0 < H ∧ L.length = H * W ∧ L.length / W = H := by
  obtain ⟨H, h0, h1⟩ := h.rows
  exact ⟨H, h0, h1, by rw [h1, Nat.mul_div_cancel _ h.wid]⟩
theorem Gok.pos {W : Nat} {L : List UInt8} (h : Gok W L) : 2 ≤ L.length ∧ W ≤ L.length := by
  obtain ⟨H, h0, h1⟩ := h.rows
  have h2 := h.even
  have h3 : W ≤ H * W := Nat.le_mul_of_pos_left _ h0
  have := h.wid
  omega
/-- The cells, the length of a row, the number of rows, where b says that there are some. -/
def cellsK (b : Bool) (s : ByteArray) : List UInt8 := if b then (rowsOf s).flatten else []
def widK (b : Bool) (s : ByteArray) : Nat := if b then widR (rowsOf s) else 0
def hgtK (b : Bool) (s : ByteArray) : Nat := if b then (rowsOf s).length else 0
theorem cellsK_no (s : ByteArray) : cellsK false s = [] := rfl
theorem widK_no (s : ByteArray) : widK false s = 0 := rfl
theorem hgtK_no (s : ByteArray) : hgtK false s = 0 := rfl
end Go.Proofs.YtjbdflkbclhonabDoor

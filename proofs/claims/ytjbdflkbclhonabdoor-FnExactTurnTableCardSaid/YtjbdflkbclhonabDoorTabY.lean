/- Layouts of a table: the program's pairsOf, the specification's taLayout; IsLayout of both. -/
import Derived.Test.YtjbdflkbclhonabDoorTabP
import Derived.Lib.AppendStr
namespace Go.Proofs.YtjbdflkbclhonabDoor
open Go.RowKit
set_option linter.unusedVariables false

/-- Whether a text is a layout of a grid of n cells, W in a row. -/
def layT (W n : Nat) (t : ByteArray) : Bool := gridB t && (decide (widK true t = W) && (decide ((cellsK true t).length = n) && layB W (cellsK true t)))
theorem layT_no {W n : Nat} {t : ByteArray} (h : gridB t = false) : layT W n t = false := by unfold layT; rw [h]; rfl
theorem layT_w {W n : Nat} {t : ByteArray} (h : widK true t ≠ W) : layT W n t = false := by unfold layT; rw [decide_eq_false h, Bool.false_and, Bool.and_false]
theorem layT_n {W n : Nat} {t : ByteArray} (h : (cellsK true t).length ≠ n) : layT W n t = false := by unfold layT; rw [decide_eq_false h, Bool.false_and, Bool.and_false, Bool.and_false]
theorem layT_lay {W n : Nat} {t : ByteArray} (h : gridB t = true) (hw : widK true t = W) (hn : (cellsK true t).length = n) : layT W n t = layB W (cellsK true t) := by unfold layT; rw [h, decide_eq_true hw, decide_eq_true hn]; simp

def RetPo (w : World) (W n : Nat) (t : ByteArray) (e : Ending) (w' : World) : Prop := RetPr w W (cellsK true t) (layT W n t) e w'
theorem pr_none (w : World) (W : Nat) (L : List UInt8) {w' : World} (hb : Below w.heap.size w w') : RetPr w W L false (.returned (.tuple #[.slice none 0 0, .bool false])) w' := ⟨none, 0, rfl, World.ownsRow_nil _ _ _ _, hb⟩

/-- The rows before k, one after another. -/
def rowTo (us : List ByteArray) (k : Nat) : List UInt8 := ((us.map (·.data.toList)).take k).flatten
theorem rowTo_zero (us : List ByteArray) : rowTo us 0 = [] := by simp [rowTo]
theorem rowTo_succ {us : List ByteArray} {k : Nat} (hk : k < us.length) : rowTo us (k + 1) = rowTo us k ++ us[k].data.toList := by
  unfold rowTo
  rw [List.take_succ_eq_append_getElem (by simpa using hk), List.flatten_append]
  simp
theorem rowTo_all {s : ByteArray} {us : List ByteArray} (h : us.map (·.data.toList) = rowsOf s) : rowTo us us.length = (rowsOf s).flatten := by
  unfold rowTo
  have e : (us.map (·.data.toList)).length = us.length := by simp
  rw [← e, List.take_length, h]
theorem rowTo_len {us : List ByteArray} {W : Nat} (h : ∀ k (hk : k < us.length), us[k].size ≤ W) : ∀ k, k ≤ us.length → (rowTo us k).length ≤ k * W
  | 0, _ => by simp [rowTo_zero]
  | k + 1, hk => by
    rw [rowTo_succ (by omega), List.length_append, Nat.succ_mul]
    have h1 := rowTo_len h k (by omega)
    have h2 := h k (by omega)
    have h3 : us[k].data.toList.length = us[k].size := by simp
    omega
def cellsU8 (L : List UInt8) : List Value := L.map fun b => Value.int .u8 (b.toNat : Int)
theorem cellsU8_append (a b : List UInt8) : cellsU8 (a ++ b) = cellsU8 a ++ cellsU8 b := by simp [cellsU8]
theorem cellsU8_len (a : List UInt8) : (cellsU8 a).length = a.length := by simp [cellsU8]
/-- A row of bytes of the call's own, read. -/
theorem ownU_at {w : World} {base : Nat} {A : Option Addr} {c : Nat} {L : List UInt8} (h : w.ownsRow base 5 1 (.slice A L.length c) L.length (cellsU8 L)) (h0 : 0 < L.length) :
    ∃ g, A = some ⟨g, 0, none⟩ ∧ base ≤ g ∧ g < w.heap.size ∧ ∀ k (hk : k < L.length), w.cell? ⟨g, k, none⟩ = some (.int .u8 (L[k].toNat : Int)) := by
  have h' := h
  obtain ⟨hl, ⟨hv, hn⟩ | ⟨g, cap, cur, hv, hb, hh, r⟩⟩ := h'
  · omega
  · cases hv
    refine ⟨g, rfl, hb, (Array.getElem?_eq_some_iff.1 hh).1, fun k hk => ?_⟩
    rw [h.cellAt k (by omega)]
    simp [cellsU8, hk]
def RetLt (w : World) (b : Bool) (t : ByteArray) (e : Ending) (w' : World) : Prop :=
  ∃ A c, e = .returned (.tuple #[.slice A (cellsK b t).length c, .bool b]) ∧ w'.ownsRow w.heap.size 5 1 (.slice A (cellsK b t).length c) (cellsK b t).length (cellsU8 (cellsK b t)) ∧ Below w.heap.size w w'
theorem lt_none (w : World) (t : ByteArray) {w' : World} (hb : Below w.heap.size w w') : RetLt w false t (.returned (.tuple #[.slice none 0 0, .bool false])) w' := ⟨none, 0, rfl, World.ownsRow_nil _ _ _ _, hb⟩
theorem Tryd.info_u8 : (Tryd.prog.info? 5).map (fun i => (i.zero, i.size, i.bytes)) = some (some (.int .u8 0), 1, 1) := by kernel_rfl
theorem hgt_rows {t : ByteArray} (h : gridB t = true) : (cellsK true t).length = (rowsOf t).length * widK true t := by
  obtain ⟨h1, h2, _⟩ := evenR_iff.1 h
  exact flat_len _ h1
/-- The letter of a cell and of the one that it tells, as the specification asks them. -/
theorem layAt_neg {W : Nat} {L : List UInt8} {i : Nat} (h : i < L.length) (ho : othU W L.length i L[i] = none) : layAt W L i = false := by
  unfold layAt
  rw [getD_at h, ho]
theorem layAt_some {W : Nat} {L : List UInt8} {i j : Nat} (h : i < L.length) (hj : j < L.length) (ho : othU W L.length i L[i] = some j) : layAt W L i = decide (L[j].toNat = backU L[i]) := by
  unfold layAt
  rw [getD_at h, ho]
  simp only
  rw [getD_at hj]
end Go.Proofs.YtjbdflkbclhonabDoor

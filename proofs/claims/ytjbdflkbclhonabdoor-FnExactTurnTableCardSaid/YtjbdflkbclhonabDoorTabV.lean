/- TilesOfLayout on both sides. -/
import Derived.Test.YtjbdflkbclhonabDoorTabX
namespace Go.Proofs.YtjbdflkbclhonabDoor
open Go.RowKit
set_option linter.unusedVariables false

def tilLay (s t : ByteArray) : List (Int × Int) := if isLay s t then tlP (digL (cellsK true s)) (prsTo (widK true s) (cellsK true t) (cellsK true t).length) else []
theorem rdU_own {w : World} {base : Nat} {A : Option Addr} {c : Nat} {L : List UInt8} (h : w.ownsRow base 5 1 (.slice A L.length c) L.length (cellsU8 L)) : RdU w A L := by
  by_cases h0 : 0 < L.length
  · obtain ⟨g, hA, _, _, hc⟩ := ownU_at h h0
    exact ⟨g, 0, fun _ => hA, fun k hk => by rw [Nat.zero_add]; exact hc k hk⟩
  · have : L = [] := List.length_eq_zero_iff.1 (by omega)
    subst this
    exact ⟨0, 0, fun h => absurd rfl h, fun k hk => by simp at hk⟩
theorem tab_dig {s : ByteArray} (h : tabB s = true) : ∀ b ∈ cellsK true s, digB b = true := by
  unfold tabB at h
  rw [Bool.and_eq_true] at h
  exact fun b hb => List.all_eq_true.1 h.2 b hb
theorem layT_yes {W n : Nat} {t : ByteArray} (h : layT W n t = true) : widK true t = W ∧ (cellsK true t).length = n ∧ layB W (cellsK true t) = true ∧ ∃ H, (cellsK true t).length = H * W := by
  unfold layT at h
  simp only [Bool.and_eq_true, decide_eq_true_eq] at h
  obtain ⟨h1, h2, h3, h4⟩ := h
  obtain ⟨H, _, hr⟩ := (gridB_ok h1).rows
  refine ⟨h2, h3, h4, H, ?_⟩
  rw [← h2]
  exact hr

theorem tilLay_len (s t : ByteArray) : (tilLay s t).length ≤ 60 := by
  unfold tilLay
  cases hi : isLay s t
  · simp
  · have h2 := hi
    unfold isLay at h2
    rw [Bool.and_eq_true] at h2
    obtain ⟨l1, l2, l3, l4⟩ := layT_yes h2.2
    have := (tab_small h2.1).2.2.1
    have := prsTo_len (widK true s) (cellsK true t) (cellsK true t).length
    rw [if_pos rfl, tlP_len]
    omega
end Go.Proofs.YtjbdflkbclhonabDoor

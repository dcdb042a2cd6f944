/- Whether a list of numbers is a chain: the program's own answer. -/
import Derived.Test.YtbanpgifhnbjoaaChain
namespace Go.Proofs.Ytbanpgifhnbjoaa
open Go.RowKit
set_option linter.unusedVariables false

theorem marks_add {g : Nat} {ts : List (Int × Int)} {w : World} {a b : Nat} (ha : a ≤ 9) (hb : b ≤ 9) (h : Marks g ts w) :
    Marks g (ts ++ [tile2 a b]) ((w.setCell ⟨g, a * 10 + b, none⟩ (.bool true)).setCell ⟨g, b * 10 + a, none⟩ (.bool true)) := by
  obtain ⟨h1, h2⟩ := h
  refine ⟨fun p q hp hq => ?_, fun m => by simp [h2]⟩
  have c1 := h1 a b ha hb
  have c2 := h1 b a hb ha
  by_cases e2 : p * 10 + q = b * 10 + a
  · have ep : p = b := by omega
    have eq : q = a := by omega
    subst ep eq
    have c3 : ∃ v, (w.setCell ⟨g, q * 10 + p, none⟩ (.bool true)).cell? ⟨g, p * 10 + q, none⟩ = some v := by
      by_cases e : p * 10 + q = q * 10 + p
      · rw [e, World.cell?_setCell_same _ _ _ c1]; exact ⟨_, rfl⟩
      · rw [World.cell?_setCell_other _ _ _ _ (by first | (simp; omega) | simp)]; exact ⟨_, c2⟩
    obtain ⟨v, c3⟩ := c3
    rw [World.cell?_setCell_same _ _ _ c3]
    simp [tile2_comm]
  · rw [World.cell?_setCell_other _ _ _ _ (by first | (simp; omega) | simp)]
    by_cases e1 : p * 10 + q = a * 10 + b
    · have ep : p = a := by omega
      have eq : q = b := by omega
      subst ep eq
      rw [World.cell?_setCell_same _ _ _ c1]
      simp
    · rw [World.cell?_setCell_other _ _ _ _ (by first | (simp; omega) | simp), h1 p q hp hq]
      have : ¬ tile2 (p : Int) q = tile2 (a : Int) b := by
        rw [tile2_eq]
        omega
      simp [this]

theorem marks_drew {g : Nat} {ts : List (Int × Int)} {w : World} (h : Marks g ts w) : Marks g ts w.drew := h
theorem frozen_new (w : World) (cs : Array Value) (t : TypeId) (m : Nat) : (w.alloc (.cells cs t)).frozen? ⟨w.heap.size, m, none⟩ = false := by
  unfold World.frozen? World.alloc
  simp
theorem zero_marks : Try.zeroCells102 = Array.replicate 100 (.bool false) := by kernel_rfl
theorem marks_fresh (w : World) : Marks w.heap.size [] (w.alloc (.cells Try.zeroCells102 102)) := by
  refine ⟨fun a b ha hb => ?_, fun m => frozen_new _ _ _ m⟩
  rw [cell_of_row _ _ _ _ _ _ (heap_alloc_new w _), zero_marks, Array.getElem?_replicate, if_pos (by omega)]
  simp
end Go.Proofs.Ytbanpgifhnbjoaa

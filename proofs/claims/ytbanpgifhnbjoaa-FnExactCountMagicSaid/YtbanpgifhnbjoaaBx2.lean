/- Boxes of two cells. No function of the program is named here. -/
import Derived.Test.YtbanpgifhnbjoaaLib
namespace Go.Proofs.Ytbanpgifhnbjoaa
open Go.RowKit
set_option linter.unusedVariables false

structure Bx2 (w : World) (b : Nat) (v0 v1 : Value) : Prop where
  c0 : w.cell? ⟨b, 0, none⟩ = some v0
  c1 : w.cell? ⟨b, 1, none⟩ = some v1
  fz : ∀ m, w.frozen? ⟨b, m, none⟩ = false

theorem bx2_frozen (w : World) (cs : Array Value) (t : TypeId) (m : Nat) : (w.alloc (.cells cs t)).frozen? ⟨w.heap.size, m, none⟩ = false := by
  unfold World.frozen? World.alloc
  simp

theorem cell_drew {w : World} (a : Addr) {v : Value} (h : w.cell? a = some v) : w.drew.cell? a = some v := h

section
variable {w w' : World} {b : Nat} {v0 v1 : Value}
theorem Bx2.lt (h : Bx2 w b v0 v1) : b < w.heap.size := block_lt h.c0
theorem Bx2.keep (h : Bx2 w b v0 v1) (hb : Below w.heap.size w w') : Bx2 w' b v0 v1 :=
  ⟨keepc hb h.c0, keepc hb h.c1, fun m => (hb.frozen (p := ⟨b, m, none⟩) h.lt).trans (h.fz m)⟩
theorem Bx2.fresh (w : World) (v0 v1 : Value) (t : TypeId) : Bx2 (w.alloc (.cells #[v0, v1] t)) w.heap.size v0 v1 := ⟨by simp, by simp, bx2_frozen w _ t⟩
theorem Bx2.more (h : Bx2 w b v0 v1) (o : Obj) : Bx2 (w.alloc o) b v0 v1 := h.keep ((Below.refl _ _).alloc (Nat.le_refl _) _)
theorem Bx2.drew (h : Bx2 w b v0 v1) : Bx2 w.drew b v0 v1 := ⟨h.c0, h.c1, h.fz⟩
theorem Bx2.stored {a : World} {b : Nat} {W : World} {u0 u1 : Value} (h : Below b a W) : Below b a ((W.setCell ⟨b, 0, none⟩ u0).setCell ⟨b, 1, none⟩ u1) := (h.setCell (Nat.le_refl _) _).setCell (Nat.le_refl _) _
end

theorem far2 {w : World} {a b i j j' : Nat} {v u u' : Value} (h : b ≠ a) (hc : w.cell? ⟨b, i, none⟩ = some v) : ((w.setCell ⟨a, j, none⟩ u).setCell ⟨a, j', none⟩ u').cell? ⟨b, i, none⟩ = some v :=
  (World.cell?_setCell_other _ _ _ _ (by simp <;> omega)).trans ((World.cell?_setCell_other _ _ _ _ (by simp <;> omega)).trans hc)

theorem grown_set2 (w : World) (b j : Nat) (u : Value) : w.grownBy (w.setCell ⟨b, j, none⟩ u) (some b) := ⟨rfl, rfl, rfl, by simp, fun k _ hk => Below.heap_setCell w ⟨b, j, none⟩ u k (fun e => hk (by simp [e]))⟩
theorem own_off2 {w : World} {base e sz n nb j : Nat} {v u : Value} {cs : List Value} (h : w.ownsRow base e sz v n cs) (hn : ∀ g, v.ownBlock = some g → g ≠ nb) : (w.setCell ⟨nb, j, none⟩ u).ownsRow base e sz v n cs := by
  refine World.ownsRow.kept h (grown_set2 w nb j u) ?_
  cases hv : v.ownBlock with
  | none => exact .inl rfl
  | some g => exact .inr fun e => hn g hv (Option.some.inj e)
end Go.Proofs.Ytbanpgifhnbjoaa

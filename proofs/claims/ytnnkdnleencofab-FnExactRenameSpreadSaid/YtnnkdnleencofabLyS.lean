/- The state of the specification: what lies in memory, and how it turns. -/
import Derived.Test.YtnnkdnleencofabCatA
import Derived.Test.YtnnkdnleencofabSpread
import Derived.OneCell
import Derived.Deep.AppendLies
namespace Go.Proofs.Ytnnkdnleencofab
open Go.RowKit
set_option linter.unusedVariables false

/-- Block g holds the state S; its two rows are the call's own (from base on), and lie apart from one another and from g. -/
structure StV (base : Nat) (w : World) (g : Nat) (A : Option Addr) (c : Nat) (B : Option Addr) (d : Nat) (S : SSt) : Prop where
  lo : base ≤ g
  c0 : w.cell? ⟨g, 0, none⟩ = some (.slice A S.arms.length c)
  c1 : w.cell? ⟨g, 1, none⟩ = some (.slice B S.tiles.length d)
  c2 : w.cell? ⟨g, 2, none⟩ = some (.int .i64 S.spin)
  c3 : w.cell? ⟨g, 3, none⟩ = some (.int .i64 S.waits)
  c4 : w.cell? ⟨g, 4, none⟩ = some (.bool S.first)
  c5 : w.cell? ⟨g, 5, none⟩ = some (.bool S.l0)
  c6 : w.cell? ⟨g, 6, none⟩ = some (.bool S.l1)
  live : ∀ m, w.frozen? ⟨g, m, none⟩ = false
  ao : w.ownsRow base 141 3 (.slice A S.arms.length c) S.arms.length (cellsA S.arms)
  bo : w.ownsRow base 30 2 (.slice B S.tiles.length d) S.tiles.length (cellsT S.tiles)
  ag : ∀ x, (Value.slice A S.arms.length c).ownBlock = some x → x ≠ g
  bg : ∀ x, (Value.slice B S.tiles.length d).ownBlock = some x → x ≠ g
  ab : ∀ x, (Value.slice A S.arms.length c).ownBlock = some x → (Value.slice B S.tiles.length d).ownBlock ≠ some x
def StAt (base : Nat) (w : World) (g : Nat) (S : SSt) : Prop := ∃ A c B d, StV base w g A c B d S

section
variable {base g c d : Nat} {w w' : World} {A B : Option Addr} {S : SSt}
theorem StV.lt (h : StV base w g A c B d S) : g < w.heap.size := block_lt h.c0
theorem StV.keep (h : StV base w g A c B d S) (hb : Below w.heap.size w w') : StV base w' g A c B d S :=
  ⟨h.lo, keepc hb h.c0, keepc hb h.c1, keepc hb h.c2, keepc hb h.c3, keepc hb h.c4, keepc hb h.c5, keepc hb h.c6, fun m => (hb.frozen (p := ⟨g, m, none⟩) h.lt).trans (h.live m), own_keep h.ao hb, own_keep h.bo hb, h.ag, h.bg, h.ab⟩
theorem StAt.keep (h : StAt base w g S) (hb : Below w.heap.size w w') : StAt base w' g S := by
  obtain ⟨A, c, B, d, h⟩ := h
  exact ⟨A, c, B, d, h.keep hb⟩
theorem StV.drew (h : StV base w g A c B d S) : StV base w.drew g A c B d S := h.keep (Below.refl _ _).drew
theorem StV.alloc (h : StV base w g A c B d S) (o : Obj) : StV base (w.alloc o) g A c B d S := h.keep ((Below.refl _ _).alloc (Nat.le_refl _) o)

/-- A store into g leaves the rows as they are. -/
theorem StV.rows (h : StV base w g A c B d S) (j : Nat) (u : Value) :
    (w.setCell ⟨g, j, none⟩ u).ownsRow base 141 3 (.slice A S.arms.length c) S.arms.length (cellsA S.arms) ∧ (w.setCell ⟨g, j, none⟩ u).ownsRow base 30 2 (.slice B S.tiles.length d) S.tiles.length (cellsT S.tiles) :=
  ⟨ownsRow_setCell_other h.ao (fun e => h.ag g e rfl) u, ownsRow_setCell_other h.bo (fun e => h.bg g e rfl) u⟩
theorem cell_set_ne {w : World} {g i j : Nat} {u : Value} (h : j ≠ i) : (w.setCell ⟨g, i, none⟩ u).cell? ⟨g, j, none⟩ = w.cell? ⟨g, j, none⟩ := World.cell?_setCell_other _ _ _ _ (by simp <;> omega)
theorem StV.spin_ (h : StV base w g A c B d S) (v : Int) : StV base (w.setCell ⟨g, 2, none⟩ (.int .i64 v)) g A c B d { S with spin := v } :=
  ⟨h.lo, (cell_set_ne (by omega)).trans h.c0, (cell_set_ne (by omega)).trans h.c1, World.cell?_setCell_same _ _ _ h.c2, (cell_set_ne (by omega)).trans h.c3, (cell_set_ne (by omega)).trans h.c4, (cell_set_ne (by omega)).trans h.c5, (cell_set_ne (by omega)).trans h.c6, fun m => by rw [World.frozen?_setCell]; exact h.live m, (h.rows _ _).1, (h.rows _ _).2, h.ag, h.bg, h.ab⟩
theorem StV.waits_ (h : StV base w g A c B d S) (v : Int) : StV base (w.setCell ⟨g, 3, none⟩ (.int .i64 v)) g A c B d { S with waits := v } :=
  ⟨h.lo, (cell_set_ne (by omega)).trans h.c0, (cell_set_ne (by omega)).trans h.c1, (cell_set_ne (by omega)).trans h.c2, World.cell?_setCell_same _ _ _ h.c3, (cell_set_ne (by omega)).trans h.c4, (cell_set_ne (by omega)).trans h.c5, (cell_set_ne (by omega)).trans h.c6, fun m => by rw [World.frozen?_setCell]; exact h.live m, (h.rows _ _).1, (h.rows _ _).2, h.ag, h.bg, h.ab⟩
theorem StV.first_ (h : StV base w g A c B d S) (v : Bool) : StV base (w.setCell ⟨g, 4, none⟩ (.bool v)) g A c B d { S with first := v } :=
  ⟨h.lo, (cell_set_ne (by omega)).trans h.c0, (cell_set_ne (by omega)).trans h.c1, (cell_set_ne (by omega)).trans h.c2, (cell_set_ne (by omega)).trans h.c3, World.cell?_setCell_same _ _ _ h.c4, (cell_set_ne (by omega)).trans h.c5, (cell_set_ne (by omega)).trans h.c6, fun m => by rw [World.frozen?_setCell]; exact h.live m, (h.rows _ _).1, (h.rows _ _).2, h.ag, h.bg, h.ab⟩
theorem StV.l0_ (h : StV base w g A c B d S) (v : Bool) : StV base (w.setCell ⟨g, 5, none⟩ (.bool v)) g A c B d { S with l0 := v } :=
  ⟨h.lo, (cell_set_ne (by omega)).trans h.c0, (cell_set_ne (by omega)).trans h.c1, (cell_set_ne (by omega)).trans h.c2, (cell_set_ne (by omega)).trans h.c3, (cell_set_ne (by omega)).trans h.c4, World.cell?_setCell_same _ _ _ h.c5, (cell_set_ne (by omega)).trans h.c6, fun m => by rw [World.frozen?_setCell]; exact h.live m, (h.rows _ _).1, (h.rows _ _).2, h.ag, h.bg, h.ab⟩
theorem StV.l1_ (h : StV base w g A c B d S) (v : Bool) : StV base (w.setCell ⟨g, 6, none⟩ (.bool v)) g A c B d { S with l1 := v } :=
  ⟨h.lo, (cell_set_ne (by omega)).trans h.c0, (cell_set_ne (by omega)).trans h.c1, (cell_set_ne (by omega)).trans h.c2, (cell_set_ne (by omega)).trans h.c3, (cell_set_ne (by omega)).trans h.c4, (cell_set_ne (by omega)).trans h.c5, World.cell?_setCell_same _ _ _ h.c6, fun m => by rw [World.frozen?_setCell]; exact h.live m, (h.rows _ _).1, (h.rows _ _).2, h.ag, h.bg, h.ab⟩

theorem cell_set_far {w : World} {g a i j : Nat} {u : Value} (h : a ≠ g) : (w.setCell ⟨a, i, none⟩ u).cell? ⟨g, j, none⟩ = w.cell? ⟨g, j, none⟩ := World.cell?_setCell_other _ _ _ _ (by simp <;> omega)
/-- A cell of the arms' row is written. -/
theorem StV.arm1 {a : Nat} (h : StV base w g (some ⟨a, 0, none⟩) c B d S) (j : Nat) (u : Value) (xs : List Value) (hx : w.ownsRow base 141 3 (.slice (some ⟨a, 0, none⟩) S.arms.length c) S.arms.length xs) :
    (w.setCell ⟨a, j, none⟩ u).ownsRow base 141 3 (.slice (some ⟨a, 0, none⟩) S.arms.length c) S.arms.length (xs.set j u) := (hx.stored _ _).1
/-- An arm is written. -/
theorem StV.arm_ {a : Nat} (h : StV base w g (some ⟨a, 0, none⟩) c B d S) {k : Nat} (hk : k < S.arms.length) (v : Int × Bool × Bool)
    (hput : (((cellsA S.arms).set (k * 3) (.int .i64 v.1)).set (k * 3 + 1) (.bool v.2.1)).set (k * 3 + 2) (.bool v.2.2) = cellsA (S.arms.set k v)) :
    StV base (((w.setCell ⟨a, k * 3, none⟩ (.int .i64 v.1)).setCell ⟨a, k * 3 + 1, none⟩ (.bool v.2.1)).setCell ⟨a, k * 3 + 2, none⟩ (.bool v.2.2)) g (some ⟨a, 0, none⟩) c B d { S with arms := S.arms.set k v } := by
  have hne : a ≠ g := h.ag a rfl
  have hab : (Value.slice B S.tiles.length d).ownBlock ≠ some a := h.ab a rfl
  have hl : (S.arms.set k v).length = S.arms.length := List.length_set
  have hc : ∀ j, (((w.setCell ⟨a, k * 3, none⟩ (.int .i64 v.1)).setCell ⟨a, k * 3 + 1, none⟩ (.bool v.2.1)).setCell ⟨a, k * 3 + 2, none⟩ (.bool v.2.2)).cell? ⟨g, j, none⟩ = w.cell? ⟨g, j, none⟩ := fun j => by
    rw [cell_set_far hne, cell_set_far hne, cell_set_far hne]
  refine ⟨h.lo, ?_, (hc _).trans h.c1, (hc _).trans h.c2, (hc _).trans h.c3, (hc _).trans h.c4, (hc _).trans h.c5, (hc _).trans h.c6, fun m => ?_, ?_, ?_, ?_, h.bg, ?_⟩
  · rw [hc, h.c0, hl]
  · rw [World.frozen?_setCell, World.frozen?_setCell, World.frozen?_setCell]; exact h.live m
  · rw [hl, ← hput]
    exact (World.ownsRow.stored (World.ownsRow.stored (h.ao.stored _ _).1 _ _).1 _ _).1
  · exact ownsRow_setCell_other (ownsRow_setCell_other (ownsRow_setCell_other h.bo hab _) hab _) hab _
  · rw [hl]; exact h.ag
  · rw [hl]; exact h.ab
/-- The tiles' row has grown, and g names the new one. -/
theorem StV.tiles_ {B' : Option Addr} {d' : Nat} (h : StV base w g A c B d S) (t : Int × Int) (hg : w.grownBy w' (Value.slice B S.tiles.length d).ownBlock)
    (hn : w'.ownsRow base 30 2 (.slice B' (S.tiles.length + 1) d') (S.tiles.length + 1) (cellsT (S.tiles ++ [t])))
    (hat : ∀ x, (Value.slice B' (S.tiles.length + 1) d').ownBlock = some x → (Value.slice B S.tiles.length d).ownBlock = some x ∨ w.heap.size ≤ x) :
    StV base (w'.setCell ⟨g, 1, none⟩ (.slice B' (S.tiles.length + 1) d')) g A c B' d' { S with tiles := S.tiles ++ [t] } := by
  have hl : (S.tiles ++ [t]).length = S.tiles.length + 1 := by simp
  have hne : (Value.slice B S.tiles.length d).ownBlock ≠ some g := fun e => h.bg g e rfl
  have hc : ∀ j v, w.cell? ⟨g, j, none⟩ = some v → w'.cell? ⟨g, j, none⟩ = some v := fun j v e => hg.cell e (fun e' => hne e'.symm)
  have hbg : ∀ x, (Value.slice B' (S.tiles.length + 1) d').ownBlock = some x → x ≠ g := fun x hx => by
    rcases hat x hx with e | e
    · exact h.bg x e
    · have := h.lt; omega
  have hao : w'.ownsRow base 141 3 (.slice A S.arms.length c) S.arms.length (cellsA S.arms) := h.ao.kept hg (by
    cases hA : (Value.slice A S.arms.length c).ownBlock with
    | none => exact .inl rfl
    | some x => exact .inr (fun e => h.ab x hA e.symm))
  have hlive : ∀ m, w'.frozen? ⟨g, m, none⟩ = false := fun m => (hg.frozen_far ⟨g, m, none⟩ h.lt (fun e' => hne e'.symm)).trans (h.live m)
  refine ⟨h.lo, (cell_set_ne (by omega)).trans (hc _ _ h.c0), ?_, (cell_set_ne (by omega)).trans (hc _ _ h.c2), (cell_set_ne (by omega)).trans (hc _ _ h.c3), (cell_set_ne (by omega)).trans (hc _ _ h.c4), (cell_set_ne (by omega)).trans (hc _ _ h.c5), (cell_set_ne (by omega)).trans (hc _ _ h.c6), fun m => ?_, ?_, ?_, h.ag, ?_, ?_⟩
  · rw [World.cell?_setCell_same _ _ _ (hc _ _ h.c1), hl]
  · rw [World.frozen?_setCell]; exact hlive m
  · exact ownsRow_setCell_other hao (fun e => h.ag g e rfl) _
  · rw [hl]; exact ownsRow_setCell_other hn (fun e => hbg g e rfl) _
  · rw [hl]; exact hbg
  · intro x hx e
    rw [hl] at e
    rcases hat x e with e' | e'
    · exact h.ab x hx e'
    · have := (h.ao.lt x hx).2; omega
/-- The arms' row is another one, and g names it. -/
theorem StV.arms_ {A' : Option Addr} {c' : Nat} (h : StV base w g A c B d S) (us : List (Int × Bool × Bool)) (row : Option Nat) (hg : w.grownBy w' row) (hrow : ∀ x, row = some x → (Value.slice A S.arms.length c).ownBlock = some x)
    (hn : w'.ownsRow base 141 3 (.slice A' us.length c') us.length (cellsA us))
    (hat : ∀ x, (Value.slice A' us.length c').ownBlock = some x → (Value.slice A S.arms.length c).ownBlock = some x ∨ w.heap.size ≤ x) :
    StV base (w'.setCell ⟨g, 0, none⟩ (.slice A' us.length c')) g A' c' B d { S with arms := us } := by
  have hne : some g ≠ row := fun e => h.ag g (hrow g e.symm) rfl
  have hc : ∀ j v, w.cell? ⟨g, j, none⟩ = some v → w'.cell? ⟨g, j, none⟩ = some v := fun j v e => hg.cell e hne
  have hag : ∀ x, (Value.slice A' us.length c').ownBlock = some x → x ≠ g := fun x hx => by
    rcases hat x hx with e | e
    · exact h.ag x e
    · have := h.lt; omega
  have hbo : w'.ownsRow base 30 2 (.slice B S.tiles.length d) S.tiles.length (cellsT S.tiles) := h.bo.kept hg (by
    cases hB : (Value.slice B S.tiles.length d).ownBlock with
    | none => exact .inl rfl
    | some x => exact .inr (fun e => h.ab x (hrow x e.symm) hB))
  refine ⟨h.lo, World.cell?_setCell_same _ _ _ (hc _ _ h.c0), (cell_set_ne (by omega)).trans (hc _ _ h.c1), (cell_set_ne (by omega)).trans (hc _ _ h.c2), (cell_set_ne (by omega)).trans (hc _ _ h.c3), (cell_set_ne (by omega)).trans (hc _ _ h.c4), (cell_set_ne (by omega)).trans (hc _ _ h.c5), (cell_set_ne (by omega)).trans (hc _ _ h.c6), fun m => ?_, ?_, ?_, hag, h.bg, ?_⟩
  · rw [World.frozen?_setCell]; exact (hg.frozen_far ⟨g, m, none⟩ h.lt hne).trans (h.live m)
  · exact ownsRow_setCell_other hn (fun e => hag g e rfl) _
  · exact ownsRow_setCell_other hbo (fun e => h.bg g e rfl) _
  · intro x hx e
    rcases hat x hx with e' | e'
    · exact h.ab x e' e
    · have := (h.bo.lt x e).2; omega
end
end Go.Proofs.Ytnnkdnleencofab

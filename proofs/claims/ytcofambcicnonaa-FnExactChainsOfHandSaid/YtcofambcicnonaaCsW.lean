/- All chains that have all tiles of a hand: the program's own. -/
import Derived.Test.YtcofambcicnonaaCsL
import Derived.Test.YtcofambcicnonaaOwnP
import Derived.Test.YtcofambcicnonaaRegR
namespace Go.Proofs.Ytcofambcicnonaa
open Go Go.RowKit
set_option linter.unusedVariables false

/-- The chains that have more numbers than a hand has tiles. -/
def fullL (m : Nat) (L : List (List Int)) : List (List Int) := L.filter fun c => decide (m < c.length)
theorem fullL_yes {m : Nat} {L : List (List Int)} {x : List Int} (h : m < x.length) : fullL m (L ++ [x]) = fullL m L ++ [x] := by
  unfold fullL
  rw [List.filter_append]
  simp [h]
theorem fullL_no {m : Nat} {L : List (List Int)} {x : List Int} (h : ¬ m < x.length) : fullL m (L ++ [x]) = fullL m L := by
  unfold fullL
  rw [List.filter_append]
  simp [h]
theorem fullL_pre {m : Nat} {L M : List (List Int)} (h : L <+: M) : (fullL m L).length ≤ (fullL m M).length := (h.filter _).length_le
/-- What comes back: the rows, and whether they were not too many. -/
def wholeL (M : Nat) (H : List (Int × Int)) : List (List Int) := if H.length = 0 then [] else if (fullL H.length (allC H)).length ≤ M then fullL H.length (allC H) else []
def wholeB (M : Nat) (H : List (Int × Int)) : Bool := decide (H.length = 0) || decide ((fullL H.length (allC H)).length ≤ M)
/-- Five boxes made one behind the other. -/
theorem five_new (w : World) (v1 v2 v3 v4 v5 : Value) (t1 t2 t3 t4 t5 : Nat) (h1 : v1.oneCell' = true) : ∀ w5, w5 = (((((w.alloc (.cells #[v1] t1)).alloc (.cells #[v2] t2)).alloc (.cells #[v3] t3)).alloc (.cells #[v4] t4)).alloc (.cells #[v5] t5)) →
    w5.heap.size = w.heap.size + 5 ∧ Below w.heap.size w w5 ∧ w5.cell? ⟨w.heap.size, 0, none⟩ = some v1 ∧ w5.cell? ⟨w.heap.size + 1, 0, none⟩ = some v2 ∧ w5.cell? ⟨w.heap.size + 2, 0, none⟩ = some v3 ∧ w5.cell? ⟨w.heap.size + 3, 0, none⟩ = some v4 ∧ w5.cell? ⟨w.heap.size + 4, 0, none⟩ = some v5 ∧
      ∀ k j, w.heap.size ≤ k → k < w.heap.size + 5 → w5.frozen? ⟨k, j, none⟩ = false := by
  rintro w5 rfl
  have nw : ∀ (W : World) (v : Value) (t n : Nat), W.heap.size = n → (W.alloc (.cells #[v] t)).cell? ⟨n, 0, none⟩ = some v ∧ (∀ j, (W.alloc (.cells #[v] t)).frozen? ⟨n, j, none⟩ = false) ∧ (W.alloc (.cells #[v] t)).heap.size = n + 1 := fun W v t n hn => by
    subst hn
    exact ⟨by simp, fun j => frozen_new W _ _ j, by simp⟩
  have kp : ∀ (W : World) (o : Obj) (k : Nat) (v : Value), W.cell? ⟨k, 0, none⟩ = some v → (∀ j, W.frozen? ⟨k, j, none⟩ = false) → (W.alloc o).cell? ⟨k, 0, none⟩ = some v ∧ ∀ j, (W.alloc o).frozen? ⟨k, j, none⟩ = false := fun W o k v h1 h2 => by
    have hb : Below W.heap.size W (W.alloc o) := (Below.refl _ _).alloc (Nat.le_refl _) _
    exact ⟨keepc hb h1, fun j => (hb.frozen (p := ⟨k, j, none⟩) (show k < _ from (block_lt h1 : k < W.heap.size))).trans (h2 j)⟩
  obtain ⟨a1, a2, a3⟩ := nw w v1 t1 _ rfl
  obtain ⟨b1, b2, b3⟩ := nw _ v2 t2 _ a3
  obtain ⟨c1, c2, c3⟩ := nw _ v3 t3 _ b3
  obtain ⟨d1, d2, d3⟩ := nw _ v4 t4 _ c3
  obtain ⟨e1, e2, e3⟩ := nw _ v5 t5 _ d3
  obtain ⟨a1, a2⟩ := kp _ (.cells #[v2] t2) _ _ a1 a2
  obtain ⟨a1, a2⟩ := kp _ (.cells #[v3] t3) _ _ a1 a2
  obtain ⟨b1, b2⟩ := kp _ (.cells #[v3] t3) _ _ b1 b2
  obtain ⟨a1, a2⟩ := kp _ (.cells #[v4] t4) _ _ a1 a2
  obtain ⟨b1, b2⟩ := kp _ (.cells #[v4] t4) _ _ b1 b2
  obtain ⟨c1, c2⟩ := kp _ (.cells #[v4] t4) _ _ c1 c2
  obtain ⟨a1, a2⟩ := kp _ (.cells #[v5] t5) _ _ a1 a2
  obtain ⟨b1, b2⟩ := kp _ (.cells #[v5] t5) _ _ b1 b2
  obtain ⟨c1, c2⟩ := kp _ (.cells #[v5] t5) _ _ c1 c2
  obtain ⟨d1, d2⟩ := kp _ (.cells #[v5] t5) _ _ d1 d2
  refine ⟨e3, ?_, a1, b1, c1, d1, e1, fun k j h1 h2 => ?_⟩
  · exact (((((Below.refl _ w).alloc (Nat.le_refl _) _).alloc (by simp) _).alloc (by simp; omega) _).alloc (by simp; omega) _).alloc (by simp; omega) _
  · rcases (by omega : k = w.heap.size ∨ k = w.heap.size + 1 ∨ k = w.heap.size + 1 + 1 ∨ k = w.heap.size + 1 + 1 + 1 ∨ k = w.heap.size + 1 + 1 + 1 + 1) with e | e | e | e | e
    · subst e; exact a2 j
    · subst e; exact b2 j
    · subst e; exact c2 j
    · subst e; exact d2 j
    · subst e; exact e2 j

def allHL (H : List (Int × Int)) : List (List Int) := if chB H then wholeL 300 H else []
def allHB (H : List (Int × Int)) : Bool := chB H && wholeB 300 H

end Go.Proofs.Ytcofambcicnonaa

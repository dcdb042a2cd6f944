/- The search for chains: what the program does with its memory. -/
import Derived.Test.YtbanpgifhnbjoaaCsS
import Derived.Test.YtbanpgifhnbjoaaIter
import Derived.Test.YtbanpgifhnbjoaaBx2
import Derived.Test.YtbanpgifhnbjoaaClr
import Derived.Deep.Cut
import Derived.BigQuiet
import Derived.Maps.AppendAt
import Derived.Deep.RegionHeld3
namespace Go.Proofs.Ytbanpgifhnbjoaa
open Go.RowKit
set_option linter.unusedVariables false

/-- One number appended, and where the row lies then. -/
theorem wp_append_int_at {w : World} {ops : Array Oper} {rest : List Oper} {o : Oper} {a : Act} {Q : Exit → Act → World → Prop} (hgd : o.guard = none) (s x : Operand)
    (ho : o.op = .call { callee := .builtin .append, args := #[s, x], argTypes := #[39, 39] }) (base : Nat) (v : Value) (xs : List Int) (hs : a.eval s = v)
    (hown : w.ownsRow base 3 1 v xs.length (cellsI xs)) (p : Int) (g : Nat) (hx : a.eval x = .slice (some ⟨g, 0, none⟩) 1 1)
    (h0 : w.cell? ⟨g, 0, none⟩ = some (.int .i64 p)) (hlen : xs.length ≤ 4194304) (hbase : base ≤ w.heap.size)
    (h : ∀ A c w', w'.ownsRow base 3 1 (.slice A (xs.length + 1) c) (xs.length + 1) (cellsI (xs ++ [p])) → w.grownBy w' v.ownBlock → ((Value.slice A (xs.length + 1) c).ownBlock = v.ownBlock ∨ (Value.slice A (xs.length + 1) c).ownBlock = some w.heap.size) → wpList Try.prog ops Q rest (a.put o.dst (.slice A (xs.length + 1) c)) w') :
    wpList Try.prog ops Q (o :: rest) a w := by
  obtain ⟨i0, hi, hz0, hz1, hz2⟩ := info_parts Try.info_int
  refine wpList_append_own_at w hgd s x 39 ho base 3 i0 _ 1 8 Try.underlying39 hi hz0 hz1 hz2 rfl (by decide) v xs.length (cellsI xs) hs (by simpa using hown) ⟨g, 0, none⟩ 1 1 [.int .i64 p] hx rfl ?_ ?_ (by unfold maxLen; omega) (by omega) hbase ?_
  · intro j u hj
    match j, hj with
    | 0, hj => simp at hj; subst hj; simpa [Addr.add] using h0
  · intro u hu
    simp at hu
    rcases hu with rfl; rfl
  · intro v' w' h1 h2 _ hat
    have h1' := h1
    obtain ⟨_, ⟨_, hn⟩ | ⟨g', cap, cur, rfl, _⟩⟩ := h1'
    · omega
    refine h _ _ w' ?_ h2 hat
    rw [cellsI_append]
    exact h1

theorem MkAt.at1 {g off : Nat} {f : Nat → Nat → Bool} {w : World} (h : MkAt g off f w) {a b : Nat} (ha : a ≤ 9) (hb : b ≤ 9) : w.cell? ⟨g, off + a * 10 + b, none⟩ = some (.bool (f a b)) := by
  rw [Nat.add_assoc]; exact h.m a b ha hb
theorem MkAt.set1 {g off : Nat} {f f' : Nat → Nat → Bool} {w : World} {p q : Nat} {v : Bool} (h : MkAt g off f w) (hp : p ≤ 9) (hq : q ≤ 9)
    (hf : ∀ a b : Nat, f' a b = if tile2 (a : Int) b = tile2 (p : Int) q then v else f a b) :
    MkAt g off f' ((w.setCell ⟨g, off + p * 10 + q, none⟩ (.bool v)).setCell ⟨g, off + q * 10 + p, none⟩ (.bool v)).drew := by
  have := h.set hp hq hf
  rw [← Nat.add_assoc, ← Nat.add_assoc] at this
  exact ⟨this.m, this.fz⟩

set_option maxRecDepth 100000 in
set_option maxHeartbeats 2000000 in
theorem c_marksSet1 (g a b : Nat) (ha : a ≤ 9) (hb : b ≤ 9) (v u1 u2 : Bool) (w : World) (h1 : w.cell? ⟨g, 1 + a * 10 + b, none⟩ = some (.bool u1)) (h2 : w.cell? ⟨g, 1 + b * 10 + a, none⟩ = some (.bool u2)) (hf : ∀ m, w.frozen? ⟨g, m, none⟩ = false) :
    Calls Try.prog 100 #[.pointer (some ⟨g, 1, none⟩), .int .i64 a, .int .i64 b, .bool v] w fun e w' => e = .returned (.tuple #[]) ∧ w' = ((w.setCell ⟨g, 1 + a * 10 + b, none⟩ (.bool v)).setCell ⟨g, 1 + b * 10 + a, none⟩ (.bool v)).drew := by
  have i0 : (0 : Int) ≤ (a : Int) := by omega
  have i1 : (a : Int) < 10 := by omega
  have i2 : (0 : Int) ≤ (b : Int) := by omega
  have i3 : (b : Int) < 10 := by omega
  have f1 := hf (1 + a * 10 + b)
  have f2 := hf (1 + b * 10 + a)
  obtain ⟨v', hy⟩ := cell?_setCell_some (w := w.drew) (p := ⟨g, 1 + a * 10 + b, none⟩) (x := .bool v) (q := ⟨g, 1 + b * 10 + a, none⟩) (v := .bool u2) h2
  obtain ⟨v2, hy2⟩ := cell?_setCell_some (w := w) (p := ⟨g, 1 + a * 10 + b, none⟩) (x := .bool v) (q := ⟨g, 1 + b * 10 + a, none⟩) (v := .bool u2) h2
  go_enter Try.func100, Try.ntmps100
  go_wp2
  go_region
  all_goals
    go_end0
    exact ⟨rfl, rfl⟩

end Go.Proofs.Ytbanpgifhnbjoaa

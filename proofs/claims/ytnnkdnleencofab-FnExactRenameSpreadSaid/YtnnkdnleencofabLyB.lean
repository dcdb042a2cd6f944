/- One tile, or two arms, appended at a step of a region that draws its order; where the new row lies. -/
import Derived.Test.YtnnkdnleencofabLyS
import Derived.Test.YtnnkdnleencofabBrdN
import Derived.Test.YtnnkdnleencofabRegS
namespace Go.Proofs.Ytnnkdnleencofab
open Go.RowKit
set_option linter.unusedVariables false

theorem step_tileL {w : World} {ops : Array Oper} {o : Oper} {a : Act} {K : Act → World → Prop} {Q : Exit → Act → World → Prop} {E : Prop} (hgd : o.guard = none) (s x : Operand)
    (ho : o.op = .call { callee := .builtin .append, args := #[s, x], argTypes := #[37, 37] }) (base : Nat) (v : Value) (ts : List (Int × Int)) (hs : a.eval s = v)
    (hown : w.ownsRow base 30 2 v ts.length (cellsT ts)) (p q : Int) (g : Nat) (hx : a.eval x = .slice (some ⟨g, 0, none⟩) 1 1)
    (h0 : w.cell? ⟨g, 0, none⟩ = some (.int .i64 p)) (h1 : w.cell? ⟨g, 1, none⟩ = some (.int .i64 q)) (hlen : ts.length ≤ 4194304) (hbase : base ≤ w.heap.size)
    (h : ∀ G c w', w'.ownsRow base 30 2 (.slice (some ⟨G, 0, none⟩) (ts.length + 1) c) (ts.length + 1) (cellsT (ts ++ [(p, q)])) → w.grownBy w' v.ownBlock → (v.ownBlock = some G ∨ G = w.heap.size) → K (a.put o.dst (.slice (some ⟨G, 0, none⟩) (ts.length + 1) c)) w') :
    if Region.wanted o (yielded ops a.tmps) = true then Oper.wp Try.prog o a w K Q else E := by
  obtain ⟨i0, hi, hz0, hz1, hz2⟩ := info_parts Try.info_tile
  refine step_append_lies w hgd s x 37 ho base 30 i0 _ 2 16 Try.underlying37 hi hz0 hz1 hz2 rfl (by decide) v ts.length (cellsT ts) hs hown ⟨g, 0, none⟩ 1 1 [.int .i64 p, .int .i64 q] hx rfl ?_ ?_ (by decide) (by unfold maxLen; omega) (by omega) hbase _ rfl ?_
  · intro j u hj
    match j, hj with
    | 0, hj => simp at hj; subst hj; simpa [Addr.add] using h0
    | 1, hj => simp at hj; subst hj; simpa [Addr.add] using h1
  · intro u hu
    simp at hu
    rcases hu with rfl | rfl <;> rfl
  · intro G c w' h2 h3 h4 _
    refine h G c w' ?_ h3 h4
    rw [cellsT_append]
    exact h2

theorem step_armsL {w : World} {ops : Array Oper} {o : Oper} {a : Act} {K : Act → World → Prop} {Q : Exit → Act → World → Prop} {E : Prop} (hgd : o.guard = none) (s x : Operand)
    (ho : o.op = .call { callee := .builtin .append, args := #[s, x], argTypes := #[92, 92] }) (base : Nat) (v : Value) (ts : List (Int × Bool × Bool)) (n : Nat) (hn : ts.length = n) (hs : a.eval s = v)
    (hown : w.ownsRow base 141 3 v n (cellsA ts)) (p : Int) (b c0 : Bool) (g : Nat) (hx : a.eval x = .slice (some ⟨g, 0, none⟩) 2 2)
    (h0 : w.cell? ⟨g, 0, none⟩ = some (.int .i64 p)) (h1 : w.cell? ⟨g, 1, none⟩ = some (.bool b)) (h2 : w.cell? ⟨g, 2, none⟩ = some (.bool c0)) (h3 : w.cell? ⟨g, 3, none⟩ = some (.int .i64 p)) (h4 : w.cell? ⟨g, 4, none⟩ = some (.bool b)) (h5 : w.cell? ⟨g, 5, none⟩ = some (.bool c0)) (hlen : n ≤ 4194304) (hbase : base ≤ w.heap.size)
    (h : ∀ G c w', w'.ownsRow base 141 3 (.slice (some ⟨G, 0, none⟩) (n + 2) c) (n + 2) (cellsA (ts ++ [(p, b, c0), (p, b, c0)])) → w.grownBy w' v.ownBlock → (v.ownBlock = some G ∨ G = w.heap.size) → K (a.put o.dst (.slice (some ⟨G, 0, none⟩) (n + 2) c)) w') :
    if Region.wanted o (yielded ops a.tmps) = true then Oper.wp Try.prog o a w K Q else E := by
  obtain ⟨i0, hi, hz0, hz1, hz2⟩ := info_parts Try.info_A
  refine step_append_lies w hgd s x 92 ho base 141 i0 _ 3 16 Try.underlying92 hi hz0 hz1 hz2 rfl (by decide) v n (cellsA ts) hs hown ⟨g, 0, none⟩ 2 2 [.int .i64 p, .bool b, .bool c0, .int .i64 p, .bool b, .bool c0] hx rfl ?_ ?_ (by decide) (by unfold maxLen; omega) (by omega) hbase _ rfl ?_
  · intro j u hj
    match j, hj with
    | 0, hj => simp at hj; subst hj; simpa [Addr.add] using h0
    | 1, hj => simp at hj; subst hj; simpa [Addr.add] using h1
    | 2, hj => simp at hj; subst hj; simpa [Addr.add] using h2
    | 3, hj => simp at hj; subst hj; simpa [Addr.add] using h3
    | 4, hj => simp at hj; subst hj; simpa [Addr.add] using h4
    | 5, hj => simp at hj; subst hj; simpa [Addr.add] using h5
  · intro u hu
    simp at hu
    rcases hu with rfl | rfl | rfl | rfl | rfl | rfl <;> rfl
  · intro G c w' h2 h3 h4 _
    refine h G c w' ?_ h3 h4
    rw [cellsA_append]
    exact h2
theorem far3b {w : World} {g a : Nat} (h : a ≠ g) (i1 i2 i3 : Nat) (u1 u2 u3 : Value) {j : Nat} {v : Value} (hc : w.cell? ⟨g, j, none⟩ = some v) :
    (((w.setCell ⟨a, i1, none⟩ u1).setCell ⟨a, i2, none⟩ u2).setCell ⟨a, i3, none⟩ u3).cell? ⟨g, j, none⟩ = some v := far3 h i1 i2 i3 u1 u2 u3 hc

set_option maxHeartbeats 400000 in
theorem c_haOtherS (a b k x : Int) (w : World) : Calls Try.prog 101 #[.agg #[.int .i64 a, .int .i64 b], .int .i64 x] w fun e w' => e = .returned (.int .i64 (othS (a, b, k) x)) ∧ Below w.heap.size w w' := by
  by_cases h1 : x = a
  · have e : othS (a, b, k) x = b := by simp [othS, h1]
    rw [e]
    have h1' : (x == a) = true := by simp [h1]
    clear e h1
    go_enter Try.func101, Try.ntmps101
    go_wp2
    go_ret
    exact ⟨rfl, by go_grown⟩
  · by_cases h2 : x = b
    · have e : othS (a, b, k) x = a := by simp [othS, h2]
      rw [e]
      have h1' : (x == a) = false := by simp [h1]
      have h2' : (x == b) = true := by simp [h2]
      clear e h1 h2
      go_enter Try.func101, Try.ntmps101
      go_wp2
      go_ret
      exact ⟨rfl, by go_grown⟩
    · have e : othS (a, b, k) x = -1 := by simp [othS, h1, h2]
      rw [e]
      have h1' : (x == a) = false := by simp [h1]
      have h2' : (x == b) = false := by simp [h2]
      clear e h1 h2
      go_enter Try.func101, Try.ntmps101
      go_wp2
      go_ret
      exact ⟨rfl, by go_grown⟩

end Go.Proofs.Ytnnkdnleencofab

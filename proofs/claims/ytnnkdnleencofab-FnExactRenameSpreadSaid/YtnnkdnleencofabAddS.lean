/- A play added: the specification's. -/
import Derived.Test.YtnnkdnleencofabBrdA
import Derived.Test.YtnnkdnleencofabLyR
import Derived.Test.YtnnkdnleencofabRegS
namespace Go.Proofs.Ytnnkdnleencofab
open Go.RowKit
set_option linter.unusedVariables false

theorem keepA {w : World} {a : Addr} {v : Value} {o : Obj} (h : w.cell? a = some v) : (w.alloc o).cell? a = some v := keepc ((Below.refl _ _).alloc (Nat.le_refl _) _) h

theorem own_drew {w : World} {base e size n : Nat} {v : Value} {cs : List Value} (h : w.ownsRow base e size v n cs) : w.drew.ownsRow base e size v n cs := h
theorem g1d {w : World} (a : Addr) {v : Value} (h : w.cell? a = some v) : w.drew.cell? a = some v := h

/-- One play appended, at a step of a region that draws its order. -/
theorem step_append_PO {w : World} {ops : Array Oper} {o : Oper} {a : Act} {K : Act → World → Prop} {Q : Exit → Act → World → Prop} {E : Prop} (hgd : o.guard = none) (s x : Operand)
    (ho : o.op = .call { callee := .builtin .append, args := #[s, x], argTypes := #[35, 35] }) (base : Nat) (v : Value) (ts : List (Int × Int × Int)) (n : Nat) (hn : ts.length = n) (hs : a.eval s = v)
    (hown : w.ownsRow base 32 3 v n (cellsP ts)) (p q r : Int) (g : Nat) (hx : a.eval x = .slice (some ⟨g, 0, none⟩) 1 1)
    (h0 : w.cell? ⟨g, 0, none⟩ = some (.int .i64 p)) (h1 : w.cell? ⟨g, 1, none⟩ = some (.int .i64 q)) (h2 : w.cell? ⟨g, 2, none⟩ = some (.int .i64 r)) (hlen : n ≤ 4194304) (hbase : base ≤ w.heap.size)
    (h : ∀ A c w', w'.ownsRow base 32 3 (.slice A (n + 1) c) (n + 1) (cellsP (ts ++ [(p, q, r)])) → w.grownBy w' v.ownBlock → K (a.put o.dst (.slice A (n + 1) c)) w') :
    if Region.wanted o (yielded ops a.tmps) = true then Oper.wp Try.prog o a w K Q else E := by
  have hw : Region.wanted o (yielded ops a.tmps) = true := by simp [Region.wanted, hgd]
  rw [if_pos hw]
  subst hn
  obtain ⟨i0, hi, hz0, hz1, hz2⟩ := info_parts Try.info_P
  refine wp_append_own w s x 35 ho base 32 i0 _ 3 24 Try.underlying35 hi hz0 hz1 hz2 rfl (by decide) v ts.length (cellsP ts) hs hown ⟨g, 0, none⟩ 1 1 [.int .i64 p, .int .i64 q, .int .i64 r] hx rfl ?_ ?_ (by unfold maxLen; omega) (by omega) hbase ?_
  · intro j u hj
    match j, hj with
    | 0, hj => simp at hj; subst hj; simpa [Addr.add] using h0
    | 1, hj => simp at hj; subst hj; simpa [Addr.add] using h1
    | 2, hj => simp at hj; subst hj; simpa [Addr.add] using h2
  · intro u hu
    simp at hu
    rcases hu with rfl | rfl | rfl <;> rfl
  · intro v' w' h1 h2 _
    have h1' := h1
    obtain ⟨_, ⟨_, hn⟩ | ⟨g', cap, cur, rfl, _⟩⟩ := h1'
    · omega
    refine h _ _ w' ?_ h2
    rw [cellsP_append]
    exact h1

/-- A list of plays appended to a fresh row, at a step of a region that draws its order. -/
theorem step_append_PsO {w : World} {ops : Array Oper} {o : Oper} {a : Act} {K : Act → World → Prop} {Q : Exit → Act → World → Prop} {E : Prop} (hgd : o.guard = none) (s x : Operand)
    (ho : o.op = .call { callee := .builtin .append, args := #[s, x], argTypes := #[35, 35] }) (base g0 : Nat) (hs : a.eval s = .slice (some ⟨g0, 0, none⟩) 0 0)
    (hown : w.ownsRow base 32 3 (.slice (some ⟨g0, 0, none⟩) 0 0) 0 (cellsP [])) (A : Option Addr) (c n : Nat) (us : List (Int × Int × Int)) (hn : us.length = n) (hx : a.eval x = .slice A n c) (hr : RdP w A us)
    (hlen' : n ≤ 2097152) (hbase : base ≤ w.heap.size)
    (h : ∀ A c w', w'.ownsRow base 32 3 (.slice A n c) n (cellsP us) → w.grownBy w' (some g0) → K (a.put o.dst (.slice A n c)) w') :
    if Region.wanted o (yielded ops a.tmps) = true then Oper.wp Try.prog o a w K Q else E := by
  have hw : Region.wanted o (yielded ops a.tmps) = true := by simp [Region.wanted, hgd]
  rw [if_pos hw]
  subst hn
  obtain ⟨i0, hi, hz0, hz1, hz2⟩ := info_parts Try.info_P
  by_cases hu : us = []
  · subst hu
    cases A with
    | none =>
      have hrun : (Builtin.append_ #[35, 35] o.type #[.slice (some ⟨g0, 0, none⟩) 0 0, .slice none 0 c]).run Try.prog w = .ok (.slice (some ⟨g0, 0, none⟩) 0 0) w := by
        simp [Builtin.append_, run_underlying Try.underlying35, sizeOf, typeInfo, hi, Builtin.lenOf, Builtin.firstCells, storeCells]
      unfold Oper.wp
      simp only [List.length_nil] at hx
      simp [execOp, ho, resolve, invoke, builtin, hs, hx, hrun, Result.andThen]
      exact h _ _ w hown (World.grownBy.refl w _)
    | some ad =>
      refine wp_append_own w s x 35 ho base 32 i0 _ 3 24 Try.underlying35 hi hz0 hz1 hz2 rfl (by decide) _ 0 (cellsP []) hs hown ad 0 c [] hx rfl (by simp) (by simp) (by unfold maxLen; omega) (by omega) hbase ?_
      intro v' w' h1 h2 _
      obtain ⟨A2, c2, rfl⟩ : ∃ A2 c2, v' = .slice A2 0 c2 := by
        rcases h1.2 with ⟨hv, hn⟩ | ⟨g, cap, cur, rfl, _⟩
        · exact ⟨none, 0, hv⟩
        · exact ⟨_, cap, rfl⟩
      exact h A2 c2 w' h1 h2
  · have hpos : 0 < us.length := List.length_pos_iff.2 hu
    obtain ⟨b, off, rfl, _, hc⟩ := hr.at_ hpos
    refine wp_append_own w s x 35 ho base 32 i0 _ 3 24 Try.underlying35 hi hz0 hz1 hz2 rfl (by decide) _ 0 (cellsP []) hs hown ⟨b, off, none⟩ us.length c (cellsP us) hx (cellsP_length us) ?_ (cellsP_one us) (by unfold maxLen; omega) (by omega) hbase ?_
    · intro j u hj
      have hjl : j < us.length * 3 := by
        have := (List.getElem?_eq_some_iff.1 hj).1
        rw [cellsP_length] at this
        exact this
      have hk : j / 3 < us.length := by omega
      have hg := cellsP_get us (j / 3) hk
      have hcc := hc (j / 3) hk
      have hadd : (⟨b, off, none⟩ : Addr).add j = ⟨b, off + j, none⟩ := by
        unfold Addr.add
        split <;> simp_all
      rw [hadd]
      simp only [Nat.add_assoc] at hcc
      rcases (by omega : j % 3 = 0 ∨ j % 3 = 1 ∨ j % 3 = 2) with h0 | h0 | h0
      · have e : j / 3 * 3 = j := by omega
        have h1 := hg.1
        have h2 := hcc.1
        rw [e] at h1 h2
        rw [h2]
        rw [h1] at hj
        exact hj
      · have e : j / 3 * 3 + 1 = j := by omega
        have h1 := hg.2.1
        have h2 := hcc.2.1
        rw [e] at h1 h2
        rw [h2]
        rw [h1] at hj
        exact hj
      · have e : j / 3 * 3 + 2 = j := by omega
        have h1 := hg.2.2
        have h2 := hcc.2.2
        rw [e] at h1 h2
        rw [h2]
        rw [h1] at hj
        exact hj
    · intro v' w' h1 h2 _
      simp only [Nat.zero_add, cellsP_nil, List.nil_append] at h1
      obtain ⟨A2, c2, rfl⟩ : ∃ A2 c2, v' = .slice A2 us.length c2 := by
        rcases h1.2 with ⟨hv, hn⟩ | ⟨g, cap, cur, rfl, _⟩
        · omega
        · exact ⟨_, cap, rfl⟩
      exact h A2 c2 w' h1 h2
end Go.Proofs.Ytnnkdnleencofab

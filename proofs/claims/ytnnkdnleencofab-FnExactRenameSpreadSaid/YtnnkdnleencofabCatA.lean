/- Rows of Arm values appended whole; slices.Clone. -/
import Derived.Test.YtnnkdnleencofabRowA
import Derived.Lib.AppendZeros
import Derived.Lib.SliceRun
namespace Go.Proofs.Ytnnkdnleencofab
open Go.RowKit
set_option linter.unusedVariables false

/-- A list of numbers appended, from wherever it comes. -/
theorem wp_append_As {w : World} {ops : Array Oper} {rest : List Oper} {o : Oper} {a : Act} {Q : Exit → Act → World → Prop} (hgd : o.guard = none) (s x : Operand)
    (ho : o.op = .call { callee := .builtin .append, args := #[s, x], argTypes := #[92, 92] }) (base : Nat) (v : Value) (ts : List (Int × Bool × Bool)) (hs : a.eval s = v)
    (hown : w.ownsRow base 141 3 v ts.length (cellsA ts)) (A : Option Addr) (c : Nat) (us : List (Int × Bool × Bool)) (hx : a.eval x = .slice A us.length c) (hr : RdA w A us)
    (hlen : ts.length ≤ 2097152) (hlen' : us.length ≤ 2097152) (hbase : base ≤ w.heap.size) (hv : ∃ A' c', v = .slice A' ts.length c')
    (h : ∀ A c w', w'.ownsRow base 141 3 (.slice A (ts ++ us).length c) (ts ++ us).length (cellsA (ts ++ us)) → w.grownBy w' v.ownBlock → wpList Try.prog ops Q rest (a.put o.dst (.slice A (ts ++ us).length c)) w') :
    wpList Try.prog ops Q (o :: rest) a w := by
  obtain ⟨i0, hi, hz0, hz1, hz2⟩ := info_parts Try.info_A
  by_cases hu : us = []
  · subst hu
    cases A with
    | none =>
      obtain ⟨A', c', rfl⟩ := hv
      refine wpList_plain hgd fun K hK => ?_
      have hrun : (Builtin.append_ #[92, 92] o.type #[.slice A' ts.length c', .slice none 0 c]).run Try.prog w = .ok (.slice A' ts.length c') w := by
        rcases hown.2 with ⟨hv, hn⟩ | ⟨g, cap, cur, hv, _, _, hnc, _⟩
        · simp only [Value.slice.injEq] at hv
          obtain ⟨rfl, h2, rfl⟩ := hv
          simp [Builtin.append_, run_underlying Try.underlying92, sizeOf, typeInfo, hi, Builtin.lenOf, Builtin.firstCells, h2]
        · simp only [Value.slice.injEq] at hv
          obtain ⟨rfl, _, rfl⟩ := hv
          simp [Builtin.append_, run_underlying Try.underlying92, sizeOf, typeInfo, hi, Builtin.lenOf, Builtin.firstCells, hnc, storeCells]
      unfold Oper.wp
      simp [execOp, ho, resolve, invoke, builtin, hs, hx, hrun, Result.andThen]
      exact hK _ _ (by simpa using h A' c' w (by simpa using hown) (World.grownBy.refl w _))
    | some ad =>
      refine wpList_append_own w hgd s x 92 ho base 141 i0 _ 3 16 Try.underlying92 hi hz0 hz1 hz2 rfl (by decide) v ts.length (cellsA ts) hs hown ad 0 c [] hx rfl (by simp) (by simp) (by unfold maxLen; omega) (by omega) hbase ?_
      intro v' w' h1 h2 h3
      obtain ⟨A', c', rfl⟩ := hv
      obtain ⟨A2, c2, rfl⟩ : ∃ A2 c2, v' = .slice A2 ts.length c2 := by
        rcases h1.2 with ⟨hv, hn⟩ | ⟨g, cap, cur, rfl, _⟩
        · subst hv
          have h0 : ts.length = 0 := by omega
          exact ⟨none, 0, by rw [h0]⟩
        · exact ⟨_, cap, rfl⟩
      have := h A2 c2 w' (by simpa using h1) h2
      simpa using this
  · have hpos : 0 < us.length := List.length_pos_iff.2 hu
    obtain ⟨b, off, rfl, _, hc⟩ := hr.at_ hpos
    refine wpList_append_own w hgd s x 92 ho base 141 i0 _ 3 16 Try.underlying92 hi hz0 hz1 hz2 rfl (by decide) v ts.length (cellsA ts) hs hown ⟨b, off, none⟩ us.length c (cellsA us) hx (cellsA_length us) ?_ (cellsA_one us) (by unfold maxLen; omega) (by omega) hbase ?_
    · intro j u hj
      have hjl : j < us.length * 3 := by
        have := (List.getElem?_eq_some_iff.1 hj).1
        rw [cellsA_length] at this
        exact this
      have hk : j / 3 < us.length := by omega
      have hg := cellsA_get us (j / 3) hk
      have hcc := hc (j / 3) hk
      have hadd : (⟨b, off, none⟩ : Addr).add j = ⟨b, off + j, none⟩ := by
        unfold Addr.add
        split <;> simp_all
      rw [hadd]
      simp only [Nat.add_assoc] at hcc
      rcases (by omega : j % 3 = 0 ∨ j % 3 = 1 ∨ j % 3 = 2) with h0 | h0 | h0
      · have e : j / 3 * 3 = j := by omega
        have h1 := hg.1
        have h2 := hcc.1
        rw [e] at h1 h2
        rw [h2]
        rw [h1] at hj
        exact hj
      · have e : j / 3 * 3 + 1 = j := by omega
        have h1 := hg.2.1
        have h2 := hcc.2.1
        rw [e] at h1 h2
        rw [h2]
        rw [h1] at hj
        exact hj
      · have e : j / 3 * 3 + 2 = j := by omega
        have h1 := hg.2.2
        have h2 := hcc.2.2
        rw [e] at h1 h2
        rw [h2]
        rw [h1] at hj
        exact hj
    · intro v' w' h1 h2 _
      rw [← cellsA_append, ← List.length_append] at h1
      obtain ⟨A2, c2, rfl⟩ : ∃ A2 c2, v' = .slice A2 (ts ++ us).length c2 := by
        rcases h1.2 with ⟨hv, hn⟩ | ⟨g, cap, cur, rfl, _⟩
        · rw [List.length_append] at hn; omega
        · exact ⟨_, cap, rfl⟩
      exact h A2 c2 w' h1 h2

set_option maxRecDepth 100000 in
set_option maxHeartbeats 1000000 in
theorem c_cloneA (A : Option Addr) (c : Nat) (xs : List (Int × Bool × Bool)) (w : World) (hr : RdA w A xs) (hl : xs.length ≤ 1048576) :
    Calls Try.prog 139 #[.slice A xs.length c] w (RetAL w xs) := by
  have ho0 : (w.alloc (.cells #[] 141)).ownsRow w.heap.size 141 3 (.slice (some ⟨w.heap.size, 0, none⟩) 0 0) 0 (cellsA []) := World.ownsRow_lit w #[] 0 (Nat.le_refl _) (by unfold maxLen; omega) rfl
  have hb0 : Below w.heap.size w (w.alloc (.cells #[] 141)) := (Below.refl _ _).alloc (Nat.le_refl _) _
  have q : ∀ (w : World) (a : Option Addr) (n c n' c' : Nat), (binOp .eql 92 (.slice a n c) (.slice none n' c')).run Try.prog w = .ok (.bool a.isNone) w := fun w a n c n' c' => Lib.run_eql_slice_nil w _ _ a n c n' c' Try.underlying92
  cases A with
  | none =>
    have e0 : xs = [] := by
      cases xs with
      | nil => rfl
      | cons x r => obtain ⟨bk, off, h, _⟩ := hr.at_ (k := 0) (by simp); cases h
    subst e0
    go_enter Try.func139, Try.ntmps139
    go_wp2
    go_ret
    exact ⟨none, 0, rfl, World.ownsRow_nil _ _ _ _, Below.refl _ _⟩
  | some ad =>
    go_enter Try.func139, Try.ntmps139
    go_wp2_with (at_builtin; refine wp_append_As rfl _ _ rfl w.heap.size _ [] rfl ho0 _ c xs rfl (hr.below hb0) (by simp) (by omega) (by simp) ⟨_, _, rfl⟩ ?_; intro A4 c4 w4 ho4 hg4; have hb4 : Below w.heap.size w w4 := hb0.trans (below_of_grown hg4 hb0.size (fun g hg => by cases hg; exact Nat.le_refl _)); simp only [List.nil_append] at ho4)
    go_ret
    exact ⟨A4, c4, rfl, ho4, hb4⟩
end Go.Proofs.Ytnnkdnleencofab

/- Lists appended whole. -/
import Derived.Test.YtbanpgifhnbjoaaHelp
namespace Go.Proofs.Ytbanpgifhnbjoaa
open Go.RowKit
set_option linter.unusedVariables false

/-- A list of tiles appended, from wherever it comes. -/
theorem wp_append_tiles {w : World} {ops : Array Oper} {rest : List Oper} {o : Oper} {a : Act} {Q : Exit → Act → World → Prop} (hgd : o.guard = none) (s x : Operand)
    (ho : o.op = .call { callee := .builtin .append, args := #[s, x], argTypes := #[26, 26] }) (base : Nat) (v : Value) (ts : List (Int × Int)) (hs : a.eval s = v)
    (hown : w.ownsRow base 50 2 v ts.length (cellsT ts)) (A : Option Addr) (c : Nat) (us : List (Int × Int)) (hx : a.eval x = .slice A us.length c) (hr : RdT w A us)
    (hlen : ts.length ≤ 2097152) (hlen' : us.length ≤ 2097152) (hbase : base ≤ w.heap.size) (hv : ∃ A' c', v = .slice A' ts.length c')
    (h : ∀ A c w', w'.ownsRow base 50 2 (.slice A (ts ++ us).length c) (ts ++ us).length (cellsT (ts ++ us)) → w.grownBy w' v.ownBlock → wpList Try.prog ops Q rest (a.put o.dst (.slice A (ts ++ us).length c)) w') :
    wpList Try.prog ops Q (o :: rest) a w := by
  obtain ⟨i0, hi, hz0, hz1, hz2⟩ := info_parts Try.info_tile
  by_cases hu : us = []
  · subst hu
    cases A with
    | none =>
      obtain ⟨A', c', rfl⟩ := hv
      refine wpList_plain hgd fun K hK => ?_
      have hrun : (Builtin.append_ #[26, 26] o.type #[.slice A' ts.length c', .slice none 0 c]).run Try.prog w = .ok (.slice A' ts.length c') w := by
        rcases hown.2 with ⟨hv, hn⟩ | ⟨g, cap, cur, hv, _, _, hnc, _⟩
        · simp only [Value.slice.injEq] at hv
          obtain ⟨rfl, h2, rfl⟩ := hv
          simp [Builtin.append_, run_underlying Try.underlying26, sizeOf, typeInfo, hi, Builtin.lenOf, Builtin.firstCells, h2]
        · simp only [Value.slice.injEq] at hv
          obtain ⟨rfl, _, rfl⟩ := hv
          simp [Builtin.append_, run_underlying Try.underlying26, sizeOf, typeInfo, hi, Builtin.lenOf, Builtin.firstCells, hnc, storeCells]
      unfold Oper.wp
      simp [execOp, ho, resolve, invoke, builtin, hs, hx, hrun, Result.andThen]
      exact hK _ _ (by simpa using h A' c' w (by simpa using hown) (World.grownBy.refl w _))
    | some ad =>
      refine wpList_append_own w hgd s x 26 ho base 50 i0 _ 2 16 Try.underlying26 hi hz0 hz1 hz2 rfl (by decide) v ts.length (cellsT ts) hs hown ad 0 c [] hx rfl (by simp) (by simp) (by unfold maxLen; omega) (by omega) hbase ?_
      intro v' w' h1 h2 h3
      obtain ⟨A', c', rfl⟩ := hv
      obtain ⟨A2, c2, rfl⟩ : ∃ A2 c2, v' = .slice A2 ts.length c2 := by
        rcases h1.2 with ⟨hv, hn⟩ | ⟨g, cap, cur, rfl, _⟩
        · subst hv
          have h0 : ts.length = 0 := by omega
          exact ⟨none, 0, by rw [h0]⟩
        · exact ⟨_, cap, rfl⟩
      have := h A2 c2 w' (by simpa using h1) h2
      simpa using this
  · have hpos : 0 < us.length := List.length_pos_iff.2 hu
    obtain ⟨b, off, rfl, _, hc⟩ := hr.at_ hpos
    refine wpList_append_own w hgd s x 26 ho base 50 i0 _ 2 16 Try.underlying26 hi hz0 hz1 hz2 rfl (by decide) v ts.length (cellsT ts) hs hown ⟨b, off, none⟩ us.length c (cellsT us) hx (cellsT_length us) ?_ (cellsT_one us) (by unfold maxLen; omega) (by omega) hbase ?_
    · intro j u hj
      have hjl : j < us.length * 2 := by
        have := (List.getElem?_eq_some_iff.1 hj).1
        rw [cellsT_length] at this
        exact this
      have hk : j / 2 < us.length := by omega
      have hg := cellsT_get us (j / 2) hk
      have hcc := hc (j / 2) hk
      have hadd : (⟨b, off, none⟩ : Addr).add j = ⟨b, off + j, none⟩ := by
        unfold Addr.add
        split <;> simp_all
      rw [hadd]
      rcases (by omega : j % 2 = 0 ∨ j % 2 = 1) with h0 | h0
      · have e : j / 2 * 2 = j := by omega
        rw [e] at hg hcc
        rw [hcc.1]
        rw [hg.1] at hj
        exact hj
      · have e : j / 2 * 2 + 1 = j := by omega
        rw [e] at hg
        rw [Nat.add_assoc, e] at hcc
        rw [hcc.2]
        rw [hg.2] at hj
        exact hj
    · intro v' w' h1 h2 _
      rw [← cellsT_append, ← List.length_append] at h1
      obtain ⟨A2, c2, rfl⟩ : ∃ A2 c2, v' = .slice A2 (ts ++ us).length c2 := by
        rcases h1.2 with ⟨hv, hn⟩ | ⟨g, cap, cur, rfl, _⟩
        · rw [List.length_append] at hn; omega
        · exact ⟨_, cap, rfl⟩
      exact h A2 c2 w' h1 h2

end Go.Proofs.Ytbanpgifhnbjoaa

/- Lists of numbers appended whole, and put behind one another. -/
import Derived.Test.YtbanpgifhnbjoaaChain
namespace Go.Proofs.Ytbanpgifhnbjoaa
open Go.RowKit
set_option linter.unusedVariables false

/-- A list of numbers appended, from wherever it comes. -/
theorem wp_append_ints {w : World} {ops : Array Oper} {rest : List Oper} {o : Oper} {a : Act} {Q : Exit → Act → World → Prop} (hgd : o.guard = none) (s x : Operand)
    (ho : o.op = .call { callee := .builtin .append, args := #[s, x], argTypes := #[39, 39] }) (base : Nat) (v : Value) (ts : List Int) (hs : a.eval s = v)
    (hown : w.ownsRow base 3 1 v ts.length (cellsI ts)) (A : Option Addr) (c : Nat) (us : List Int) (hx : a.eval x = .slice A us.length c) (hr : RdI w A us)
    (hlen : ts.length ≤ 2097152) (hlen' : us.length ≤ 2097152) (hbase : base ≤ w.heap.size) (hv : ∃ A' c', v = .slice A' ts.length c')
    (h : ∀ A c w', w'.ownsRow base 3 1 (.slice A (ts ++ us).length c) (ts ++ us).length (cellsI (ts ++ us)) → w.grownBy w' v.ownBlock → wpList Try.prog ops Q rest (a.put o.dst (.slice A (ts ++ us).length c)) w') :
    wpList Try.prog ops Q (o :: rest) a w := by
  obtain ⟨i0, hi, hz0, hz1, hz2⟩ := info_parts Try.info_int
  by_cases hu : us = []
  · subst hu
    cases A with
    | none =>
      obtain ⟨A', c', rfl⟩ := hv
      refine wpList_plain hgd fun K hK => ?_
      have hrun : (Builtin.append_ #[39, 39] o.type #[.slice A' ts.length c', .slice none 0 c]).run Try.prog w = .ok (.slice A' ts.length c') w := by
        rcases hown.2 with ⟨hv, hn⟩ | ⟨g, cap, cur, hv, _, _, hnc, _⟩
        · simp only [Value.slice.injEq] at hv
          obtain ⟨rfl, h2, rfl⟩ := hv
          simp [Builtin.append_, run_underlying Try.underlying39, sizeOf, typeInfo, hi, Builtin.lenOf, Builtin.firstCells, h2]
        · simp only [Value.slice.injEq] at hv
          obtain ⟨rfl, _, rfl⟩ := hv
          simp [Builtin.append_, run_underlying Try.underlying39, sizeOf, typeInfo, hi, Builtin.lenOf, Builtin.firstCells, hnc, storeCells]
      unfold Oper.wp
      simp [execOp, ho, resolve, invoke, builtin, hs, hx, hrun, Result.andThen]
      exact hK _ _ (by simpa using h A' c' w (by simpa using hown) (World.grownBy.refl w _))
    | some ad =>
      refine wpList_append_own w hgd s x 39 ho base 3 i0 _ 1 8 Try.underlying39 hi hz0 hz1 hz2 rfl (by decide) v ts.length (cellsI ts) hs hown ad 0 c [] hx rfl (by simp) (by simp) (by unfold maxLen; omega) (by omega) hbase ?_
      intro v' w' h1 h2 h3
      obtain ⟨A', c', rfl⟩ := hv
      obtain ⟨A2, c2, rfl⟩ : ∃ A2 c2, v' = .slice A2 ts.length c2 := by
        rcases h1.2 with ⟨hv, hn⟩ | ⟨g, cap, cur, rfl, _⟩
        · subst hv
          have h0 : ts.length = 0 := by omega
          exact ⟨none, 0, by rw [h0]⟩
        · exact ⟨_, cap, rfl⟩
      have := h A2 c2 w' (by simpa using h1) h2
      simpa using this
  · have hpos : 0 < us.length := List.length_pos_iff.2 hu
    obtain ⟨b, off, rfl, _, hc⟩ := hr.at_ hpos
    refine wpList_append_own w hgd s x 39 ho base 3 i0 _ 1 8 Try.underlying39 hi hz0 hz1 hz2 rfl (by decide) v ts.length (cellsI ts) hs hown ⟨b, off, none⟩ us.length c (cellsI us) hx (by rw [cellsI_length, Nat.mul_one]) ?_ (cellsI_one us) (by unfold maxLen; omega) (by omega) hbase ?_
    · intro j u hj
      have hk : j < us.length := by
        have := (List.getElem?_eq_some_iff.1 hj).1
        rw [cellsI_length] at this
        exact this
      have hadd : (⟨b, off, none⟩ : Addr).add j = ⟨b, off + j, none⟩ := by
        unfold Addr.add
        split <;> simp_all
      rw [hadd, hc j hk]
      have e : (cellsI us)[j]? = some (.int .i64 us[j]) := by simp [cellsI, hk]
      rw [e] at hj
      exact hj
    · intro v' w' h1 h2 _
      rw [← cellsI_append, ← List.length_append] at h1
      obtain ⟨A2, c2, rfl⟩ : ∃ A2 c2, v' = .slice A2 (ts ++ us).length c2 := by
        rcases h1.2 with ⟨hv, hn⟩ | ⟨g, cap, cur, rfl, _⟩
        · rw [List.length_append] at hn; omega
        · exact ⟨_, cap, rfl⟩
      exact h A2 c2 w' h1 h2

theorem RdI.drop {w : World} {A : Option Addr} {xs : List Int} (h : RdI w A xs) (k : Nat) : ∃ b off, (xs.drop k ≠ [] → A = some ⟨b, off, none⟩) ∧ RdI w (some ⟨b, off + k, none⟩) (xs.drop k) := by
  obtain ⟨b, off, h1, h2⟩ := h
  refine ⟨b, off, fun hne => h1 (by rintro rfl; simp at hne), b, off + k, fun _ => rfl, fun j hj => ?_⟩
  simp only [List.length_drop] at hj
  rw [List.getElem_drop, Nat.add_assoc]
  exact h2 (k + j) (by omega)
theorem RdI.take {w : World} {A : Option Addr} {xs : List Int} (h : RdI w A xs) (k : Nat) : RdI w A (xs.take k) := by
  obtain ⟨b, off, h1, h2⟩ := h
  refine ⟨b, off, fun hne => h1 (by rintro rfl; simp at hne), fun j hj => ?_⟩
  rw [List.getElem_take]
  exact h2 j (by simp at hj; omega)

set_option maxHeartbeats 1000000 in
theorem c_l1Own (A : Option Addr) (c : Nat) (xs : List Int) (w : World) (hr : RdI w A xs) (hl : xs.length ≤ 1048576) :
    Calls Try.prog 65 #[.slice A xs.length c] w (RetN w xs) := by
  have ho0 : (w.alloc (.cells #[] 3)).ownsRow w.heap.size 3 1 (.slice (some ⟨w.heap.size, 0, none⟩) 0 0) 0 (cellsI []) := World.ownsRow_lit w #[] 0 (Nat.le_refl _) (by unfold maxLen; omega) rfl
  have hb0 : Below w.heap.size w (w.alloc (.cells #[] 3)) := (Below.refl _ _).alloc (Nat.le_refl _) _
  go_enter Try.func65, Try.ntmps65
  go_wp2_with (at_builtin; refine wp_append_ints rfl _ _ rfl w.heap.size _ [] rfl ho0 A c xs rfl (hr.below hb0) (by simp) (by omega) (by simp) ⟨_, _, rfl⟩ ?_; intro A4 c4 w4 ho4 hg4; have hb4 : Below w.heap.size w w4 := hb0.trans (below_of_grown hg4 hb0.size (fun g hg => by cases hg; exact Nat.le_refl _)); simp only [List.nil_append] at ho4)
  go_ret
  exact ⟨A4, c4, rfl, ho4, hb4⟩

end Go.Proofs.Ytbanpgifhnbjoaa

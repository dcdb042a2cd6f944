/- Lists of numbers put behind one another by the program: slices.Concat. -/
import Derived.Test.YtbanpgifhnbjoaaCat
import Derived.Test.YtbanpgifhnbjoaaChn
import Derived.Lib.AppendZeros
namespace Go.Proofs.Ytbanpgifhnbjoaa
open Go.RowKit
set_option linter.unusedVariables false

theorem own_at {w : World} {base e size n c : Nat} {A : Option Addr} {cs : List Value} (h : w.ownsRow base e size (.slice A n c) n cs) (hn : 0 < n) : ∃ g, A = some ⟨g, 0, none⟩ := by
  obtain ⟨_, ⟨hv, hz⟩ | ⟨g, cap, cur, hv, _⟩⟩ := h
  · omega
  · injection hv with h1 h2 h3
    exact ⟨g, h1⟩

theorem own_cut {w : World} {base e size g n c k : Nat} {cs : List Value} (h : w.ownsRow base e size (.slice (some ⟨g, 0, none⟩) n c) n cs) (hk : k ≤ n) :
    w.ownsRow base e size (.slice (some ⟨g, 0, none⟩) k c) k (cs.take (k * size)) := by
  obtain ⟨h0, ⟨hv, hn⟩ | ⟨g', cap, cur, hv, hg, hh, hc, hm, hs, ht⟩⟩ := h
  · cases hv
  · injection hv with e1 e2 e3
    injection e1 with e1
    injection e1 with e1
    subst e1 e3
    refine ⟨?_, .inr ⟨g, c, cur, rfl, hg, hh, by omega, hm, hs, ?_⟩⟩
    · rw [List.length_take, h0]
      exact Nat.min_eq_left (Nat.mul_le_mul_right _ hk)
    · rw [← ht, List.take_take, Nat.min_eq_left (Nat.mul_le_mul_right _ hk)]

/-- A list of numbers appended, as one operation. -/
theorem op_append_ints {w : World} {o : Oper} {a : Act} {K : Act → World → Prop} {Q : Exit → Act → World → Prop} (s x : Operand)
    (ho : o.op = .call { callee := .builtin .append, args := #[s, x], argTypes := #[39, 39] }) (base : Nat) (v : Value) (ts : List Int) (hs : a.eval s = v)
    (hown : w.ownsRow base 3 1 v ts.length (cellsI ts)) (A : Option Addr) (c : Nat) (us : List Int) (hx : a.eval x = .slice A us.length c) (hr : RdI w A us)
    (hlen : ts.length ≤ 2097152) (hlen' : us.length ≤ 2097152) (hbase : base ≤ w.heap.size) (hv : ∃ A' c', v = .slice A' ts.length c')
    (h : ∀ A c w', w'.ownsRow base 3 1 (.slice A (ts ++ us).length c) (ts ++ us).length (cellsI (ts ++ us)) → w.grownBy w' v.ownBlock → K (a.put o.dst (.slice A (ts ++ us).length c)) w') :
    o.wp Try.prog a w K Q := by
  obtain ⟨i0, hi, hz0, hz1, hz2⟩ := info_parts Try.info_int
  by_cases hu : us = []
  · subst hu
    cases A with
    | none =>
      obtain ⟨A', c', rfl⟩ := hv
      have hrun : (Builtin.append_ #[39, 39] o.type #[.slice A' ts.length c', .slice none 0 c]).run Try.prog w = .ok (.slice A' ts.length c') w := by
        rcases hown.2 with ⟨hv, hn⟩ | ⟨g, cap, cur, hv, _, _, hnc, _⟩
        · simp only [Value.slice.injEq] at hv
          obtain ⟨rfl, h2, rfl⟩ := hv
          simp [Builtin.append_, run_underlying Try.underlying39, sizeOf, typeInfo, hi, Builtin.lenOf, Builtin.firstCells, h2]
        · simp only [Value.slice.injEq] at hv
          obtain ⟨rfl, _, rfl⟩ := hv
          simp [Builtin.append_, run_underlying Try.underlying39, sizeOf, typeInfo, hi, Builtin.lenOf, Builtin.firstCells, hnc, storeCells]
      unfold Oper.wp
      simp [execOp, ho, resolve, invoke, builtin, hs, hx, hrun, Result.andThen]
      have := h A' c' w (by simpa using hown) (World.grownBy.refl w _)
      rw [List.append_nil] at this
      exact this
    | some ad =>
      refine wp_append_own w s x 39 ho base 3 i0 _ 1 8 Try.underlying39 hi hz0 hz1 hz2 rfl (by decide) v ts.length (cellsI ts) hs hown ad 0 c [] hx rfl (by simp) (by simp) (by unfold maxLen; omega) (by omega) hbase ?_
      intro v' w' h1 h2 h3
      obtain ⟨A', c', rfl⟩ := hv
      obtain ⟨A2, c2, rfl⟩ : ∃ A2 c2, v' = .slice A2 ts.length c2 := by
        rcases h1.2 with ⟨hv, hn⟩ | ⟨g, cap, cur, rfl, _⟩
        · subst hv
          have h0 : ts.length = 0 := by omega
          exact ⟨none, 0, by rw [h0]⟩
        · exact ⟨_, cap, rfl⟩
      have := h A2 c2 w' (by simpa using h1) h2
      simpa using this
  · have hpos : 0 < us.length := List.length_pos_iff.2 hu
    obtain ⟨b, off, rfl, _, hc⟩ := hr.at_ hpos
    refine wp_append_own w s x 39 ho base 3 i0 _ 1 8 Try.underlying39 hi hz0 hz1 hz2 rfl (by decide) v ts.length (cellsI ts) hs hown ⟨b, off, none⟩ us.length c (cellsI us) hx (by rw [cellsI_length, Nat.mul_one]) ?_ (cellsI_one us) (by unfold maxLen; omega) (by omega) hbase ?_
    · intro j u hj
      have hk : j < us.length := by
        have := (List.getElem?_eq_some_iff.1 hj).1
        rw [cellsI_length] at this
        exact this
      have hadd : (⟨b, off, none⟩ : Addr).add j = ⟨b, off + j, none⟩ := by
        unfold Addr.add
        split <;> simp_all
      rw [hadd, hc j hk]
      have e : (cellsI us)[j]? = some (.int .i64 us[j]) := by simp [cellsI, hk]
      rw [e] at hj
      exact hj
    · intro v' w' h1 h2 _
      rw [← cellsI_append, ← List.length_append] at h1
      obtain ⟨A2, c2, rfl⟩ : ∃ A2 c2, v' = .slice A2 (ts ++ us).length c2 := by
        rcases h1.2 with ⟨hv, hn⟩ | ⟨g, cap, cur, rfl, _⟩
        · rw [List.length_append] at hn; omega
        · exact ⟨_, cap, rfl⟩
      exact h A2 c2 w' h1 h2
/-- .. at a step of a region that draws its order. -/
theorem step_append_ints {w : World} {ops : Array Oper} {o : Oper} {a : Act} {K : Act → World → Prop} {Q : Exit → Act → World → Prop} {E : Prop} (hgd : o.guard = none) (s x : Operand)
    (ho : o.op = .call { callee := .builtin .append, args := #[s, x], argTypes := #[39, 39] }) (base : Nat) (v : Value) (ts : List Int) (hs : a.eval s = v)
    (hown : w.ownsRow base 3 1 v ts.length (cellsI ts)) (A : Option Addr) (c : Nat) (us : List Int) (hx : a.eval x = .slice A us.length c) (hr : RdI w A us)
    (hlen : ts.length ≤ 2097152) (hlen' : us.length ≤ 2097152) (hbase : base ≤ w.heap.size) (hv : ∃ A' c', v = .slice A' ts.length c')
    (h : ∀ A c w', w'.ownsRow base 3 1 (.slice A (ts ++ us).length c) (ts ++ us).length (cellsI (ts ++ us)) → w.grownBy w' v.ownBlock → K (a.put o.dst (.slice A (ts ++ us).length c)) w') :
    if Region.wanted o (yielded ops a.tmps) = true then o.wp Try.prog a w K Q else E := by
  have hw : Region.wanted o (yielded ops a.tmps) = true := by simp [Region.wanted, hgd]
  rw [if_pos hw]
  exact op_append_ints s x ho base v ts hs hown A c us hx hr hlen hlen' hbase hv h

/-- The first k of two lists, put together. -/
def catTo (xs ys : List Int) (k : Nat) : List Int := if k = 0 then [] else if k = 1 then xs else xs ++ ys
def catLen (n m k : Nat) : Nat := if k = 0 then 0 else if k = 1 then n else n + m
theorem cat_step {w : World} {g off c d : Nat} {A B : Option Addr} {xs ys : List Int} (h0 : w.cell? ⟨g, off + 0, none⟩ = some (.slice A xs.length c)) (h1 : w.cell? ⟨g, off + 1, none⟩ = some (.slice B ys.length d)) (hrx : RdI w A xs) (hry : RdI w B ys) {k : Nat} (hk : k < 2) :
    ∃ A' c' us, w.cell? ⟨g, off + k, none⟩ = some (.slice A' us.length c') ∧ RdI w A' us ∧ us.length ≤ xs.length + ys.length ∧ catTo xs ys (k + 1) = catTo xs ys k ++ us ∧ catLen xs.length ys.length (k + 1) = catLen xs.length ys.length k + us.length ∧ (us = xs ∨ us = ys) := by
  obtain rfl | rfl : k = 0 ∨ k = 1 := by omega
  · exact ⟨A, c, xs, h0, hrx, by omega, by simp [catTo], by simp [catLen], .inl rfl⟩
  · exact ⟨B, d, ys, h1, hry, by omega, by simp [catTo], by simp [catLen], .inr rfl⟩
theorem catLen_le (n m k : Nat) : catLen n m k ≤ n + m := by unfold catLen; split; omega; split <;> omega
theorem catTo_len (xs ys : List Int) (k : Nat) : (catTo xs ys k).length ≤ xs.length + ys.length := by unfold catTo; split; simp; split <;> simp
theorem catTo_two (xs ys : List Int) : catTo xs ys 2 = xs ++ ys := by simp [catTo]

def layL (xs ys : List Int) : List Int := if chainB (xs ++ ys) then xs ++ ys else []
theorem layL_len (xs ys : List Int) : (layL xs ys).length ≤ 110 := by
  unfold layL
  split
  · rename_i h
    have := chain_len h
    omega
  · simp
end Go.Proofs.Ytbanpgifhnbjoaa

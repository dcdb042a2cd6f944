/- Layouts: the program's pairs. -/
import Derived.Test.YtjbdflkbclhonabDoorTabL
namespace Go.Proofs.YtjbdflkbclhonabDoor
open Go.RowKit
set_option linter.unusedVariables false

/-- The cell i and the one that it tells tell each other. -/
def layAt (W : Nat) (L : List UInt8) (i : Nat) : Bool :=
  match othU W L.length i (L.getD i 0) with
  | some j => decide ((L.getD j 0).toNat = backU (L.getD i 0))
  | none => false
def layB (W : Nat) (L : List UInt8) : Bool := (List.range L.length).all (layAt W L)
theorem getD_at {L : List UInt8} {i : Nat} (h : i < L.length) : L.getD i 0 = L[i] := by simp [h]
theorem layB_no {W : Nat} {L : List UInt8} {i : Nat} (h : i < L.length) (hl : layAt W L i = false) : layB W L = false := by
  cases hb : layB W L
  · rfl
  · unfold layB at hb
    rw [List.all_eq_true] at hb
    rw [hb i (List.mem_range.2 h)] at hl
    cases hl
theorem layB_yes {W : Nat} {L : List UInt8} (h : ∀ i, i < L.length → layAt W L i = true) : layB W L = true := by
  unfold layB
  rw [List.all_eq_true]
  intro i hi
  exact h i (List.mem_range.1 hi)
theorem layAt_none {W : Nat} {L : List UInt8} {i : Nat} (h : i < L.length) (hp : prB W L.length i L[i] = false) : layAt W L i = false := by
  unfold layAt
  rw [getD_at h]
  unfold prB at hp
  cases ho : othU W L.length i L[i] with
  | none => rfl
  | some j => rw [ho] at hp; cases hp
/-- The two cells of the pair that a cell tells: both tell one pair just where they tell each other. -/
theorem pr_same {W : Nat} {L : List UInt8} {i p q : Nat} (hW : 0 < W) (hr : ∃ H, L.length = H * W) (h : i < L.length) (hp : prB W L.length i L[i] = true) (he : prU W L.length i L[i] = (p, q)) :
    ∃ (hp1 : p < L.length) (hq1 : q < L.length), p < q ∧ (i = p ∨ i = q) ∧ ((prU W L.length p L[p] = prU W L.length q L[q]) ↔ layAt W L i = true) := by
  unfold prB at hp
  cases ho : othU W L.length i L[i] with
  | none => rw [ho] at hp; cases hp
  | some j =>
    obtain ⟨hj, hne⟩ := oth_lt hW hr h ho
    have hb := oth_back (b := L[j]) hW h hj ho
    have hlay : layAt W L i = true ↔ othU W L.length j L[j] = some i := by
      unfold layAt
      rw [getD_at h, ho]
      simp only
      rw [getD_at hj, decide_eq_true_eq, hb]
    have e1 : prU W L.length i L[i] = (min i j, max i j) := by unfold prU; rw [ho]
    rw [e1] at he
    injection he with ep eq
    have hpj : prU W L.length j L[j] = (p, q) ↔ othU W L.length j L[j] = some i := by
      unfold prU
      cases hoj : othU W L.length j L[j] with
      | none =>
        simp only [reduceCtorEq, iff_false]
        intro e
        injection e with a b
        omega
      | some j' =>
        simp only [Option.some.injEq, Prod.mk.injEq]
        omega
    have e1' : prU W L.length i L[i] = (p, q) := by rw [e1, ep, eq]
    have key : (prU W L.length i L[i] = prU W L.length j L[j]) ↔ layAt W L i = true := by
      rw [hlay, ← hpj, e1']
      exact ⟨fun e => e.symm, fun e => e.symm⟩
    rcases Nat.lt_or_ge i j with hij | hij
    · obtain rfl : p = i := by omega
      obtain rfl : q = j := by omega
      exact ⟨h, hj, hij, .inl rfl, key⟩
    · obtain rfl : p = j := by omega
      obtain rfl : q = i := by omega
      exact ⟨hj, h, by omega, .inr rfl, ⟨fun e => key.1 e.symm, fun e => (key.2 e).symm⟩⟩
/-- The pairs of the cells before k that are the lesser ones of theirs. -/
def prsTo (W : Nat) (L : List UInt8) (k : Nat) : List (Int × Int) := (List.range k).filterMap fun i => if (prU W L.length i (L.getD i 0)).1 = i then some (((prU W L.length i (L.getD i 0)).1 : Int), ((prU W L.length i (L.getD i 0)).2 : Int)) else none
theorem prsTo_zero (W : Nat) (L : List UInt8) : prsTo W L 0 = [] := rfl
theorem prsTo_yes {W : Nat} {L : List UInt8} {k p q : Nat} (h : k < L.length) (he : prU W L.length k L[k] = (p, q)) (hp : p = k) : prsTo W L (k + 1) = prsTo W L k ++ [((p : Int), (q : Int))] := by
  unfold prsTo
  rw [List.range_succ, List.filterMap_append]
  congr 1
  simp only [List.filterMap_cons, List.filterMap_nil]
  rw [getD_at h, he]
  simp [hp]
theorem prsTo_no {W : Nat} {L : List UInt8} {k p q : Nat} (h : k < L.length) (he : prU W L.length k L[k] = (p, q)) (hp : p ≠ k) : prsTo W L (k + 1) = prsTo W L k := by
  unfold prsTo
  rw [List.range_succ, List.filterMap_append]
  simp only [List.filterMap_cons, List.filterMap_nil]
  rw [getD_at h, he]
  simp [hp]
theorem prsTo_len (W : Nat) (L : List UInt8) (k : Nat) : (prsTo W L k).length ≤ k := by
  unfold prsTo
  exact Nat.le_trans (List.length_filterMap_le _ _) (by simp)

theorem Tryd.info_pair : (Tryd.prog.info? 81).map (fun i => (i.zero, i.size, i.bytes)) = some (some (.agg #[.int .i64 0, .int .i64 0]), 2, 16) := by kernel_rfl
/-- Two pairs compared. -/
theorem Tryd.eq_pair (a b c d : Int) (w : World) : (Op.equalIn 10000 81 (.agg #[.int .i64 a, .int .i64 b]) (.agg #[.int .i64 c, .int .i64 d])).run Tryd.prog w = .ok (a == c && b == d) w := by
  have h1 := Tryd.underlying3
  have h2 := Tryd.isAgg3
  have h3 := Tryd.sizeOf3
  rw [show (10000 : Nat) = 9999 + 1 from rfl, Op.equalIn]
  simp only [Sem.run_bind, run_underlying Tryd.underlying81, Result.andThen_ok]
  simp only [Std.Legacy.Range.forIn_eq_forIn_range', Std.Legacy.Range.size, Nat.sub_zero, Nat.add_sub_cancel, Nat.div_one, List.range'_succ, List.range'_zero, List.forIn_cons, List.forIn_nil]
  go_simp
  by_cases e1 : a = c <;> by_cases e2 : b = d <;> simp [e1, e2]
/-- One pair appended to a row of the call's own. -/
theorem wp_append_pair {w : World} {ops : Array Oper} {rest : List Oper} {o : Oper} {a : Act} {Q : Exit → Act → World → Prop} (hgd : o.guard = none) (s x : Operand)
    (ho : o.op = .call { callee := .builtin .append, args := #[s, x], argTypes := #[57, 57] }) (base : Nat) (v : Value) (ts : List (Int × Int)) (hs : a.eval s = v)
    (hown : w.ownsRow base 81 2 v ts.length (cellsT ts)) (p q : Int) (g : Nat) (hx : a.eval x = .slice (some ⟨g, 0, none⟩) 1 1)
    (h0 : w.cell? ⟨g, 0, none⟩ = some (.int .i64 p)) (h1 : w.cell? ⟨g, 1, none⟩ = some (.int .i64 q)) (hlen : ts.length ≤ 4194304) (hbase : base ≤ w.heap.size)
    (h : ∀ A c w', w'.ownsRow base 81 2 (.slice A (ts.length + 1) c) (ts.length + 1) (cellsT (ts ++ [(p, q)])) → w.grownBy w' v.ownBlock → wpList Tryd.prog ops Q rest (a.put o.dst (.slice A (ts.length + 1) c)) w') :
    wpList Tryd.prog ops Q (o :: rest) a w := by
  obtain ⟨i0, hi, hz0, hz1, hz2⟩ := info_parts Tryd.info_pair
  refine wpList_append_own w hgd s x 57 ho base 81 i0 _ 2 16 Tryd.underlying57 hi hz0 hz1 hz2 rfl (by decide) v ts.length (cellsT ts) hs hown ⟨g, 0, none⟩ 1 1 [.int .i64 p, .int .i64 q] hx rfl ?_ ?_ (by unfold maxLen; omega) (by omega) hbase ?_
  · intro j u hj
    match j, hj with
    | 0, hj => simp at hj; subst hj; simpa [Addr.add] using h0
    | 1, hj => simp at hj; subst hj; simpa [Addr.add] using h1
  · intro u hu
    simp at hu
    rcases hu with rfl | rfl <;> rfl
  · intro v' w' h1 h2 _
    have h1' := h1
    obtain ⟨_, ⟨_, hn⟩ | ⟨g', cap, cur, rfl, _⟩⟩ := h1'
    · omega
    refine h _ _ w' ?_ h2
    rw [cellsT_append]
    exact h1
/-- A row of pairs, read. -/
theorem ownP_at {w : World} {base : Nat} {A : Option Addr} {c : Nat} {ts : List (Int × Int)} (h : w.ownsRow base 81 2 (.slice A ts.length c) ts.length (cellsT ts)) (h0 : 0 < ts.length) :
    ∃ g, A = some ⟨g, 0, none⟩ ∧ base ≤ g ∧ g < w.heap.size ∧ ∀ k (hk : k < ts.length), w.cell? ⟨g, k * 2, none⟩ = some (.int .i64 ts[k].1) ∧ w.cell? ⟨g, k * 2 + 1, none⟩ = some (.int .i64 ts[k].2) := by
  have h' := h
  obtain ⟨hl, ⟨hv, hn⟩ | ⟨g, cap, cur, hv, hb, hh, r⟩⟩ := h'
  · omega
  · cases hv
    refine ⟨g, rfl, hb, (Array.getElem?_eq_some_iff.1 hh).1, fun k hk => ?_⟩
    have := cellsT_get ts k hk
    exact ⟨(h.cellAt (k * 2) (by omega)).trans this.1, (h.cellAt (k * 2 + 1) (by omega)).trans this.2⟩

def prsB (b : Bool) (W : Nat) (L : List UInt8) : List (Int × Int) := if b then prsTo W L L.length else []
def RetPr (w : World) (W : Nat) (L : List UInt8) (b : Bool) (e : Ending) (w' : World) : Prop :=
  ∃ A c, e = .returned (.tuple #[.slice A (prsB b W L).length c, .bool b]) ∧ w'.ownsRow w.heap.size 81 2 (.slice A (prsB b W L).length c) (prsB b W L).length (cellsT (prsB b W L)) ∧ Below w.heap.size w w'
end Go.Proofs.YtjbdflkbclhonabDoor

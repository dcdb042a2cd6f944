/- Rows of Arm values: a slice that reads as a list, rows that the call owns, copies and marks. -/
import Derived.Test.YtnnkdnleencofabRowP
namespace Go.Proofs.Ytnnkdnleencofab
open Go.RowKit
set_option linter.unusedVariables false

def RdA (w : World) (A : Option Addr) (ts : List (Int × Bool × Bool)) : Prop :=
  ∃ b off, (ts ≠ [] → A = some ⟨b, off, none⟩) ∧ ∀ k (h : k < ts.length), w.cell? ⟨b, off + k * 3, none⟩ = some (.int .i64 ts[k].1) ∧ w.cell? ⟨b, off + k * 3 + 1, none⟩ = some (.bool ts[k].2.1) ∧ w.cell? ⟨b, off + k * 3 + 2, none⟩ = some (.bool ts[k].2.2)

section
variable {w w' : World} {A : Option Addr} {ts : List (Int × Bool × Bool)}
theorem RdA.at_ (h : RdA w A ts) {k : Nat} (hk : k < ts.length) : ∃ b off, A = some ⟨b, off, none⟩ ∧ b < w.heap.size ∧
    ∀ k (h : k < ts.length), w.cell? ⟨b, off + k * 3, none⟩ = some (.int .i64 ts[k].1) ∧ w.cell? ⟨b, off + k * 3 + 1, none⟩ = some (.bool ts[k].2.1) ∧ w.cell? ⟨b, off + k * 3 + 2, none⟩ = some (.bool ts[k].2.2) := by
  obtain ⟨b, off, h1, h2⟩ := h
  exact ⟨b, off, h1 (by rintro rfl; simp at hk), block_lt (h2 k hk).1, h2⟩
theorem RdA.nil_ : RdA w A [] := ⟨0, 0, fun h => absurd rfl h, fun k h => by simp at h⟩
theorem RdA.below (h : RdA w A ts) (hb : Below w.heap.size w w') : RdA w' A ts := by
  obtain ⟨b, off, h1, h2⟩ := h
  exact ⟨b, off, h1, fun k hk => ⟨(hb.cell (block_lt (h2 k hk).1)).trans (h2 k hk).1, (hb.cell (block_lt (h2 k hk).2.1)).trans (h2 k hk).2.1, (hb.cell (block_lt (h2 k hk).2.2)).trans (h2 k hk).2.2⟩⟩
theorem RdA.take (h : RdA w A ts) (k : Nat) : RdA w A (ts.take k) := by
  obtain ⟨b, off, h1, h2⟩ := h
  refine ⟨b, off, fun hne => h1 (by rintro rfl; simp at hne), fun j hj => ?_⟩
  rw [List.getElem_take]
  exact h2 j (by simp at hj; omega)
end

def cellsA (ts : List (Int × Bool × Bool)) : List Value := ts.flatMap fun t => [.int .i64 t.1, .bool t.2.1, .bool t.2.2]
theorem cellsA_nil : cellsA [] = [] := rfl
theorem cellsA_cons (t : Int × Bool × Bool) (ts : List (Int × Bool × Bool)) : cellsA (t :: ts) = .int .i64 t.1 :: .bool t.2.1 :: .bool t.2.2 :: cellsA ts := rfl
theorem cellsA_append (xs ys : List (Int × Bool × Bool)) : cellsA (xs ++ ys) = cellsA xs ++ cellsA ys := by simp [cellsA]
theorem cellsA_length (ts : List (Int × Bool × Bool)) : (cellsA ts).length = ts.length * 3 := by
  induction ts with
  | nil => rfl
  | cons t ts ih => simp [cellsA_cons, ih]; omega
theorem cellsA_get (ts : List (Int × Bool × Bool)) : ∀ (k : Nat) (h : k < ts.length), (cellsA ts)[k * 3]? = some (.int .i64 ts[k].1) ∧ (cellsA ts)[k * 3 + 1]? = some (.bool ts[k].2.1) ∧ (cellsA ts)[k * 3 + 2]? = some (.bool ts[k].2.2) := by
  induction ts with
  | nil => intro k h; simp at h
  | cons t ts ih =>
    intro k h
    cases k with
    | zero => simp [cellsA_cons]
    | succ k =>
      have := ih k (by simpa using h)
      rw [cellsA_cons, show (k + 1) * 3 = k * 3 + 1 + 1 + 1 from by omega]
      simpa using this
theorem cellsA_one (ts : List (Int × Bool × Bool)) : ∀ u ∈ cellsA ts, u.oneCell' = true := by
  induction ts with
  | nil => intro u h; simp [cellsA_nil] at h
  | cons t ts ih =>
    intro u h
    rw [cellsA_cons] at h
    simp only [List.mem_cons] at h
    rcases h with rfl | rfl | rfl | h
    · rfl
    · rfl
    · rfl
    · exact ih u h
theorem cellsA_set (xs ys : List (Int × Bool × Bool)) (t : Int × Bool × Bool) (a0 : Int) (a1 : Bool) (a2 : Bool) : (((cellsA (xs ++ t :: ys)).set (xs.length * 3) (.int .i64 a0)).set (xs.length * 3 + 1) (.bool a1)).set (xs.length * 3 + 2) (.bool a2) = cellsA (xs ++ (a0, a1, a2) :: ys) := by
  simp only [cellsA_append, cellsA_cons]
  have h1 : xs.length * 3 = (cellsA xs).length := (cellsA_length xs).symm
  rw [h1, List.set_append_right _ _ (Nat.le_refl _), Nat.sub_self]
  rw [List.set_append_right _ _ (by omega), show (cellsA xs).length + 1 - (cellsA xs).length = 1 from by omega]
  rw [List.set_append_right _ _ (by omega), show (cellsA xs).length + 2 - (cellsA xs).length = 2 from by omega]
  rfl

section
variable {w w' : World} {base n c : Nat} {A : Option Addr} {ts : List (Int × Bool × Bool)}
theorem RdA.of_own {e : Nat} (h : w.ownsRow base e 3 (.slice A ts.length c) n (cellsA ts)) : RdA w A ts := by
  have h0 := h
  obtain ⟨_, ⟨hv, hn⟩ | ⟨g, cap, cur, hv, _⟩⟩ := h0
  · injection hv with h1 h2 h3
    have : ts = [] := List.eq_nil_of_length_eq_zero h2
    subst this
    exact RdA.nil_
  · injection hv with h1 h2 h3
    subst h1
    refine ⟨g, 0, fun _ => rfl, fun k hk => ?_⟩
    have h := World.ownsRow.cells h (g := g) rfl
    have hg := cellsA_get ts k hk
    have e0 := h _ _ hg.1
    have e1 := h _ _ hg.2.1
    have e2 := h _ _ hg.2.2
    simp only [Addr.add] at e0 e1 e2
    refine ⟨?_, ?_, ?_⟩
    · rw [← e0]
      by_cases hz : k * 3 = 0 <;> simp [hz]
    · rw [← e1]
      simp
    · rw [← e2]
      simp
end

/-- The first k of a list copied, behind them nothing but zeros. -/
def copyA (k : Nat) (ts : List (Int × Bool × Bool)) : List (Int × Bool × Bool) := ts.take k ++ List.replicate (ts.length - k) (0, false, false)
theorem copyA_all (ts : List (Int × Bool × Bool)) : copyA ts.length ts = ts := by simp [copyA]
theorem copyA_length {k : Nat} {ts : List (Int × Bool × Bool)} (h : k ≤ ts.length) : (copyA k ts).length = ts.length := by simp [copyA]; omega
theorem copyA_zero (ts : List (Int × Bool × Bool)) : cellsA (copyA 0 ts) = (madeCells (Value.cells (.agg #[.int .i64 0, .bool false, .bool false])) (ts.length * 3)).toList := by
  simp only [copyA, List.take_zero, List.nil_append, Nat.sub_zero]
  apply List.ext_getElem?
  intro j
  rcases Nat.lt_or_ge j (ts.length * 3) with hj | hj
  · have h1 : j / 3 < (List.replicate ts.length ((0, false, false) : Int × Bool × Bool)).length := by simp; omega
    have h2 := cellsA_get (List.replicate ts.length ((0, false, false) : Int × Bool × Bool)) (j / 3) h1
    have h3 : j % 3 = 0 ∨ j % 3 = 1 ∨ j % 3 = 2 := by omega
    rcases h3 with h3 | h3 | h3
    · have hr : (madeCells (Value.cells (.agg #[.int .i64 0, .bool false, .bool false])) (ts.length * 3)).toList[j]? = some (.int .i64 0) := by simp [madeCells, hj, Value.cells, h3]
      rw [hr, show j = j / 3 * 3 from by omega, h2.1]; simp
    · have hr : (madeCells (Value.cells (.agg #[.int .i64 0, .bool false, .bool false])) (ts.length * 3)).toList[j]? = some (.bool false) := by simp [madeCells, hj, Value.cells, h3]
      rw [hr, show j = j / 3 * 3 + 1 from by omega, h2.2.1]; simp
    · have hr : (madeCells (Value.cells (.agg #[.int .i64 0, .bool false, .bool false])) (ts.length * 3)).toList[j]? = some (.bool false) := by simp [madeCells, hj, Value.cells, h3]
      rw [hr, show j = j / 3 * 3 + 2 from by omega, h2.2.2]; simp
  · rw [List.getElem?_eq_none (by rw [cellsA_length]; simp; omega), List.getElem?_eq_none (by simp [madeCells]; omega)]
theorem copyA_step {k : Nat} {ts : List (Int × Bool × Bool)} (h : k < ts.length) :
    (((cellsA (copyA k ts)).set (k * 3) (.int .i64 ts[k].1)).set (k * 3 + 1) (.bool ts[k].2.1)).set (k * 3 + 2) (.bool ts[k].2.2) = cellsA (copyA (k + 1) ts) := by
  have h1 := cellsA_set (ts.take k) (List.replicate (ts.length - (k + 1)) (0, false, false)) (0, false, false) ts[k].1 ts[k].2.1 ts[k].2.2
  rw [List.length_take, Nat.min_eq_left (by omega)] at h1
  unfold copyA
  rw [show ts.length - k = (ts.length - (k + 1)) + 1 from by omega, List.replicate_succ, h1, List.take_succ_eq_append_getElem h]
  simp only [List.append_assoc, List.cons_append, List.nil_append]

def markA (q : Int) (k : Nat) (ts : List (Int × Bool × Bool)) : List (Int × Bool × Bool) := (List.range k).map (fun i : Nat => ((q + 3 * (i : Int), ((q + 3 * (i : Int) + 1) % 3 == 0), ((q + 3 * (i : Int) + 1 + 1) % 3 == 0)) : Int × Bool × Bool)) ++ ts.drop k
theorem markA_zero (q : Int) (ts : List (Int × Bool × Bool)) : markA q 0 ts = ts := by simp [markA]
theorem markA_length (q : Int) {k : Nat} {ts : List (Int × Bool × Bool)} (h : k ≤ ts.length) : (markA q k ts).length = ts.length := by simp [markA]; omega
theorem markA_step (q : Int) {k : Nat} {ts : List (Int × Bool × Bool)} (h : k < ts.length) :
    (((cellsA (markA q k ts)).set (k * 3) (.int .i64 (q + 3 * (k : Int)))).set (k * 3 + 1) (.bool (((q + 3 * (k : Int) + 1) % 3 == 0)))).set (k * 3 + 2) (.bool (((q + 3 * (k : Int) + 1 + 1) % 3 == 0))) = cellsA (markA q (k + 1) ts) := by
  have h1 := cellsA_set ((List.range k).map (fun i : Nat => ((q + 3 * (i : Int), ((q + 3 * (i : Int) + 1) % 3 == 0), ((q + 3 * (i : Int) + 1 + 1) % 3 == 0)) : Int × Bool × Bool))) (ts.drop (k + 1)) ts[k] (q + 3 * (k : Int)) (((q + 3 * (k : Int) + 1) % 3 == 0)) (((q + 3 * (k : Int) + 1 + 1) % 3 == 0))
  simp only [List.length_map, List.length_range] at h1
  unfold markA
  rw [List.drop_eq_getElem_cons h, h1, List.range_succ, List.map_append]
  simp
def marksA (q : Int) (n : Nat) : List (Int × Bool × Bool) := (List.range n).map fun i : Nat => (q + 3 * (i : Int), ((q + 3 * (i : Int) + 1) % 3 == 0), ((q + 3 * (i : Int) + 1 + 1) % 3 == 0))
theorem markA_all (q : Int) (ts : List (Int × Bool × Bool)) : markA q ts.length ts = marksA q ts.length := by simp [markA, marksA]
theorem marksA_length (q : Int) (n : Nat) : (marksA q n).length = n := by simp [marksA]
theorem marksA_get (q : Int) (n k : Nat) (h : k < (marksA q n).length) : (marksA q n)[k] = (q + 3 * (k : Int), ((q + 3 * (k : Int) + 1) % 3 == 0), ((q + 3 * (k : Int) + 1 + 1) % 3 == 0)) := by simp [marksA]
theorem rdmarksA {w : World} {base n c : Nat} {A : Option Addr} {q : Int} (h : w.ownsRow base 141 3 (.slice A n c) n (cellsA (marksA q n))) : RdA w A (marksA q n) :=
  RdA.of_own (base := base) (c := c) (n := n) (e := 141) (by rw [marksA_length]; exact h)

/-- A new slice comes back, alone or with a bool. -/
def RetAL (w : World) (ts : List (Int × Bool × Bool)) (e : Ending) (w' : World) : Prop :=
  ∃ A c, e = .returned (.slice A ts.length c) ∧ w'.ownsRow w.heap.size 141 3 (.slice A ts.length c) ts.length (cellsA ts) ∧ Below w.heap.size w w'
def RetA (w : World) (ts : List (Int × Bool × Bool)) (ok : Bool) (e : Ending) (w' : World) : Prop :=
  ∃ A c, e = .returned (.tuple #[.slice A ts.length c, .bool ok]) ∧ w'.ownsRow w.heap.size 141 3 (.slice A ts.length c) ts.length (cellsA ts) ∧ Below w.heap.size w w'

theorem Try.info_A : (Try.prog.info? 141).map (fun i => (i.zero, i.size, i.bytes)) = some (some (.agg #[.int .i64 0, .bool false, .bool false]), 3, 16) := by kernel_rfl

/-- One appended to a row of the call's own. -/
theorem wp_append_A {w : World} {ops : Array Oper} {rest : List Oper} {o : Oper} {a : Act} {Q : Exit → Act → World → Prop} (hgd : o.guard = none) (s x : Operand)
    (ho : o.op = .call { callee := .builtin .append, args := #[s, x], argTypes := #[92, 92] }) (base : Nat) (v : Value) (ts : List (Int × Bool × Bool)) (hs : a.eval s = v)
    (hown : w.ownsRow base 141 3 v ts.length (cellsA ts)) (a0 : Int) (a1 : Bool) (a2 : Bool) (g : Nat) (hx : a.eval x = .slice (some ⟨g, 0, none⟩) 1 1)
    (h0 : w.cell? ⟨g, 0, none⟩ = some (.int .i64 a0)) (h1 : w.cell? ⟨g, 1, none⟩ = some (.bool a1)) (h2 : w.cell? ⟨g, 2, none⟩ = some (.bool a2)) (hlen : ts.length ≤ 4194304) (hbase : base ≤ w.heap.size)
    (h : ∀ A c w', w'.ownsRow base 141 3 (.slice A (ts.length + 1) c) (ts.length + 1) (cellsA (ts ++ [(a0, a1, a2)])) → w.grownBy w' v.ownBlock → wpList Try.prog ops Q rest (a.put o.dst (.slice A (ts.length + 1) c)) w') :
    wpList Try.prog ops Q (o :: rest) a w := by
  obtain ⟨i0, hi, hz0, hz1, hz2⟩ := info_parts Try.info_A
  refine wpList_append_own w hgd s x 92 ho base 141 i0 _ 3 16 Try.underlying92 hi hz0 hz1 hz2 rfl (by decide) v ts.length (cellsA ts) hs hown ⟨g, 0, none⟩ 1 1 [.int .i64 a0, .bool a1, .bool a2] hx rfl ?_ ?_ (by unfold maxLen; omega) (by omega) hbase ?_
  · intro j u hj
    match j, hj with
    | 0, hj => simp at hj; subst hj; simpa [Addr.add] using h0
    | 1, hj => simp at hj; subst hj; simpa [Addr.add] using h1
    | 2, hj => simp at hj; subst hj; simpa [Addr.add] using h2
  · intro u hu
    simp at hu
    rcases hu with rfl | rfl | rfl <;> rfl
  · intro v' w' h1 h2 _
    have h1' := h1
    obtain ⟨_, ⟨_, hn⟩ | ⟨g', cap, cur, rfl, _⟩⟩ := h1'
    · omega
    refine h _ _ w' ?_ h2
    rw [cellsA_append]
    exact h1
end Go.Proofs.Ytnnkdnleencofab

/- Rows of Play values: a slice that reads as a list, rows that the call owns, copies and marks. -/
import Derived.Test.YtnnkdnleencofabHelp
namespace Go.Proofs.Ytnnkdnleencofab
open Go.RowKit
set_option linter.unusedVariables false

def RdP (w : World) (A : Option Addr) (ts : List (Int × Int × Int)) : Prop :=
  ∃ b off, (ts ≠ [] → A = some ⟨b, off, none⟩) ∧ ∀ k (h : k < ts.length), w.cell? ⟨b, off + k * 3, none⟩ = some (.int .i64 ts[k].1) ∧ w.cell? ⟨b, off + k * 3 + 1, none⟩ = some (.int .i64 ts[k].2.1) ∧ w.cell? ⟨b, off + k * 3 + 2, none⟩ = some (.int .i64 ts[k].2.2)

section
variable {w w' : World} {A : Option Addr} {ts : List (Int × Int × Int)}
theorem RdP.at_ (h : RdP w A ts) {k : Nat} (hk : k < ts.length) : ∃ b off, A = some ⟨b, off, none⟩ ∧ b < w.heap.size ∧
    ∀ k (h : k < ts.length), w.cell? ⟨b, off + k * 3, none⟩ = some (.int .i64 ts[k].1) ∧ w.cell? ⟨b, off + k * 3 + 1, none⟩ = some (.int .i64 ts[k].2.1) ∧ w.cell? ⟨b, off + k * 3 + 2, none⟩ = some (.int .i64 ts[k].2.2) := by
  obtain ⟨b, off, h1, h2⟩ := h
  exact ⟨b, off, h1 (by rintro rfl; simp at hk), block_lt (h2 k hk).1, h2⟩
theorem RdP.nil_ : RdP w A [] := ⟨0, 0, fun h => absurd rfl h, fun k h => by simp at h⟩
theorem RdP.below (h : RdP w A ts) (hb : Below w.heap.size w w') : RdP w' A ts := by
  obtain ⟨b, off, h1, h2⟩ := h
  exact ⟨b, off, h1, fun k hk => ⟨(hb.cell (block_lt (h2 k hk).1)).trans (h2 k hk).1, (hb.cell (block_lt (h2 k hk).2.1)).trans (h2 k hk).2.1, (hb.cell (block_lt (h2 k hk).2.2)).trans (h2 k hk).2.2⟩⟩
theorem RdP.take (h : RdP w A ts) (k : Nat) : RdP w A (ts.take k) := by
  obtain ⟨b, off, h1, h2⟩ := h
  refine ⟨b, off, fun hne => h1 (by rintro rfl; simp at hne), fun j hj => ?_⟩
  rw [List.getElem_take]
  exact h2 j (by simp at hj; omega)
end

def cellsP (ts : List (Int × Int × Int)) : List Value := ts.flatMap fun t => [.int .i64 t.1, .int .i64 t.2.1, .int .i64 t.2.2]
theorem cellsP_nil : cellsP [] = [] := rfl
theorem cellsP_cons (t : Int × Int × Int) (ts : List (Int × Int × Int)) : cellsP (t :: ts) = .int .i64 t.1 :: .int .i64 t.2.1 :: .int .i64 t.2.2 :: cellsP ts := rfl
theorem cellsP_append (xs ys : List (Int × Int × Int)) : cellsP (xs ++ ys) = cellsP xs ++ cellsP ys := by simp [cellsP]
theorem cellsP_length (ts : List (Int × Int × Int)) : (cellsP ts).length = ts.length * 3 := by
  induction ts with
  | nil => rfl
  | cons t ts ih => simp [cellsP_cons, ih]; omega
theorem cellsP_get (ts : List (Int × Int × Int)) : ∀ (k : Nat) (h : k < ts.length), (cellsP ts)[k * 3]? = some (.int .i64 ts[k].1) ∧ (cellsP ts)[k * 3 + 1]? = some (.int .i64 ts[k].2.1) ∧ (cellsP ts)[k * 3 + 2]? = some (.int .i64 ts[k].2.2) := by
  induction ts with
  | nil => intro k h; simp at h
  | cons t ts ih =>
    intro k h
    cases k with
    | zero => simp [cellsP_cons]
    | succ k =>
      have := ih k (by simpa using h)
      rw [cellsP_cons, show (k + 1) * 3 = k * 3 + 1 + 1 + 1 from by omega]
      simpa using this
theorem cellsP_one (ts : List (Int × Int × Int)) : ∀ u ∈ cellsP ts, u.oneCell' = true := by
  induction ts with
  | nil => intro u h; simp [cellsP_nil] at h
  | cons t ts ih =>
    intro u h
    rw [cellsP_cons] at h
    simp only [List.mem_cons] at h
    rcases h with rfl | rfl | rfl | h
    · rfl
    · rfl
    · rfl
    · exact ih u h
theorem cellsP_set (xs ys : List (Int × Int × Int)) (t : Int × Int × Int) (a0 : Int) (a1 : Int) (a2 : Int) : (((cellsP (xs ++ t :: ys)).set (xs.length * 3) (.int .i64 a0)).set (xs.length * 3 + 1) (.int .i64 a1)).set (xs.length * 3 + 2) (.int .i64 a2) = cellsP (xs ++ (a0, a1, a2) :: ys) := by
  simp only [cellsP_append, cellsP_cons]
  have h1 : xs.length * 3 = (cellsP xs).length := (cellsP_length xs).symm
  rw [h1, List.set_append_right _ _ (Nat.le_refl _), Nat.sub_self]
  rw [List.set_append_right _ _ (by omega), show (cellsP xs).length + 1 - (cellsP xs).length = 1 from by omega]
  rw [List.set_append_right _ _ (by omega), show (cellsP xs).length + 2 - (cellsP xs).length = 2 from by omega]
  rfl

section
variable {w w' : World} {base n c : Nat} {A : Option Addr} {ts : List (Int × Int × Int)}
theorem RdP.of_own {e : Nat} (h : w.ownsRow base e 3 (.slice A ts.length c) n (cellsP ts)) : RdP w A ts := by
  have h0 := h
  obtain ⟨_, ⟨hv, hn⟩ | ⟨g, cap, cur, hv, _⟩⟩ := h0
  · injection hv with h1 h2 h3
    have : ts = [] := List.eq_nil_of_length_eq_zero h2
    subst this
    exact RdP.nil_
  · injection hv with h1 h2 h3
    subst h1
    refine ⟨g, 0, fun _ => rfl, fun k hk => ?_⟩
    have h := World.ownsRow.cells h (g := g) rfl
    have hg := cellsP_get ts k hk
    have e0 := h _ _ hg.1
    have e1 := h _ _ hg.2.1
    have e2 := h _ _ hg.2.2
    simp only [Addr.add] at e0 e1 e2
    refine ⟨?_, ?_, ?_⟩
    · rw [← e0]
      by_cases hz : k * 3 = 0 <;> simp [hz]
    · rw [← e1]
      simp
    · rw [← e2]
      simp
end

/-- The first k of a list copied, behind them nothing but zeros. -/
def copyP (k : Nat) (ts : List (Int × Int × Int)) : List (Int × Int × Int) := ts.take k ++ List.replicate (ts.length - k) (0, 0, 0)
theorem copyP_all (ts : List (Int × Int × Int)) : copyP ts.length ts = ts := by simp [copyP]
theorem copyP_length {k : Nat} {ts : List (Int × Int × Int)} (h : k ≤ ts.length) : (copyP k ts).length = ts.length := by simp [copyP]; omega
theorem copyP_zero (ts : List (Int × Int × Int)) : cellsP (copyP 0 ts) = (madeCells (Value.cells (.agg #[.int .i64 0, .int .i64 0, .int .i64 0])) (ts.length * 3)).toList := by
  simp only [copyP, List.take_zero, List.nil_append, Nat.sub_zero]
  apply List.ext_getElem?
  intro j
  rcases Nat.lt_or_ge j (ts.length * 3) with hj | hj
  · have h1 : j / 3 < (List.replicate ts.length ((0, 0, 0) : Int × Int × Int)).length := by simp; omega
    have h2 := cellsP_get (List.replicate ts.length ((0, 0, 0) : Int × Int × Int)) (j / 3) h1
    have h3 : j % 3 = 0 ∨ j % 3 = 1 ∨ j % 3 = 2 := by omega
    rcases h3 with h3 | h3 | h3
    · have hr : (madeCells (Value.cells (.agg #[.int .i64 0, .int .i64 0, .int .i64 0])) (ts.length * 3)).toList[j]? = some (.int .i64 0) := by simp [madeCells, hj, Value.cells, h3]
      rw [hr, show j = j / 3 * 3 from by omega, h2.1]; simp
    · have hr : (madeCells (Value.cells (.agg #[.int .i64 0, .int .i64 0, .int .i64 0])) (ts.length * 3)).toList[j]? = some (.int .i64 0) := by simp [madeCells, hj, Value.cells, h3]
      rw [hr, show j = j / 3 * 3 + 1 from by omega, h2.2.1]; simp
    · have hr : (madeCells (Value.cells (.agg #[.int .i64 0, .int .i64 0, .int .i64 0])) (ts.length * 3)).toList[j]? = some (.int .i64 0) := by simp [madeCells, hj, Value.cells, h3]
      rw [hr, show j = j / 3 * 3 + 2 from by omega, h2.2.2]; simp
  · rw [List.getElem?_eq_none (by rw [cellsP_length]; simp; omega), List.getElem?_eq_none (by simp [madeCells]; omega)]
theorem copyP_step {k : Nat} {ts : List (Int × Int × Int)} (h : k < ts.length) :
    (((cellsP (copyP k ts)).set (k * 3) (.int .i64 ts[k].1)).set (k * 3 + 1) (.int .i64 ts[k].2.1)).set (k * 3 + 2) (.int .i64 ts[k].2.2) = cellsP (copyP (k + 1) ts) := by
  have h1 := cellsP_set (ts.take k) (List.replicate (ts.length - (k + 1)) (0, 0, 0)) (0, 0, 0) ts[k].1 ts[k].2.1 ts[k].2.2
  rw [List.length_take, Nat.min_eq_left (by omega)] at h1
  unfold copyP
  rw [show ts.length - k = (ts.length - (k + 1)) + 1 from by omega, List.replicate_succ, h1, List.take_succ_eq_append_getElem h]
  simp only [List.append_assoc, List.cons_append, List.nil_append]

def markP (q : Int) (k : Nat) (ts : List (Int × Int × Int)) : List (Int × Int × Int) := (List.range k).map (fun i : Nat => ((q + 3 * (i : Int), q + 3 * (i : Int) + 1, q + 3 * (i : Int) + 2) : Int × Int × Int)) ++ ts.drop k
theorem markP_zero (q : Int) (ts : List (Int × Int × Int)) : markP q 0 ts = ts := by simp [markP]
theorem markP_length (q : Int) {k : Nat} {ts : List (Int × Int × Int)} (h : k ≤ ts.length) : (markP q k ts).length = ts.length := by simp [markP]; omega
theorem markP_step (q : Int) {k : Nat} {ts : List (Int × Int × Int)} (h : k < ts.length) :
    (((cellsP (markP q k ts)).set (k * 3) (.int .i64 (q + 3 * (k : Int)))).set (k * 3 + 1) (.int .i64 (q + 3 * (k : Int) + 1))).set (k * 3 + 2) (.int .i64 (q + 3 * (k : Int) + 2)) = cellsP (markP q (k + 1) ts) := by
  have h1 := cellsP_set ((List.range k).map (fun i : Nat => ((q + 3 * (i : Int), q + 3 * (i : Int) + 1, q + 3 * (i : Int) + 2) : Int × Int × Int))) (ts.drop (k + 1)) ts[k] (q + 3 * (k : Int)) (q + 3 * (k : Int) + 1) (q + 3 * (k : Int) + 2)
  simp only [List.length_map, List.length_range] at h1
  unfold markP
  rw [List.drop_eq_getElem_cons h, h1, List.range_succ, List.map_append]
  simp
def marksP (q : Int) (n : Nat) : List (Int × Int × Int) := (List.range n).map fun i : Nat => (q + 3 * (i : Int), q + 3 * (i : Int) + 1, q + 3 * (i : Int) + 2)
theorem markP_all (q : Int) (ts : List (Int × Int × Int)) : markP q ts.length ts = marksP q ts.length := by simp [markP, marksP]
theorem marksP_length (q : Int) (n : Nat) : (marksP q n).length = n := by simp [marksP]
theorem marksP_get (q : Int) (n k : Nat) (h : k < (marksP q n).length) : (marksP q n)[k] = (q + 3 * (k : Int), q + 3 * (k : Int) + 1, q + 3 * (k : Int) + 2) := by simp [marksP]
theorem rdmarksP {w : World} {base n c : Nat} {A : Option Addr} {q : Int} (h : w.ownsRow base 32 3 (.slice A n c) n (cellsP (marksP q n))) : RdP w A (marksP q n) :=
  RdP.of_own (base := base) (c := c) (n := n) (e := 32) (by rw [marksP_length]; exact h)

/-- A new slice comes back, alone or with a bool. -/
def RetPL (w : World) (ts : List (Int × Int × Int)) (e : Ending) (w' : World) : Prop :=
  ∃ A c, e = .returned (.slice A ts.length c) ∧ w'.ownsRow w.heap.size 32 3 (.slice A ts.length c) ts.length (cellsP ts) ∧ Below w.heap.size w w'
def RetP (w : World) (ts : List (Int × Int × Int)) (ok : Bool) (e : Ending) (w' : World) : Prop :=
  ∃ A c, e = .returned (.tuple #[.slice A ts.length c, .bool ok]) ∧ w'.ownsRow w.heap.size 32 3 (.slice A ts.length c) ts.length (cellsP ts) ∧ Below w.heap.size w w'

theorem Try.info_P : (Try.prog.info? 32).map (fun i => (i.zero, i.size, i.bytes)) = some (some (.agg #[.int .i64 0, .int .i64 0, .int .i64 0]), 3, 24) := by kernel_rfl

/-- One appended to a row of the call's own. -/
theorem wp_append_P {w : World} {ops : Array Oper} {rest : List Oper} {o : Oper} {a : Act} {Q : Exit → Act → World → Prop} (hgd : o.guard = none) (s x : Operand)
    (ho : o.op = .call { callee := .builtin .append, args := #[s, x], argTypes := #[35, 35] }) (base : Nat) (v : Value) (ts : List (Int × Int × Int)) (hs : a.eval s = v)
    (hown : w.ownsRow base 32 3 v ts.length (cellsP ts)) (a0 : Int) (a1 : Int) (a2 : Int) (g : Nat) (hx : a.eval x = .slice (some ⟨g, 0, none⟩) 1 1)
    (h0 : w.cell? ⟨g, 0, none⟩ = some (.int .i64 a0)) (h1 : w.cell? ⟨g, 1, none⟩ = some (.int .i64 a1)) (h2 : w.cell? ⟨g, 2, none⟩ = some (.int .i64 a2)) (hlen : ts.length ≤ 4194304) (hbase : base ≤ w.heap.size)
    (h : ∀ A c w', w'.ownsRow base 32 3 (.slice A (ts.length + 1) c) (ts.length + 1) (cellsP (ts ++ [(a0, a1, a2)])) → w.grownBy w' v.ownBlock → wpList Try.prog ops Q rest (a.put o.dst (.slice A (ts.length + 1) c)) w') :
    wpList Try.prog ops Q (o :: rest) a w := by
  obtain ⟨i0, hi, hz0, hz1, hz2⟩ := info_parts Try.info_P
  refine wpList_append_own w hgd s x 35 ho base 32 i0 _ 3 24 Try.underlying35 hi hz0 hz1 hz2 rfl (by decide) v ts.length (cellsP ts) hs hown ⟨g, 0, none⟩ 1 1 [.int .i64 a0, .int .i64 a1, .int .i64 a2] hx rfl ?_ ?_ (by unfold maxLen; omega) (by omega) hbase ?_
  · intro j u hj
    match j, hj with
    | 0, hj => simp at hj; subst hj; simpa [Addr.add] using h0
    | 1, hj => simp at hj; subst hj; simpa [Addr.add] using h1
    | 2, hj => simp at hj; subst hj; simpa [Addr.add] using h2
  · intro u hu
    simp at hu
    rcases hu with rfl | rfl | rfl <;> rfl
  · intro v' w' h1 h2 _
    have h1' := h1
    obtain ⟨_, ⟨_, hn⟩ | ⟨g', cap, cur, rfl, _⟩⟩ := h1'
    · omega
    refine h _ _ w' ?_ h2
    rw [cellsP_append]
    exact h1

set_option maxHeartbeats 400000 in
theorem c_toPlay (a b c : Int) (w : World) : Calls Try.prog 59 #[.agg #[.int .i64 a, .int .i64 b, .int .i64 c]] w fun e w' => e = .returned (.agg #[.int .i64 a, .int .i64 b, .int .i64 c]) ∧ Below w.heap.size w w' := by
  have p2 : (((w.alloc (.cells #[.int .i64 a, .int .i64 b, .int .i64 c] 90)).alloc (.cells #[.int .i64 0, .int .i64 0, .int .i64 0] 32)).alloc (.cells #[.int .i64 0, .int .i64 0, .int .i64 0] 32)).cell? ⟨w.heap.size, 2, none⟩ = some (.int .i64 c) := by simp [go_sem]
  have r0 : (((w.alloc (.cells #[.int .i64 a, .int .i64 b, .int .i64 c] 90)).alloc (.cells #[.int .i64 0, .int .i64 0, .int .i64 0] 32)).alloc (.cells #[.int .i64 0, .int .i64 0, .int .i64 0] 32)).cell? ⟨w.heap.size + 1, 0, none⟩ = some (.int .i64 0) := by simp [go_sem]
  have o0 : (((w.alloc (.cells #[.int .i64 a, .int .i64 b, .int .i64 c] 90)).alloc (.cells #[.int .i64 0, .int .i64 0, .int .i64 0] 32)).alloc (.cells #[.int .i64 0, .int .i64 0, .int .i64 0] 32)).cell? ⟨w.heap.size + 2, 0, none⟩ = some (.int .i64 0) := by simp [go_sem]
  have fr0 : (((w.alloc (.cells #[.int .i64 a, .int .i64 b, .int .i64 c] 90)).alloc (.cells #[.int .i64 0, .int .i64 0, .int .i64 0] 32)).alloc (.cells #[.int .i64 0, .int .i64 0, .int .i64 0] 32)).frozen? ⟨w.heap.size + 1, 0, none⟩ = false := by simp [go_sem]
  have fo0 : (((w.alloc (.cells #[.int .i64 a, .int .i64 b, .int .i64 c] 90)).alloc (.cells #[.int .i64 0, .int .i64 0, .int .i64 0] 32)).alloc (.cells #[.int .i64 0, .int .i64 0, .int .i64 0] 32)).frozen? ⟨w.heap.size + 2, 0, none⟩ = false := by simp [go_sem]
  have r1 : (((w.alloc (.cells #[.int .i64 a, .int .i64 b, .int .i64 c] 90)).alloc (.cells #[.int .i64 0, .int .i64 0, .int .i64 0] 32)).alloc (.cells #[.int .i64 0, .int .i64 0, .int .i64 0] 32)).cell? ⟨w.heap.size + 1, 1, none⟩ = some (.int .i64 0) := by simp [go_sem]
  have o1 : (((w.alloc (.cells #[.int .i64 a, .int .i64 b, .int .i64 c] 90)).alloc (.cells #[.int .i64 0, .int .i64 0, .int .i64 0] 32)).alloc (.cells #[.int .i64 0, .int .i64 0, .int .i64 0] 32)).cell? ⟨w.heap.size + 2, 1, none⟩ = some (.int .i64 0) := by simp [go_sem]
  have fr1 : (((w.alloc (.cells #[.int .i64 a, .int .i64 b, .int .i64 c] 90)).alloc (.cells #[.int .i64 0, .int .i64 0, .int .i64 0] 32)).alloc (.cells #[.int .i64 0, .int .i64 0, .int .i64 0] 32)).frozen? ⟨w.heap.size + 1, 1, none⟩ = false := by simp [go_sem]
  have fo1 : (((w.alloc (.cells #[.int .i64 a, .int .i64 b, .int .i64 c] 90)).alloc (.cells #[.int .i64 0, .int .i64 0, .int .i64 0] 32)).alloc (.cells #[.int .i64 0, .int .i64 0, .int .i64 0] 32)).frozen? ⟨w.heap.size + 2, 1, none⟩ = false := by simp [go_sem]
  have r2 : (((w.alloc (.cells #[.int .i64 a, .int .i64 b, .int .i64 c] 90)).alloc (.cells #[.int .i64 0, .int .i64 0, .int .i64 0] 32)).alloc (.cells #[.int .i64 0, .int .i64 0, .int .i64 0] 32)).cell? ⟨w.heap.size + 1, 2, none⟩ = some (.int .i64 0) := by simp [go_sem]
  have o2 : (((w.alloc (.cells #[.int .i64 a, .int .i64 b, .int .i64 c] 90)).alloc (.cells #[.int .i64 0, .int .i64 0, .int .i64 0] 32)).alloc (.cells #[.int .i64 0, .int .i64 0, .int .i64 0] 32)).cell? ⟨w.heap.size + 2, 2, none⟩ = some (.int .i64 0) := by simp [go_sem]
  have fr2 : (((w.alloc (.cells #[.int .i64 a, .int .i64 b, .int .i64 c] 90)).alloc (.cells #[.int .i64 0, .int .i64 0, .int .i64 0] 32)).alloc (.cells #[.int .i64 0, .int .i64 0, .int .i64 0] 32)).frozen? ⟨w.heap.size + 1, 2, none⟩ = false := by simp [go_sem]
  have fo2 : (((w.alloc (.cells #[.int .i64 a, .int .i64 b, .int .i64 c] 90)).alloc (.cells #[.int .i64 0, .int .i64 0, .int .i64 0] 32)).alloc (.cells #[.int .i64 0, .int .i64 0, .int .i64 0] 32)).frozen? ⟨w.heap.size + 2, 2, none⟩ = false := by simp [go_sem]
  have hb0 : Below w.heap.size w (((w.alloc (.cells #[.int .i64 a, .int .i64 b, .int .i64 c] 90)).alloc (.cells #[.int .i64 0, .int .i64 0, .int .i64 0] 32)).alloc (.cells #[.int .i64 0, .int .i64 0, .int .i64 0] 32)) := by go_grown
  go_enter Try.func59, Try.ntmps59
  go_wp2_with (go_at_call 60; refine (c_toTile _ _ _).mono ?_; rintro e w' ⟨rfl, hb⟩; have p2' := keepc hb p2; have r0' := keepc hb r0; have o0' := keepc hb o0; have fr0' := (hb.frozen (p := ⟨w.heap.size + 1, 0, none⟩) (block_lt r0)).trans fr0; have fo0' := (hb.frozen (p := ⟨w.heap.size + 2, 0, none⟩) (block_lt o0)).trans fo0; have r1' := keepc hb r1; have o1' := keepc hb o1; have fr1' := (hb.frozen (p := ⟨w.heap.size + 1, 1, none⟩) (block_lt r1)).trans fr1; have fo1' := (hb.frozen (p := ⟨w.heap.size + 2, 1, none⟩) (block_lt o1)).trans fo1; have r2' := keepc hb r2; have o2' := keepc hb o2; have fr2' := (hb.frozen (p := ⟨w.heap.size + 1, 2, none⟩) (block_lt r2)).trans fr2; have fo2' := (hb.frozen (p := ⟨w.heap.size + 2, 2, none⟩) (block_lt o2)).trans fo2; have hbw := bstep hb0 hb; clear hb hb0)
  refine bodyPost_ret (v := .agg #[.int .i64 a, .int .i64 b, .int .i64 c]) (by simp [results, Try.results59, go_sem, r0', r1', r2']) rfl ⟨rfl, ?_⟩
  refine Below.setCell (Below.setCell (Below.setCell (Below.setCell (Below.setCell (Below.setCell hbw ?_ _) ?_ _) ?_ _) ?_ _) ?_ _) ?_ _ <;> (simp <;> omega)

theorem c_eqTile_same (a b : Int) (w : World) : Calls Try.prog 65 #[.agg #[.int .i64 a, .int .i64 b], .agg #[.int .i64 a, .int .i64 b]] w fun e w' => e = .returned (.bool true) ∧ Below w.heap.size w w' :=
  (c_eqTile a b a b w).mono fun e w' h => ⟨h.1.trans (ret_b (by simp [sameB])), h.2⟩

set_option maxHeartbeats 400000 in
theorem c_eqPlay_same (a b c : Int) (w : World) : Calls Try.prog 21 #[.agg #[.int .i64 a, .int .i64 b, .int .i64 c], .agg #[.int .i64 a, .int .i64 b, .int .i64 c]] w fun e w' => e = .returned (.bool true) ∧ Below w.heap.size w w' := by
  have x2 : ((w.alloc (.cells #[.int .i64 a, .int .i64 b, .int .i64 c] 32)).alloc (.cells #[.int .i64 a, .int .i64 b, .int .i64 c] 32)).cell? ⟨w.heap.size, 2, none⟩ = some (.int .i64 c) := by simp [go_sem]
  have z2 : ((w.alloc (.cells #[.int .i64 a, .int .i64 b, .int .i64 c] 32)).alloc (.cells #[.int .i64 a, .int .i64 b, .int .i64 c] 32)).cell? ⟨w.heap.size + 1, 2, none⟩ = some (.int .i64 c) := by simp [go_sem]
  have hb0 : Below w.heap.size w ((w.alloc (.cells #[.int .i64 a, .int .i64 b, .int .i64 c] 32)).alloc (.cells #[.int .i64 a, .int .i64 b, .int .i64 c] 32)) := by go_grown
  go_enter Try.func21, Try.ntmps21
  go_wp2_with (go_at_call 65; refine (c_eqTile_same _ _ _).mono ?_; rintro e w' ⟨rfl, hb⟩; have y2 := keepc hb x2; have u2 := keepc hb z2; have hbw := bstep hb0 hb)
  go_ret
  exact ⟨rfl, hbw⟩

set_option maxHeartbeats 400000 in
theorem c_szPlayS (A : Option Addr) (c n : Nat) (q : Int) (w : World) (hn : n ≤ 9223372036854775807) (h0 : 0 ≤ q) (h1 : q ≤ 9223372036854775807) :
    Calls Try.prog 15 #[.slice A n c, .int .i64 q] w fun e w' => e = .returned (.int .i64 (if q - n < 0 then -1 else q - n)) ∧ w = w' := by
  by_cases h : q - n < 0
  all_goals
    go_enter Try.func15, Try.ntmps15
    go_wp2
    go_ret
    exact ⟨ret_i (by first | omega | (split <;> omega)), rfl⟩

set_option maxHeartbeats 1000000 in
theorem c_toPlayS (A : Option Addr) (c : Nat) (ts : List (Int × Int × Int)) (w : World) (hr : RdP w A ts) (hl : ts.length ≤ 1048576) :
    Calls Try.prog 18 #[.slice A ts.length c] w fun e w' => e = .returned (.slice (some ⟨w.heap.size, 0, none⟩) ts.length ts.length) ∧
      w'.ownsRow w.heap.size 32 3 (.slice (some ⟨w.heap.size, 0, none⟩) ts.length ts.length) ts.length (cellsP ts) ∧ Below w.heap.size w w' := by
  obtain ⟨i0, hi, hz0, hz1, hz2⟩ := info_parts Try.info_P
  go_enter Try.func18, Try.ntmps18
  go_wp2_with (refine wpList_make_full _ rfl _ _ _ rfl w.heap.size 32 i0 _ 3 Try.underlying35 hi hz0 hz1 .i64 .i64 _ _ ts.length rfl rfl rfl rfl (by rw [hz2]; omega) (by unfold maxLen; omega) (Nat.le_refl _) ?_; intro w1 hown1 hg1)
  rw [← copyP_zero] at hown1
  have hsz : w.heap.size < w1.heap.size := (hown1.lt w.heap.size rfl).2
  have hb1 : Below w.heap.size w w1 := below_of_grown hg1 (Nat.le_refl _) (by simp)
  clear hg1 hz0 hz1 hz2 hi
  go_loopw [4] (fun i wr => ∃ k : Nat, k ≤ ts.length ∧ i = .int .i64 k ∧ wr.ownsRow w.heap.size 32 3 (.slice (some ⟨w.heap.size, 0, none⟩) ts.length ts.length) ts.length (cellsP (copyP k ts)) ∧ Below w.heap.size w wr) (fun i _ => ts.length - (intOf i).toNat)
  case atStart => exact ⟨0, Nat.zero_le _, rfl, hown1, hb1⟩
  case round =>
    clear hown1 hb1 hsz
    obtain ⟨k, hk, rfl, hown, hb⟩ := hrel
    by_cases hlt : k < ts.length
    · obtain ⟨bk, off, rfl, hbk, hc⟩ := hr.at_ hlt
      have g0 := (hb.cell (p := ⟨bk, _, none⟩) hbk).trans (hc k hlt).1
      have g1 := (hb.cell (p := ⟨bk, _, none⟩) hbk).trans (hc k hlt).2.1
      have g2 := (hb.cell (p := ⟨bk, _, none⟩) hbk).trans (hc k hlt).2.2
      have Hb := Lib.hid hb
      have Ho := Lib.hid hown
      have hcg := cellsP_get (copyP k ts) k (by rw [copyP_length hk]; exact hlt)
      have x0 := (hown.cellAt (k * 3) (by omega)).trans hcg.1
      have x1 := (hown.cellAt (k * 3 + 1) (by omega)).trans hcg.2.1
      have x2 := (hown.cellAt (k * 3 + 2) (by omega)).trans hcg.2.2
      have f0 := hown.frozenAt (k * 3)
      have f1 := hown.frozenAt (k * 3 + 1)
      have f2 := hown.frozenAt (k * 3 + 2)
      have hsz := (hown.lt w.heap.size rfl).2
      clear hc hcg hown hb hr
      go_wp2_with (go_at_call 59; refine (c_toPlay _ _ _ _).mono ?_; rintro e w2 ⟨rfl, hb2⟩; have y0 := keepc hb2 x0; have y1 := keepc hb2 x1; have y2 := keepc hb2 x2; have k0 := (hb2.frozen (p := ⟨w.heap.size, k * 3, none⟩) hsz).trans f0; have k1 := (hb2.frozen (p := ⟨w.heap.size, k * 3 + 1, none⟩) hsz).trans f1; have k2 := (hb2.frozen (p := ⟨w.heap.size, k * 3 + 2, none⟩) hsz).trans f2)
      go_roundw
      case rel =>
        refine ⟨k + 1, by omega, by go_num, ?_, (((bstep Hb.out hb2).setCell (Nat.le_refl _) _).setCell (Nat.le_refl _) _).setCell (Nat.le_refl _) _⟩
        rw [← copyP_step hlt]
        exact (World.ownsRow.stored (World.ownsRow.stored ((own_keep Ho.out hb2).stored _ _).1 _ _).1 _ _).1
      case measure => simp [intOf]; omega
    · have : k = ts.length := by omega
      subst this
      rw [copyP_all] at hown
      go_wp2
      go_ret
      exact ⟨rfl, hown, hb⟩

set_option maxHeartbeats 1000000 in
theorem c_heldPlayS (A : Option Addr) (c n : Nat) (q : Int) (w : World) (hr : RdP w A (marksP q n)) (h0 : 0 ≤ q) (h1 : q + 3 * n ≤ 9223372036854775807) :
    Calls Try.prog 28 #[.slice A n c, .int .i64 q] w fun e w' => e = .returned (.int .i64 (q + 3 * n)) ∧ w = w' := by
  go_enter Try.func28, Try.ntmps28
  go_wp2
  go_loop [1, 5] (fun p i => ∃ k : Nat, k ≤ n ∧ i = .int .i64 k ∧ p = .int .i64 (q + 3 * (k : Int))) (fun _ i => n - (intOf i).toNat)
  case atStart => exact ⟨0, Nat.zero_le _, rfl, by go_num⟩
  case round =>
    obtain ⟨k, hk, rfl, rfl⟩ := hrel
    by_cases hlt : k < n
    · obtain ⟨bk, off, rfl, hbk, hc⟩ := hr.at_ (k := k) (by rw [marksP_length]; exact hlt)
      have hc := hc k (by rw [marksP_length]; exact hlt)
      rw [marksP_get] at hc
      obtain ⟨g0, g1, g2⟩ := hc
      clear hr
      go_wp2
      go_round
      case rel => exact ⟨k + 1, by omega, by go_num, by go_num⟩
      case measure => simp [intOf]; omega
    · have : k = n := by omega
      subst this
      go_wp2
      go_ret
      exact ⟨rfl, rfl⟩

set_option maxHeartbeats 1000000 in
theorem c_markPlayS (A : Option Addr) (c base : Nat) (ts : List (Int × Int × Int)) (q : Int) (w : World) (hr : w.ownsRow base 32 3 (.slice A ts.length c) ts.length (cellsP ts)) (h0 : 0 ≤ q) (h1 : q + 3 * ts.length ≤ 9223372036854775807) :
    Calls Try.prog 26 #[.slice A ts.length c, .int .i64 q] w fun e w' => e = .returned (.int .i64 (q + 3 * ts.length)) ∧
      w'.ownsRow base 32 3 (.slice A ts.length c) ts.length (cellsP (marksP q ts.length)) ∧ w.grownBy w' (Value.slice A ts.length c).ownBlock := by
  go_enter Try.func26, Try.ntmps26
  go_wp2
  go_loopw [1, 5] (fun p i wr => ∃ k : Nat, k ≤ ts.length ∧ i = .int .i64 k ∧ p = .int .i64 (q + 3 * (k : Int)) ∧ wr.ownsRow base 32 3 (.slice A ts.length c) ts.length (cellsP (markP q k ts)) ∧ w.grownBy wr (Value.slice A ts.length c).ownBlock) (fun _ i _ => ts.length - (intOf i).toNat)
  case atStart => exact ⟨0, Nat.zero_le _, rfl, by go_num, by rw [markP_zero]; exact hr, World.grownBy.refl _ _⟩
  case round =>
    obtain ⟨k, hk, rfl, rfl, hown, hg⟩ := hrel
    by_cases hlt : k < ts.length
    · have hown' := hown
      obtain ⟨_, ⟨hv, hn⟩ | ⟨g, cap, cur, hv, _⟩⟩ := hown'
      · omega
      injection hv with e1 e2 e3
      subst e1
      have Hg := Lib.hid hg
      have Ho := Lib.hid hown
      have f0 := hown.frozenAt (k * 3)
      have f1 := hown.frozenAt (k * 3 + 1)
      have f2 := hown.frozenAt (k * 3 + 2)
      have hcg := cellsP_get (markP q k ts) k (by rw [markP_length q hk]; exact hlt)
      have x0 := (hown.cellAt (k * 3) (by omega)).trans hcg.1
      have x1 := (hown.cellAt (k * 3 + 1) (by omega)).trans hcg.2.1
      have x2 := (hown.cellAt (k * 3 + 2) (by omega)).trans hcg.2.2
      clear hg hown hcg hr e3 e2
      go_wp2
      go_roundw
      case rel =>
        refine ⟨k + 1, by omega, by go_num, by go_num, ?_, grown_set (grown_set (grown_set Hg.out _ _) _ _) _ _⟩
        rw [← markP_step q hlt, show q + 3 * (k : Int) + 2 = q + 3 * (k : Int) + 1 + 1 from by omega]
        exact (World.ownsRow.stored (World.ownsRow.stored (Ho.out.stored _ _).1 _ _).1 _ _).1
      case measure => simp [intOf]; omega
    · have : k = ts.length := by omega
      subst this
      go_wp2
      go_ret
      rw [markP_all] at hown
      exact ⟨rfl, hown, hg⟩

set_option maxHeartbeats 1000000 in
theorem c_eqPlayS_same (A B : Option Addr) (c d : Nat) (xs : List (Int × Int × Int)) (w : World) (hx : RdP w A xs) (hy : RdP w B xs) (lx : xs.length ≤ 9223372036854775807) :
    Calls Try.prog 22 #[.slice A xs.length c, .slice B xs.length d] w fun e w' => e = .returned (.bool true) ∧ Below w.heap.size w w' := by
  go_enter Try.func22, Try.ntmps22
  go_wp2
  go_loopw [5] (fun i wr => ∃ k : Nat, k ≤ xs.length ∧ i = .int .i64 k ∧ Below w.heap.size w wr) (fun i _ => xs.length - (intOf i).toNat)
  case atStart => exact ⟨0, Nat.zero_le _, rfl, Below.refl _ _⟩
  case round =>
    obtain ⟨k, hk, rfl, hb⟩ := hrel
    by_cases hlt : k < xs.length
    · obtain ⟨bk, off, rfl, hbk, hc⟩ := hx.at_ hlt
      obtain ⟨bj, oj, rfl, hbj, hd⟩ := hy.at_ hlt
      have g0 := (hb.cell (p := ⟨bk, _, none⟩) hbk).trans (hc k hlt).1
      have g1 := (hb.cell (p := ⟨bk, _, none⟩) hbk).trans (hc k hlt).2.1
      have g2 := (hb.cell (p := ⟨bk, _, none⟩) hbk).trans (hc k hlt).2.2
      have j0 := (hb.cell (p := ⟨bj, _, none⟩) hbj).trans (hd k hlt).1
      have j1 := (hb.cell (p := ⟨bj, _, none⟩) hbj).trans (hd k hlt).2.1
      have j2 := (hb.cell (p := ⟨bj, _, none⟩) hbj).trans (hd k hlt).2.2
      have hwr := hb.size
      clear hc hx hd hy
      go_wp2
      go_region_held3 (fun w' => w'.cell? ⟨bk, off + k * 3, none⟩ = some (.int .i64 xs[k].1) ∧ w'.cell? ⟨bk, off + k * 3 + 1, none⟩ = some (.int .i64 xs[k].2.1) ∧ w'.cell? ⟨bk, off + k * 3 + 2, none⟩ = some (.int .i64 xs[k].2.2) ∧ w'.cell? ⟨bj, oj + k * 3, none⟩ = some (.int .i64 xs[k].1) ∧ w'.cell? ⟨bj, oj + k * 3 + 1, none⟩ = some (.int .i64 xs[k].2.1) ∧ w'.cell? ⟨bj, oj + k * 3 + 2, none⟩ = some (.int .i64 xs[k].2.2)) (first | exact ⟨keepc hb' (by assumption), keepc hb' (by assumption), keepc hb' (by assumption), keepc hb' (by assumption), keepc hb' (by assumption), keepc hb' (by assumption)⟩ | go_keep) (first | (go_at_call 21; refine (c_eqPlay_same _ _ _ _).mono ?_; rintro e w' ⟨rfl, hb'⟩))
      go_wp2
      go_roundw
      case rel => exact ⟨k + 1, by omega, by go_num, bstep hb.drew hb'⟩
      case measure => simp [intOf]; omega
    · go_wp2
      go_ret
      exact ⟨rfl, hb⟩
end Go.Proofs.Ytnnkdnleencofab

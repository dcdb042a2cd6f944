/- clear of a slice of structs; rows of tiles written from a place on. -/
import Derived.Test.YtbanpgifhnbjoaaHelp
import Derived.Lib.SliceRun
namespace Go.Proofs.Ytbanpgifhnbjoaa
open Go.RowKit
set_option linter.unusedVariables false

theorem zeroCells_one {zs : Array Value} (h : ∀ u ∈ zs, u.oneCell' = true) (n : Nat) : ∀ v ∈ (Builtin.zeroCells zs n).toList, v.oneCell' = true := by
  intro v hv
  simp only [Builtin.zeroCells, Array.toList_map, List.mem_map, Array.toList_range, List.mem_range] at hv
  obtain ⟨i, hi, rfl⟩ := hv
  have hm : 0 < zs.size := by
    rcases Nat.eq_zero_or_pos zs.size with h0 | h0
    · rw [h0, Nat.mul_zero] at hi; omega
    · exact h0
  have := Nat.mod_lt i hm
  rw [getElem!_pos zs _ this]
  exact h _ (Array.getElem_mem this)
theorem zeroCells_len (zs : Array Value) (n : Nat) : (Builtin.zeroCells zs n).toList.length = n * zs.size := by simp [Builtin.zeroCells]

/-- clear of a slice of n > 0 elements of more cells than one. -/
theorem run_clear_rows {P : Program} (w : World) (t e ty : TypeId) (z : Value) (ht : P.underlying t = some (.slice e)) (hv : ∀ w, (zeroValue e).run P w = .ok z w) (h1 : ∀ u ∈ z.cells, u.oneCell' = true) (b o n c : Nat) (hn : 0 < n)
    (hc : ∀ j, j < n * z.cells.size → (w.cell? ⟨b, o + j, none⟩).isSome = true) (hf : ∀ j, j < n * z.cells.size → w.frozen? ⟨b, o + j, none⟩ = false) :
    (Builtin.clear_ #[t] ty #[.slice (some ⟨b, o, none⟩) n c]).run P w = .ok (.tuple #[]) (w.setCells b o (Builtin.zeroCells z.cells n).toList) := by
  have hl := zeroCells_len z.cells n
  have hst := run_storeCells_cells (P := P) b o (Builtin.zeroCells z.cells n).toList 0 w (by rw [hl]; simpa using hc) (by rw [hl]; simpa using hf) (zeroCells_one h1 n)
  simp only [Nat.add_zero] at hst
  obtain ⟨m, rfl⟩ : ∃ m, n = m + 1 := ⟨n - 1, by omega⟩
  simp [Builtin.clear_, run_underlying ht, hv, hst]

theorem own_setRow {base e sz g n c : Nat} : ∀ (vs : List Value) (o : Nat) (w : World) (cs : List Value), w.ownsRow base e sz (.slice (some ⟨g, 0, none⟩) n c) n cs → o + vs.length ≤ n * sz →
    (w.setCells g o vs).ownsRow base e sz (.slice (some ⟨g, 0, none⟩) n c) n (cs.take o ++ vs ++ cs.drop (o + vs.length))
  | [], o, w, cs, h, _ => by simpa [World.setCells] using h
  | v :: r, o, w, cs, h, ho => by
    have hl : cs.length = n * sz := h.1
    have := own_setRow r (o + 1) _ _ (h.stored o v).1 (by simp at ho; omega)
    simp only [World.setCells]
    have e1 : (cs.set o v).take (o + 1) = cs.take o ++ [v] := by
      simp only [List.length_cons] at ho
      rw [List.take_set, List.take_succ_eq_append_getElem (by omega), List.set_append_right _ _ (by simp; omega)]
      simp [Nat.min_eq_left (show o ≤ cs.length by omega)]
    have e2 : (cs.set o v).drop (o + 1 + r.length) = cs.drop (o + (v :: r).length) := by
      rw [List.drop_set_of_lt (by omega)]
      congr 1
      simp only [List.length_cons]
      omega
    rw [e1, e2] at this
    simpa using this
theorem grown_trans {w a b : World} {r : Option Nat} (h1 : w.grownBy a r) (h2 : a.grownBy b r) : w.grownBy b r :=
  ⟨h2.os.trans h1.os, h2.tape.trans h1.tape, h2.output.trans h1.output, Nat.le_trans h1.size h2.size, fun k hk hne => (h2.block k (Nat.lt_of_lt_of_le hk h1.size) hne).trans (h1.block k hk hne)⟩
theorem grown_refl (w : World) (r : Option Nat) : w.grownBy w r := ⟨rfl, rfl, rfl, Nat.le_refl _, fun _ _ _ => rfl⟩
theorem grown_setG (w : World) (g j : Nat) (v : Value) : w.grownBy (w.setCell ⟨g, j, none⟩ v) (some g) :=
  ⟨rfl, rfl, rfl, by simp, fun k _ hk => heap_setCell_other w ⟨g, j, none⟩ k v (fun e => hk (by simp [e]))⟩
theorem grown_setRow {g : Nat} : ∀ (vs : List Value) (o : Nat) (w : World), w.grownBy (w.setCells g o vs) (some g)
  | [], _, w => grown_refl w _
  | v :: r, o, w => by
    simp only [World.setCells]
    exact grown_trans (grown_setG w g o v) (grown_setRow r (o + 1) _)
theorem own_shrink {w : World} {base e sz g n c m : Nat} {cs : List Value} (h : w.ownsRow base e sz (.slice (some ⟨g, 0, none⟩) n c) n cs) (hm : m ≤ n) :
    w.ownsRow base e sz (.slice (some ⟨g, 0, none⟩) m c) m (cs.take (m * sz)) := by
  have hms : m * sz ≤ n * sz := Nat.mul_le_mul_right _ hm
  rcases h.2 with ⟨h', _⟩ | ⟨g', cap', cur, h', hb, hg, hnc, hcm, hcs, htake⟩
  · simp at h'
  · simp only [Value.slice.injEq, Option.some.injEq, Addr.mk.injEq, and_true, true_and] at h'
    obtain ⟨rfl, rfl⟩ := h'
    refine ⟨by rw [List.length_take, h.1]; omega, .inr ⟨g, c, cur, rfl, hb, hg, by omega, hcm, hcs, ?_⟩⟩
    rw [← htake, List.take_take, Nat.min_eq_left hms]
/-- A tile written into a row of tiles. -/
theorem cellsT_setT : ∀ (ts : List (Int × Int)) (m : Nat) (p q : Int), m < ts.length → cellsT (ts.set m (p, q)) = ((cellsT ts).set (m * 2) (.int .i64 p)).set (m * 2 + 1) (.int .i64 q)
  | [], m, _, _, h => by simp at h
  | t :: ts, 0, p, q, _ => by simp [cellsT]
  | t :: ts, m + 1, p, q, h => by
    have ih := cellsT_setT ts m p q (by simpa using h)
    have e : ∀ (t : Int × Int) (us : List (Int × Int)), cellsT (t :: us) = .int .i64 t.1 :: .int .i64 t.2 :: cellsT us := fun t us => by simp [cellsT]
    rw [List.set_cons_succ, e, e, ih, show (m + 1) * 2 = m * 2 + 1 + 1 from by omega, List.set_cons_succ, List.set_cons_succ, List.set_cons_succ, List.set_cons_succ]
theorem cellsT_take (ts : List (Int × Int)) (m : Nat) : (cellsT ts).take (m * 2) = cellsT (ts.take m) := by
  induction ts generalizing m with
  | nil => simp [cellsT]
  | cons t ts ih =>
    have e : ∀ (t : Int × Int) (us : List (Int × Int)), cellsT (t :: us) = .int .i64 t.1 :: .int .i64 t.2 :: cellsT us := fun t us => by simp [cellsT]
    cases m with
    | zero => simp [cellsT]
    | succ m => rw [e, List.take_succ_cons, e, ← ih m, show (m + 1) * 2 = m * 2 + 1 + 1 from by omega]; simp
end Go.Proofs.Ytbanpgifhnbjoaa

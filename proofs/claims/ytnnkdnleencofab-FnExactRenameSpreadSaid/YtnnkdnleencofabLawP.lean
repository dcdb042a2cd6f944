/- Arguments of the laws: plays, and lists of them. -/
import Derived.Test.YtnnkdnleencofabLaw
import Derived.Test.YtnnkdnleencofabRowP
namespace Go.Proofs.Ytnnkdnleencofab
open Go.ChangeShapes Go.WideShapes Go.ChangeAt Go.RowKit Go.Joins

section
variable {H : Type} {enc : TypeId × Value → H}

theorem Try.cells_lplay : Try.prog.cellsOf 90 = 3 := by kernel_rfl

theorem Try.cells_ltile' : Try.prog.cellsOf 88 = 2 := by kernel_rfl

theorem Try.cells_int' : Try.prog.cellsOf 3 = 1 := by kernel_rfl

set_option maxRecDepth 100000 in
theorem play_cells {W : World} {base fuel : Nat} {sp : Nat → Bool} {held : Bool} {cs : List Value} {x : DataW H × List MemPlace} (h : DataW.trod enc Try.prog W base sp held fuel 90 cs = some x) :
    ∃ a b c : Int, cs = [.int .i64 a, .int .i64 b, .int .i64 c] := by
  obtain ⟨y0, y1, n, _, hl, t0, t1⟩ := trod_struct2 Try.underlying90 h
  rw [Try.cells_lplay] at hl
  match cs, hl with
  | [v0, v1, v2], _ =>
    obtain ⟨z0, z1, m, _, _, u0, u1⟩ := trod_struct2 Try.underlying88 t0
    simp [Try.cells_ltile', Try.cells_int'] at t1 u0 u1
    obtain ⟨a, ha, _⟩ := DataW.trod_int Try.underlying3 u0
    obtain ⟨b, hb, _⟩ := DataW.trod_int Try.underlying3 u1
    obtain ⟨c, hc, _⟩ := DataW.trod_int Try.underlying3 t1
    exact ⟨a, b, c, by simp_all⟩

set_option maxRecDepth 100000 in
theorem open_plays {W : World} {r : Reach} {b0 : Nat} {v : Value} {d : DataW H} {p : List MemPlace}
    (hv : Value.okWide Try.prog W r b0 25 v) (h : DataW.Trod enc Try.prog W 0 (fun _ => true) true 25 v d p) :
    ∃ (A : Option Addr) (c : Nat) (ts : List (Int × Int × Int)), v = .slice A ts.length c ∧ RdP W A ts ∧ ts.length ≤ 9223372036854775807 := by
  obtain ⟨a0, len0, cap0, rfl⟩ := okWide_slice Try.underlying25 hv
  obtain ⟨fuel, h⟩ := h
  rcases Deep.open_slice Try.underlying25 h with ⟨h1, _⟩ | ⟨a, len, cap, m, n, D, Pl, h1, _, hlc, hcm, hm, _, hi⟩
  · simp only [Value.cells, List.cons.injEq, Value.slice.injEq, and_true] at h1
    obtain ⟨rfl, rfl, rfl⟩ := h1
    exact ⟨none, 0, [], rfl, RdP.nil_, by simp⟩
  · simp only [Value.cells, List.cons.injEq, Value.slice.injEq, and_true] at h1
    obtain ⟨rfl, rfl, rfl⟩ := h1
    simp only [if_true] at hm
    subst hm
    obtain ⟨Q, hQ⟩ := Deep.choose_lt (α := Int × Int × Int) (n := len0) (p := fun i q => W.cell? ⟨a.block, a.off + i * 3, none⟩ = some (.int .i64 q.1) ∧ W.cell? ⟨a.block, a.off + i * 3 + 1, none⟩ = some (.int .i64 q.2.1) ∧ W.cell? ⟨a.block, a.off + i * 3 + 2, none⟩ = some (.int .i64 q.2.2)) (fun i hil => by
      obtain ⟨cs', g1, g2⟩ := hi i (by omega)
      rw [Try.cells_lplay] at g1
      obtain ⟨_, hlen, hcell⟩ := World.cells?_some g1
      obtain ⟨x, y, z, rfl⟩ := play_cells g2
      have e0 := hcell 0 (by omega)
      have e1 := hcell 1 (by omega)
      have e2 := hcell 2 (by omega)
      rw [Deep.add_add] at e0 e1 e2
      refine ⟨(x, y, z), ?_, ?_, ?_⟩
      · have := cell_add_plain (e0.trans rfl); simpa using this
      · have := cell_add_plain (e1.trans rfl); rw [Nat.add_assoc]; exact this
      · have := cell_add_plain (e2.trans rfl); rw [Nat.add_assoc]; exact this)
    refine ⟨some a, m, (List.range len0).map Q, by simp, ⟨a.block, a.off, fun hne => ?_, fun k hk => ?_⟩, by simp; unfold maxLen at hcm; omega⟩
    · have h0 : 0 < len0 := by
        rcases Nat.eq_zero_or_pos len0 with h | h
        · subst h; simp at hne
        · exact h
      obtain ⟨cs', g1, _⟩ := hi 0 (by omega)
      rw [Try.cells_lplay] at g1
      obtain ⟨_, hlen, hcell⟩ := World.cells?_some g1
      have := hcell 0 (by omega)
      rw [Nat.zero_mul, show (a.add 0).add 0 = a from by simp [Addr.add]] at this
      obtain ⟨u, hu⟩ : ∃ u, cs'[0]? = some u := ⟨_, List.getElem?_eq_getElem (by omega)⟩
      rw [hu] at this
      exact congrArg some (plain_of_cell this)
    · simp only [List.length_map, List.length_range] at hk
      simp only [List.getElem_map, List.getElem_range]
      exact hQ k hk

set_option maxRecDepth 100000 in
theorem open_play {W : World} {r : Reach} {b0 base : Nat} {sp : Nat → Bool} {held : Bool} {v : Value} {d : DataW H} {p : List MemPlace}
    (hv : Value.okWide Try.prog W r b0 90 v) (h : DataW.Trod enc Try.prog W base sp held 90 v d p) : ∃ a b c : Int, v = .agg #[.int .i64 a, .int .i64 b, .int .i64 c] := by
  obtain ⟨cs, rfl, hsz⟩ := okWide_struct Try.underlying90 hv
  obtain ⟨fuel, hf⟩ := h
  obtain ⟨a, b, c, e⟩ := play_cells hf
  refine ⟨a, b, c, ?_⟩
  obtain ⟨l⟩ := cs
  simp only [Value.cells] at e
  rw [e]
end
end Go.Proofs.Ytnnkdnleencofab

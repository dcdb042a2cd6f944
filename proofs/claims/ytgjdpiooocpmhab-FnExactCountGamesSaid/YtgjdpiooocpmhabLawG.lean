/- Arguments of the laws: games. -/
import Derived.Test.YtgjdpiooocpmhabLawI
namespace Go.Proofs.Ytgjdpiooocpmhab
open Go.ChangeShapes Go.WideShapes Go.ChangeAt Go.RowKit Go.Joins
set_option linter.unusedVariables false

section
variable {H : Type} {enc : TypeId × Value → H}

theorem Try.cells_lgame : Try.prog.cellsOf 25 = 5 := by kernel_rfl
theorem Try.cells_ltiles : Try.prog.cellsOf 22 = 1 := by kernel_rfl
theorem Try.cells_ints : Try.prog.cellsOf 23 = 1 := by kernel_rfl

set_option maxRecDepth 100000 in
theorem nums_cs {W : World} {fuel : Nat} {cs : List Value} {x : DataW H × List MemPlace} (h : DataW.trod enc Try.prog W 0 (fun _ => true) true fuel 23 cs = some x) :
    ∃ (A : Option Addr) (c : Nat) (xs : List Int), cs = [.slice A xs.length c] ∧ RdI W A xs ∧ xs.length ≤ 9223372036854775807 := by
  rcases open_ints Try.underlying23 Try.underlying3 Try.cells_int h with ⟨rfl, _⟩ | ⟨a, len, cap, zs, rfl, _, hlc, hcm, hz, _, hi, _⟩
  · exact ⟨none, 0, [], rfl, RdI.nil_, by simp⟩
  · simp only [if_true] at hz
    have hl : (zs.take len).length = len := by rw [List.length_take]; omega
    refine ⟨some a, cap, zs.take len, by rw [hl], ⟨a.block, a.off, fun hne => ?_, fun k hk => ?_⟩, by rw [hl]; unfold maxLen at hcm; omega⟩
    · have h0 : 0 < (zs.take len).length := List.length_pos_iff.2 hne
      have := hi 0 (by omega)
      rw [show a.add 0 = a from by simp [Addr.add]] at this
      exact congrArg some (plain_of_cell this)
    · have h1 := cell_add_plain (hi k (by omega))
      rw [h1, List.getElem_take]
      simp [List.getD_eq_getElem?_getD, List.getElem?_eq_getElem (show k < zs.length by omega)]

set_option maxRecDepth 100000 in
theorem tiles_cs {W : World} {fuel : Nat} {cs : List Value} {x : DataW H × List MemPlace} (h : DataW.trod enc Try.prog W 0 (fun _ => true) true fuel 22 cs = some x) :
    ∃ (A : Option Addr) (c : Nat) (ts : List (Int × Int)), cs = [.slice A ts.length c] ∧ RdT W A ts ∧ ts.length ≤ 9223372036854775807 := by
  rcases Deep.open_slice_pairs Try.underlying22 Try.underlying94 Try.cells_ltile rfl rfl Try.cells_int Try.cells_int h with ⟨rfl, _⟩ | ⟨a, len0, cap, m, n, V0, V1, D0, D1, P0, P1, rfl, _, hlc, hcm, hm, _, hi⟩
  · exact ⟨none, 0, [], rfl, RdT.nil_, by simp⟩
  · simp only [if_true] at hm
    subst hm
    refine ⟨some a, m, (List.range len0).map (fun i => (intOf (V0 i), intOf (V1 i))), by simp, ⟨a.block, a.off, fun hne => ?_, fun k hk => ?_⟩, by simp; unfold maxLen at hcm; omega⟩
    · have h0 : 0 < len0 := by
        rcases Nat.eq_zero_or_pos len0 with h | h
        · subst h; simp at hne
        · exact h
      have := (hi 0 (by omega)).1
      rw [Nat.zero_mul, show a.add 0 = a from by simp [Addr.add]] at this
      exact congrArg some (plain_of_cell this)
    · simp only [List.length_map, List.length_range] at hk
      obtain ⟨h1, h2, h3, h4⟩ := hi k (by omega)
      obtain ⟨x, hx, _⟩ := DataW.trod_int Try.underlying3 h3
      obtain ⟨y, hy, _⟩ := DataW.trod_int Try.underlying3 h4
      simp only [List.cons.injEq, and_true] at hx hy
      replace h1 := cell_add_plain h1
      replace h2 := cell_add_plain h2
      rw [hx] at h1
      rw [hy] at h2
      simp only [List.getElem_map, List.getElem_range, hx, hy, intOf]
      exact ⟨h1, by rw [Nat.add_assoc]; exact h2⟩

set_option maxRecDepth 100000 in
theorem open_game {W : World} {r : Reach} {b0 : Nat} {v : Value} {d : DataW H} {p : List MemPlace}
    (hv : Value.okWide Try.prog W r b0 25 v) (h : DataW.Trod enc Try.prog W 0 (fun _ => true) true 25 v d p) :
    ∃ (AF : Option Addr) (cF : Nat) (F : List (Int × Int)) (AS : Option Addr) (cS : Nat) (S : List (Int × Int)) (AR : Option Addr) (cR : Nat) (R : List Int) (t u : Int),
      v = .agg #[.slice AF F.length cF, .slice AS S.length cS, .slice AR R.length cR, .int .i64 t, .int .i64 u] ∧ (RdT W AF F ∧ F.length ≤ 9223372036854775807) ∧ (RdT W AS S ∧ S.length ≤ 9223372036854775807) ∧ (RdI W AR R ∧ R.length ≤ 9223372036854775807) ∧
      (Lit.int .i64 t).wf = true ∧ (Lit.int .i64 u).wf = true := by
  obtain ⟨cs, rfl, hsz⟩ := okWide_struct Try.underlying25 hv
  obtain ⟨fuel, hf⟩ := h
  obtain ⟨xs, n, _, _, hl, hlen, hx⟩ := DataW.trod_struct Try.underlying25 hf
  obtain ⟨l⟩ := cs
  rw [Try.cells_lgame] at hl
  simp only [Value.cells] at hl hx
  match l, hl, xs, hlen with
  | [v0, v1, v2, v3, v4], _, [y0, y1, y2, y3, y4], _ =>
    have k0 := hx 0 _ rfl
    have k1 := hx 1 _ rfl
    have k2 := hx 2 _ rfl
    have k3 := hx 3 _ rfl
    have k4 := hx 4 _ rfl
    simp [Try.cells_ltiles, Try.cells_ints, Try.cells_int] at k0 k1 k2 k3 k4
    obtain ⟨AF, cF, F, e0, h0, l0⟩ := tiles_cs k0
    obtain ⟨AS, cS, S, e1, h1, l1⟩ := tiles_cs k1
    obtain ⟨AR, cR, R, e2, h2, l2⟩ := nums_cs k2
    obtain ⟨t, e3, _, wt⟩ := DataW.trod_int Try.underlying3 k3
    obtain ⟨u, e4, _, wu⟩ := DataW.trod_int Try.underlying3 k4
    simp only [List.cons.injEq, and_true] at e0 e1 e2 e3 e4
    subst e0 e1 e2 e3 e4
    exact ⟨AF, cF, F, AS, cS, S, AR, cR, R, t, u, rfl, ⟨h0, l0⟩, ⟨h1, l1⟩, ⟨h2, l2⟩, wt, wu⟩
end
end Go.Proofs.Ytgjdpiooocpmhab

/- Arguments of the laws: puzzles. -/
import Derived.Test.YtjdnkcdnppcbhabDoorLawI
namespace Go.Proofs.YtjdnkcdnppcbhabDoor
open Go.ChangeShapes Go.WideShapes Go.ChangeAt Go.RowKit Go.Joins
set_option linter.unusedVariables false

section
variable {H : Type} {enc : TypeId × Value → H}

theorem Tryd.cells_lpuzzle : Tryd.prog.cellsOf 25 = 2 := by kernel_rfl
theorem Tryd.cells_ltilesP : Tryd.prog.cellsOf 22 = 1 := by kernel_rfl
theorem Tryd.cells_intsP : Tryd.prog.cellsOf 23 = 1 := by kernel_rfl

set_option maxRecDepth 100000 in
theorem nums_csP {W : World} {fuel : Nat} {cs : List Value} {x : DataW H × List MemPlace} (h : DataW.trod enc Tryd.prog W 0 (fun _ => true) true fuel 23 cs = some x) :
    ∃ (A : Option Addr) (c : Nat) (xs : List Int), cs = [.slice A xs.length c] ∧ RdI W A xs ∧ xs.length ≤ 9223372036854775807 := by
  rcases open_ints Tryd.underlying23 Tryd.underlying3 Tryd.cells_int h with ⟨rfl, _⟩ | ⟨a, len, cap, zs, rfl, _, hlc, hcm, hz, _, hi, _⟩
  · exact ⟨none, 0, [], rfl, RdI.nil_, by simp⟩
  · simp only [if_true] at hz
    have hl : (zs.take len).length = len := by rw [List.length_take]; omega
    refine ⟨some a, cap, zs.take len, by rw [hl], ⟨a.block, a.off, fun hne => ?_, fun k hk => ?_⟩, by rw [hl]; unfold maxLen at hcm; omega⟩
    · have h0 : 0 < (zs.take len).length := List.length_pos_iff.2 hne
      have := hi 0 (by omega)
      rw [show a.add 0 = a from by simp [Addr.add]] at this
      exact congrArg some (plain_of_cell this)
    · have h1 := cell_add_plain (hi k (by omega))
      rw [h1, List.getElem_take]
      simp [List.getD_eq_getElem?_getD, List.getElem?_eq_getElem (show k < zs.length by omega)]

set_option maxRecDepth 100000 in
theorem tiles_csP {W : World} {fuel : Nat} {cs : List Value} {x : DataW H × List MemPlace} (h : DataW.trod enc Tryd.prog W 0 (fun _ => true) true fuel 22 cs = some x) :
    ∃ (A : Option Addr) (c : Nat) (ts : List (Int × Int)), cs = [.slice A ts.length c] ∧ RdT W A ts ∧ ts.length ≤ 9223372036854775807 := by
  rcases Deep.open_slice_pairs Tryd.underlying22 Tryd.underlying65 Tryd.cells_ltile rfl rfl Tryd.cells_int Tryd.cells_int h with ⟨rfl, _⟩ | ⟨a, len0, cap, m, n, V0, V1, D0, D1, P0, P1, rfl, _, hlc, hcm, hm, _, hi⟩
  · exact ⟨none, 0, [], rfl, RdT.nil_, by simp⟩
  · simp only [if_true] at hm
    subst hm
    refine ⟨some a, m, (List.range len0).map (fun i => (intOf (V0 i), intOf (V1 i))), by simp, ⟨a.block, a.off, fun hne => ?_, fun k hk => ?_⟩, by simp; unfold maxLen at hcm; omega⟩
    · have h0 : 0 < len0 := by
        rcases Nat.eq_zero_or_pos len0 with h | h
        · subst h; simp at hne
        · exact h
      have := (hi 0 (by omega)).1
      rw [Nat.zero_mul, show a.add 0 = a from by simp [Addr.add]] at this
      exact congrArg some (plain_of_cell this)
    · simp only [List.length_map, List.length_range] at hk
      obtain ⟨h1, h2, h3, h4⟩ := hi k (by omega)
      obtain ⟨x, hx, _⟩ := DataW.trod_int Tryd.underlying3 h3
      obtain ⟨y, hy, _⟩ := DataW.trod_int Tryd.underlying3 h4
      simp only [List.cons.injEq, and_true] at hx hy
      replace h1 := cell_add_plain h1
      replace h2 := cell_add_plain h2
      rw [hx] at h1
      rw [hy] at h2
      simp only [List.getElem_map, List.getElem_range, hx, hy, intOf]
      exact ⟨h1, by rw [Nat.add_assoc]; exact h2⟩

set_option maxRecDepth 100000 in
theorem open_puzzle {W : World} {r : Reach} {b0 : Nat} {v : Value} {d : DataW H} {p : List MemPlace}
    (hv : Value.okWide Tryd.prog W r b0 25 v) (h : DataW.Trod enc Tryd.prog W 0 (fun _ => true) true 25 v d p) :
    ∃ (AT : Option Addr) (cT : Nat) (T : List (Int × Int)) (AC : Option Addr) (cC : Nat) (C : List Int),
      v = .agg #[.slice AT T.length cT, .slice AC C.length cC] ∧ (RdT W AT T ∧ T.length ≤ 9223372036854775807) ∧ (RdI W AC C ∧ C.length ≤ 9223372036854775807) := by
  obtain ⟨cs, rfl, hsz⟩ := okWide_struct Tryd.underlying25 hv
  obtain ⟨fuel, hf⟩ := h
  obtain ⟨xs, n, _, _, hl, hlen, hx⟩ := DataW.trod_struct Tryd.underlying25 hf
  obtain ⟨l⟩ := cs
  rw [Tryd.cells_lpuzzle] at hl
  simp only [Value.cells] at hl hx
  match l, hl, xs, hlen with
  | [v0, v1], _, [y0, y1], _ =>
    have k0 := hx 0 _ rfl
    have k1 := hx 1 _ rfl
    simp [Tryd.cells_ltilesP, Tryd.cells_intsP] at k0 k1
    obtain ⟨AT, cT, T, e0, h0, l0⟩ := tiles_csP k0
    obtain ⟨AC, cC, C, e1, h1, l1⟩ := nums_csP k1
    simp only [List.cons.injEq, and_true] at e0 e1
    subst e0 e1
    exact ⟨AT, cT, T, AC, cC, C, rfl, ⟨h0, l0⟩, ⟨h1, l1⟩⟩
end
end Go.Proofs.YtjdnkcdnppcbhabDoor

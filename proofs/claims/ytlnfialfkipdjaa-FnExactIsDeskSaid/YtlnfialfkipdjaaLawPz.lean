/- Arguments of the laws: puzzles. -/
import Derived.Test.YtlnfialfkipdjaaLawA
namespace Go.Proofs.Ytlnfialfkipdjaa
open Go.ChangeShapes Go.WideShapes Go.ChangeAt Go.RowKit Go.Joins
set_option linter.unusedVariables false

section
variable {H : Type} {enc : TypeId × Value → H}

theorem Try.cells_ltilesP : Try.prog.cellsOf 29 = 1 := by kernel_rfl
theorem Try.cells_intsP : Try.prog.cellsOf 36 = 1 := by kernel_rfl

set_option maxRecDepth 100000 in
theorem nums_csP {W : World} {fuel : Nat} {cs : List Value} {x : DataW H × List MemPlace} (h : DataW.trod enc Try.prog W 0 (fun _ => true) true fuel 36 cs = some x) :
    ∃ (A : Option Addr) (c : Nat) (xs : List Int), cs = [.slice A xs.length c] ∧ RdI W A xs ∧ xs.length ≤ 9223372036854775807 := by
  rcases open_ints Try.underlying36 Try.underlying3 Try.cells_int h with ⟨rfl, _⟩ | ⟨a, len, cap, zs, rfl, _, hlc, hcm, hz, _, hi, _⟩
  · exact ⟨none, 0, [], rfl, RdI.nil_, by simp⟩
  · simp only [if_true] at hz
    have hl : (zs.take len).length = len := by rw [List.length_take]; omega
    refine ⟨some a, cap, zs.take len, by rw [hl], ⟨a.block, a.off, fun hne => ?_, fun k hk => ?_⟩, by rw [hl]; unfold maxLen at hcm; omega⟩
    · have h0 : 0 < (zs.take len).length := List.length_pos_iff.2 hne
      have := hi 0 (by omega)
      rw [show a.add 0 = a from by simp [Addr.add]] at this
      exact congrArg some (plain_of_cell this)
    · have h1 := cell_add_plain (hi k (by omega))
      rw [h1, List.getElem_take]
      simp [List.getD_eq_getElem?_getD, List.getElem?_eq_getElem (show k < zs.length by omega)]

set_option maxRecDepth 100000 in
theorem tiles_csP {W : World} {fuel : Nat} {cs : List Value} {x : DataW H × List MemPlace} (h : DataW.trod enc Try.prog W 0 (fun _ => true) true fuel 29 cs = some x) :
    ∃ (A : Option Addr) (c : Nat) (ts : List (Int × Int)), cs = [.slice A ts.length c] ∧ RdT W A ts ∧ ts.length ≤ 9223372036854775807 := by
  rcases Deep.open_slice_pairs Try.underlying29 Try.underlying128 Try.cells_ltile rfl rfl Try.cells_int Try.cells_int h with ⟨rfl, _⟩ | ⟨a, len0, cap, m, n, V0, V1, D0, D1, P0, P1, rfl, _, hlc, hcm, hm, _, hi⟩
  · exact ⟨none, 0, [], rfl, RdT.nil_, by simp⟩
  · simp only [if_true] at hm
    subst hm
    refine ⟨some a, m, (List.range len0).map (fun i => (intOf (V0 i), intOf (V1 i))), by simp, ⟨a.block, a.off, fun hne => ?_, fun k hk => ?_⟩, by simp; unfold maxLen at hcm; omega⟩
    · have h0 : 0 < len0 := by
        rcases Nat.eq_zero_or_pos len0 with h | h
        · subst h; simp at hne
        · exact h
      have := (hi 0 (by omega)).1
      rw [Nat.zero_mul, show a.add 0 = a from by simp [Addr.add]] at this
      exact congrArg some (plain_of_cell this)
    · simp only [List.length_map, List.length_range] at hk
      obtain ⟨h1, h2, h3, h4⟩ := hi k (by omega)
      obtain ⟨x, hx, _⟩ := DataW.trod_int Try.underlying3 h3
      obtain ⟨y, hy, _⟩ := DataW.trod_int Try.underlying3 h4
      simp only [List.cons.injEq, and_true] at hx hy
      replace h1 := cell_add_plain h1
      replace h2 := cell_add_plain h2
      rw [hx] at h1
      rw [hy] at h2
      simp only [List.getElem_map, List.getElem_range, hx, hy, intOf]
      exact ⟨h1, by rw [Nat.add_assoc]; exact h2⟩

end
end Go.Proofs.Ytlnfialfkipdjaa

/- Arguments of the laws: desks. -/
import Derived.Test.YtlnfialfkipdjaaLawPz
namespace Go.Proofs.Ytlnfialfkipdjaa
open Go.ChangeShapes Go.WideShapes Go.ChangeAt Go.RowKit Go.Joins
set_option linter.unusedVariables false

section
variable {H : Type} {enc : TypeId × Value → H}

theorem Try.cells_ldesk : Try.prog.cellsOf 31 = 2 := by kernel_rfl

set_option maxRecDepth 100000 in
theorem open_desk {W : World} {r : Reach} {b0 : Nat} {v : Value} {d : DataW H} {p : List MemPlace}
    (hv : Value.okWide Try.prog W r b0 31 v) (h : DataW.Trod enc Try.prog W 0 (fun _ => true) true 31 v d p) :
    ∃ (AT : Option Addr) (cT : Nat) (T : List (Int × Int)) (top : Int),
      v = .agg #[.slice AT T.length cT, .int .i64 top] ∧ (RdT W AT T ∧ T.length ≤ 9223372036854775807) := by
  obtain ⟨cs, rfl, hsz⟩ := okWide_struct Try.underlying31 hv
  obtain ⟨fuel, hf⟩ := h
  obtain ⟨xs, n, _, _, hl, hlen, hx⟩ := DataW.trod_struct Try.underlying31 hf
  obtain ⟨l⟩ := cs
  rw [Try.cells_ldesk] at hl
  simp only [Value.cells] at hl hx
  match l, hl, xs, hlen with
  | [v0, v1], _, [y0, y1], _ =>
    have k0 := hx 0 _ rfl
    have k1 := hx 1 _ rfl
    simp [Try.cells_ltilesP, Try.cells_int] at k0 k1
    obtain ⟨AT, cT, T, e0, h0, l0⟩ := tiles_csP k0
    obtain ⟨top, e1, _⟩ := DataW.trod_int Try.underlying3 k1
    simp only [List.cons.injEq, and_true] at e0 e1
    subst e0 e1
    exact ⟨AT, cT, T, top, rfl, h0, l0⟩

end
end Go.Proofs.Ytlnfialfkipdjaa

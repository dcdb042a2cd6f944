/- The laws on one tile and two numbers: they answer true at every argument. No condition. -/
import Derived.Test.YtfdjcfgpgfknkaaLaw
namespace Go.Proofs.Ytfdjcfgpgfknkaa
open Go.ChangeShapes Go.WideShapes Go.ChangeAt Go.RowKit Go.Joins
set_option linter.unusedVariables false

theorem wf_lo {a : Int} (h : (Lit.int .i64 a).wf = true) : -9223372036854775808 ≤ a := by
  simp only [Lit.wf, Bool.and_eq_true, decide_eq_true_eq] at h; exact h.1
theorem wf_hi {a : Int} (h : (Lit.int .i64 a).wf = true) : a ≤ 9223372036854775807 := by
  simp only [Lit.wf, Bool.and_eq_true, decide_eq_true_eq] at h; exact h.2

set_option maxHeartbeats 400000 in
theorem w_FnExactIsTile (a b : Int) (w : World) : Calls Try.prog 3 #[.agg #[.int .i64 a, .int .i64 b]] w fun e w' => e = .returned (.bool true) ∧ Below w.heap.size w w' := by
  have hb0 : Below w.heap.size w (w.alloc (.cells #[.int .i64 a, .int .i64 b] 23)) := by go_grown
  have x0 : (w.alloc (.cells #[.int .i64 a, .int .i64 b] 23)).cell? ⟨w.heap.size, 0, none⟩ = some (.int .i64 a) := by simp
  have y0 : (w.alloc (.cells #[.int .i64 a, .int .i64 b] 23)).cell? ⟨w.heap.size, 1, none⟩ = some (.int .i64 b) := by simp
  go_enter Try.func3, Try.ntmps3
  go_wp2_with fail
  refine (c_toTile _ _ _).mono ?_
  rintro e w1 ⟨rfl, h1⟩
  have x1 := keepc h1 x0
  have y1 := keepc h1 y0
  have hb1 := bstep hb0 h1
  clear x0 y0 hb0 h1
  go_wp2_with fail
  refine (c_specIsTile _ _ _).mono ?_
  rintro e w2 ⟨rfl, h2⟩
  have x2 := keepc h2 x1
  have y2 := keepc h2 y1
  have hb2 := bstep hb1 h2
  clear x1 y1 hb1 h2
  go_wp2_with fail
  refine (c_toTile _ _ _).mono ?_
  rintro e w3 ⟨rfl, h3⟩
  have hb3 := bstep hb2 h3
  go_wp2_with fail
  refine (c_implIsTile _ _ _).mono ?_
  rintro e w4 ⟨rfl, h4⟩
  have hb4 := bstep hb3 h4
  go_wp2
  go_ret
  exact ⟨rfl, hb4⟩

set_option maxRecDepth 100000 in
theorem lifted_FnExactIsTile (os : Os) (started : os.Started) (H : Type) (enc : TypeId × Value → H) :
    ReturnsInHanded {} Try.checked os 3 .any (Rows.fnExactIsTileSpec.pre6 enc Try.prog Try.f3 Rows.fnExactIsTileRow.domain false) (Rows.fnExactIsTileSpec.post enc Try.prog Try.f3 false true false false) := by
  refine returnsInHanded_of_change (C := Try.checked) Try.own_ started (by kernel_rfl) Try.func3
    (ChangeSpec.witness6 (enc := enc) (C := Try.checked) false ⟨#[], #[.agg #[.int .i64 0, .int .i64 0]], []⟩ 8 (by kernel_rfl) (by kernel_rfl) (by kernel_rfl) (by kernel_rfl)) ?_
  intro W base args ds gs before hval0 hW hcnd _
  have hval : ∀ (j : Nat) t v, Try.f3.params[j]? = some t → args[j]? = some v → Value.okWide Try.prog W .any base t v := hval0
  have hW' := hW
  obtain ⟨p, q, hA0, hV, rfl, hfz, hnd⟩ := hW
  have hA : DataW.TrodAll enc Try.prog W 0 (fun _ => true) true Try.f3.params.toList args.toList ds p := hA0
  rw [Try.params3] at hA hval
  obtain ⟨v0, vs0, d0, ds0, p0, q0, hargs0, rfl, rfl, h0, r0⟩ := trodAll_cons hA
  obtain ⟨rfl, rfl, rfl⟩ := trodAll_nil r0
  obtain rfl : args = #[v0] := by cases args; simp_all
  obtain ⟨rfl, rfl⟩ := trodVars_none hV
  obtain ⟨x0, y0, rfl⟩ := open_tile (hval 0 23 v0 rfl rfl) h0
  refine (w_FnExactIsTile x0 y0 W).mono fun e W' ⟨he, hg⟩ => ?_
  subst he
  exact ⟨_, rfl, law_post rfl rfl (of_decide_eq_true (by kernel_rfl)) hW' rfl hg⟩

theorem fnExactIsTile_holds : Rows.FnExactIsTileSaid :=
  OpenClaim.holds_of_wide 3 Try.f3 rfl rfl rfl rfl rfl rfl rfl ⟨rfl, rfl, rfl, rfl, rfl⟩ rfl rfl rfl rfl rfl (by kernel_rfl) Try.func3 (by kernel_rfl)
    (of_decide_eq_true (by kernel_rfl)) (by unfold Func.isWrapper; first | (rw [if_pos (by decide +kernel)]; kernel_rfl) | (rw [if_neg (by decide +kernel)]; exact ⟨rfl, rfl⟩))
    (fun os started H enc _ => lifted_FnExactIsTile os started H enc)
#print axioms fnExactIsTile_holds

end Go.Proofs.Ytfdjcfgpgfknkaa

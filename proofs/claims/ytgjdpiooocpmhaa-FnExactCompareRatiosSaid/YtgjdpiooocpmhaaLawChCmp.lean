/- The law of CompareRatios: at every two ratios both functions answer alike. No condition. -/
import Derived.Test.YtgjdpiooocpmhaaChC
import Derived.Test.YtgjdpiooocpmhaaLaw
namespace Go.Proofs.Ytgjdpiooocpmhaa
open Go.ChangeShapes Go.WideShapes Go.ChangeAt Go.RowKit Go.Joins
set_option linter.unusedVariables false

theorem Try.cells_lratio : Try.prog.cellsOf 32 = 2 := by kernel_rfl
set_option maxRecDepth 100000 in
theorem open_ratio {H : Type} {enc : TypeId × Value → H} {W : World} {r : Reach} {b0 base : Nat} {sp : Nat → Bool} {held : Bool} {v : Value} {d : DataW H} {p : List MemPlace}
    (hv : Value.okWide Try.prog W r b0 32 v) (h : DataW.Trod enc Try.prog W base sp held 32 v d p) : ∃ a b : Int, v = .agg #[.int .i64 a, .int .i64 b] := by
  obtain ⟨v0, v1, y0, y1, n, rfl, _, _, h0, h1⟩ := open_agg2 Try.underlying32 (by kernel_rfl) Try.cells_lratio hv h
  obtain ⟨a, ha, _⟩ := DataW.trod_int Try.underlying3 h0
  obtain ⟨b, hb, _⟩ := DataW.trod_int Try.underlying3 h1
  exact ⟨a, b, by simp_all⟩

set_option maxRecDepth 100000 in
set_option maxHeartbeats 1000000 in
theorem w_FnExactCompareRatios (a b c d : Int) (w : World) :
    Calls Try.prog 13 #[.agg #[.int .i64 a, .int .i64 b], .agg #[.int .i64 c, .int .i64 d]] w fun e w' => e = .returned (.bool true) ∧ Below w.heap.size w w' := by
  go_enter Try.func13, Try.ntmps13
  go_wp2_with fail
  obtain ⟨w0, hw0⟩ : ∃ w0, w0 = (w.alloc (.cells #[.int .i64 a, .int .i64 b] 32)).alloc (.cells #[.int .i64 c, .int .i64 d] 32) := ⟨_, rfl⟩
  rw [← hw0]
  have x0 : Bx2 w0 w.heap.size (.int .i64 a) (.int .i64 b) := by rw [hw0]; exact (Bx2.fresh _ _ _ _).more _
  have v0 : Bx2 w0 (w.heap.size + 1) (.int .i64 c) (.int .i64 d) := by
    have h := Bx2.fresh (w.alloc (.cells #[.int .i64 a, .int .i64 b] 32)) (.int .i64 c) (.int .i64 d) 32
    rw [World.size_alloc] at h
    rw [hw0]; exact h
  have hb0 : Below w.heap.size w w0 := by rw [hw0]; go_grown
  clear hw0
  have m0 := x0.c0
  have m1 := x0.c1
  have m2 := v0.c0
  have m3 := v0.c1
  go_region_held3 (fun w' => w'.cell? ⟨w.heap.size, 0, none⟩ = some (.int .i64 a) ∧ w'.cell? ⟨w.heap.size, 1, none⟩ = some (.int .i64 b) ∧ w'.cell? ⟨w.heap.size + 1, 0, none⟩ = some (.int .i64 c) ∧ w'.cell? ⟨w.heap.size + 1, 1, none⟩ = some (.int .i64 d)) (first | exact ⟨tA0, tA1, tA2, tA3⟩ | exact ⟨sA0, sA1, sA2, sA3⟩ | exact ⟨rA0, rA1, rA2, rA3⟩ | exact ⟨m0, m1, m2, m3⟩ | go_keep) (first | (go_at_call 37; refine (c_specCmp _ _ _ _ _).mono ?_; rintro e w03 ⟨rfl, h03⟩; have tA0 := keepc h03 sA0; have tA1 := keepc h03 sA1; have tA2 := keepc h03 sA2; have tA3 := keepc h03 sA3; have hb03 := bstep hb02 h03) | (have zz := rA0; clear zz; go_at_call 38; refine (c_toRatio _ _ _).mono ?_; rintro e w02 ⟨rfl, h02⟩; have sA0 := keepc h02 rA0; have sA1 := keepc h02 rA1; have sA2 := keepc h02 rA2; have sA3 := keepc h02 rA3; have hb02 := bstep hb01 h02) | (go_at_call 38; refine (c_toRatio _ _ _).mono ?_; rintro e w01 ⟨rfl, h01⟩; have rA0 := keepc h01 (cell_drew _ m0); have rA1 := keepc h01 (cell_drew _ m1); have rA2 := keepc h01 (cell_drew _ m2); have rA3 := keepc h01 (cell_drew _ m3); have hb01 := bstep hb0.drew h01))
  go_wp2_with fail
  go_region_held3 (fun w' => w'.cell? ⟨w.heap.size, 0, none⟩ = some (.int .i64 a) ∧ w'.cell? ⟨w.heap.size, 1, none⟩ = some (.int .i64 b) ∧ w'.cell? ⟨w.heap.size + 1, 0, none⟩ = some (.int .i64 c) ∧ w'.cell? ⟨w.heap.size + 1, 1, none⟩ = some (.int .i64 d)) (first | exact ⟨tB0, tB1, tB2, tB3⟩ | exact ⟨sB0, sB1, sB2, sB3⟩ | exact ⟨rB0, rB1, rB2, rB3⟩ | exact ⟨tA0, tA1, tA2, tA3⟩ | go_keep) (first | (go_at_call 39; refine (c_implCmp _ _ _ _ _).mono ?_; rintro e w13 ⟨rfl, h13⟩; have tB0 := keepc h13 sB0; have tB1 := keepc h13 sB1; have tB2 := keepc h13 sB2; have tB3 := keepc h13 sB3; have hb13 := bstep hb12 h13) | (have zz := rB0; clear zz; go_at_call 38; refine (c_toRatio _ _ _).mono ?_; rintro e w12 ⟨rfl, h12⟩; have sB0 := keepc h12 rB0; have sB1 := keepc h12 rB1; have sB2 := keepc h12 rB2; have sB3 := keepc h12 rB3; have hb12 := bstep hb11 h12) | (go_at_call 38; refine (c_toRatio _ _ _).mono ?_; rintro e w11 ⟨rfl, h11⟩; have rB0 := keepc h11 (cell_drew _ tA0); have rB1 := keepc h11 (cell_drew _ tA1); have rB2 := keepc h11 (cell_drew _ tA2); have rB3 := keepc h11 (cell_drew _ tA3); have hb11 := bstep hb03.drew h11))
  go_wp2
  go_ret
  exact ⟨rfl, hb13⟩

set_option maxRecDepth 100000 in
theorem lifted_FnExactCompareRatios (os : Os) (started : os.Started) (H : Type) (enc : TypeId × Value → H) :
    ReturnsInHanded {} Try.checked os 13 .any (Rows.fnExactCompareRatiosSpec.pre6 enc Try.prog Try.f13 Rows.fnExactCompareRatiosRow.domain false) (Rows.fnExactCompareRatiosSpec.post enc Try.prog Try.f13 false true false false) := by
  refine returnsInHanded_of_change (C := Try.checked) Try.own_ started (by kernel_rfl) Try.func13
    (ChangeSpec.witness6 (enc := enc) (C := Try.checked) false ⟨#[], #[.agg #[.int .i64 0, .int .i64 0], .agg #[.int .i64 0, .int .i64 0]], []⟩ 8 (by kernel_rfl) (by kernel_rfl) (by kernel_rfl) (by kernel_rfl)) ?_
  intro W base args ds gs before hval0 hW hcnd _
  have hval : ∀ (j : Nat) t v, Try.f13.params[j]? = some t → args[j]? = some v → Value.okWide Try.prog W .any base t v := hval0
  have hW' := hW
  obtain ⟨p, q, hA0, hV, rfl, hfz, hnd⟩ := hW
  have hA : DataW.TrodAll enc Try.prog W 0 (fun _ => true) true Try.f13.params.toList args.toList ds p := hA0
  rw [Try.params13] at hA hval
  obtain ⟨v0, vs0, d0, ds0, p0, q0, hargs0, rfl, rfl, h0, r0⟩ := trodAll_cons hA
  obtain ⟨v1, vs1, d1, ds1, p1, q1, rfl, rfl, rfl, h1, r1⟩ := trodAll_cons r0
  obtain ⟨rfl, rfl, rfl⟩ := trodAll_nil r1
  obtain rfl : args = #[v0, v1] := by cases args; simp_all
  obtain ⟨rfl, rfl⟩ := trodVars_none hV
  obtain ⟨x0, y0, rfl⟩ := open_ratio (hval 0 32 v0 rfl rfl) h0
  obtain ⟨x1, y1, rfl⟩ := open_ratio (hval 1 32 v1 rfl rfl) h1
  refine (w_FnExactCompareRatios x0 y0 x1 y1 W).mono fun e W' ⟨he, hg⟩ => ?_
  subst he
  exact ⟨_, rfl, law_post rfl rfl (of_decide_eq_true (by kernel_rfl)) hW' rfl hg⟩

theorem fnExactCompareRatios_holds : Rows.FnExactCompareRatiosSaid :=
  OpenClaim.holds_of_wide 13 Try.f13 rfl rfl rfl rfl rfl rfl rfl ⟨rfl, rfl, rfl, rfl, rfl⟩ rfl rfl rfl rfl rfl (by kernel_rfl) Try.func13 (by kernel_rfl)
    (of_decide_eq_true (by kernel_rfl)) (by unfold Func.isWrapper; first | (rw [if_pos (by decide +kernel)]; kernel_rfl) | (rw [if_neg (by decide +kernel)]; exact ⟨rfl, rfl⟩))
    (fun os started H enc _ => lifted_FnExactCompareRatios os started H enc)
#print axioms fnExactCompareRatios_holds

end Go.Proofs.Ytgjdpiooocpmhaa

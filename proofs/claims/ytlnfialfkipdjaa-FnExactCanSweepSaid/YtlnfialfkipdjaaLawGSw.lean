/- The law of CanSweep, walked. -/
import Derived.Test.YtlnfialfkipdjaaSwS
import Derived.Test.YtlnfialfkipdjaaSwI
import Derived.Test.YtlnfialfkipdjaaGameL
namespace Go.Proofs.Ytlnfialfkipdjaa
open Go.ChangeShapes Go.WideShapes Go.ChangeAt Go.RowKit Go.Joins
set_option linter.unusedVariables false

set_option maxRecDepth 100000 in
set_option maxHeartbeats 2000000 in
theorem w_FnExactCanSweep (AF : Option Addr) (cF : Nat) (F : List (Int × Int)) (AS : Option Addr) (cS : Nat) (S : List (Int × Int)) (AR : Option Addr) (cR : Nat) (R : List Int) (t u : Int) (w : World) (hF : RdT w AF F) (lF : F.length ≤ 9223372036854775807) (hS : RdT w AS S) (lS : S.length ≤ 9223372036854775807) (hR : RdI w AR R) (lR : R.length ≤ 9223372036854775807) :
    Calls Try.prog 5 #[.agg #[.slice AF F.length cF, .slice AS S.length cS, .slice AR R.length cR, .int .i64 t, .int .i64 u]] w fun e w' => e = .returned (.bool true) ∧ Below w.heap.size w w' := by
  by_cases hbig : 1048576 < F.length + S.length + R.length
  · have q0 : True := trivial
    go_enter Try.func5, Try.ntmps5
    go_wp2_with fail
    obtain ⟨w0, hw0⟩ : ∃ w0, w0 = w.alloc (.cells #[.slice AF F.length cF, .slice AS S.length cS, .slice AR R.length cR, .int .i64 t, .int .i64 u] 38) := ⟨_, rfl⟩
    rw [← hw0]
    have ba0 : BoxAt w0 w.heap.size (.slice AF F.length cF) (.slice AS S.length cS) (.slice AR R.length cR) (.int .i64 t) (.int .i64 u) := by rw [hw0]; exact BoxAt.fresh w _ _ _ _ _ _
    have hb0 : Below w.heap.size w w0 := by rw [hw0]; go_grown
    clear hw0
    refine (c_szGame_no AF cF F AS cS S AR cR R t u w0 lF lS lR hbig).mono ?_
    rintro e w1 ⟨rfl, h1⟩
    have hb1 := bstep hb0 h1
    go_wp2
    go_ret
    exact ⟨rfl, hb1⟩
  have hle : F.length + S.length + R.length ≤ 1048576 := by omega
  have hlt : ¬ (1048576 - (F.length : Int) - (S.length : Int) - (R.length : Int)) < 0 := by omega
  go_enter Try.func5, Try.ntmps5
  go_wp2_with fail
  obtain ⟨w0, hw0⟩ : ∃ w0, w0 = w.alloc (.cells #[.slice AF F.length cF, .slice AS S.length cS, .slice AR R.length cR, .int .i64 t, .int .i64 u] 38) := ⟨_, rfl⟩
  rw [← hw0]
  have ba0 : BoxAt w0 w.heap.size (.slice AF F.length cF) (.slice AS S.length cS) (.slice AR R.length cR) (.int .i64 t) (.int .i64 u) := by rw [hw0]; exact BoxAt.fresh w _ _ _ _ _ _
  have hb0 : Below w.heap.size w w0 := by rw [hw0]; go_grown
  clear hw0
  refine (c_szGame_yes AF cF F AS cS S AR cR R t u w0 hle).mono ?_
  rintro e w1 ⟨rfl, h1⟩
  have hb1 := bstep hb0 h1
  have ba1 := ba0.keep h1
  clear ba0
  clear hb0
  have xa0 := ba1.c0
  have xa1 := ba1.c1
  have xa2 := ba1.c2
  have xa3 := ba1.c3
  have xa4 := ba1.c4
  go_wp2_with fail
  refine (c_toGame AF cF F AS cS S AR cR R t u w1 (hF.below hb1) (hS.below hb1) (hR.below hb1) hle).mono ?_
  rintro e w2 ⟨Apf, cpf, Aps, cps, Apr, cpr, rfl, op2, h2⟩
  clear xa0 xa1 xa2 xa3 xa4
  have hb2 := bstep hb1 h2
  have ba2 := ba1.keep h2
  clear ba1
  clear hb1
  have xa0 := ba2.c0
  have xa1 := ba2.c1
  have xa2 := ba2.c2
  have xa3 := ba2.c3
  have xa4 := ba2.c4
  go_wp2_with fail
  refine (c_specCanSweep Apf cpf F Aps cps S Apr cpr R t u w2 (RdT.of_own op2.f) (RdT.of_own op2.s) (RdI.of_own op2.r) (by omega) (by omega) (own_capG op2.f) (own_capG op2.s)).mono ?_
  rintro e w3 ⟨rfl, h3⟩
  clear xa0 xa1 xa2 xa3 xa4
  have hb3 := bstep hb2 h3
  have ba3 := ba2.keep h3
  clear ba2
  have op3 := op2.keep h3
  clear op2
  clear hb2
  clear op3
  have xa0 := ba3.c0
  have xa1 := ba3.c1
  have xa2 := ba3.c2
  have xa3 := ba3.c3
  have xa4 := ba3.c4
  go_wp2_with fail
  refine (c_toGame AF cF F AS cS S AR cR R t u w3 (hF.below hb3) (hS.below hb3) (hR.below hb3) hle).mono ?_
  rintro e w4 ⟨Axf, cxf, Axs, cxs, Axr, cxr, rfl, ox4, h4⟩
  clear xa0 xa1 xa2 xa3 xa4
  have hb4 := bstep hb3 h4
  have ba4 := ba3.keep h4
  clear ba3
  clear hb3
  have xa0 := ba4.c0
  have xa1 := ba4.c1
  have xa2 := ba4.c2
  have xa3 := ba4.c3
  have xa4 := ba4.c4
  go_wp2_with fail
  clear xa0 xa1 xa2 xa3 xa4
  obtain ⟨v5, hw5⟩ : ∃ v5, v5 = w4.alloc (.cells #[.slice Axf F.length cxf, .slice Axs S.length cxs, .slice Axr R.length cxr, .int .i64 t, .int .i64 u] 43) := ⟨_, rfl⟩
  rw [← hw5]
  have h5 : Below w4.heap.size w4 v5 := by rw [hw5]; exact (Below.refl _ _).alloc (Nat.le_refl _) _
  have bx5 : BoxAt v5 w4.heap.size (.slice Axf F.length cxf) (.slice Axs S.length cxs) (.slice Axr R.length cxr) (.int .i64 t) (.int .i64 u) := by rw [hw5]; exact BoxAt.fresh w4 _ _ _ _ _ _
  clear hw5
  have hb5 := bstep hb4 h5
  have ba5 := ba4.keep h5
  clear ba4
  have ox5 := ox4.keep h5
  clear ox4
  clear hb4
  refine (c_implCanSweep Axf cxf F Axs cxs S Axr cxr R t u v5 (RdT.of_own ox5.f) (RdT.of_own ox5.s) (RdI.of_own ox5.r) (by omega) (by omega)).mono ?_
  rintro e w6 ⟨rfl, h6⟩
  have hb6 := bstep hb5 h6
  have ba6 := ba5.keep h6
  clear ba5
  have bx6 := bx5.keep h6
  clear bx5
  have ox6 := ox5.keep h6
  clear ox5
  clear hb5
  have xa0 := ba6.c0
  have xa1 := ba6.c1
  have xa2 := ba6.c2
  have xa3 := ba6.c3
  have xa4 := ba6.c4
  have xx0 := bx6.c0
  have xx1 := bx6.c1
  have xx2 := bx6.c2
  have xx3 := bx6.c3
  have xx4 := bx6.c4
  go_wp2_with fail
  have hbd : Below w.heap.size w w6.drew := hb6.drew
  go_region_held3 (fun w' => w'.cell? ⟨w.heap.size, 0, none⟩ = some (.slice AF F.length cF) ∧ w'.cell? ⟨w.heap.size, 1, none⟩ = some (.slice AS S.length cS) ∧ w'.cell? ⟨w.heap.size, 2, none⟩ = some (.slice AR R.length cR) ∧ w'.cell? ⟨w.heap.size, 3, none⟩ = some (.int .i64 t) ∧ w'.cell? ⟨w.heap.size, 4, none⟩ = some (.int .i64 u) ∧ w'.cell? ⟨w4.heap.size, 0, none⟩ = some (.slice Axf F.length cxf) ∧ w'.cell? ⟨w4.heap.size, 1, none⟩ = some (.slice Axs S.length cxs) ∧ w'.cell? ⟨w4.heap.size, 2, none⟩ = some (.slice Axr R.length cxr) ∧ w'.cell? ⟨w4.heap.size, 3, none⟩ = some (.int .i64 t) ∧ w'.cell? ⟨w4.heap.size, 4, none⟩ = some (.int .i64 u)) (first | exact ⟨zxa0, zxa1, zxa2, zxa3, zxa4, zxx0, zxx1, zxx2, zxx3, zxx4⟩ | exact ⟨yxa0, yxa1, yxa2, yxa3, yxa4, yxx0, yxx1, yxx2, yxx3, yxx4⟩ | go_keep) (first | (go_at_call 25; refine (c_toGame AF cF F AS cS S AR cR R t u _ (hF.below hbd) (hS.below hbd) (hR.below hbd) hle).mono ?_; rintro e w7 ⟨Bf, df, Bs, ds, Br, dr, rfl, ob, h7⟩; have hb7 := bstep hbd h7; have yxa0 := keepc h7 (gdG _ xa0); have yxa1 := keepc h7 (gdG _ xa1); have yxa2 := keepc h7 (gdG _ xa2); have yxa3 := keepc h7 (gdG _ xa3); have yxa4 := keepc h7 (gdG _ xa4); have yxx0 := keepc h7 (gdG _ xx0); have yxx1 := keepc h7 (gdG _ xx1); have yxx2 := keepc h7 (gdG _ xx2); have yxx3 := keepc h7 (gdG _ xx3); have yxx4 := keepc h7 (gdG _ xx4); have ox7 := OwnG.keep (OwnG.drew ox6) h7) | (go_at_call 27; refine (c_eqGame_same Axf cxf Axs cxs Axr cxr Bf df Bs ds Br dr F S R t u _ (RdT.of_own ox7.f) (RdT.of_own ox7.s) (RdI.of_own ox7.r) (RdT.of_own ob.f) (RdT.of_own ob.s) (RdI.of_own ob.r) lF lS lR).mono ?_; rintro e w8 ⟨rfl, h8⟩; have hb8 := bstep hb7 h8; have zxa0 := keepc h8 yxa0; have zxa1 := keepc h8 yxa1; have zxa2 := keepc h8 yxa2; have zxa3 := keepc h8 yxa3; have zxa4 := keepc h8 yxa4; have zxx0 := keepc h8 yxx0; have zxx1 := keepc h8 yxx1; have zxx2 := keepc h8 yxx2; have zxx3 := keepc h8 yxx3; have zxx4 := keepc h8 yxx4))
  go_wp2
  go_ret
  exact ⟨rfl, hb8⟩

set_option maxRecDepth 100000 in
theorem lifted_FnExactCanSweep (os : Os) (started : os.Started) (H : Type) (enc : TypeId × Value → H) :
    ReturnsInHanded {} Try.checked os 5 .any (Rows.fnExactCanSweepSpec.pre6 enc Try.prog Try.f5 Rows.fnExactCanSweepRow.domain false) (Rows.fnExactCanSweepSpec.post enc Try.prog Try.f5 false true false false) := by
  refine returnsInHanded_of_change (C := Try.checked) Try.own_ started (by kernel_rfl) Try.func5
    (ChangeSpec.witness6 (enc := enc) (C := Try.checked) false ⟨#[], #[.agg #[.slice none 0 0, .slice none 0 0, .slice none 0 0, .int .i64 0, .int .i64 0]], []⟩ 8 (by kernel_rfl) (by kernel_rfl) (by kernel_rfl) (by kernel_rfl)) ?_
  intro W base args ds gs before hval0 hW hcnd _
  have hval : ∀ (j : Nat) t v, Try.f5.params[j]? = some t → args[j]? = some v → Value.okWide Try.prog W .any base t v := hval0
  have hW' := hW
  obtain ⟨p, q, hA0, hV, rfl, hfz, hnd⟩ := hW
  have hA : DataW.TrodAll enc Try.prog W 0 (fun _ => true) true Try.f5.params.toList args.toList ds p := hA0
  rw [Try.params5] at hA hval
  obtain ⟨v0, vs0, d0, ds0, p0, q0, hargs0, rfl, rfl, h0, r0⟩ := trodAll_cons hA
  obtain ⟨rfl, rfl, rfl⟩ := trodAll_nil r0
  obtain rfl : args = #[v0] := by cases args; simp_all
  obtain ⟨rfl, rfl⟩ := trodVars_none hV
  obtain ⟨AF, cF, F, AS, cS, S, AR, cR, R, t, u, rfl, ⟨hF, lF⟩, ⟨hS, lS⟩, ⟨hR, lR⟩, wt, wu⟩ := open_game (hval 0 38 v0 rfl rfl) h0
  refine (w_FnExactCanSweep AF cF F AS cS S AR cR R t u W hF lF hS lS hR lR).mono fun e W' ⟨he, hg⟩ => ?_
  subst he
  exact ⟨_, rfl, law_post rfl rfl (of_decide_eq_true (by kernel_rfl)) hW' rfl hg⟩

end Go.Proofs.Ytlnfialfkipdjaa

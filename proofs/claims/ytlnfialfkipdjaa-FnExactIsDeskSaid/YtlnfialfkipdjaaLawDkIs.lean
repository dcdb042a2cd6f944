/- The law of IsDesk, walked. -/
import Derived.Test.YtlnfialfkipdjaaDkS
import Derived.Test.YtlnfialfkipdjaaDkI
import Derived.Test.YtlnfialfkipdjaaDkL
import Derived.Test.YtlnfialfkipdjaaLawDk
namespace Go.Proofs.Ytlnfialfkipdjaa
open Go.ChangeShapes Go.WideShapes Go.ChangeAt Go.RowKit Go.Joins
set_option linter.unusedVariables false

set_option maxRecDepth 100000 in
set_option maxHeartbeats 4000000 in
theorem w_FnExactIsDesk (AT : Option Addr) (cT : Nat) (T : List (Int × Int)) (top : Int) (w : World) (hT : RdT w AT T) (lT : T.length ≤ 9223372036854775807) :
    Calls Try.prog 4 #[.agg #[.slice AT T.length cT, .int .i64 top]] w fun e w' => e = .returned (.bool true) ∧ Below w.heap.size w w' := by
  have Sz := Lib.hid (fun W => c_szDesk AT cT T top W lT)
  go_enter Try.func4, Try.ntmps4
  go_wp2_with fail
  have hb : Below w.heap.size w w := Below.refl _ _
  obtain ⟨w1, hw⟩ : ∃ v, v = w.alloc (.cells #[.slice AT T.length cT, .int .i64 top] 31) := ⟨_, rfl⟩
  rw [← hw]
  have h1 : Below w.heap.size w w1 := by rw [hw]; exact (Below.refl _ _).alloc (Nat.le_refl _) _
  have ba : Bx2 w1 w.heap.size (.slice AT T.length cT) (.int .i64 top) := by rw [hw]; exact Bx2.fresh w _ _ _
  have hz1 : w1.heap.size = w.heap.size + 1 := by rw [hw]; simp
  clear hw
  replace hb := bstep hb h1
  refine (Sz.out w1).mono ?_
  rintro e w2 ⟨rfl, h2⟩
  replace hb := bstep hb h2
  replace ba := ba.keep h2
  have s2 : w1.heap.size ≤ w2.heap.size := h2.size
  by_cases hbig : 1048576 - (T.length : Int) < 0
  · rw [if_pos hbig]
    go_wp2
    go_ret
    exact ⟨rfl, hb⟩
  rw [if_neg hbig]
  have hle : T.length ≤ 1048576 := by omega
  have xa0 := ba.c0
  have xa1 := ba.c1
  have na := ba.lt
  go_wp2_with fail
  refine (c_toDesk AT cT T top w2 (hT.below hb) hle).mono ?_
  rintro e w3 ⟨Ap, cp, rfl, op, h3⟩
  clear xa0 xa1 na
  replace hb := bstep hb h3
  replace ba := ba.keep h3
  have s3 : w2.heap.size ≤ w3.heap.size := h3.size
  have xa0 := ba.c0
  have xa1 := ba.c1
  have na := ba.lt
  go_wp2_with fail
  refine (c_specIsDesk Ap cp T top _ (RdT.of_own op) hle (own_capG op)).mono ?_
  rintro e w4 ⟨rfl, h4⟩
  clear xa0 xa1 na op
  replace hb := bstep hb h4
  replace ba := ba.keep h4
  have s4 : w3.heap.size ≤ w4.heap.size := h4.size
  have xa0 := ba.c0
  have xa1 := ba.c1
  have na := ba.lt
  go_wp2_with fail
  refine (c_toDesk AT cT T top w4 (hT.below hb) hle).mono ?_
  rintro e w5 ⟨Ax, cx, rfl, ox, h5⟩
  clear xa0 xa1 na
  replace hb := bstep hb h5
  replace ba := ba.keep h5
  have s5 : w4.heap.size ≤ w5.heap.size := h5.size
  have xa0 := ba.c0
  have xa1 := ba.c1
  have na := ba.lt
  go_wp2_with fail
  clear xa0 xa1 na
  obtain ⟨w6, hw⟩ : ∃ v, v = w5.alloc (.cells #[.slice Ax T.length cx, .int .i64 top] 24) := ⟨_, rfl⟩
  rw [← hw]
  have h6 : Below w5.heap.size w5 w6 := by rw [hw]; exact (Below.refl _ _).alloc (Nat.le_refl _) _
  have bx : Bx2 w6 w5.heap.size (.slice Ax T.length cx) (.int .i64 top) := by rw [hw]; exact Bx2.fresh w5 _ _ _
  clear hw
  replace hb := bstep hb h6
  replace ba := ba.keep h6
  replace ox := own_keep ox h6
  have s6 : w5.heap.size ≤ w6.heap.size := h6.size
  refine (c_implIsDesk Ax cx T top _ (RdT.of_own ox) hle).mono ?_
  rintro e w7 ⟨rfl, h7⟩
  replace hb := bstep hb h7
  replace ba := ba.keep h7
  replace bx := bx.keep h7
  replace ox := own_keep ox h7
  have s7 : w6.heap.size ≤ w7.heap.size := h7.size
  have xa0 := ba.c0
  have xa1 := ba.c1
  have na := ba.lt
  have xx0 := bx.c0
  have xx1 := bx.c1
  have nx := bx.lt
  go_wp2_with fail
  have hbd : Below w.heap.size w w7.drew := hb.drew
  go_region_held3 (fun w' => w'.cell? ⟨w.heap.size, 0, none⟩ = some (.slice AT T.length cT) ∧ w'.cell? ⟨w.heap.size, 1, none⟩ = some (.int .i64 top) ∧ w'.cell? ⟨w5.heap.size, 0, none⟩ = some (.slice Ax T.length cx) ∧ w'.cell? ⟨w5.heap.size, 1, none⟩ = some (.int .i64 top)) (first | exact ⟨zxa0, zxa1, zxx0, zxx1⟩ | exact ⟨yxa0, yxa1, yxx0, yxx1⟩ | go_keep) (first | (go_at_call 21; refine (c_toDesk AT cT T top _ (hT.below hbd) hle).mono ?_; rintro e w8 ⟨Bf, df, rfl, ob, h8⟩; have hb8 := bstep hbd h8; have yxa0 := keepc h8 (gdG _ xa0); have yxa1 := keepc h8 (gdG _ xa1); have yxx0 := keepc h8 (gdG _ xx0); have yxx1 := keepc h8 (gdG _ xx1)) | (go_at_call 16; refine (c_eqDesk_same Ax cx Bf df T top _ (RdT.of_own (own_keep (own_drew ox) h8)) (RdT.of_own ob) lT).mono ?_; rintro e w9 ⟨rfl, h9⟩; have hb9 := bstep hb8 h9; have zxa0 := keepc h9 yxa0; have zxa1 := keepc h9 yxa1; have zxx0 := keepc h9 yxx0; have zxx1 := keepc h9 yxx1))
  have hR9 : Below w7.heap.size w7 w9 := bstep (bstep (Below.refl w7.heap.size w7).drew h8) h9
  clear xa0 xa1 na xx0 xx1 nx yxa0 yxa1 yxx0 yxx1 zxa0 zxa1 zxx0 zxx1 hbd hb8 hb9 ob
  replace hb := bstep hb hR9
  go_wp2
  go_ret
  exact ⟨rfl, hb⟩

set_option maxRecDepth 100000 in
theorem lifted_FnExactIsDesk (os : Os) (started : os.Started) (H : Type) (enc : TypeId × Value → H) :
    ReturnsInHanded {} Try.checked os 4 .any (Rows.fnExactIsDeskSpec.pre6 enc Try.prog Try.f4 Rows.fnExactIsDeskRow.domain false) (Rows.fnExactIsDeskSpec.post enc Try.prog Try.f4 false true false false) := by
  refine returnsInHanded_of_change (C := Try.checked) Try.own_ started (by kernel_rfl) Try.func4
    (ChangeSpec.witness6 (enc := enc) (C := Try.checked) false ⟨#[], #[.agg #[.slice none 0 0, .int .i64 0]], []⟩ 8 (by kernel_rfl) (by kernel_rfl) (by kernel_rfl) (by kernel_rfl)) ?_
  intro W base args ds gs before hval0 hW hcnd _
  have hval : ∀ (j : Nat) t v, Try.f4.params[j]? = some t → args[j]? = some v → Value.okWide Try.prog W .any base t v := hval0
  have hW' := hW
  obtain ⟨p, q, hA0, hV, rfl, hfz, hnd⟩ := hW
  have hA : DataW.TrodAll enc Try.prog W 0 (fun _ => true) true Try.f4.params.toList args.toList ds p := hA0
  rw [Try.params4] at hA hval
  obtain ⟨v0, vs0, d0, ds0, p0, q0, hargs0, rfl, rfl, h0, r0⟩ := trodAll_cons hA
  obtain ⟨rfl, rfl, rfl⟩ := trodAll_nil r0
  obtain rfl : args = #[v0] := by cases args; simp_all
  obtain ⟨rfl, rfl⟩ := trodVars_none hV
  obtain ⟨AT, cT, T, top, rfl, hT, lT⟩ := open_desk (hval 0 31 v0 rfl rfl) h0
  refine (w_FnExactIsDesk AT cT T top W hT lT).mono fun e W' ⟨he, hg⟩ => ?_
  subst he
  exact ⟨_, rfl, law_post rfl rfl (of_decide_eq_true (by kernel_rfl)) hW' rfl hg⟩

end Go.Proofs.Ytlnfialfkipdjaa

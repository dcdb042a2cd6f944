/- The law of FirstDesk, walked. -/
import Derived.Test.YtlnfialfkipdjaaDkF
import Derived.Test.YtlnfialfkipdjaaLawA
namespace Go.Proofs.Ytlnfialfkipdjaa
open Go.ChangeShapes Go.WideShapes Go.ChangeAt Go.RowKit Go.Joins
set_option linter.unusedVariables false

set_option maxRecDepth 100000 in
set_option maxHeartbeats 4000000 in
theorem w_FnExactFirstDesk (w : World) :
    Calls Try.prog 3 #[] w fun e w' => e = .returned (.bool true) ∧ Below w.heap.size w w' := by
  have l0 := first_len
  have cs := fun W => c_specFirst W
  have ci := fun W => c_implFirst W
  unfold RetD at cs ci
  generalize firstT = T at *
  have Cs := Lib.hid cs
  have Ci := Lib.hid ci
  have q0 : 0 ≤ 1 + 2 * (T.length : Int) := by omega
  clear cs ci
  go_enter Try.func3, Try.ntmps3
  go_wp2_with fail
  refine (Cs.out _).mono ?_
  rintro e w1 ⟨W0, a0, rfl, p0, h1⟩
  have hb := h1
  have sw := h1.size
  go_wp2_with fail
  obtain ⟨v1, hv⟩ : ∃ v, v = w1.alloc (.cells #[.slice W0 T.length a0, .int .i64 6] 24) := ⟨_, rfl⟩
  rw [← hv]
  have hv1 : Below w1.heap.size w1 v1 := by rw [hv]; exact (Below.refl _ _).alloc (Nat.le_refl _) _
  have bW : Bx2 v1 w1.heap.size (.slice W0 T.length a0) (.int .i64 6) := by rw [hv]; exact Bx2.fresh w1 _ _ _
  have zv1 : v1.heap.size = w1.heap.size + 1 := by rw [hv]; simp
  clear hv
  replace hb := bstep hb hv1
  replace p0 := own_keep p0 hv1
  have lw0 := fun g (h : (Value.slice W0 T.length a0).ownBlock = some g) => (p0.lt g h).2
  refine (Ci.out _).mono ?_
  rintro e w2 ⟨G0, b0, rfl, g0, h2⟩
  replace hb := bstep hb h2
  replace bW := bW.keep h2
  replace p0 := own_keep p0 h2
  have s2 := h2.size
  have lg0 := fun g (h : (Value.slice G0 T.length b0).ownBlock = some g) => g0.lt g h
  have xW0 := bW.c0
  have xW1 := bW.c1
  have nW := bW.lt
  go_wp2_with fail
  clear xW0 xW1 nW
  obtain ⟨v2, hv⟩ : ∃ v, v = w2.alloc (.cells #[.slice G0 T.length b0, .int .i64 6] 24) := ⟨_, rfl⟩
  rw [← hv]
  have hv2 : Below w2.heap.size w2 v2 := by rw [hv]; exact (Below.refl _ _).alloc (Nat.le_refl _) _
  have bG : Bx2 v2 w2.heap.size (.slice G0 T.length b0) (.int .i64 6) := by rw [hv]; exact Bx2.fresh w2 _ _ _
  have zv2 : v2.heap.size = w2.heap.size + 1 := by rw [hv]; simp
  clear hv
  replace hb := bstep hb hv2
  replace bW := bW.keep hv2
  replace p0 := own_keep p0 hv2
  replace g0 := own_keep g0 hv2
  refine (c_eqDesk_same G0 b0 W0 a0 T 6 _ (RdT.of_own g0) (RdT.of_own p0) (by omega)).mono ?_
  rintro e w3 ⟨rfl, h3⟩
  replace hb := bstep hb h3
  replace bW := bW.keep h3
  replace bG := bG.keep h3
  replace p0 := own_keep p0 h3
  replace g0 := own_keep g0 h3
  have s3 := h3.size
  have xW0 := bW.c0
  have xW1 := bW.c1
  have nW := bW.lt
  have xG0 := bG.c0
  have xG1 := bG.c1
  have nG := bG.lt
  go_wp2_with fail
  clear xW0 xW1 xG0 xG1 nW nG
  refine (c_markDesk G0 b0 T 6 v1.heap.size 1 _ g0 (by omega) (by omega) (by omega) (by omega)).mono ?_
  rintro e w4 ⟨rfl, m0, s4, h4, k4⟩
  replace hb := hb.trans (h4.mono (by omega))
  replace p0 := own_below p0 h4 lw0
  replace bW := bW.of_block (k4 _ (by omega) (fun e => by have := lg0 _ e; omega))
  replace bG := bG.of_block (k4 _ (by omega) (fun e => by have := lg0 _ e; omega))
  clear g0 k4
  have xW0 := bW.c0
  have xW1 := bW.c1
  have nW := bW.lt
  have xG0 := bG.c0
  have xG1 := bG.c1
  have nG := bG.lt
  go_wp2_with fail
  clear xW0 xW1 xG0 xG1 nW nG
  refine (c_heldDesk G0 b0 T.length 6 1 _ (rdmarksT m0) (by omega) (by omega) (by omega)).mono ?_
  rintro e w5 ⟨rfl, h5⟩
  replace hb := bstep hb h5
  replace bW := bW.keep h5
  replace bG := bG.keep h5
  replace p0 := own_keep p0 h5
  replace m0 := own_keep m0 h5
  have xW0 := bW.c0
  have xW1 := bW.c1
  have nW := bW.lt
  have xG0 := bG.c0
  have xG1 := bG.c1
  have nG := bG.lt
  go_wp2_with fail
  clear xW0 xW1 xG0 xG1 nW nG
  refine (Ci.out _).mono ?_
  rintro e w6 ⟨H0, d0, rfl, r0, h6⟩
  replace hb := bstep hb h6
  replace bW := bW.keep h6
  replace bG := bG.keep h6
  replace p0 := own_keep p0 h6
  replace m0 := own_keep m0 h6
  have xW0 := bW.c0
  have xW1 := bW.c1
  have nW := bW.lt
  have xG0 := bG.c0
  have xG1 := bG.c1
  have nG := bG.lt
  go_wp2_with fail
  clear xW0 xW1 xG0 xG1 nW nG
  obtain ⟨v6, hv⟩ : ∃ v, v = w6.alloc (.cells #[.slice H0 T.length d0, .int .i64 6] 24) := ⟨_, rfl⟩
  rw [← hv]
  have hv6 : Below w6.heap.size w6 v6 := by rw [hv]; exact (Below.refl _ _).alloc (Nat.le_refl _) _
  have bH : Bx2 v6 w6.heap.size (.slice H0 T.length d0) (.int .i64 6) := by rw [hv]; exact Bx2.fresh w6 _ _ _
  have zv6 : v6.heap.size = w6.heap.size + 1 := by rw [hv]; simp
  clear hv
  replace hb := bstep hb hv6
  replace bW := bW.keep hv6
  replace bG := bG.keep hv6
  replace p0 := own_keep p0 hv6
  replace m0 := own_keep m0 hv6
  replace r0 := own_keep r0 hv6
  refine (c_eqDesk_same H0 d0 W0 a0 T 6 _ (RdT.of_own r0) (RdT.of_own p0) (by omega)).mono ?_
  rintro e w7 ⟨rfl, h7⟩
  replace hb := bstep hb h7
  replace bW := bW.keep h7
  replace bG := bG.keep h7
  replace m0 := own_keep m0 h7
  have xW0 := bW.c0
  have xW1 := bW.c1
  have nW := bW.lt
  have xG0 := bG.c0
  have xG1 := bG.c1
  have nG := bG.lt
  go_wp2_with fail
  clear xW0 xW1 xG0 xG1 nW nG
  refine (c_heldDesk G0 b0 T.length 6 1 _ (rdmarksT m0) (by omega) (by omega) (by omega)).mono ?_
  rintro e w8 ⟨rfl, h8⟩
  replace hb := bstep hb h8
  go_wp2
  go_ret
  exact ⟨rfl, hb⟩

set_option maxRecDepth 100000 in
theorem lifted_FnExactFirstDesk (os : Os) (started : os.Started) (H : Type) (enc : TypeId × Value → H) :
    ReturnsInHanded {} Try.checked os 3 .any (Rows.fnExactFirstDeskSpec.pre6 enc Try.prog Try.f3 Rows.fnExactFirstDeskRow.domain false) (Rows.fnExactFirstDeskSpec.post enc Try.prog Try.f3 false true false false) := by
  refine returnsInHanded_of_change (C := Try.checked) Try.own_ started (by kernel_rfl) Try.func3
    (ChangeSpec.witness6 (enc := enc) (C := Try.checked) false ⟨#[], #[], []⟩ 8 (by kernel_rfl) (by kernel_rfl) (by kernel_rfl) (by kernel_rfl)) ?_
  intro W base args ds gs before hval0 hW hcnd _
  have hW' := hW
  obtain ⟨p, q, hA0, hV, rfl, hfz, hnd⟩ := hW
  have hA : DataW.TrodAll enc Try.prog W 0 (fun _ => true) true Try.f3.params.toList args.toList ds p := hA0
  rw [Try.params3] at hA
  obtain ⟨hargs, rfl, rfl⟩ := trodAll_nil hA
  obtain rfl : args = #[] := by cases args; simp_all
  obtain ⟨rfl, rfl⟩ := trodVars_none hV
  refine (w_FnExactFirstDesk W).mono fun e W' ⟨he, hg⟩ => ?_
  subst he
  exact ⟨_, rfl, law_post rfl rfl (of_decide_eq_true (by kernel_rfl)) hW' rfl hg⟩

end Go.Proofs.Ytlnfialfkipdjaa

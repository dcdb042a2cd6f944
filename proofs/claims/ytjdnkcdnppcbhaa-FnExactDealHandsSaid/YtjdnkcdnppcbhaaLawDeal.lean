/- The law of DealHands: at every three numbers both functions answer alike, and each answer owns its memory. No condition. -/
import Derived.Test.YtjdnkcdnppcbhaaDlS
import Derived.Test.YtjdnkcdnppcbhaaDlI
import Derived.Test.YtjdnkcdnppcbhaaLaw
namespace Go.Proofs.Ytjdnkcdnppcbhaa
open Go.ChangeShapes Go.WideShapes Go.ChangeAt Go.RowKit Go.Joins
set_option linter.unusedVariables false

set_option maxRecDepth 100000 in
set_option maxHeartbeats 4000000 in
theorem w_FnExactDealHands (x0 x1 x2 : Int) (w : World) :
    Calls Try.prog 11 #[.int .i64 x0, .int .i64 x1, .int .i64 x2] w fun e w' => e = .returned (.bool true) ∧ Below w.heap.size w w' := by
  obtain ⟨l0, l1⟩ := deal_len x0 x1 x2
  have cs := fun W => c_specDeal x0 x1 x2 W
  have ci := fun W => c_implDeal x0 x1 x2 W
  unfold RetTT at cs ci
  generalize dealT0 x0 x1 x2 = T0 at *
  generalize dealT1 x0 x1 x2 = T1 at *
  generalize dealB x0 x1 x2 = bg at *
  have Cs := Lib.hid cs
  have Ci := Lib.hid ci
  have q0 : 0 ≤ 1 + 2 * (T0.length : Int) := by omega
  have q1 : 0 ≤ 1 + 2 * (T0.length : Int) + 2 * (T1.length : Int) := by omega
  clear cs ci
  go_enter Try.func11, Try.ntmps11
  go_wp2_with fail
  refine (Cs.out _).mono ?_
  rintro e w1 ⟨W0, a0, W1, a1, rfl, p0, p1, _, h1⟩
  have hb := h1
  have sw := h1.size
  have lw0 := fun g (h : (Value.slice W0 T0.length a0).ownBlock = some g) => (p0.lt g h).2
  have lw1 := fun g (h : (Value.slice W1 T1.length a1).ownBlock = some g) => (p1.lt g h).2
  go_wp2_with fail
  refine (Ci.out _).mono ?_
  rintro e w2 ⟨G0, b0, G1, b1, rfl, g0, g1, ag, h2⟩
  replace hb := bstep hb h2
  replace p0 := own_keep p0 h2
  replace p1 := own_keep p1 h2
  go_wp2_with fail
  refine (c_eqTileS_same G0 W0 b0 a0 T0 _ (RdT.of_own g0) (RdT.of_own p0) (by omega)).mono ?_
  rintro e w3 ⟨rfl, h3⟩
  replace hb := bstep hb h3
  replace p0 := own_keep p0 h3
  replace p1 := own_keep p1 h3
  replace g0 := own_keep g0 h3
  replace g1 := own_keep g1 h3
  go_wp2_with fail
  refine (c_eqTileS_same G1 W1 b1 a1 T1 _ (RdT.of_own g1) (RdT.of_own p1) (by omega)).mono ?_
  rintro e w4 ⟨rfl, h4⟩
  replace hb := bstep hb h4
  replace p0 := own_keep p0 h4
  replace p1 := own_keep p1 h4
  replace g0 := own_keep g0 h4
  replace g1 := own_keep g1 h4
  go_wp2_with fail
  refine (c_markTileS G0 b0 _ T0 1 _ g0 (by omega) (by omega)).mono ?_
  rintro e w5 ⟨rfl, m0, h5⟩
  replace hb := hb.trans (below_of_grown h5 hb.size (fun g hg => Nat.le_trans sw (g0.lt g hg).1))
  replace p0 := p0.kept h5 (own_apart2 lw0 g0)
  replace p1 := p1.kept h5 (own_apart2 lw1 g0)
  replace g1 := g1.kept h5 ag.symm.kept
  clear g0
  go_wp2_with fail
  refine (c_markTileS G1 b1 _ T1 (1 + 2 * (T0.length : Int)) _ g1 (by omega) (by omega)).mono ?_
  rintro e w6 ⟨rfl, m1, h6⟩
  replace hb := hb.trans (below_of_grown h6 hb.size (fun g hg => Nat.le_trans sw (g1.lt g hg).1))
  replace p0 := p0.kept h6 (own_apart2 lw0 g1)
  replace p1 := p1.kept h6 (own_apart2 lw1 g1)
  replace m0 := m0.kept h6 ag.kept
  clear g1
  go_wp2_with fail
  refine (c_heldTileS G0 b0 T0.length 1 _ (rdmarksT m0) (by omega) (by omega)).mono ?_
  rintro e w7 ⟨rfl, rfl⟩
  go_wp2_with fail
  refine (c_heldTileS G1 b1 T1.length (1 + 2 * (T0.length : Int)) _ (rdmarksT m1) (by omega) (by omega)).mono ?_
  rintro e w8 ⟨rfl, rfl⟩
  go_wp2_with fail
  refine (Ci.out _).mono ?_
  rintro e w9 ⟨H0, d0, H1, d1, rfl, r0, r1, _, h9⟩
  replace hb := bstep hb h9
  replace p0 := own_keep p0 h9
  replace p1 := own_keep p1 h9
  replace m0 := own_keep m0 h9
  replace m1 := own_keep m1 h9
  go_wp2_with fail
  refine (c_eqTileS_same H0 W0 d0 a0 T0 _ (RdT.of_own r0) (RdT.of_own p0) (by omega)).mono ?_
  rintro e w10 ⟨rfl, h10⟩
  replace hb := bstep hb h10
  replace p0 := own_keep p0 h10
  replace p1 := own_keep p1 h10
  replace m0 := own_keep m0 h10
  replace m1 := own_keep m1 h10
  replace r0 := own_keep r0 h10
  replace r1 := own_keep r1 h10
  go_wp2_with fail
  refine (c_eqTileS_same H1 W1 d1 a1 T1 _ (RdT.of_own r1) (RdT.of_own p1) (by omega)).mono ?_
  rintro e w11 ⟨rfl, h11⟩
  replace hb := bstep hb h11
  replace p0 := own_keep p0 h11
  replace p1 := own_keep p1 h11
  replace m0 := own_keep m0 h11
  replace m1 := own_keep m1 h11
  replace r0 := own_keep r0 h11
  replace r1 := own_keep r1 h11
  go_wp2_with fail
  refine (c_heldTileS G0 b0 T0.length 1 _ (rdmarksT m0) (by omega) (by omega)).mono ?_
  rintro e w12 ⟨rfl, rfl⟩
  go_wp2_with fail
  refine (c_heldTileS G1 b1 T1.length (1 + 2 * (T0.length : Int)) _ (rdmarksT m1) (by omega) (by omega)).mono ?_
  rintro e w13 ⟨rfl, rfl⟩
  go_wp2
  go_ret
  exact ⟨rfl, hb⟩

set_option maxRecDepth 100000 in
theorem lifted_FnExactDealHands (os : Os) (started : os.Started) (H : Type) (enc : TypeId × Value → H) :
    ReturnsInHanded {} Try.checked os 11 .any (Rows.fnExactDealHandsSpec.pre6 enc Try.prog Try.f11 Rows.fnExactDealHandsRow.domain false) (Rows.fnExactDealHandsSpec.post enc Try.prog Try.f11 false true false false) := by
  refine returnsInHanded_of_change (C := Try.checked) Try.own_ started (by kernel_rfl) Try.func11
    (ChangeSpec.witness6 (enc := enc) (C := Try.checked) false ⟨#[], #[.int .i64 0, .int .i64 0, .int .i64 0], []⟩ 8 (by kernel_rfl) (by kernel_rfl) (by kernel_rfl) (by kernel_rfl)) ?_
  intro W base args ds gs before hval0 hW hcnd _
  have hval : ∀ (j : Nat) t v, Try.f11.params[j]? = some t → args[j]? = some v → Value.okWide Try.prog W .any base t v := hval0
  have hW' := hW
  obtain ⟨p, q, hA0, hV, rfl, hfz, hnd⟩ := hW
  have hA : DataW.TrodAll enc Try.prog W 0 (fun _ => true) true Try.f11.params.toList args.toList ds p := hA0
  rw [Try.params11] at hA hval
  obtain ⟨v0, vs0, d0, ds0, p0, q0, hargs0, rfl, rfl, h0, r0⟩ := trodAll_cons hA
  obtain ⟨v1, vs1, d1, ds1, p1, q1, rfl, rfl, rfl, h1, r1⟩ := trodAll_cons r0
  obtain ⟨v2, vs2, d2, ds2, p2, q2, rfl, rfl, rfl, h2, r2⟩ := trodAll_cons r1
  obtain ⟨rfl, rfl, rfl⟩ := trodAll_nil r2
  obtain rfl : args = #[v0, v1, v2] := by cases args; simp_all
  obtain ⟨rfl, rfl⟩ := trodVars_none hV
  obtain ⟨x0, rfl, _, _, wf0⟩ := open_int Try.underlying3 (hval 0 3 v0 rfl rfl) h0
  obtain ⟨x1, rfl, _, _, wf1⟩ := open_int Try.underlying3 (hval 1 3 v1 rfl rfl) h1
  obtain ⟨x2, rfl, _, _, wf2⟩ := open_int Try.underlying3 (hval 2 3 v2 rfl rfl) h2
  refine (w_FnExactDealHands x0 x1 x2 W).mono fun e W' ⟨he, hg⟩ => ?_
  subst he
  exact ⟨_, rfl, law_post rfl rfl (of_decide_eq_true (by kernel_rfl)) hW' rfl hg⟩

theorem fnExactDealHands_holds : Rows.FnExactDealHandsSaid :=
  OpenClaim.holds_of_wide 11 Try.f11 rfl rfl rfl rfl rfl rfl rfl ⟨rfl, rfl, rfl, rfl, rfl⟩ rfl rfl rfl rfl rfl (by kernel_rfl) Try.func11 (by kernel_rfl)
    (of_decide_eq_true (by kernel_rfl)) (by unfold Func.isWrapper; first | (rw [if_pos (by decide +kernel)]; kernel_rfl) | (rw [if_neg (by decide +kernel)]; exact ⟨rfl, rfl⟩))
    (fun os started H enc _ => lifted_FnExactDealHands os started H enc)
#print axioms fnExactDealHands_holds

end Go.Proofs.Ytjdnkcdnppcbhaa

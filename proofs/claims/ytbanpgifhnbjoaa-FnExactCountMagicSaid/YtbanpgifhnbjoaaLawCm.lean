/- The law of CountMagic: at every list of tiles and number both functions answer alike and leave the list alone. No condition. -/
import Derived.Test.YtbanpgifhnbjoaaMgU
import Derived.Test.YtbanpgifhnbjoaaLaw
namespace Go.Proofs.Ytbanpgifhnbjoaa
open Go.ChangeShapes Go.WideShapes Go.ChangeAt Go.RowKit Go.Joins
set_option linter.unusedVariables false

set_option maxRecDepth 100000 in
set_option maxHeartbeats 1000000 in
theorem w_FnExactCountMagic (A0 : Option Addr) (c0 : Nat) (ts0 : List (Int × Int)) (x1 : Int) (w : World) (hr0 : RdT w A0 ts0) (hl0 : ts0.length ≤ 9223372036854775807) (lo1 : -9223372036854775808 ≤ x1) (hi1 : x1 ≤ 9223372036854775807) :
    Calls Try.prog 3 #[.slice A0 ts0.length c0, .int .i64 x1] w fun e w' => e = .returned (.bool true) ∧ Below w.heap.size w w' := by
  have hs0 := c_szTileS A0 c0 ts0.length (1048576) w hl0 (by omega) (by omega)
  by_cases hbig0 : 1048576 - (ts0.length : Int) < 0
  · rw [if_pos hbig0] at hs0
    go_enter Try.func3, Try.ntmps3
    go_wp2_with fail
    refine hs0.mono ?_
    rintro e w1 ⟨rfl, rfl⟩
    go_wp2
    go_ret
    exact ⟨rfl, Below.refl _ _⟩
  · rw [if_neg hbig0] at hs0
    have hle0 : ts0.length ≤ 1048576 := by omega
    go_enter Try.func3, Try.ntmps3
    go_wp2_with fail
    refine hs0.mono ?_
    rintro e w0 ⟨rfl, rfl⟩
    clear hs0
    go_wp2_with fail
    refine (c_toTileS A0 c0 ts0 _ (hr0) hle0).mono ?_
    rintro e w1 ⟨rfl, o1a0, h1⟩
    have sa0 : w.heap.size ≤ (w).heap.size := Nat.le_refl _
    have hb3 : Below w.heap.size w w1 := h1
    go_wp2_with fail
    refine (c_specMagic _ _ ts0 x1 _ (RdT.of_own o1a0) hle0 (Nat.le_refl _)).mono ?_
    rintro e w4 ⟨rfl, h4⟩
    have hb5 : Below w.heap.size w w4 := bstep hb3 h4
    have o5a0 := own_keep o1a0 h4
    clear o1a0
    clear hb3
    clear o5a0 sa0
    go_wp2_with fail
    refine (c_toTileS A0 c0 ts0 _ (hr0.below hb5) hle0).mono ?_
    rintro e w6 ⟨rfl, o6x0, h6⟩
    have sx0 : w.heap.size ≤ (w4).heap.size := hb5.size
    have hb8 : Below w.heap.size w w6 := bstep hb5 h6
    clear hb5
    go_wp2_with fail
    refine (c_implMagic _ _ ts0 x1 _ (RdT.of_own o6x0) hle0).mono ?_
    rintro e w9 ⟨rfl, h9⟩
    have hb10 : Below w.heap.size w w9 := bstep hb8 h9
    have o10x0 := own_keep o6x0 h9
    clear o6x0
    clear hb8
    go_wp2_with fail
    refine (c_toTileS A0 c0 ts0 _ (hr0.below hb10) hle0).mono ?_
    rintro e w11 ⟨rfl, o11b0, h11⟩
    have apx0b0 := fun g (hg : (Value.slice (some ⟨(w4).heap.size, 0, none⟩) (ts0).length ts0.length).ownBlock = some g) => (World.ownsRow.lt o10x0 g hg).2
    have sb0 : w.heap.size ≤ (w9).heap.size := hb10.size
    have hb13 : Below w.heap.size w w11 := bstep hb10 h11
    have o13x0 := own_keep o10x0 h11
    clear o10x0
    clear hb10
    go_wp2_with fail
    refine (c_eqTileS_same _ _ _ _ (ts0) _ (RdT.of_own o13x0) (RdT.of_own o11b0) (by omega)).mono ?_
    rintro e w14 ⟨rfl, h14⟩
    have hb15 : Below w.heap.size w w14 := bstep hb13 h14
    have o15x0 := own_keep o13x0 h14
    clear o13x0
    have o15b0 := own_keep o11b0 h14
    clear o11b0
    clear hb13
    clear o15b0 sb0
    go_wp2
    go_ret
    exact ⟨rfl, hb15⟩

set_option maxRecDepth 100000 in
theorem lifted_FnExactCountMagic (os : Os) (started : os.Started) (H : Type) (enc : TypeId × Value → H) :
    ReturnsInHanded {} Try.checked os 3 .any (Rows.fnExactCountMagicSpec.pre6 enc Try.prog Try.f3 Rows.fnExactCountMagicRow.domain false) (Rows.fnExactCountMagicSpec.post enc Try.prog Try.f3 false true false false) := by
  refine returnsInHanded_of_change (C := Try.checked) Try.own_ started (by kernel_rfl) Try.func3
    (ChangeSpec.witness6 (enc := enc) (C := Try.checked) false ⟨#[], #[.slice none 0 0, .int .i64 0], []⟩ 8 (by kernel_rfl) (by kernel_rfl) (by kernel_rfl) (by kernel_rfl)) ?_
  intro W base args ds gs before hval0 hW hcnd _
  have hval : ∀ (j : Nat) t v, Try.f3.params[j]? = some t → args[j]? = some v → Value.okWide Try.prog W .any base t v := hval0
  have hW' := hW
  obtain ⟨p, q, hA0, hV, rfl, hfz, hnd⟩ := hW
  have hA : DataW.TrodAll enc Try.prog W 0 (fun _ => true) true Try.f3.params.toList args.toList ds p := hA0
  rw [Try.params3] at hA hval
  obtain ⟨v0, vs0, d0, ds0, p0, q0, hargs0, rfl, rfl, h0, r0⟩ := trodAll_cons hA
  obtain ⟨v1, vs1, d1, ds1, p1, q1, rfl, rfl, rfl, h1, r1⟩ := trodAll_cons r0
  obtain ⟨rfl, rfl, rfl⟩ := trodAll_nil r1
  obtain rfl : args = #[v0, v1] := by cases args; simp_all
  obtain ⟨rfl, rfl⟩ := trodVars_none hV
  obtain ⟨A0, c0, ts0, rfl, hr0, hl0⟩ := open_tiles (hval 0 22 v0 rfl rfl) h0
  obtain ⟨x1, rfl, _, _, wf1⟩ := open_int Try.underlying3 (hval 1 3 v1 rfl rfl) h1
  refine (w_FnExactCountMagic A0 c0 ts0 x1 W hr0 hl0 (wf_lo wf1) (wf_hi wf1)).mono fun e W' ⟨he, hg⟩ => ?_
  subst he
  exact ⟨_, rfl, law_post rfl rfl (of_decide_eq_true (by kernel_rfl)) hW' rfl hg⟩

theorem fnExactCountMagic_holds : Rows.FnExactCountMagicSaid :=
  OpenClaim.holds_of_wide 3 Try.f3 rfl rfl rfl rfl rfl rfl rfl ⟨rfl, rfl, rfl, rfl, rfl⟩ rfl rfl rfl rfl rfl (by kernel_rfl) Try.func3 (by kernel_rfl)
    (of_decide_eq_true (by kernel_rfl)) (by unfold Func.isWrapper; first | (rw [if_pos (by decide +kernel)]; kernel_rfl) | (rw [if_neg (by decide +kernel)]; exact ⟨rfl, rfl⟩))
    (fun os started H enc _ => lifted_FnExactCountMagic os started H enc)
#print axioms fnExactCountMagic_holds

end Go.Proofs.Ytbanpgifhnbjoaa

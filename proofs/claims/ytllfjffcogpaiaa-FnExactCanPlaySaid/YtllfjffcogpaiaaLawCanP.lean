/- The law of CanPlay: at every list of plays and of tiles both functions answer alike and leave the lists alone. No condition. -/
import Derived.Test.YtllfjffcogpaiaaPlaysT
import Derived.Test.YtllfjffcogpaiaaLawP
namespace Go.Proofs.Ytllfjffcogpaiaa
open Go.ChangeShapes Go.WideShapes Go.ChangeAt Go.RowKit Go.Joins
set_option linter.unusedVariables false

set_option maxRecDepth 100000 in
set_option maxHeartbeats 1000000 in
theorem w_FnExactCanPlay (A0 : Option Addr) (c0 : Nat) (ts0 : List (Int × Int × Int)) (A1 : Option Addr) (c1 : Nat) (ts1 : List (Int × Int)) (w : World) (hr0 : RdP w A0 ts0) (hl0 : ts0.length ≤ 9223372036854775807) (hr1 : RdT w A1 ts1) (hl1 : ts1.length ≤ 9223372036854775807) :
    Calls Try.prog 12 #[.slice A0 ts0.length c0, .slice A1 ts1.length c1] w fun e w' => e = .returned (.bool true) ∧ Below w.heap.size w w' := by
  have hs0 := c_szPlayS A0 c0 ts0.length (1048576) w hl0 (by omega) (by omega)
  by_cases hbig0 : 1048576 - (ts0.length : Int) < 0
  · rw [if_pos hbig0] at hs0
    go_enter Try.func12, Try.ntmps12
    go_wp2_with fail
    refine hs0.mono ?_
    rintro e w1 ⟨rfl, rfl⟩
    go_wp2
    go_ret
    exact ⟨rfl, Below.refl _ _⟩
  · rw [if_neg hbig0] at hs0
    have hle0 : ts0.length ≤ 1048576 := by omega
    have hs1 := c_szTileS A1 c1 ts1.length (1048576 - (ts0.length : Int)) w hl1 (by omega) (by omega)
    by_cases hbig1 : 1048576 - (ts0.length : Int) - (ts1.length : Int) < 0
    · rw [if_pos hbig1] at hs1
      go_enter Try.func12, Try.ntmps12
      go_wp2_with fail
      refine hs0.mono ?_
      rintro e w1 ⟨rfl, rfl⟩
      go_wp2_with fail
      refine hs1.mono ?_
      rintro e w1 ⟨rfl, rfl⟩
      go_wp2
      go_ret
      exact ⟨rfl, Below.refl _ _⟩
    · rw [if_neg hbig1] at hs1
      have hle1 : ts1.length ≤ 1048576 := by omega
      go_enter Try.func12, Try.ntmps12
      go_wp2_with fail
      refine hs0.mono ?_
      rintro e w0 ⟨rfl, rfl⟩
      go_wp2_with fail
      refine hs1.mono ?_
      rintro e w0 ⟨rfl, rfl⟩
      clear hs0 hs1
      go_wp2_with fail
      refine (c_toPlayS A0 c0 ts0 _ (hr0) hle0).mono ?_
      rintro e w1 ⟨rfl, o1a0, h1⟩
      have sa0 : w.heap.size ≤ (w).heap.size := Nat.le_refl _
      have hb3 : Below w.heap.size w w1 := h1
      go_wp2_with fail
      refine (c_toTileS A1 c1 ts1 _ (hr1.below hb3) hle1).mono ?_
      rintro e w4 ⟨rfl, o4a1, h4⟩
      have apa0a1 := fun g (hg : (Value.slice (some ⟨(w).heap.size, 0, none⟩) (ts0).length ts0.length).ownBlock = some g) => (World.ownsRow.lt o1a0 g hg).2
      have sa1 : w.heap.size ≤ (w1).heap.size := hb3.size
      have hb6 : Below w.heap.size w w4 := bstep hb3 h4
      have o6a0 := own_keep o1a0 h4
      clear o1a0
      clear hb3
      go_wp2_with fail
      refine (c_specCan _ _ ts0 _ _ ts1 _ (RdP.of_own o6a0) hle0 (RdT.of_own o4a1) hle1 (Nat.le_refl _)).mono ?_
      rintro e w7 ⟨rfl, h7⟩
      have hb8 : Below w.heap.size w w7 := bstep hb6 h7
      have o8a0 := own_keep o6a0 h7
      clear o6a0
      have o8a1 := own_keep o4a1 h7
      clear o4a1
      clear hb6
      clear o8a0 sa0
      clear o8a1 sa1
      go_wp2_with fail
      refine (c_toPlayS A0 c0 ts0 _ (hr0.below hb8) hle0).mono ?_
      rintro e w9 ⟨rfl, o9x0, h9⟩
      have sx0 : w.heap.size ≤ (w7).heap.size := hb8.size
      have hb11 : Below w.heap.size w w9 := bstep hb8 h9
      clear hb8
      go_wp2_with fail
      refine (c_toTileS A1 c1 ts1 _ (hr1.below hb11) hle1).mono ?_
      rintro e w12 ⟨rfl, o12x1, h12⟩
      have apx0x1 := fun g (hg : (Value.slice (some ⟨(w7).heap.size, 0, none⟩) (ts0).length ts0.length).ownBlock = some g) => (World.ownsRow.lt o9x0 g hg).2
      have sx1 : w.heap.size ≤ (w9).heap.size := hb11.size
      have hb14 : Below w.heap.size w w12 := bstep hb11 h12
      have o14x0 := own_keep o9x0 h12
      clear o9x0
      clear hb11
      go_wp2_with fail
      refine (c_implCan _ _ ts0 _ _ ts1 _ (RdP.of_own o14x0) hle0 (RdT.of_own o12x1) hle1).mono ?_
      rintro e w15 ⟨rfl, h15⟩
      have hb16 : Below w.heap.size w w15 := bstep hb14 h15
      have o16x0 := own_keep o14x0 h15
      clear o14x0
      have o16x1 := own_keep o12x1 h15
      clear o12x1
      clear hb14
      go_wp2_with fail
      refine (c_toPlayS A0 c0 ts0 _ (hr0.below hb16) hle0).mono ?_
      rintro e w17 ⟨rfl, o17b0, h17⟩
      have apx0b0 := fun g (hg : (Value.slice (some ⟨(w7).heap.size, 0, none⟩) (ts0).length ts0.length).ownBlock = some g) => (World.ownsRow.lt o16x0 g hg).2
      have apx1b0 := fun g (hg : (Value.slice (some ⟨(w9).heap.size, 0, none⟩) (ts1).length ts1.length).ownBlock = some g) => (World.ownsRow.lt o16x1 g hg).2
      have sb0 : w.heap.size ≤ (w15).heap.size := hb16.size
      have hb19 : Below w.heap.size w w17 := bstep hb16 h17
      have o19x0 := own_keep o16x0 h17
      clear o16x0
      have o19x1 := own_keep o16x1 h17
      clear o16x1
      clear hb16
      go_wp2_with fail
      refine (c_eqPlayS_same _ _ _ _ (ts0) _ (RdP.of_own o19x0) (RdP.of_own o17b0) (by omega)).mono ?_
      rintro e w20 ⟨rfl, h20⟩
      have hb21 : Below w.heap.size w w20 := bstep hb19 h20
      have o21x0 := own_keep o19x0 h20
      clear o19x0
      have o21x1 := own_keep o19x1 h20
      clear o19x1
      have o21b0 := own_keep o17b0 h20
      clear o17b0
      clear hb19
      clear o21b0 sb0
      go_wp2_with fail
      refine (c_toTileS A1 c1 ts1 _ (hr1.below hb21) hle1).mono ?_
      rintro e w22 ⟨rfl, o22b1, h22⟩
      have apx0b1 := fun g (hg : (Value.slice (some ⟨(w7).heap.size, 0, none⟩) (ts0).length ts0.length).ownBlock = some g) => (World.ownsRow.lt o21x0 g hg).2
      have apx1b1 := fun g (hg : (Value.slice (some ⟨(w9).heap.size, 0, none⟩) (ts1).length ts1.length).ownBlock = some g) => (World.ownsRow.lt o21x1 g hg).2
      have sb1 : w.heap.size ≤ (w20).heap.size := hb21.size
      have hb24 : Below w.heap.size w w22 := bstep hb21 h22
      have o24x0 := own_keep o21x0 h22
      clear o21x0
      have o24x1 := own_keep o21x1 h22
      clear o21x1
      clear hb21
      go_wp2_with fail
      refine (c_eqTileS_same _ _ _ _ (ts1) _ (RdT.of_own o24x1) (RdT.of_own o22b1) (by omega)).mono ?_
      rintro e w25 ⟨rfl, h25⟩
      have hb26 : Below w.heap.size w w25 := bstep hb24 h25
      have o26x0 := own_keep o24x0 h25
      clear o24x0
      have o26x1 := own_keep o24x1 h25
      clear o24x1
      have o26b1 := own_keep o22b1 h25
      clear o22b1
      clear hb24
      clear o26b1 sb1
      go_wp2
      go_ret
      exact ⟨rfl, hb26⟩

set_option maxRecDepth 100000 in
theorem lifted_FnExactCanPlay (os : Os) (started : os.Started) (H : Type) (enc : TypeId × Value → H) :
    ReturnsInHanded {} Try.checked os 12 .any (Rows.fnExactCanPlaySpec.pre6 enc Try.prog Try.f12 Rows.fnExactCanPlayRow.domain false) (Rows.fnExactCanPlaySpec.post enc Try.prog Try.f12 false true false false) := by
  refine returnsInHanded_of_change (C := Try.checked) Try.own_ started (by kernel_rfl) Try.func12
    (ChangeSpec.witness6 (enc := enc) (C := Try.checked) false ⟨#[], #[.slice none 0 0, .slice none 0 0], []⟩ 8 (by kernel_rfl) (by kernel_rfl) (by kernel_rfl) (by kernel_rfl)) ?_
  intro W base args ds gs before hval0 hW hcnd _
  have hval : ∀ (j : Nat) t v, Try.f12.params[j]? = some t → args[j]? = some v → Value.okWide Try.prog W .any base t v := hval0
  have hW' := hW
  obtain ⟨p, q, hA0, hV, rfl, hfz, hnd⟩ := hW
  have hA : DataW.TrodAll enc Try.prog W 0 (fun _ => true) true Try.f12.params.toList args.toList ds p := hA0
  rw [Try.params12] at hA hval
  obtain ⟨v0, vs0, d0, ds0, p0, q0, hargs0, rfl, rfl, h0, r0⟩ := trodAll_cons hA
  obtain ⟨v1, vs1, d1, ds1, p1, q1, rfl, rfl, rfl, h1, r1⟩ := trodAll_cons r0
  obtain ⟨rfl, rfl, rfl⟩ := trodAll_nil r1
  obtain rfl : args = #[v0, v1] := by cases args; simp_all
  obtain ⟨rfl, rfl⟩ := trodVars_none hV
  obtain ⟨A0, c0, ts0, rfl, hr0, hl0⟩ := open_plays (hval 0 22 v0 rfl rfl) h0
  obtain ⟨A1, c1, ts1, rfl, hr1, hl1⟩ := open_tiles (hval 1 47 v1 rfl rfl) h1
  refine (w_FnExactCanPlay A0 c0 ts0 A1 c1 ts1 W hr0 hl0 hr1 hl1).mono fun e W' ⟨he, hg⟩ => ?_
  subst he
  exact ⟨_, rfl, law_post rfl rfl (of_decide_eq_true (by kernel_rfl)) hW' rfl hg⟩

theorem fnExactCanPlay_holds : Rows.FnExactCanPlaySaid :=
  OpenClaim.holds_of_wide 12 Try.f12 rfl rfl rfl rfl rfl rfl rfl ⟨rfl, rfl, rfl, rfl, rfl⟩ rfl rfl rfl rfl rfl (by kernel_rfl) Try.func12 (by kernel_rfl)
    (of_decide_eq_true (by kernel_rfl)) (by unfold Func.isWrapper; first | (rw [if_pos (by decide +kernel)]; kernel_rfl) | (rw [if_neg (by decide +kernel)]; exact ⟨rfl, rfl⟩))
    (fun os started H enc _ => lifted_FnExactCanPlay os started H enc)
#print axioms fnExactCanPlay_holds

end Go.Proofs.Ytllfjffcogpaiaa

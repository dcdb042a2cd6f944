/- The law of SwapRows: at every list of lists of numbers and all i, j both functions answer alike, leave the lists alone, and each answer owns its memory. No condition. -/
import Derived.Test.YtepedcdnaodhcaaSwpG
import Derived.Test.YtepedcdnaodhcaaNestA
import Derived.Test.YtepedcdnaodhcaaLawI
namespace Go.Proofs.Ytepedcdnaodhcaa
open Go.ChangeShapes Go.WideShapes Go.ChangeAt Go.RowKit Go.Joins
set_option linter.unusedVariables false

set_option maxRecDepth 100000 in
set_option maxHeartbeats 1000000 in
theorem w_FnExactSwapRows (A0 : Option Addr) (c0 : Nat) (ts0 : List (List Int)) (x1 : Int) (x2 : Int) (w : World) (hr0 : RdII w A0 ts0) (hl0 : ts0.length ≤ 9223372036854775807) (hlr0 : ∀ k, k < ts0.length → (ts0.getD k []).length ≤ 9223372036854775807) (lo1 : -9223372036854775808 ≤ x1) (hi1 : x1 ≤ 9223372036854775807) (lo2 : -9223372036854775808 ≤ x2) (hi2 : x2 ≤ 9223372036854775807) :
    Calls Try.prog 9 #[.slice A0 ts0.length c0, .int .i64 x1, .int .i64 x2] w fun e w' => e = .returned (.bool true) ∧ Below w.heap.size w w' := by
  have hmod := swR_bd ts0 x1 x2
  have hs0 := c_szIntSS A0 c0 ts0 (1048576) w hr0 hl0 hlr0 (by omega) (by omega)
  by_cases hbig0 : 1048576 - (ts0.length : Int) - (sumTo ts0 ts0.length : Int) < 0
  · rw [if_pos hbig0] at hs0
    go_enter Try.func9, Try.ntmps9
    go_wp2_with fail
    refine hs0.mono ?_
    rintro e w1 ⟨rfl, rfl⟩
    go_wp2
    go_ret
    exact ⟨rfl, Below.refl _ _⟩
  · rw [if_neg hbig0] at hs0
    have hle0 : ts0.length + sumTo ts0 ts0.length ≤ 1048576 := by omega
    go_enter Try.func9, Try.ntmps9
    go_wp2_with fail
    refine hs0.mono ?_
    rintro e w0 ⟨rfl, rfl⟩
    clear hs0
    go_wp2_with fail
    refine (c_toIntSS A0 c0 ts0 _ (hr0) hle0).mono ?_
    rintro e w1 ⟨rfl, o1a0, h1⟩
    have sa0 : w.heap.size ≤ (w).heap.size := Nat.le_refl _
    have la0 : (w).heap.size ≤ (w1).heap.size := h1.size
    have hb3 : Below w.heap.size w w1 := h1
    go_wp2_with fail
    refine (c_specSwap _ _ ts0 x1 x2 _ (rdII_of o1a0) hl0 hlr0).mono ?_
    rintro e w4 ⟨AW, cW, rfl, o4W, h4⟩
    have apa0W := (Nat.le_refl (w1).heap.size)
    have sW : w.heap.size ≤ (w1).heap.size := hb3.size
    have lW : (w1).heap.size ≤ (w4).heap.size := h4.size
    have hb6 : Below w.heap.size w w4 := bstep hb3 h4
    have o6a0 := OwnRR.below o1a0 h4 (Nat.le_refl (w1).heap.size)
    have t6a0 := Nat.le_trans (Nat.le_refl (w1).heap.size) (h4).size
    clear o1a0
    clear hb3
    clear o6a0 sa0
    go_wp2_with fail
    refine (c_toIntSS A0 c0 ts0 _ (hr0.below hb6) hle0).mono ?_
    rintro e w7 ⟨rfl, o7x0, h7⟩
    have apWx0 := (Nat.le_refl (w4).heap.size)
    have sx0 : w.heap.size ≤ (w4).heap.size := hb6.size
    have lx0 : (w4).heap.size ≤ (w7).heap.size := h7.size
    have hb9 : Below w.heap.size w w7 := bstep hb6 h7
    have o9W := OwnRR.below o4W h7 (Nat.le_refl (w4).heap.size)
    have t9W := Nat.le_trans (Nat.le_refl (w4).heap.size) (h7).size
    clear o4W
    clear hb6
    go_wp2_with fail
    refine (c_implSwap _ _ ts0 x1 x2 _ (rdII_of o7x0) hl0 hlr0).mono ?_
    rintro e w10 ⟨AG, cG, rfl, o10G, h10⟩
    have apWG := t9W
    have apx0G := (Nat.le_refl (w7).heap.size)
    have sG : w.heap.size ≤ (w7).heap.size := hb9.size
    have lG : (w7).heap.size ≤ (w10).heap.size := h10.size
    have hb12 : Below w.heap.size w w10 := bstep hb9 h10
    have o12W := OwnRR.below o9W h10 t9W
    have t12W := Nat.le_trans t9W (h10).size
    clear o9W t9W
    have o12x0 := OwnRR.below o7x0 h10 (Nat.le_refl (w7).heap.size)
    have t12x0 := Nat.le_trans (Nat.le_refl (w7).heap.size) (h10).size
    clear o7x0
    clear hb9
    go_wp2_with fail
    refine (c_eqIntSS_same _ _ _ _ ((swR ts0 x1 x2)) _ (rdSS_of o10G) (rdII_of o12W) (by have := hmod; omega) (fun k hk => Nat.le_trans (row_le_sum ((swR ts0 x1 x2)) hk) (by have := hmod; omega))).mono ?_
    rintro e w13 ⟨rfl, h13⟩
    have hb14 : Below w.heap.size w w13 := bstep hb12 h13
    have o14W := OwnRR.below o12W h13 t12W
    have t14W := Nat.le_trans t12W (h13).size
    clear o12W t12W
    have o14x0 := OwnRR.below o12x0 h13 t12x0
    have t14x0 := Nat.le_trans t12x0 (h13).size
    clear o12x0 t12x0
    have o14G := OwnSS.below o10G h13 (Nat.le_refl (w10).heap.size)
    have t14G := Nat.le_trans (Nat.le_refl (w10).heap.size) (h13).size
    clear o10G
    clear hb12
    go_wp2_with fail
    refine (c_toIntSS A0 c0 ts0 _ (hr0.below hb14) hle0).mono ?_
    rintro e w15 ⟨rfl, o15b0, h15⟩
    have apWb0 := t14W
    have apx0b0 := t14x0
    have apGb0 := t14G
    have sb0 : w.heap.size ≤ (w13).heap.size := hb14.size
    have lb0 : (w13).heap.size ≤ (w15).heap.size := h15.size
    have hb17 : Below w.heap.size w w15 := bstep hb14 h15
    have o17W := OwnRR.below o14W h15 t14W
    have t17W := Nat.le_trans t14W (h15).size
    clear o14W t14W
    have o17x0 := OwnRR.below o14x0 h15 t14x0
    have t17x0 := Nat.le_trans t14x0 (h15).size
    clear o14x0 t14x0
    have o17G := OwnSS.below o14G h15 t14G
    have t17G := Nat.le_trans t14G (h15).size
    clear o14G t14G
    clear hb14
    go_wp2_with fail
    refine (c_eqIntSS_same _ _ _ _ (ts0) _ (rdII_of o17x0) (rdII_of o15b0) (by omega) (fun k hk => Nat.le_trans (row_le_sum (ts0) hk) (by omega))).mono ?_
    rintro e w18 ⟨rfl, h18⟩
    have hb19 : Below w.heap.size w w18 := bstep hb17 h18
    have o19W := OwnRR.below o17W h18 t17W
    have t19W := Nat.le_trans t17W (h18).size
    clear o17W t17W
    have o19x0 := OwnRR.below o17x0 h18 t17x0
    have t19x0 := Nat.le_trans t17x0 (h18).size
    clear o17x0 t17x0
    have o19G := OwnSS.below o17G h18 t17G
    have t19G := Nat.le_trans t17G (h18).size
    clear o17G t17G
    have o19b0 := OwnRR.below o15b0 h18 (Nat.le_refl (w15).heap.size)
    have t19b0 := Nat.le_trans (Nat.le_refl (w15).heap.size) (h18).size
    clear o15b0
    clear hb17
    clear o19b0 sb0
    go_wp2_with fail
    refine (c_markIntSSx _ _ _ _ (ts0) (1) _ o19x0 (Nat.le_trans lx0 t19x0) (by omega) (by omega) (by omega)).mono ?_
    rintro e w20 ⟨rfl, o20x0, hg20, hx20⟩
    have hb20 := hb19.trans (hg20.mono sx0)
    have o20W := OwnRR.below o19W hg20 apWx0
    have t20W := Nat.le_trans t19W hg20.size
    clear o19W
    have o20G := OwnSS.moved o19G (fun g h1 h2 => hx20 g (Nat.le_trans apx0G h1) h2)
    have t20G := Nat.le_trans t19G hg20.size
    clear o19G
    have t20x0 := Nat.le_trans t19x0 hg20.size
    clear o19x0 hb19 hg20
    go_wp2_with fail
    refine (c_eqIntSS_same _ _ _ _ ((swR ts0 x1 x2)) _ (rdSS_of o20G) (rdII_of o20W) (by have := hmod; omega) (fun k hk => Nat.le_trans (row_le_sum ((swR ts0 x1 x2)) hk) (by have := hmod; omega))).mono ?_
    rintro e w21 ⟨rfl, h21⟩
    have hb22 : Below w.heap.size w w21 := bstep hb20 h21
    have o22W := OwnRR.below o20W h21 t20W
    have t22W := Nat.le_trans t20W (h21).size
    clear o20W t20W
    have o22x0 := OwnRR.below o20x0 h21 t20x0
    have t22x0 := Nat.le_trans t20x0 (h21).size
    clear o20x0 t20x0
    have o22G := OwnSS.below o20G h21 t20G
    have t22G := Nat.le_trans t20G (h21).size
    clear o20G t20G
    clear hb20
    clear o22x0 sx0
    go_wp2_with fail
    refine (c_markSS _ _ _ _ ((swR ts0 x1 x2)) (1) _ o22G (Nat.le_trans lG t22G) (by omega) (by have := hmod; omega) (by have := hmod; omega)).mono ?_
    rintro e w23 ⟨rfl, o23G, hg23⟩
    have hb23 := hb22.trans (hg23.mono sG)
    have o23W := OwnRR.below o22W hg23 apWG
    have t23W := Nat.le_trans t22W hg23.size
    clear o22W
    have t23G := Nat.le_trans t22G hg23.size
    clear o22G hb22 hg23
    go_wp2_with fail
    refine (c_heldIntSS _ _ ((swR ts0 x1 x2)) (1) _ (rdmarksSS o23G) (by omega) (by have := hmod; omega) (by have := hmod; omega)).mono ?_
    rintro e w24 ⟨rfl, rfl⟩
    go_wp2_with fail
    refine (c_toIntSS A0 c0 ts0 _ (hr0.below hb23) hle0).mono ?_
    rintro e w25 ⟨rfl, o25d0, h25⟩
    have apWd0 := t23W
    have apGd0 := t23G
    have sd0 : w.heap.size ≤ (w23).heap.size := hb23.size
    have ld0 : (w23).heap.size ≤ (w25).heap.size := h25.size
    have hb27 : Below w.heap.size w w25 := bstep hb23 h25
    have o27W := OwnRR.below o23W h25 t23W
    have t27W := Nat.le_trans t23W (h25).size
    clear o23W t23W
    have o27G := OwnSS.below o23G h25 t23G
    have t27G := Nat.le_trans t23G (h25).size
    clear o23G t23G
    clear hb23
    go_wp2_with fail
    refine (c_implSwap _ _ ts0 x1 x2 _ (rdII_of o25d0) hl0 hlr0).mono ?_
    rintro e w28 ⟨AH, cH, rfl, o28H, h28⟩
    have apWH := t27W
    have apGH := t27G
    have apd0H := (Nat.le_refl (w25).heap.size)
    have sH : w.heap.size ≤ (w25).heap.size := hb27.size
    have lH : (w25).heap.size ≤ (w28).heap.size := h28.size
    have hb30 : Below w.heap.size w w28 := bstep hb27 h28
    have o30W := OwnRR.below o27W h28 t27W
    have t30W := Nat.le_trans t27W (h28).size
    clear o27W t27W
    have o30G := OwnSS.below o27G h28 t27G
    have t30G := Nat.le_trans t27G (h28).size
    clear o27G t27G
    have o30d0 := OwnRR.below o25d0 h28 (Nat.le_refl (w25).heap.size)
    have t30d0 := Nat.le_trans (Nat.le_refl (w25).heap.size) (h28).size
    clear o25d0
    clear hb27
    clear o30d0 sd0
    go_wp2_with fail
    refine (c_eqIntSS_same _ _ _ _ ((swR ts0 x1 x2)) _ (rdSS_of o28H) (rdII_of o30W) (by have := hmod; omega) (fun k hk => Nat.le_trans (row_le_sum ((swR ts0 x1 x2)) hk) (by have := hmod; omega))).mono ?_
    rintro e w31 ⟨rfl, h31⟩
    have hb32 : Below w.heap.size w w31 := bstep hb30 h31
    have o32W := OwnRR.below o30W h31 t30W
    have t32W := Nat.le_trans t30W (h31).size
    clear o30W t30W
    have o32G := OwnSS.below o30G h31 t30G
    have t32G := Nat.le_trans t30G (h31).size
    clear o30G t30G
    have o32H := OwnSS.below o28H h31 (Nat.le_refl (w28).heap.size)
    have t32H := Nat.le_trans (Nat.le_refl (w28).heap.size) (h31).size
    clear o28H
    clear hb30
    go_wp2_with fail
    refine (c_heldIntSS _ _ ((swR ts0 x1 x2)) (1) _ (rdmarksSS o32G) (by omega) (by have := hmod; omega) (by have := hmod; omega)).mono ?_
    rintro e w33 ⟨rfl, rfl⟩
    go_wp2
    go_ret
    exact ⟨rfl, hb32⟩

set_option maxRecDepth 100000 in
theorem lifted_FnExactSwapRows (os : Os) (started : os.Started) (H : Type) (enc : TypeId × Value → H) :
    ReturnsInHanded {} Try.checked os 9 .any (Rows.fnExactSwapRowsSpec.pre6 enc Try.prog Try.f9 Rows.fnExactSwapRowsRow.domain false) (Rows.fnExactSwapRowsSpec.post enc Try.prog Try.f9 false true false false) := by
  refine returnsInHanded_of_change (C := Try.checked) Try.own_ started (by kernel_rfl) Try.func9
    (ChangeSpec.witness6 (enc := enc) (C := Try.checked) false ⟨#[], #[.slice none 0 0, .int .i64 0, .int .i64 0], []⟩ 8 (by kernel_rfl) (by kernel_rfl) (by kernel_rfl) (by kernel_rfl)) ?_
  intro W base args ds gs before hval0 hW hcnd _
  have hval : ∀ (j : Nat) t v, Try.f9.params[j]? = some t → args[j]? = some v → Value.okWide Try.prog W .any base t v := hval0
  have hW' := hW
  obtain ⟨p, q, hA0, hV, rfl, hfz, hnd⟩ := hW
  have hA : DataW.TrodAll enc Try.prog W 0 (fun _ => true) true Try.f9.params.toList args.toList ds p := hA0
  rw [Try.params9] at hA hval
  obtain ⟨v0, vs0, d0, ds0, p0, q0, hargs0, rfl, rfl, h0, r0⟩ := trodAll_cons hA
  obtain ⟨v1, vs1, d1, ds1, p1, q1, rfl, rfl, rfl, h1, r1⟩ := trodAll_cons r0
  obtain ⟨v2, vs2, d2, ds2, p2, q2, rfl, rfl, rfl, h2, r2⟩ := trodAll_cons r1
  obtain ⟨rfl, rfl, rfl⟩ := trodAll_nil r2
  obtain rfl : args = #[v0, v1, v2] := by cases args; simp_all
  obtain ⟨rfl, rfl⟩ := trodVars_none hV
  obtain ⟨A0, c0, ts0, rfl, hr0, hl0, hlr0⟩ := open_numss (hval 0 50 v0 rfl rfl) h0
  obtain ⟨x1, rfl, _, _, wf1⟩ := open_int Try.underlying3 (hval 1 3 v1 rfl rfl) h1
  obtain ⟨x2, rfl, _, _, wf2⟩ := open_int Try.underlying3 (hval 2 3 v2 rfl rfl) h2
  refine (w_FnExactSwapRows A0 c0 ts0 x1 x2 W hr0 hl0 hlr0 (wf_lo wf1) (wf_hi wf1) (wf_lo wf2) (wf_hi wf2)).mono fun e W' ⟨he, hg⟩ => ?_
  subst he
  exact ⟨_, rfl, law_post rfl rfl (of_decide_eq_true (by kernel_rfl)) hW' rfl hg⟩

theorem fnExactSwapRows_holds : Rows.FnExactSwapRowsSaid :=
  OpenClaim.holds_of_wide 9 Try.f9 rfl rfl rfl rfl rfl rfl rfl ⟨rfl, rfl, rfl, rfl, rfl⟩ rfl rfl rfl rfl rfl (by kernel_rfl) Try.func9 (by kernel_rfl)
    (of_decide_eq_true (by kernel_rfl)) (by unfold Func.isWrapper; first | (rw [if_pos (by decide +kernel)]; kernel_rfl) | (rw [if_neg (by decide +kernel)]; exact ⟨rfl, rfl⟩))
    (fun os started H enc _ => lifted_FnExactSwapRows os started H enc)
#print axioms fnExactSwapRows_holds

end Go.Proofs.Ytepedcdnaodhcaa

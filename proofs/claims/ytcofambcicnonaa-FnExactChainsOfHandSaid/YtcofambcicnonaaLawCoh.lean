/- The law of ChainsOfHand: at every list of tiles both functions answer alike, leave the list alone, and each answer owns its memory. No condition. -/
import Derived.Test.YtcofambcicnonaaFwQ
import Derived.Test.YtcofambcicnonaaLaw
namespace Go.Proofs.Ytcofambcicnonaa
open Go.ChangeShapes Go.WideShapes Go.ChangeAt Go.RowKit Go.Joins
set_option linter.unusedVariables false

set_option maxRecDepth 100000 in
set_option maxHeartbeats 1000000 in
theorem w_FnExactChainsOfHand (A0 : Option Addr) (c0 : Nat) (ts0 : List (Int × Int)) (w : World) (hr0 : RdT w A0 ts0) (hl0 : ts0.length ≤ 9223372036854775807) :
    Calls Try.prog 5 #[.slice A0 ts0.length c0] w fun e w' => e = .returned (.bool true) ∧ Below w.heap.size w w' := by
  have hmod := cohL_bd ts0
  have hs0 := c_szTileS A0 c0 ts0.length (1048576) w hl0 (by omega) (by omega)
  by_cases hbig0 : 1048576 - (ts0.length : Int) < 0
  · rw [if_pos hbig0] at hs0
    go_enter Try.func5, Try.ntmps5
    go_wp2_with fail
    refine hs0.mono ?_
    rintro e w1 ⟨rfl, rfl⟩
    go_wp2
    go_ret
    exact ⟨rfl, Below.refl _ _⟩
  · rw [if_neg hbig0] at hs0
    have hle0 : ts0.length ≤ 1048576 := by omega
    go_enter Try.func5, Try.ntmps5
    go_wp2_with fail
    refine hs0.mono ?_
    rintro e w0 ⟨rfl, rfl⟩
    clear hs0
    go_wp2_with fail
    refine (c_toTileS A0 c0 ts0 _ (hr0) hle0).mono ?_
    rintro e w1 ⟨rfl, o1a0, h1⟩
    have sa0 : w.heap.size ≤ (w).heap.size := Nat.le_refl _
    have hb3 : Below w.heap.size w w1 := h1
    go_wp2_with fail
    refine (c_specCoh _ _ ts0 _ (RdT.of_own o1a0) hle0 (Nat.le_refl _)).mono ?_
    rintro e w4 ⟨AW, cW, rfl, o4W, h4⟩
    have apa0W := fun g (hg : (Value.slice (some ⟨(w).heap.size, 0, none⟩) (ts0).length ts0.length).ownBlock = some g) => (World.ownsRow.lt o1a0 g hg).2
    have sW : w.heap.size ≤ (w1).heap.size := hb3.size
    have lW : (w1).heap.size ≤ (w4).heap.size := h4.size
    have hb6 : Below w.heap.size w w4 := bstep hb3 h4
    have o6a0 := own_keep o1a0 h4
    clear o1a0
    clear hb3
    clear o6a0 sa0
    go_wp2_with fail
    refine (c_toTileS A0 c0 ts0 _ (hr0.below hb6) hle0).mono ?_
    rintro e w7 ⟨rfl, o7x0, h7⟩
    have apWx0 := (Nat.le_refl (w4).heap.size)
    have sx0 : w.heap.size ≤ (w4).heap.size := hb6.size
    have hb9 : Below w.heap.size w w7 := bstep hb6 h7
    have o9W := OwnRR.below o4W h7 (Nat.le_refl (w4).heap.size)
    have t9W := Nat.le_trans (Nat.le_refl (w4).heap.size) (h7).size
    clear o4W
    clear hb6
    go_wp2_with fail
    refine (c_implCoh _ _ ts0 _ (RdT.of_own o7x0) hle0).mono ?_
    rintro e w10 ⟨AG, cG, rfl, o10G, h10⟩
    have apWG := t9W
    have apx0G := fun g (hg : (Value.slice (some ⟨(w4).heap.size, 0, none⟩) (ts0).length ts0.length).ownBlock = some g) => (World.ownsRow.lt o7x0 g hg).2
    have sG : w.heap.size ≤ (w7).heap.size := hb9.size
    have lG : (w7).heap.size ≤ (w10).heap.size := h10.size
    have hb12 : Below w.heap.size w w10 := bstep hb9 h10
    have o12W := OwnRR.below o9W h10 t9W
    have t12W := Nat.le_trans t9W (h10).size
    clear o9W t9W
    have o12x0 := own_keep o7x0 h10
    clear o7x0
    clear hb9
    go_wp2_with fail
    refine (c_eqIntSS_same _ _ _ _ ((cohL ts0)) _ (rdII_of o10G) (rdII_of o12W) (by have := hmod; omega) (fun k hk => Nat.le_trans (row_le_sum ((cohL ts0)) hk) (by have := hmod; omega))).mono ?_
    rintro e w13 ⟨rfl, h13⟩
    have hb14 : Below w.heap.size w w13 := bstep hb12 h13
    have o14W := OwnRR.below o12W h13 t12W
    have t14W := Nat.le_trans t12W (h13).size
    clear o12W t12W
    have o14x0 := own_keep o12x0 h13
    clear o12x0
    have o14G := OwnRR.below o10G h13 (Nat.le_refl (w10).heap.size)
    have t14G := Nat.le_trans (Nat.le_refl (w10).heap.size) (h13).size
    clear o10G
    clear hb12
    go_wp2_with fail
    refine (c_toTileS A0 c0 ts0 _ (hr0.below hb14) hle0).mono ?_
    rintro e w15 ⟨rfl, o15b0, h15⟩
    have apWb0 := t14W
    have apx0b0 := fun g (hg : (Value.slice (some ⟨(w4).heap.size, 0, none⟩) (ts0).length ts0.length).ownBlock = some g) => (World.ownsRow.lt o14x0 g hg).2
    have apGb0 := t14G
    have sb0 : w.heap.size ≤ (w13).heap.size := hb14.size
    have hb17 : Below w.heap.size w w15 := bstep hb14 h15
    have o17W := OwnRR.below o14W h15 t14W
    have t17W := Nat.le_trans t14W (h15).size
    clear o14W t14W
    have o17x0 := own_keep o14x0 h15
    clear o14x0
    have o17G := OwnRR.below o14G h15 t14G
    have t17G := Nat.le_trans t14G (h15).size
    clear o14G t14G
    clear hb14
    go_wp2_with fail
    refine (c_eqTileS_same _ _ _ _ (ts0) _ (RdT.of_own o17x0) (RdT.of_own o15b0) (by omega)).mono ?_
    rintro e w18 ⟨rfl, h18⟩
    have hb19 : Below w.heap.size w w18 := bstep hb17 h18
    have o19W := OwnRR.below o17W h18 t17W
    have t19W := Nat.le_trans t17W (h18).size
    clear o17W t17W
    have o19x0 := own_keep o17x0 h18
    clear o17x0
    have o19G := OwnRR.below o17G h18 t17G
    have t19G := Nat.le_trans t17G (h18).size
    clear o17G t17G
    have o19b0 := own_keep o15b0 h18
    clear o15b0
    clear hb17
    clear o19b0 sb0
    go_wp2_with fail
    refine (c_markTileS _ _ _ (ts0) (1) _ o19x0 (by omega) (by omega)).mono ?_
    rintro e w20 ⟨rfl, o20x0, hg20⟩
    have hb20 := hb19.trans (below_of_grown hg20 hb19.size (fun g hg => Nat.le_trans sx0 (World.ownsRow.lt o19x0 g hg).1))
    have o20W := OwnRR.kept o19W hg20 (fun g hg => .inr (Nat.le_trans apWx0 (World.ownsRow.lt o19x0 g hg).1))
    have t20W := Nat.le_trans t19W hg20.size
    have o20G := OwnRR.kept o19G hg20 (fun g hg => .inl (apx0G g hg))
    have t20G := Nat.le_trans t19G hg20.size
    clear o19W
    clear o19G
    clear o19x0 hb19 hg20
    go_wp2_with fail
    refine (c_eqIntSS_same _ _ _ _ ((cohL ts0)) _ (rdII_of o20G) (rdII_of o20W) (by have := hmod; omega) (fun k hk => Nat.le_trans (row_le_sum ((cohL ts0)) hk) (by have := hmod; omega))).mono ?_
    rintro e w21 ⟨rfl, h21⟩
    have hb22 : Below w.heap.size w w21 := bstep hb20 h21
    have o22W := OwnRR.below o20W h21 t20W
    have t22W := Nat.le_trans t20W (h21).size
    clear o20W t20W
    have o22x0 := own_keep o20x0 h21
    clear o20x0
    have o22G := OwnRR.below o20G h21 t20G
    have t22G := Nat.le_trans t20G (h21).size
    clear o20G t20G
    clear hb20
    clear o22x0 sx0
    go_wp2_with fail
    refine (c_markIntSS _ _ _ _ ((cohL ts0)) (1) _ o22G (Nat.le_trans lG t22G) (by omega) (by have := hmod; omega) (by have := hmod; omega)).mono ?_
    rintro e w23 ⟨rfl, o23G, hg23⟩
    have hb23 := hb22.trans (hg23.mono sG)
    have o23W := OwnRR.below o22W hg23 apWG
    have t23W := Nat.le_trans t22W hg23.size
    clear o22W
    have t23G := Nat.le_trans t22G hg23.size
    clear o22G hb22 hg23
    go_wp2_with fail
    refine (c_heldIntSS _ _ ((cohL ts0)) (1) _ (rdmarksII o23G) (by omega) (by have := hmod; omega) (by have := hmod; omega)).mono ?_
    rintro e w24 ⟨rfl, rfl⟩
    go_wp2_with fail
    refine (c_toTileS A0 c0 ts0 _ (hr0.below hb23) hle0).mono ?_
    rintro e w25 ⟨rfl, o25d0, h25⟩
    have apWd0 := t23W
    have apGd0 := t23G
    have sd0 : w.heap.size ≤ (w23).heap.size := hb23.size
    have hb27 : Below w.heap.size w w25 := bstep hb23 h25
    have o27W := OwnRR.below o23W h25 t23W
    have t27W := Nat.le_trans t23W (h25).size
    clear o23W t23W
    have o27G := OwnRR.below o23G h25 t23G
    have t27G := Nat.le_trans t23G (h25).size
    clear o23G t23G
    clear hb23
    go_wp2_with fail
    refine (c_implCoh _ _ ts0 _ (RdT.of_own o25d0) hle0).mono ?_
    rintro e w28 ⟨AH, cH, rfl, o28H, h28⟩
    have apWH := t27W
    have apGH := t27G
    have apd0H := fun g (hg : (Value.slice (some ⟨(w23).heap.size, 0, none⟩) (ts0).length ts0.length).ownBlock = some g) => (World.ownsRow.lt o25d0 g hg).2
    have sH : w.heap.size ≤ (w25).heap.size := hb27.size
    have lH : (w25).heap.size ≤ (w28).heap.size := h28.size
    have hb30 : Below w.heap.size w w28 := bstep hb27 h28
    have o30W := OwnRR.below o27W h28 t27W
    have t30W := Nat.le_trans t27W (h28).size
    clear o27W t27W
    have o30G := OwnRR.below o27G h28 t27G
    have t30G := Nat.le_trans t27G (h28).size
    clear o27G t27G
    have o30d0 := own_keep o25d0 h28
    clear o25d0
    clear hb27
    clear o30d0 sd0
    go_wp2_with fail
    refine (c_eqIntSS_same _ _ _ _ ((cohL ts0)) _ (rdII_of o28H) (rdII_of o30W) (by have := hmod; omega) (fun k hk => Nat.le_trans (row_le_sum ((cohL ts0)) hk) (by have := hmod; omega))).mono ?_
    rintro e w31 ⟨rfl, h31⟩
    have hb32 : Below w.heap.size w w31 := bstep hb30 h31
    have o32W := OwnRR.below o30W h31 t30W
    have t32W := Nat.le_trans t30W (h31).size
    clear o30W t30W
    have o32G := OwnRR.below o30G h31 t30G
    have t32G := Nat.le_trans t30G (h31).size
    clear o30G t30G
    have o32H := OwnRR.below o28H h31 (Nat.le_refl (w28).heap.size)
    have t32H := Nat.le_trans (Nat.le_refl (w28).heap.size) (h31).size
    clear o28H
    clear hb30
    go_wp2_with fail
    refine (c_heldIntSS _ _ ((cohL ts0)) (1) _ (rdmarksII o32G) (by omega) (by have := hmod; omega) (by have := hmod; omega)).mono ?_
    rintro e w33 ⟨rfl, rfl⟩
    go_wp2
    go_ret
    exact ⟨rfl, hb32⟩

set_option maxRecDepth 100000 in
theorem lifted_FnExactChainsOfHand (os : Os) (started : os.Started) (H : Type) (enc : TypeId × Value → H) :
    ReturnsInHanded {} Try.checked os 5 .any (Rows.fnExactChainsOfHandSpec.pre6 enc Try.prog Try.f5 Rows.fnExactChainsOfHandRow.domain false) (Rows.fnExactChainsOfHandSpec.post enc Try.prog Try.f5 false true false false) := by
  refine returnsInHanded_of_change (C := Try.checked) Try.own_ started (by kernel_rfl) Try.func5
    (ChangeSpec.witness6 (enc := enc) (C := Try.checked) false ⟨#[], #[.slice none 0 0], []⟩ 8 (by kernel_rfl) (by kernel_rfl) (by kernel_rfl) (by kernel_rfl)) ?_
  intro W base args ds gs before hval0 hW hcnd _
  have hval : ∀ (j : Nat) t v, Try.f5.params[j]? = some t → args[j]? = some v → Value.okWide Try.prog W .any base t v := hval0
  have hW' := hW
  obtain ⟨p, q, hA0, hV, rfl, hfz, hnd⟩ := hW
  have hA : DataW.TrodAll enc Try.prog W 0 (fun _ => true) true Try.f5.params.toList args.toList ds p := hA0
  rw [Try.params5] at hA hval
  obtain ⟨v0, vs0, d0, ds0, p0, q0, hargs0, rfl, rfl, h0, r0⟩ := trodAll_cons hA
  obtain ⟨rfl, rfl, rfl⟩ := trodAll_nil r0
  obtain rfl : args = #[v0] := by cases args; simp_all
  obtain ⟨rfl, rfl⟩ := trodVars_none hV
  obtain ⟨A0, c0, ts0, rfl, hr0, hl0⟩ := open_tiles (hval 0 22 v0 rfl rfl) h0
  refine (w_FnExactChainsOfHand A0 c0 ts0 W hr0 hl0).mono fun e W' ⟨he, hg⟩ => ?_
  subst he
  exact ⟨_, rfl, law_post rfl rfl (of_decide_eq_true (by kernel_rfl)) hW' rfl hg⟩

theorem fnExactChainsOfHand_holds : Rows.FnExactChainsOfHandSaid :=
  OpenClaim.holds_of_wide 5 Try.f5 rfl rfl rfl rfl rfl rfl rfl ⟨rfl, rfl, rfl, rfl, rfl⟩ rfl rfl rfl rfl rfl (by kernel_rfl) Try.func5 (by kernel_rfl)
    (of_decide_eq_true (by kernel_rfl)) (by unfold Func.isWrapper; first | (rw [if_pos (by decide +kernel)]; kernel_rfl) | (rw [if_neg (by decide +kernel)]; exact ⟨rfl, rfl⟩))
    (fun os started H enc _ => lifted_FnExactChainsOfHand os started H enc)
#print axioms fnExactChainsOfHand_holds

end Go.Proofs.Ytcofambcicnonaa

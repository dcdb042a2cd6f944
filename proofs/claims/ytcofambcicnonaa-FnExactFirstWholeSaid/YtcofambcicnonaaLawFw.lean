/- The law of FirstWhole: at every list of tiles both functions answer alike, leave the list alone, and each answer owns its memory. No condition. -/
import Derived.Test.YtcofambcicnonaaFwP
import Derived.Test.YtcofambcicnonaaLaw
namespace Go.Proofs.Ytcofambcicnonaa
open Go.ChangeShapes Go.WideShapes Go.ChangeAt Go.RowKit Go.Joins
set_option linter.unusedVariables false

set_option maxRecDepth 100000 in
set_option maxHeartbeats 1000000 in
theorem w_FnExactFirstWhole (A0 : Option Addr) (c0 : Nat) (ts0 : List (Int × Int)) (w : World) (hr0 : RdT w A0 ts0) (hl0 : ts0.length ≤ 9223372036854775807) :
    Calls Try.prog 3 #[.slice A0 ts0.length c0] w fun e w' => e = .returned (.bool true) ∧ Below w.heap.size w w' := by
  have hmod := fwR_len ts0 false
  have hs0 := c_szTileS A0 c0 ts0.length (1048576) w hl0 (by omega) (by omega)
  by_cases hbig0 : 1048576 - (ts0.length : Int) < 0
  · rw [if_pos hbig0] at hs0
    go_enter Try.func3, Try.ntmps3
    go_wp2_with fail
    refine hs0.mono ?_
    rintro e w1 ⟨rfl, rfl⟩
    go_wp2
    go_ret
    exact ⟨rfl, Below.refl _ _⟩
  · rw [if_neg hbig0] at hs0
    have hle0 : ts0.length ≤ 1048576 := by omega
    go_enter Try.func3, Try.ntmps3
    go_wp2_with fail
    refine hs0.mono ?_
    rintro e w0 ⟨rfl, rfl⟩
    clear hs0
    go_wp2_with fail
    refine (c_toTileS A0 c0 ts0 _ (hr0) hle0).mono ?_
    rintro e w1 ⟨rfl, o1a0, h1⟩
    have sa0 : w.heap.size ≤ (w).heap.size := Nat.le_refl _
    have hb3 : Below w.heap.size w w1 := h1
    go_wp2_with fail
    refine (c_specFWhole _ _ ts0 _ (RdT.of_own o1a0) hle0 (Nat.le_refl _)).mono ?_
    rintro e w4 ⟨AW, cW, rfl, o4W, h4⟩
    have apa0W := fun g (hg : (Value.slice (some ⟨(w).heap.size, 0, none⟩) (ts0).length ts0.length).ownBlock = some g) => (World.ownsRow.lt o1a0 g hg).2
    have sW : w.heap.size ≤ (w1).heap.size := hb3.size
    have hb6 : Below w.heap.size w w4 := bstep hb3 h4
    have o6a0 := own_keep o1a0 h4
    clear o1a0
    clear hb3
    clear o6a0 sa0
    go_wp2_with fail
    refine (c_toTileS A0 c0 ts0 _ (hr0.below hb6) hle0).mono ?_
    rintro e w7 ⟨rfl, o7x0, h7⟩
    have apWx0 := fun g (hg : (Value.slice AW ((fwR ts0 false)).length cW).ownBlock = some g) => (World.ownsRow.lt o4W g hg).2
    have sx0 : w.heap.size ≤ (w4).heap.size := hb6.size
    have hb9 : Below w.heap.size w w7 := bstep hb6 h7
    have o9W := own_keep o4W h7
    clear o4W
    clear hb6
    go_wp2_with fail
    refine (c_implFWhole _ _ ts0 _ (RdT.of_own o7x0) hle0).mono ?_
    rintro e w10 ⟨AG, cG, rfl, o10G, h10⟩
    have apWG := fun g (hg : (Value.slice AW ((fwR ts0 false)).length cW).ownBlock = some g) => (World.ownsRow.lt o9W g hg).2
    have apx0G := fun g (hg : (Value.slice (some ⟨(w4).heap.size, 0, none⟩) (ts0).length ts0.length).ownBlock = some g) => (World.ownsRow.lt o7x0 g hg).2
    have sG : w.heap.size ≤ (w7).heap.size := hb9.size
    have hb12 : Below w.heap.size w w10 := bstep hb9 h10
    have o12W := own_keep o9W h10
    clear o9W
    have o12x0 := own_keep o7x0 h10
    clear o7x0
    clear hb9
    go_wp2_with fail
    refine (c_eqIntS_same _ _ _ _ ((fwR ts0 false)) _ (RdI.of_own o10G) (RdI.of_own o12W) (by have := hmod; omega)).mono ?_
    rintro e w13 ⟨rfl, h13⟩
    have hb14 : Below w.heap.size w w13 := bstep hb12 h13
    have o14W := own_keep o12W h13
    clear o12W
    have o14x0 := own_keep o12x0 h13
    clear o12x0
    have o14G := own_keep o10G h13
    clear o10G
    clear hb12
    go_wp2_with fail
    refine (c_toTileS A0 c0 ts0 _ (hr0.below hb14) hle0).mono ?_
    rintro e w15 ⟨rfl, o15b0, h15⟩
    have apWb0 := fun g (hg : (Value.slice AW ((fwR ts0 false)).length cW).ownBlock = some g) => (World.ownsRow.lt o14W g hg).2
    have apx0b0 := fun g (hg : (Value.slice (some ⟨(w4).heap.size, 0, none⟩) (ts0).length ts0.length).ownBlock = some g) => (World.ownsRow.lt o14x0 g hg).2
    have apGb0 := fun g (hg : (Value.slice AG ((fwR ts0 false)).length cG).ownBlock = some g) => (World.ownsRow.lt o14G g hg).2
    have sb0 : w.heap.size ≤ (w13).heap.size := hb14.size
    have hb17 : Below w.heap.size w w15 := bstep hb14 h15
    have o17W := own_keep o14W h15
    clear o14W
    have o17x0 := own_keep o14x0 h15
    clear o14x0
    have o17G := own_keep o14G h15
    clear o14G
    clear hb14
    go_wp2_with fail
    refine (c_eqTileS_same _ _ _ _ (ts0) _ (RdT.of_own o17x0) (RdT.of_own o15b0) (by omega)).mono ?_
    rintro e w18 ⟨rfl, h18⟩
    have hb19 : Below w.heap.size w w18 := bstep hb17 h18
    have o19W := own_keep o17W h18
    clear o17W
    have o19x0 := own_keep o17x0 h18
    clear o17x0
    have o19G := own_keep o17G h18
    clear o17G
    have o19b0 := own_keep o15b0 h18
    clear o15b0
    clear hb17
    clear o19b0 sb0
    go_wp2_with fail
    refine (c_markTileS _ _ _ (ts0) (1) _ o19x0 (by omega) (by omega)).mono ?_
    rintro e w20 ⟨rfl, o20x0, hg20⟩
    have hb20 := hb19.trans (below_of_grown hg20 hb19.size (fun g hg => Nat.le_trans sx0 (World.ownsRow.lt o19x0 g hg).1))
    have o20W := World.ownsRow.kept o19W hg20 (own_apart2 apWx0 o19x0)
    have o20G := World.ownsRow.kept o19G hg20 (own_apart1 apx0G o19G)
    clear o19W
    clear o19G
    clear o19x0 hb19 hg20
    go_wp2_with fail
    refine (c_eqIntS_same _ _ _ _ ((fwR ts0 false)) _ (RdI.of_own o20G) (RdI.of_own o20W) (by have := hmod; omega)).mono ?_
    rintro e w21 ⟨rfl, h21⟩
    have hb22 : Below w.heap.size w w21 := bstep hb20 h21
    have o22W := own_keep o20W h21
    clear o20W
    have o22x0 := own_keep o20x0 h21
    clear o20x0
    have o22G := own_keep o20G h21
    clear o20G
    clear hb20
    clear o22x0 sx0
    go_wp2_with fail
    refine (c_markIntS _ _ _ ((fwR ts0 false)) (1) _ o22G (by omega) (by have := hmod; omega)).mono ?_
    rintro e w23 ⟨rfl, o23G, hg23⟩
    have hb23 := hb22.trans (below_of_grown hg23 hb22.size (fun g hg => Nat.le_trans sG (World.ownsRow.lt o22G g hg).1))
    have o23W := World.ownsRow.kept o22W hg23 (own_apart2 apWG o22G)
    clear o22W
    clear o22G hb22 hg23
    go_wp2_with fail
    refine (c_heldIntS _ _ ((fwR ts0 false)).length (1) _ (rdmarksI o23G) (by omega) (by have := hmod; omega)).mono ?_
    rintro e w24 ⟨rfl, rfl⟩
    go_wp2_with fail
    refine (c_toTileS A0 c0 ts0 _ (hr0.below hb23) hle0).mono ?_
    rintro e w25 ⟨rfl, o25d0, h25⟩
    have apWd0 := fun g (hg : (Value.slice AW ((fwR ts0 false)).length cW).ownBlock = some g) => (World.ownsRow.lt o23W g hg).2
    have apGd0 := fun g (hg : (Value.slice AG ((fwR ts0 false)).length cG).ownBlock = some g) => (World.ownsRow.lt o23G g hg).2
    have sd0 : w.heap.size ≤ (w23).heap.size := hb23.size
    have hb27 : Below w.heap.size w w25 := bstep hb23 h25
    have o27W := own_keep o23W h25
    clear o23W
    have o27G := own_keep o23G h25
    clear o23G
    clear hb23
    go_wp2_with fail
    refine (c_implFWhole _ _ ts0 _ (RdT.of_own o25d0) hle0).mono ?_
    rintro e w28 ⟨AH, cH, rfl, o28H, h28⟩
    have apWH := fun g (hg : (Value.slice AW ((fwR ts0 false)).length cW).ownBlock = some g) => (World.ownsRow.lt o27W g hg).2
    have apGH := fun g (hg : (Value.slice AG ((fwR ts0 false)).length cG).ownBlock = some g) => (World.ownsRow.lt o27G g hg).2
    have apd0H := fun g (hg : (Value.slice (some ⟨(w23).heap.size, 0, none⟩) (ts0).length ts0.length).ownBlock = some g) => (World.ownsRow.lt o25d0 g hg).2
    have sH : w.heap.size ≤ (w25).heap.size := hb27.size
    have hb30 : Below w.heap.size w w28 := bstep hb27 h28
    have o30W := own_keep o27W h28
    clear o27W
    have o30G := own_keep o27G h28
    clear o27G
    have o30d0 := own_keep o25d0 h28
    clear o25d0
    clear hb27
    clear o30d0 sd0
    go_wp2_with fail
    refine (c_eqIntS_same _ _ _ _ ((fwR ts0 false)) _ (RdI.of_own o28H) (RdI.of_own o30W) (by have := hmod; omega)).mono ?_
    rintro e w31 ⟨rfl, h31⟩
    have hb32 : Below w.heap.size w w31 := bstep hb30 h31
    have o32W := own_keep o30W h31
    clear o30W
    have o32G := own_keep o30G h31
    clear o30G
    have o32H := own_keep o28H h31
    clear o28H
    clear hb30
    go_wp2_with fail
    refine (c_heldIntS _ _ ((fwR ts0 false)).length (1) _ (rdmarksI o32G) (by omega) (by have := hmod; omega)).mono ?_
    rintro e w33 ⟨rfl, rfl⟩
    go_wp2
    go_ret
    exact ⟨rfl, hb32⟩

set_option maxRecDepth 100000 in
theorem lifted_FnExactFirstWhole (os : Os) (started : os.Started) (H : Type) (enc : TypeId × Value → H) :
    ReturnsInHanded {} Try.checked os 3 .any (Rows.fnExactFirstWholeSpec.pre6 enc Try.prog Try.f3 Rows.fnExactFirstWholeRow.domain false) (Rows.fnExactFirstWholeSpec.post enc Try.prog Try.f3 false true false false) := by
  refine returnsInHanded_of_change (C := Try.checked) Try.own_ started (by kernel_rfl) Try.func3
    (ChangeSpec.witness6 (enc := enc) (C := Try.checked) false ⟨#[], #[.slice none 0 0], []⟩ 8 (by kernel_rfl) (by kernel_rfl) (by kernel_rfl) (by kernel_rfl)) ?_
  intro W base args ds gs before hval0 hW hcnd _
  have hval : ∀ (j : Nat) t v, Try.f3.params[j]? = some t → args[j]? = some v → Value.okWide Try.prog W .any base t v := hval0
  have hW' := hW
  obtain ⟨p, q, hA0, hV, rfl, hfz, hnd⟩ := hW
  have hA : DataW.TrodAll enc Try.prog W 0 (fun _ => true) true Try.f3.params.toList args.toList ds p := hA0
  rw [Try.params3] at hA hval
  obtain ⟨v0, vs0, d0, ds0, p0, q0, hargs0, rfl, rfl, h0, r0⟩ := trodAll_cons hA
  obtain ⟨rfl, rfl, rfl⟩ := trodAll_nil r0
  obtain rfl : args = #[v0] := by cases args; simp_all
  obtain ⟨rfl, rfl⟩ := trodVars_none hV
  obtain ⟨A0, c0, ts0, rfl, hr0, hl0⟩ := open_tiles (hval 0 22 v0 rfl rfl) h0
  refine (w_FnExactFirstWhole A0 c0 ts0 W hr0 hl0).mono fun e W' ⟨he, hg⟩ => ?_
  subst he
  exact ⟨_, rfl, law_post rfl rfl (of_decide_eq_true (by kernel_rfl)) hW' rfl hg⟩

theorem fnExactFirstWhole_holds : Rows.FnExactFirstWholeSaid :=
  OpenClaim.holds_of_wide 3 Try.f3 rfl rfl rfl rfl rfl rfl rfl ⟨rfl, rfl, rfl, rfl, rfl⟩ rfl rfl rfl rfl rfl (by kernel_rfl) Try.func3 (by kernel_rfl)
    (of_decide_eq_true (by kernel_rfl)) (by unfold Func.isWrapper; first | (rw [if_pos (by decide +kernel)]; kernel_rfl) | (rw [if_neg (by decide +kernel)]; exact ⟨rfl, rfl⟩))
    (fun os started H enc _ => lifted_FnExactFirstWhole os started H enc)
#print axioms fnExactFirstWhole_holds

end Go.Proofs.Ytcofambcicnonaa

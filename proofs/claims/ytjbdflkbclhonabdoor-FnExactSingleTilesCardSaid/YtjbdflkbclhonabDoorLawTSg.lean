/- The law of SingleTiles: at every text and list of tiles both functions answer alike, leave the list alone, and each answer owns its memory. No condition. -/
import Derived.Test.YtjbdflkbclhonabDoorTabSg
import Derived.Test.YtjbdflkbclhonabDoorLawS
import Derived.Test.YtjbdflkbclhonabDoorDoorS
namespace Go.Proofs.YtjbdflkbclhonabDoor
open Go.ChangeShapes Go.WideShapes Go.ChangeAt Go.RowKit Go.Joins
set_option linter.unusedVariables false

set_option maxRecDepth 100000 in
set_option maxHeartbeats 1000000 in
theorem w_FnExactSingleTiles (s0 : ByteArray) (A1 : Option Addr) (c1 : Nat) (ts1 : List (Int × Int)) (w : World) (hl0 : s0.size ≤ 9223372036854775807) (hr1 : RdT w A1 ts1) (hl1 : ts1.length ≤ 9223372036854775807) (m : Int) (hm : w.cell? ⟨0, 0, none⟩ = some (.int .i64 m)) :
    Calls Tryd.prog 4 #[.string s0, .slice A1 ts1.length c1] w fun e w' => e = .returned (.bool true) ∧ Below w.heap.size w w' := by
  have hmod := sgL_len s0 ts1
  by_cases hbig0 : 1048576 < s0.size
  · go_enter Tryd.func4, Tryd.ntmps4
    go_wp2_with fail
    go_ret
    exact ⟨rfl, Below.refl _ _⟩
  · have hle0 : s0.size ≤ 1048576 := by omega
    have hs1 := c_szTileS A1 c1 ts1.length (1048576) w hl1 (by omega) (by omega)
    by_cases hbig1 : 1048576 - (ts1.length : Int) < 0
    · rw [if_pos hbig1] at hs1
      go_enter Tryd.func4, Tryd.ntmps4
      go_wp2_with fail
      refine hs1.mono ?_
      rintro e w1 ⟨rfl, rfl⟩
      go_wp2
      go_ret
      exact ⟨rfl, Below.refl _ _⟩
    · rw [if_neg hbig1] at hs1
      have hle1 : ts1.length ≤ 1048576 := by omega
      go_enter Tryd.func4, Tryd.ntmps4
      go_wp2_with fail
      refine hs1.mono ?_
      rintro e w0 ⟨rfl, rfl⟩
      clear hs1
      go_wp2_with fail
      refine (c_toTileS A1 c1 ts1 _ (hr1) hle1).mono ?_
      rintro e w1 ⟨rfl, o1a1, h1⟩
      have sa1 : w.heap.size ≤ (w).heap.size := Nat.le_refl _
      have hb3 : Below w.heap.size w w1 := h1
      go_wp2_with fail
      refine (c_specSingles s0 _ _ ts1 _ hle0 (RdT.of_own o1a1) hle1 (Nat.le_refl _)).mono ?_
      rintro e w4 ⟨AW, cW, rfl, o4W, h4⟩
      have apa1W := fun g (hg : (Value.slice (some ⟨(w).heap.size, 0, none⟩) (ts1).length ts1.length).ownBlock = some g) => (World.ownsRow.lt o1a1 g hg).2
      have sW : w.heap.size ≤ (w1).heap.size := hb3.size
      have hb6 : Below w.heap.size w w4 := bstep hb3 h4
      have o6a1 := own_keep o1a1 h4
      clear o1a1
      clear hb3
      clear o6a1 sa1
      go_wp2_with fail
      refine (c_toTileS A1 c1 ts1 _ (hr1.below hb6) hle1).mono ?_
      rintro e w7 ⟨rfl, o7x1, h7⟩
      have apWx1 := fun g (hg : (Value.slice AW ((sgL s0 ts1)).length cW).ownBlock = some g) => (World.ownsRow.lt o4W g hg).2
      have sx1 : w.heap.size ≤ (w4).heap.size := hb6.size
      have hb9 : Below w.heap.size w w7 := bstep hb6 h7
      have o9W := own_keep o4W h7
      clear o4W
      clear hb6
      go_wp2_with fail
      refine (c_implSinglesB s0 _ _ ts1 m hm (by assumption) hle0 (RdT.of_own o7x1) hle1).mono ?_
      rintro e w10 ⟨AG, cG, rfl, o10G, h10⟩
      have apWG := fun g (hg : (Value.slice AW ((sgL s0 ts1)).length cW).ownBlock = some g) => (World.ownsRow.lt o9W g hg).2
      have apx1G := fun g (hg : (Value.slice (some ⟨(w4).heap.size, 0, none⟩) (ts1).length ts1.length).ownBlock = some g) => (World.ownsRow.lt o7x1 g hg).2
      have sG : w.heap.size ≤ (w7).heap.size := hb9.size
      have hb12 : Below w.heap.size w w10 := bstep hb9 h10
      have o12W := own_keep o9W h10
      clear o9W
      have o12x1 := own_keep o7x1 h10
      clear o7x1
      clear hb9
      go_wp2_with fail
      refine (c_eqTileS_same _ _ _ _ ((sgL s0 ts1)) _ (RdT.of_own o10G) (RdT.of_own o12W) (by have := hmod; omega)).mono ?_
      rintro e w13 ⟨rfl, h13⟩
      have hb14 : Below w.heap.size w w13 := bstep hb12 h13
      have o14W := own_keep o12W h13
      clear o12W
      have o14x1 := own_keep o12x1 h13
      clear o12x1
      have o14G := own_keep o10G h13
      clear o10G
      clear hb12
      go_wp2_with fail
      refine (c_toTileS A1 c1 ts1 _ (hr1.below hb14) hle1).mono ?_
      rintro e w15 ⟨rfl, o15b1, h15⟩
      have apWb1 := fun g (hg : (Value.slice AW ((sgL s0 ts1)).length cW).ownBlock = some g) => (World.ownsRow.lt o14W g hg).2
      have apx1b1 := fun g (hg : (Value.slice (some ⟨(w4).heap.size, 0, none⟩) (ts1).length ts1.length).ownBlock = some g) => (World.ownsRow.lt o14x1 g hg).2
      have apGb1 := fun g (hg : (Value.slice AG ((sgL s0 ts1)).length cG).ownBlock = some g) => (World.ownsRow.lt o14G g hg).2
      have sb1 : w.heap.size ≤ (w13).heap.size := hb14.size
      have hb17 : Below w.heap.size w w15 := bstep hb14 h15
      have o17W := own_keep o14W h15
      clear o14W
      have o17x1 := own_keep o14x1 h15
      clear o14x1
      have o17G := own_keep o14G h15
      clear o14G
      clear hb14
      go_wp2_with fail
      refine (c_eqTileS_same _ _ _ _ (ts1) _ (RdT.of_own o17x1) (RdT.of_own o15b1) (by omega)).mono ?_
      rintro e w18 ⟨rfl, h18⟩
      have hb19 : Below w.heap.size w w18 := bstep hb17 h18
      have o19W := own_keep o17W h18
      clear o17W
      have o19x1 := own_keep o17x1 h18
      clear o17x1
      have o19G := own_keep o17G h18
      clear o17G
      have o19b1 := own_keep o15b1 h18
      clear o15b1
      clear hb17
      clear o19b1 sb1
      go_wp2_with fail
      refine (c_markTileS _ _ _ (ts1) (1) _ o19x1 (by omega) (by omega)).mono ?_
      rintro e w20 ⟨rfl, o20x1, hg20⟩
      have hb20 := hb19.trans (below_of_grown hg20 hb19.size (fun g hg => Nat.le_trans sx1 (World.ownsRow.lt o19x1 g hg).1))
      have o20W := World.ownsRow.kept o19W hg20 (own_apart2 apWx1 o19x1)
      have o20G := World.ownsRow.kept o19G hg20 (own_apart1 apx1G o19G)
      clear o19W
      clear o19G
      clear o19x1 hb19 hg20
      go_wp2_with fail
      refine (c_eqTileS_same _ _ _ _ ((sgL s0 ts1)) _ (RdT.of_own o20G) (RdT.of_own o20W) (by have := hmod; omega)).mono ?_
      rintro e w21 ⟨rfl, h21⟩
      have hb22 : Below w.heap.size w w21 := bstep hb20 h21
      have o22W := own_keep o20W h21
      clear o20W
      have o22x1 := own_keep o20x1 h21
      clear o20x1
      have o22G := own_keep o20G h21
      clear o20G
      clear hb20
      clear o22x1 sx1
      go_wp2_with fail
      refine (c_markTileS _ _ _ ((sgL s0 ts1)) (1) _ o22G (by omega) (by have := hmod; omega)).mono ?_
      rintro e w23 ⟨rfl, o23G, hg23⟩
      have hb23 := hb22.trans (below_of_grown hg23 hb22.size (fun g hg => Nat.le_trans sG (World.ownsRow.lt o22G g hg).1))
      have o23W := World.ownsRow.kept o22W hg23 (own_apart2 apWG o22G)
      clear o22W
      clear o22G hb22 hg23
      go_wp2_with fail
      refine (c_heldTileS _ _ ((sgL s0 ts1)).length (1) _ (rdmarksT o23G) (by omega) (by have := hmod; omega)).mono ?_
      rintro e w24 ⟨rfl, rfl⟩
      go_wp2_with fail
      refine (c_toTileS A1 c1 ts1 _ (hr1.below hb23) hle1).mono ?_
      rintro e w25 ⟨rfl, o25d1, h25⟩
      have apWd1 := fun g (hg : (Value.slice AW ((sgL s0 ts1)).length cW).ownBlock = some g) => (World.ownsRow.lt o23W g hg).2
      have apGd1 := fun g (hg : (Value.slice AG ((sgL s0 ts1)).length cG).ownBlock = some g) => (World.ownsRow.lt o23G g hg).2
      have sd1 : w.heap.size ≤ (w23).heap.size := hb23.size
      have hb27 : Below w.heap.size w w25 := bstep hb23 h25
      have o27W := own_keep o23W h25
      clear o23W
      have o27G := own_keep o23G h25
      clear o23G
      clear hb23
      go_wp2_with fail
      refine (c_implSinglesB s0 _ _ ts1 m hm (by assumption) hle0 (RdT.of_own o25d1) hle1).mono ?_
      rintro e w28 ⟨AH, cH, rfl, o28H, h28⟩
      have apWH := fun g (hg : (Value.slice AW ((sgL s0 ts1)).length cW).ownBlock = some g) => (World.ownsRow.lt o27W g hg).2
      have apGH := fun g (hg : (Value.slice AG ((sgL s0 ts1)).length cG).ownBlock = some g) => (World.ownsRow.lt o27G g hg).2
      have apd1H := fun g (hg : (Value.slice (some ⟨(w23).heap.size, 0, none⟩) (ts1).length ts1.length).ownBlock = some g) => (World.ownsRow.lt o25d1 g hg).2
      have sH : w.heap.size ≤ (w25).heap.size := hb27.size
      have hb30 : Below w.heap.size w w28 := bstep hb27 h28
      have o30W := own_keep o27W h28
      clear o27W
      have o30G := own_keep o27G h28
      clear o27G
      have o30d1 := own_keep o25d1 h28
      clear o25d1
      clear hb27
      clear o30d1 sd1
      go_wp2_with fail
      refine (c_eqTileS_same _ _ _ _ ((sgL s0 ts1)) _ (RdT.of_own o28H) (RdT.of_own o30W) (by have := hmod; omega)).mono ?_
      rintro e w31 ⟨rfl, h31⟩
      have hb32 : Below w.heap.size w w31 := bstep hb30 h31
      have o32W := own_keep o30W h31
      clear o30W
      have o32G := own_keep o30G h31
      clear o30G
      have o32H := own_keep o28H h31
      clear o28H
      clear hb30
      go_wp2_with fail
      refine (c_heldTileS _ _ ((sgL s0 ts1)).length (1) _ (rdmarksT o32G) (by omega) (by have := hmod; omega)).mono ?_
      rintro e w33 ⟨rfl, rfl⟩
      go_wp2
      go_ret
      exact ⟨rfl, hb32⟩

set_option maxRecDepth 100000 in
theorem lifted_FnExactSingleTiles (os : Os) (started : os.Started) (H : Type) (enc : TypeId × Value → H) :
    ReturnsInHanded {} Tryd.checked os 4 .any (fun w args => (Rows.fnExactSingleTilesSpec.pre enc Tryd.prog Tryd.f4 [] false w args ∧ laidMetH Tryd.prog Rows.fnExactSingleTilesRow.laid w) ∧ sizedMet enc Tryd.prog Tryd.f4 (OpenSpec.ofChange Rows.fnExactSingleTilesSpec) false w args) (Rows.fnExactSingleTilesSpec.post enc Tryd.prog Tryd.f4 false true false false) := by
  refine handed_and_shaped (C := Tryd.checked) (X := fun w _ => laidMetH Tryd.prog Rows.fnExactSingleTilesRow.laid w) (fun _ _ _ hh h => h.of_heap hh) Tryd.own_ started (by kernel_rfl) Tryd.func4
    (ChangeSpec.witness_shaped (enc := enc) (C := Tryd.checked) (os := os) (X := fun w _ => laidMetH Tryd.prog Rows.fnExactSingleTilesRow.laid w) false (World.laidAll Tryd.prog os Rows.fnExactSingleTilesRow.laid) #[.string ⟨#[]⟩, .slice none 0 0] 8 (World.laidAll_os _ _ _) (World.shaped_of_ZipB (by kernel_rfl) (by kernel_rfl)) (by kernel_rfl) (by kernel_rfl) (by kernel_rfl)
      (by rw [MakeChecks.laidMetH_plain _ _ _ (by kernel_rfl)]; exact laidMet_laidAll _ (by kernel_rfl) (by kernel_rfl))) ?_
  intro W base args ds gs before hval0 hW hL hsh
  obtain ⟨m, hm⟩ := Tryd.laysM146.s1_3 W hsh
  have hval : ∀ (j : Nat) t v, Tryd.f4.params[j]? = some t → args[j]? = some v → Value.okWide Tryd.prog W .any base t v := hval0
  have hW' := hW
  obtain ⟨p, q, hA0, hV, rfl, hfz, hnd⟩ := hW
  have hA : DataW.TrodAll enc Tryd.prog W 0 (fun _ => true) true Tryd.f4.params.toList args.toList ds p := hA0
  rw [Tryd.params4] at hA hval
  obtain ⟨v0, vs0, d0, ds0, p0, q0, hargs0, rfl, rfl, h0, r0⟩ := trodAll_cons hA
  obtain ⟨v1, vs1, d1, ds1, p1, q1, rfl, rfl, rfl, h1, r1⟩ := trodAll_cons r0
  obtain ⟨rfl, rfl, rfl⟩ := trodAll_nil r1
  obtain rfl : args = #[v0, v1] := by cases args; simp_all
  obtain ⟨rfl, rfl⟩ := trodVars_none hV
  obtain ⟨s0, rfl, hl0⟩ := open_str (hval 0 9 v0 rfl rfl) h0
  obtain ⟨A1, c1, ts1, rfl, hr1, hl1⟩ := open_tiles (hval 1 32 v1 rfl rfl) h1
  refine (w_FnExactSingleTiles s0 A1 c1 ts1 W hl0 hr1 hl1 m hm).mono fun e W' ⟨he, hg⟩ => ?_
  subst he
  exact ⟨_, rfl, law_post rfl rfl (of_decide_eq_true (by kernel_rfl)) hW' rfl hg⟩

theorem fnExactSingleTiles_holds : Rows.FnExactSingleTilesSaid :=
  OpenClaim.holds_of_wide 4 Tryd.f4 rfl rfl rfl rfl rfl rfl rfl ⟨rfl, rfl, rfl, rfl, rfl⟩ rfl rfl rfl rfl rfl (by kernel_rfl) Tryd.func4 (by kernel_rfl)
    (of_decide_eq_true (by kernel_rfl)) (by unfold Func.isWrapper; first | (rw [if_pos (by decide +kernel)]; kernel_rfl) | (rw [if_neg (by decide +kernel)]; exact ⟨rfl, rfl⟩))
    (fun os started H enc _ => lifted_FnExactSingleTiles os started H enc)
#print axioms fnExactSingleTiles_holds

end Go.Proofs.YtjbdflkbclhonabDoor

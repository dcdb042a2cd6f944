/- The law of RenameSpread: at every list of plays and list of numbers both functions answer alike, leave the lists alone, and each answer owns its memory. No condition. -/
import Derived.Test.YtnnkdnleencofabRenI
import Derived.Test.YtnnkdnleencofabLawP
import Derived.Test.YtnnkdnleencofabLawI
namespace Go.Proofs.Ytnnkdnleencofab
open Go.ChangeShapes Go.WideShapes Go.ChangeAt Go.RowKit Go.Joins
set_option linter.unusedVariables false

set_option maxRecDepth 100000 in
set_option maxHeartbeats 1000000 in
theorem w_FnExactRenameSpread (A0 : Option Addr) (c0 : Nat) (ts0 : List (Int × Int × Int)) (A1 : Option Addr) (c1 : Nat) (ts1 : List Int) (w : World) (hr0 : RdP w A0 ts0) (hl0 : ts0.length ≤ 9223372036854775807) (hr1 : RdI w A1 ts1) (hl1 : ts1.length ≤ 9223372036854775807) :
    Calls Try.prog 6 #[.slice A0 ts0.length c0, .slice A1 ts1.length c1] w fun e w' => e = .returned (.bool true) ∧ Below w.heap.size w w' := by
  have hmod := renSL_len ts0 ts1
  by_cases hbig1 : 1048576 < ts1.length
  · go_enter Try.func6, Try.ntmps6
    go_wp2_with fail
    go_ret
    exact ⟨rfl, Below.refl _ _⟩
  · have hle1 : ts1.length ≤ 1048576 := by omega
    have hs0 := c_szPlayS A0 c0 ts0.length (1048576) w hl0 (by omega) (by omega)
    by_cases hbig0 : 1048576 - (ts0.length : Int) < 0
    · rw [if_pos hbig0] at hs0
      go_enter Try.func6, Try.ntmps6
      go_wp2_with fail
      refine hs0.mono ?_
      rintro e w1 ⟨rfl, rfl⟩
      go_wp2
      go_ret
      exact ⟨rfl, Below.refl _ _⟩
    · rw [if_neg hbig0] at hs0
      have hle0 : ts0.length ≤ 1048576 := by omega
      go_enter Try.func6, Try.ntmps6
      go_wp2_with fail
      refine hs0.mono ?_
      rintro e w0 ⟨rfl, rfl⟩
      clear hs0
      go_wp2_with fail
      refine (c_toPlayS A0 c0 ts0 _ (hr0) hle0).mono ?_
      rintro e w1 ⟨rfl, o1a0, h1⟩
      have sa0 : w.heap.size ≤ (w).heap.size := Nat.le_refl _
      have hb3 : Below w.heap.size w w1 := h1
      go_wp2_with fail
      refine (c_toIntS A1 c1 ts1 _ (hr1.below hb3) hle1).mono ?_
      rintro e w4 ⟨rfl, o4a1, h4⟩
      have apa0a1 := fun g (hg : (Value.slice (some ⟨(w).heap.size, 0, none⟩) (ts0).length ts0.length).ownBlock = some g) => (World.ownsRow.lt o1a0 g hg).2
      have sa1 : w.heap.size ≤ (w1).heap.size := hb3.size
      have hb6 : Below w.heap.size w w4 := bstep hb3 h4
      have o6a0 := own_keep o1a0 h4
      clear o1a0
      clear hb3
      go_wp2_with fail
      refine (c_specRenS _ _ ts0 _ _ ts1 _ (RdP.of_own o6a0) hle0 (RdI.of_own o4a1) hle1 (Nat.le_refl _)).mono ?_
      rintro e w7 ⟨AW, cW, rfl, o7W, h7⟩
      have apa0W := fun g (hg : (Value.slice (some ⟨(w).heap.size, 0, none⟩) (ts0).length ts0.length).ownBlock = some g) => (World.ownsRow.lt o6a0 g hg).2
      have apa1W := fun g (hg : (Value.slice (some ⟨(w1).heap.size, 0, none⟩) (ts1).length ts1.length).ownBlock = some g) => (World.ownsRow.lt o4a1 g hg).2
      have sW : w.heap.size ≤ (w4).heap.size := hb6.size
      have hb9 : Below w.heap.size w w7 := bstep hb6 h7
      have o9a0 := own_keep o6a0 h7
      clear o6a0
      have o9a1 := own_keep o4a1 h7
      clear o4a1
      clear hb6
      clear o9a0 sa0
      clear o9a1 sa1
      go_wp2_with fail
      refine (c_toPlayS A0 c0 ts0 _ (hr0.below hb9) hle0).mono ?_
      rintro e w10 ⟨rfl, o10x0, h10⟩
      have apWx0 := fun g (hg : (Value.slice AW ((renSL ts0 ts1)).length cW).ownBlock = some g) => (World.ownsRow.lt o7W g hg).2
      have sx0 : w.heap.size ≤ (w7).heap.size := hb9.size
      have hb12 : Below w.heap.size w w10 := bstep hb9 h10
      have o12W := own_keep o7W h10
      clear o7W
      clear hb9
      go_wp2_with fail
      refine (c_toIntS A1 c1 ts1 _ (hr1.below hb12) hle1).mono ?_
      rintro e w13 ⟨rfl, o13x1, h13⟩
      have apWx1 := fun g (hg : (Value.slice AW ((renSL ts0 ts1)).length cW).ownBlock = some g) => (World.ownsRow.lt o12W g hg).2
      have apx0x1 := fun g (hg : (Value.slice (some ⟨(w7).heap.size, 0, none⟩) (ts0).length ts0.length).ownBlock = some g) => (World.ownsRow.lt o10x0 g hg).2
      have sx1 : w.heap.size ≤ (w10).heap.size := hb12.size
      have hb15 : Below w.heap.size w w13 := bstep hb12 h13
      have o15W := own_keep o12W h13
      clear o12W
      have o15x0 := own_keep o10x0 h13
      clear o10x0
      clear hb12
      go_wp2_with fail
      refine (c_implRenS _ _ ts0 _ _ ts1 _ (RdP.of_own o15x0) hle0 (RdI.of_own o13x1) hle1).mono ?_
      rintro e w16 ⟨AG, cG, rfl, o16G, h16⟩
      have apWG := fun g (hg : (Value.slice AW ((renSL ts0 ts1)).length cW).ownBlock = some g) => (World.ownsRow.lt o15W g hg).2
      have apx0G := fun g (hg : (Value.slice (some ⟨(w7).heap.size, 0, none⟩) (ts0).length ts0.length).ownBlock = some g) => (World.ownsRow.lt o15x0 g hg).2
      have apx1G := fun g (hg : (Value.slice (some ⟨(w10).heap.size, 0, none⟩) (ts1).length ts1.length).ownBlock = some g) => (World.ownsRow.lt o13x1 g hg).2
      have sG : w.heap.size ≤ (w13).heap.size := hb15.size
      have hb18 : Below w.heap.size w w16 := bstep hb15 h16
      have o18W := own_keep o15W h16
      clear o15W
      have o18x0 := own_keep o15x0 h16
      clear o15x0
      have o18x1 := own_keep o13x1 h16
      clear o13x1
      clear hb15
      go_wp2_with fail
      refine (c_eqPlayS_same _ _ _ _ ((renSL ts0 ts1)) _ (RdP.of_own o16G) (RdP.of_own o18W) (by have := hmod; omega)).mono ?_
      rintro e w19 ⟨rfl, h19⟩
      have hb20 : Below w.heap.size w w19 := bstep hb18 h19
      have o20W := own_keep o18W h19
      clear o18W
      have o20x0 := own_keep o18x0 h19
      clear o18x0
      have o20x1 := own_keep o18x1 h19
      clear o18x1
      have o20G := own_keep o16G h19
      clear o16G
      clear hb18
      go_wp2_with fail
      refine (c_toPlayS A0 c0 ts0 _ (hr0.below hb20) hle0).mono ?_
      rintro e w21 ⟨rfl, o21b0, h21⟩
      have apWb0 := fun g (hg : (Value.slice AW ((renSL ts0 ts1)).length cW).ownBlock = some g) => (World.ownsRow.lt o20W g hg).2
      have apx0b0 := fun g (hg : (Value.slice (some ⟨(w7).heap.size, 0, none⟩) (ts0).length ts0.length).ownBlock = some g) => (World.ownsRow.lt o20x0 g hg).2
      have apx1b0 := fun g (hg : (Value.slice (some ⟨(w10).heap.size, 0, none⟩) (ts1).length ts1.length).ownBlock = some g) => (World.ownsRow.lt o20x1 g hg).2
      have apGb0 := fun g (hg : (Value.slice AG ((renSL ts0 ts1)).length cG).ownBlock = some g) => (World.ownsRow.lt o20G g hg).2
      have sb0 : w.heap.size ≤ (w19).heap.size := hb20.size
      have hb23 : Below w.heap.size w w21 := bstep hb20 h21
      have o23W := own_keep o20W h21
      clear o20W
      have o23x0 := own_keep o20x0 h21
      clear o20x0
      have o23x1 := own_keep o20x1 h21
      clear o20x1
      have o23G := own_keep o20G h21
      clear o20G
      clear hb20
      go_wp2_with fail
      refine (c_eqPlayS_same _ _ _ _ (ts0) _ (RdP.of_own o23x0) (RdP.of_own o21b0) (by omega)).mono ?_
      rintro e w24 ⟨rfl, h24⟩
      have hb25 : Below w.heap.size w w24 := bstep hb23 h24
      have o25W := own_keep o23W h24
      clear o23W
      have o25x0 := own_keep o23x0 h24
      clear o23x0
      have o25x1 := own_keep o23x1 h24
      clear o23x1
      have o25G := own_keep o23G h24
      clear o23G
      have o25b0 := own_keep o21b0 h24
      clear o21b0
      clear hb23
      clear o25b0 sb0
      go_wp2_with fail
      refine (c_toIntS A1 c1 ts1 _ (hr1.below hb25) hle1).mono ?_
      rintro e w26 ⟨rfl, o26b1, h26⟩
      have apWb1 := fun g (hg : (Value.slice AW ((renSL ts0 ts1)).length cW).ownBlock = some g) => (World.ownsRow.lt o25W g hg).2
      have apx0b1 := fun g (hg : (Value.slice (some ⟨(w7).heap.size, 0, none⟩) (ts0).length ts0.length).ownBlock = some g) => (World.ownsRow.lt o25x0 g hg).2
      have apx1b1 := fun g (hg : (Value.slice (some ⟨(w10).heap.size, 0, none⟩) (ts1).length ts1.length).ownBlock = some g) => (World.ownsRow.lt o25x1 g hg).2
      have apGb1 := fun g (hg : (Value.slice AG ((renSL ts0 ts1)).length cG).ownBlock = some g) => (World.ownsRow.lt o25G g hg).2
      have sb1 : w.heap.size ≤ (w24).heap.size := hb25.size
      have hb28 : Below w.heap.size w w26 := bstep hb25 h26
      have o28W := own_keep o25W h26
      clear o25W
      have o28x0 := own_keep o25x0 h26
      clear o25x0
      have o28x1 := own_keep o25x1 h26
      clear o25x1
      have o28G := own_keep o25G h26
      clear o25G
      clear hb25
      go_wp2_with fail
      refine (c_eqIntS_same _ _ _ _ (ts1) _ (RdI.of_own o28x1) (RdI.of_own o26b1) (by omega)).mono ?_
      rintro e w29 ⟨rfl, h29⟩
      have hb30 : Below w.heap.size w w29 := bstep hb28 h29
      have o30W := own_keep o28W h29
      clear o28W
      have o30x0 := own_keep o28x0 h29
      clear o28x0
      have o30x1 := own_keep o28x1 h29
      clear o28x1
      have o30G := own_keep o28G h29
      clear o28G
      have o30b1 := own_keep o26b1 h29
      clear o26b1
      clear hb28
      clear o30b1 sb1
      go_wp2_with fail
      refine (c_markPlayS _ _ _ (ts0) (1) _ o30x0 (by omega) (by omega)).mono ?_
      rintro e w31 ⟨rfl, o31x0, hg31⟩
      have hb31 := hb30.trans (below_of_grown hg31 hb30.size (fun g hg => Nat.le_trans sx0 (World.ownsRow.lt o30x0 g hg).1))
      have o31W := World.ownsRow.kept o30W hg31 (own_apart2 apWx0 o30x0)
      have o31x1 := World.ownsRow.kept o30x1 hg31 (own_apart1 apx0x1 o30x1)
      have o31G := World.ownsRow.kept o30G hg31 (own_apart1 apx0G o30G)
      clear o30W
      clear o30x1
      clear o30G
      clear o30x0 hb30 hg31
      go_wp2_with fail
      refine (c_markIntS _ _ _ (ts1) (1 + 3 * ((ts0).length : Int)) _ o31x1 (by omega) (by omega)).mono ?_
      rintro e w32 ⟨rfl, o32x1, hg32⟩
      have hb32 := hb31.trans (below_of_grown hg32 hb31.size (fun g hg => Nat.le_trans sx1 (World.ownsRow.lt o31x1 g hg).1))
      have o32W := World.ownsRow.kept o31W hg32 (own_apart2 apWx1 o31x1)
      have o32x0 := World.ownsRow.kept o31x0 hg32 (own_apart2 apx0x1 o31x1)
      have o32G := World.ownsRow.kept o31G hg32 (own_apart1 apx1G o31G)
      clear o31W
      clear o31x0
      clear o31G
      clear o31x1 hb31 hg32
      go_wp2_with fail
      refine (c_eqPlayS_same _ _ _ _ ((renSL ts0 ts1)) _ (RdP.of_own o32G) (RdP.of_own o32W) (by have := hmod; omega)).mono ?_
      rintro e w33 ⟨rfl, h33⟩
      have hb34 : Below w.heap.size w w33 := bstep hb32 h33
      have o34W := own_keep o32W h33
      clear o32W
      have o34x0 := own_keep o32x0 h33
      clear o32x0
      have o34x1 := own_keep o32x1 h33
      clear o32x1
      have o34G := own_keep o32G h33
      clear o32G
      clear hb32
      clear o34x0 sx0
      clear o34x1 sx1
      go_wp2_with fail
      refine (c_markPlayS _ _ _ ((renSL ts0 ts1)) (1) _ o34G (by omega) (by have := hmod; omega)).mono ?_
      rintro e w35 ⟨rfl, o35G, hg35⟩
      have hb35 := hb34.trans (below_of_grown hg35 hb34.size (fun g hg => Nat.le_trans sG (World.ownsRow.lt o34G g hg).1))
      have o35W := World.ownsRow.kept o34W hg35 (own_apart2 apWG o34G)
      clear o34W
      clear o34G hb34 hg35
      go_wp2_with fail
      refine (c_heldPlayS _ _ ((renSL ts0 ts1)).length (1) _ (rdmarksP o35G) (by omega) (by have := hmod; omega)).mono ?_
      rintro e w36 ⟨rfl, rfl⟩
      go_wp2_with fail
      refine (c_toPlayS A0 c0 ts0 _ (hr0.below hb35) hle0).mono ?_
      rintro e w37 ⟨rfl, o37d0, h37⟩
      have apWd0 := fun g (hg : (Value.slice AW ((renSL ts0 ts1)).length cW).ownBlock = some g) => (World.ownsRow.lt o35W g hg).2
      have apGd0 := fun g (hg : (Value.slice AG ((renSL ts0 ts1)).length cG).ownBlock = some g) => (World.ownsRow.lt o35G g hg).2
      have sd0 : w.heap.size ≤ (w35).heap.size := hb35.size
      have hb39 : Below w.heap.size w w37 := bstep hb35 h37
      have o39W := own_keep o35W h37
      clear o35W
      have o39G := own_keep o35G h37
      clear o35G
      clear hb35
      go_wp2_with fail
      refine (c_toIntS A1 c1 ts1 _ (hr1.below hb39) hle1).mono ?_
      rintro e w40 ⟨rfl, o40d1, h40⟩
      have apWd1 := fun g (hg : (Value.slice AW ((renSL ts0 ts1)).length cW).ownBlock = some g) => (World.ownsRow.lt o39W g hg).2
      have apGd1 := fun g (hg : (Value.slice AG ((renSL ts0 ts1)).length cG).ownBlock = some g) => (World.ownsRow.lt o39G g hg).2
      have apd0d1 := fun g (hg : (Value.slice (some ⟨(w35).heap.size, 0, none⟩) (ts0).length ts0.length).ownBlock = some g) => (World.ownsRow.lt o37d0 g hg).2
      have sd1 : w.heap.size ≤ (w37).heap.size := hb39.size
      have hb42 : Below w.heap.size w w40 := bstep hb39 h40
      have o42W := own_keep o39W h40
      clear o39W
      have o42G := own_keep o39G h40
      clear o39G
      have o42d0 := own_keep o37d0 h40
      clear o37d0
      clear hb39
      go_wp2_with fail
      refine (c_implRenS _ _ ts0 _ _ ts1 _ (RdP.of_own o42d0) hle0 (RdI.of_own o40d1) hle1).mono ?_
      rintro e w43 ⟨AH, cH, rfl, o43H, h43⟩
      have apWH := fun g (hg : (Value.slice AW ((renSL ts0 ts1)).length cW).ownBlock = some g) => (World.ownsRow.lt o42W g hg).2
      have apGH := fun g (hg : (Value.slice AG ((renSL ts0 ts1)).length cG).ownBlock = some g) => (World.ownsRow.lt o42G g hg).2
      have apd0H := fun g (hg : (Value.slice (some ⟨(w35).heap.size, 0, none⟩) (ts0).length ts0.length).ownBlock = some g) => (World.ownsRow.lt o42d0 g hg).2
      have apd1H := fun g (hg : (Value.slice (some ⟨(w37).heap.size, 0, none⟩) (ts1).length ts1.length).ownBlock = some g) => (World.ownsRow.lt o40d1 g hg).2
      have sH : w.heap.size ≤ (w40).heap.size := hb42.size
      have hb45 : Below w.heap.size w w43 := bstep hb42 h43
      have o45W := own_keep o42W h43
      clear o42W
      have o45G := own_keep o42G h43
      clear o42G
      have o45d0 := own_keep o42d0 h43
      clear o42d0
      have o45d1 := own_keep o40d1 h43
      clear o40d1
      clear hb42
      clear o45d0 sd0
      clear o45d1 sd1
      go_wp2_with fail
      refine (c_eqPlayS_same _ _ _ _ ((renSL ts0 ts1)) _ (RdP.of_own o43H) (RdP.of_own o45W) (by have := hmod; omega)).mono ?_
      rintro e w46 ⟨rfl, h46⟩
      have hb47 : Below w.heap.size w w46 := bstep hb45 h46
      have o47W := own_keep o45W h46
      clear o45W
      have o47G := own_keep o45G h46
      clear o45G
      have o47H := own_keep o43H h46
      clear o43H
      clear hb45
      go_wp2_with fail
      refine (c_heldPlayS _ _ ((renSL ts0 ts1)).length (1) _ (rdmarksP o47G) (by omega) (by have := hmod; omega)).mono ?_
      rintro e w48 ⟨rfl, rfl⟩
      go_wp2
      go_ret
      exact ⟨rfl, hb47⟩

set_option maxRecDepth 100000 in
theorem lifted_FnExactRenameSpread (os : Os) (started : os.Started) (H : Type) (enc : TypeId × Value → H) :
    ReturnsInHanded {} Try.checked os 6 .any (Rows.fnExactRenameSpreadSpec.pre6 enc Try.prog Try.f6 Rows.fnExactRenameSpreadRow.domain false) (Rows.fnExactRenameSpreadSpec.post enc Try.prog Try.f6 false true false false) := by
  refine returnsInHanded_of_change (C := Try.checked) Try.own_ started (by kernel_rfl) Try.func6
    (ChangeSpec.witness6 (enc := enc) (C := Try.checked) false ⟨#[], #[.slice none 0 0, .slice none 0 0], []⟩ 8 (by kernel_rfl) (by kernel_rfl) (by kernel_rfl) (by kernel_rfl)) ?_
  intro W base args ds gs before hval0 hW hcnd _
  have hval : ∀ (j : Nat) t v, Try.f6.params[j]? = some t → args[j]? = some v → Value.okWide Try.prog W .any base t v := hval0
  have hW' := hW
  obtain ⟨p, q, hA0, hV, rfl, hfz, hnd⟩ := hW
  have hA : DataW.TrodAll enc Try.prog W 0 (fun _ => true) true Try.f6.params.toList args.toList ds p := hA0
  rw [Try.params6] at hA hval
  obtain ⟨v0, vs0, d0, ds0, p0, q0, hargs0, rfl, rfl, h0, r0⟩ := trodAll_cons hA
  obtain ⟨v1, vs1, d1, ds1, p1, q1, rfl, rfl, rfl, h1, r1⟩ := trodAll_cons r0
  obtain ⟨rfl, rfl, rfl⟩ := trodAll_nil r1
  obtain rfl : args = #[v0, v1] := by cases args; simp_all
  obtain ⟨rfl, rfl⟩ := trodVars_none hV
  obtain ⟨A0, c0, ts0, rfl, hr0, hl0⟩ := open_plays (hval 0 25 v0 rfl rfl) h0
  obtain ⟨A1, c1, ts1, rfl, hr1, hl1⟩ := open_nums (hval 1 47 v1 rfl rfl) h1
  refine (w_FnExactRenameSpread A0 c0 ts0 A1 c1 ts1 W hr0 hl0 hr1 hl1).mono fun e W' ⟨he, hg⟩ => ?_
  subst he
  exact ⟨_, rfl, law_post rfl rfl (of_decide_eq_true (by kernel_rfl)) hW' rfl hg⟩

theorem fnExactRenameSpread_holds : Rows.FnExactRenameSpreadSaid :=
  OpenClaim.holds_of_wide 6 Try.f6 rfl rfl rfl rfl rfl rfl rfl ⟨rfl, rfl, rfl, rfl, rfl⟩ rfl rfl rfl rfl rfl (by kernel_rfl) Try.func6 (by kernel_rfl)
    (of_decide_eq_true (by kernel_rfl)) (by unfold Func.isWrapper; first | (rw [if_pos (by decide +kernel)]; kernel_rfl) | (rw [if_neg (by decide +kernel)]; exact ⟨rfl, rfl⟩))
    (fun os started H enc _ => lifted_FnExactRenameSpread os started H enc)
#print axioms fnExactRenameSpread_holds

end Go.Proofs.Ytnnkdnleencofab

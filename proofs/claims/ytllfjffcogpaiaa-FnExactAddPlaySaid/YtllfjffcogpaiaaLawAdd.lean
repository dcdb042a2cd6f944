/- The law of AddPlay: at every list of plays and every play both functions answer alike, leave the list alone, and each answer owns its memory. No condition. -/
import Derived.Test.YtllfjffcogpaiaaAddS
import Derived.Test.YtllfjffcogpaiaaLawP
import Derived.Test.YtllfjffcogpaiaaRegS
namespace Go.Proofs.Ytllfjffcogpaiaa
open Go.ChangeShapes Go.WideShapes Go.ChangeAt Go.RowKit Go.Joins
set_option linter.unusedVariables false

set_option maxRecDepth 100000 in
set_option maxHeartbeats 1000000 in
theorem w_FnExactAddPlay (A0 : Option Addr) (c0 : Nat) (ts0 : List (Int × Int × Int)) (x1 y1 z1 : Int) (w : World) (hr0 : RdP w A0 ts0) (hl0 : ts0.length ≤ 9223372036854775807) :
    Calls Try.prog 13 #[.slice A0 ts0.length c0, .agg #[.int .i64 x1, .int .i64 y1, .int .i64 z1]] w fun e w' => e = .returned (.bool true) ∧ Below w.heap.size w w' := by
  have hmod := addHL_len ts0 (x1, y1, z1)
  have hs0 := c_szPlayS A0 c0 ts0.length (1048576) (w.alloc (.cells #[.int .i64 x1, .int .i64 y1, .int .i64 z1] 58)) hl0 (by omega) (by omega)
  by_cases hbig0 : 1048576 - (ts0.length : Int) < 0
  · rw [if_pos hbig0] at hs0
    go_enter Try.func13, Try.ntmps13
    go_wp2_with fail
    refine hs0.mono ?_
    rintro e w1 ⟨rfl, rfl⟩
    go_wp2
    go_ret
    exact ⟨rfl, by go_grown⟩
  · rw [if_neg hbig0] at hs0
    have hle0 : ts0.length ≤ 1048576 := by omega
    go_enter Try.func13, Try.ntmps13
    go_wp2_with fail
    refine hs0.mono ?_
    rintro e w0 ⟨rfl, rfl⟩
    clear hs0
    have hb0 : Below w.heap.size w (w.alloc (.cells #[.int .i64 x1, .int .i64 y1, .int .i64 z1] 58)) := by go_grown
    have ta0 : (w.alloc (.cells #[.int .i64 x1, .int .i64 y1, .int .i64 z1] 58)).cell? ⟨w.heap.size, 0, none⟩ = some (.int .i64 x1) := by simp
    have tb0 : (w.alloc (.cells #[.int .i64 x1, .int .i64 y1, .int .i64 z1] 58)).cell? ⟨w.heap.size, 1, none⟩ = some (.int .i64 y1) := by simp
    have tc0 : (w.alloc (.cells #[.int .i64 x1, .int .i64 y1, .int .i64 z1] 58)).cell? ⟨w.heap.size, 2, none⟩ = some (.int .i64 z1) := by simp
    go_wp2_with fail
    obtain ⟨w00, hw00⟩ : ∃ w00, w00 = (w.alloc (.cells #[.int .i64 x1, .int .i64 y1, .int .i64 z1] 58)) := ⟨_, rfl⟩
    rw [← hw00] at hb0 ta0 tb0 tc0 ⊢
    clear hw00
    have hb1 : Below w.heap.size w (w00).drew := hb0.drew
    clear hb0
    have ta1 := g1d _ ta0
    have tb1 := g1d _ tb0
    have tc1 := g1d _ tc0
    go_region_held3 (fun w' => w'.cell? ⟨w.heap.size, 0, none⟩ = some (.int .i64 x1) ∧ w'.cell? ⟨w.heap.size, 1, none⟩ = some (.int .i64 y1) ∧ w'.cell? ⟨w.heap.size, 2, none⟩ = some (.int .i64 z1)) (first | exact ⟨ta9, tb9, tc9⟩ | exact ⟨ta6, tb6, tc6⟩ | exact ⟨ta4, tb4, tc4⟩ | exact ⟨ta0, tb0, tc0⟩ | go_keep) (first | (go_at_call 17; refine (c_toPlayS A0 c0 ts0 _ (hr0.below hb1) hle0).mono ?_; rintro e w2 ⟨rfl, o2a0, h2⟩; have sa0 : w.heap.size ≤ ((w00).drew).heap.size := hb1.size; have sta0 := block_lt ta1; have hb4 : Below w.heap.size w w2 := bstep hb1 h2; clear hb1; have ta4 := keepc h2 ta1; have tb4 := keepc h2 tb1; have tc4 := keepc h2 tc1; clear ta1 tb1 tc1) | (go_at_call 52; refine (c_toPlay x1 y1 z1 _).mono ?_; rintro e w5 ⟨rfl, h5⟩; have hb6 : Below w.heap.size w w5 := bstep hb4 h5; have o6a0 := own_keep o2a0 h5; clear o2a0; clear hb4; have ta6 := keepc h5 ta4; have tb6 := keepc h5 tb4; have tc6 := keepc h5 tc4; clear ta4 tb4 tc4) | (go_at_call 51; refine (c_specAdd _ _ ts0 x1 y1 z1 _ (RdP.of_own o6a0) hle0).mono ?_; rintro e w7 ⟨AW, cW, rfl, o7W, h7⟩; have apa0W := fun g (hg : (Value.slice (some ⟨((w00).drew).heap.size, 0, none⟩) (ts0).length ts0.length).ownBlock = some g) => (World.ownsRow.lt o6a0 g hg).2; have sW : w.heap.size ≤ (w5).heap.size := hb6.size; have stW := block_lt ta6; have hb9 : Below w.heap.size w w7 := bstep hb6 h7; have o9a0 := own_keep o6a0 h7; clear o6a0; clear hb6; have ta9 := keepc h7 ta6; have tb9 := keepc h7 tb6; have tc9 := keepc h7 tc6; clear ta6 tb6 tc6))
    clear o9a0 sa0
    go_wp2_with fail
    refine (c_toPlayS A0 c0 ts0 _ (hr0.below hb9) hle0).mono ?_
    rintro e w10 ⟨rfl, o10x0, h10⟩
    have apWx0 := fun g (hg : (Value.slice AW ((addHL ts0 (x1, y1, z1))).length cW).ownBlock = some g) => (World.ownsRow.lt o7W g hg).2
    have sx0 : w.heap.size ≤ (w7).heap.size := hb9.size
    have stx0 := block_lt ta9
    have hb12 : Below w.heap.size w w10 := bstep hb9 h10
    have o12W := own_keep o7W h10
    clear o7W
    clear hb9
    have ta12 := keepc h10 ta9
    have tb12 := keepc h10 tb9
    have tc12 := keepc h10 tc9
    clear ta9 tb9 tc9
    go_wp2_with fail
    refine (c_toPlay x1 y1 z1 _).mono ?_
    rintro e w13 ⟨rfl, h13⟩
    have hb14 : Below w.heap.size w w13 := bstep hb12 h13
    have o14W := own_keep o12W h13
    clear o12W
    have o14x0 := own_keep o10x0 h13
    clear o10x0
    clear hb12
    have ta14 := keepc h13 ta12
    have tb14 := keepc h13 tb12
    have tc14 := keepc h13 tc12
    clear ta12 tb12 tc12
    go_wp2_with fail
    refine (c_implAdd _ _ ts0 x1 y1 z1 _ (RdP.of_own o14x0) hle0).mono ?_
    rintro e w15 ⟨AG, cG, rfl, o15G, h15⟩
    have apWG := fun g (hg : (Value.slice AW ((addHL ts0 (x1, y1, z1))).length cW).ownBlock = some g) => (World.ownsRow.lt o14W g hg).2
    have apx0G := fun g (hg : (Value.slice (some ⟨(w7).heap.size, 0, none⟩) (ts0).length ts0.length).ownBlock = some g) => (World.ownsRow.lt o14x0 g hg).2
    have sG : w.heap.size ≤ (w13).heap.size := hb14.size
    have stG := block_lt ta14
    have hb17 : Below w.heap.size w w15 := bstep hb14 h15
    have o17W := own_keep o14W h15
    clear o14W
    have o17x0 := own_keep o14x0 h15
    clear o14x0
    clear hb14
    have ta17 := keepc h15 ta14
    have tb17 := keepc h15 tb14
    have tc17 := keepc h15 tc14
    clear ta14 tb14 tc14
    go_wp2_with fail
    refine (c_eqPlayS_same _ _ _ _ ((addHL ts0 (x1, y1, z1))) _ (RdP.of_own o15G) (RdP.of_own o17W) (by have := hmod; omega)).mono ?_
    rintro e w18 ⟨rfl, h18⟩
    have hb19 : Below w.heap.size w w18 := bstep hb17 h18
    have o19W := own_keep o17W h18
    clear o17W
    have o19x0 := own_keep o17x0 h18
    clear o17x0
    have o19G := own_keep o15G h18
    clear o15G
    clear hb17
    have ta19 := keepc h18 ta17
    have tb19 := keepc h18 tb17
    have tc19 := keepc h18 tc17
    clear ta17 tb17 tc17
    go_wp2_with fail
    refine (c_toPlayS A0 c0 ts0 _ (hr0.below hb19) hle0).mono ?_
    rintro e w20 ⟨rfl, o20b0, h20⟩
    have apWb0 := fun g (hg : (Value.slice AW ((addHL ts0 (x1, y1, z1))).length cW).ownBlock = some g) => (World.ownsRow.lt o19W g hg).2
    have apx0b0 := fun g (hg : (Value.slice (some ⟨(w7).heap.size, 0, none⟩) (ts0).length ts0.length).ownBlock = some g) => (World.ownsRow.lt o19x0 g hg).2
    have apGb0 := fun g (hg : (Value.slice AG ((addHL ts0 (x1, y1, z1))).length cG).ownBlock = some g) => (World.ownsRow.lt o19G g hg).2
    have sb0 : w.heap.size ≤ (w18).heap.size := hb19.size
    have stb0 := block_lt ta19
    have hb22 : Below w.heap.size w w20 := bstep hb19 h20
    have o22W := own_keep o19W h20
    clear o19W
    have o22x0 := own_keep o19x0 h20
    clear o19x0
    have o22G := own_keep o19G h20
    clear o19G
    clear hb19
    have ta22 := keepc h20 ta19
    have tb22 := keepc h20 tb19
    have tc22 := keepc h20 tc19
    clear ta19 tb19 tc19
    go_wp2_with fail
    refine (c_eqPlayS_same _ _ _ _ (ts0) _ (RdP.of_own o22x0) (RdP.of_own o20b0) (by omega)).mono ?_
    rintro e w23 ⟨rfl, h23⟩
    have hb24 : Below w.heap.size w w23 := bstep hb22 h23
    have o24W := own_keep o22W h23
    clear o22W
    have o24x0 := own_keep o22x0 h23
    clear o22x0
    have o24G := own_keep o22G h23
    clear o22G
    have o24b0 := own_keep o20b0 h23
    clear o20b0
    clear hb22
    have ta24 := keepc h23 ta22
    have tb24 := keepc h23 tb22
    have tc24 := keepc h23 tc22
    clear ta22 tb22 tc22
    clear o24b0 sb0
    go_wp2_with fail
    refine (c_markPlayS _ _ _ (ts0) (1) _ o24x0 (by omega) (by omega)).mono ?_
    rintro e w25 ⟨rfl, o25x0, hg25⟩
    have hb25 := hb24.trans (below_of_grown hg25 hb24.size (fun g hg => Nat.le_trans sx0 (World.ownsRow.lt o24x0 g hg).1))
    have o25W := World.ownsRow.kept o24W hg25 (own_apart2 apWx0 o24x0)
    have o25G := World.ownsRow.kept o24G hg25 (own_apart1 apx0G o24G)
    clear o24W
    clear o24G
    have ta25 := World.grownBy.cell hg25 ta24 (fun e => Nat.lt_irrefl _ (Nat.lt_of_lt_of_le stx0 (World.ownsRow.lt o24x0 _ e.symm).1))
    have tb25 := World.grownBy.cell hg25 tb24 (fun e => Nat.lt_irrefl _ (Nat.lt_of_lt_of_le stx0 (World.ownsRow.lt o24x0 _ e.symm).1))
    have tc25 := World.grownBy.cell hg25 tc24 (fun e => Nat.lt_irrefl _ (Nat.lt_of_lt_of_le stx0 (World.ownsRow.lt o24x0 _ e.symm).1))
    clear ta24 tb24 tc24
    clear o24x0 hb24 hg25
    go_wp2_with fail
    refine (c_eqPlayS_same _ _ _ _ ((addHL ts0 (x1, y1, z1))) _ (RdP.of_own o25G) (RdP.of_own o25W) (by have := hmod; omega)).mono ?_
    rintro e w26 ⟨rfl, h26⟩
    have hb27 : Below w.heap.size w w26 := bstep hb25 h26
    have o27W := own_keep o25W h26
    clear o25W
    have o27x0 := own_keep o25x0 h26
    clear o25x0
    have o27G := own_keep o25G h26
    clear o25G
    clear hb25
    have ta27 := keepc h26 ta25
    have tb27 := keepc h26 tb25
    have tc27 := keepc h26 tc25
    clear ta25 tb25 tc25
    clear o27x0 sx0
    go_wp2_with fail
    refine (c_markPlayS _ _ _ ((addHL ts0 (x1, y1, z1))) (1) _ o27G (by omega) (by have := hmod; omega)).mono ?_
    rintro e w28 ⟨rfl, o28G, hg28⟩
    have hb28 := hb27.trans (below_of_grown hg28 hb27.size (fun g hg => Nat.le_trans sG (World.ownsRow.lt o27G g hg).1))
    have o28W := World.ownsRow.kept o27W hg28 (own_apart2 apWG o27G)
    clear o27W
    have ta28 := World.grownBy.cell hg28 ta27 (fun e => Nat.lt_irrefl _ (Nat.lt_of_lt_of_le stG (World.ownsRow.lt o27G _ e.symm).1))
    have tb28 := World.grownBy.cell hg28 tb27 (fun e => Nat.lt_irrefl _ (Nat.lt_of_lt_of_le stG (World.ownsRow.lt o27G _ e.symm).1))
    have tc28 := World.grownBy.cell hg28 tc27 (fun e => Nat.lt_irrefl _ (Nat.lt_of_lt_of_le stG (World.ownsRow.lt o27G _ e.symm).1))
    clear ta27 tb27 tc27
    clear o27G hb27 hg28
    go_wp2_with fail
    refine (c_heldPlayS _ _ ((addHL ts0 (x1, y1, z1))).length (1) _ (rdmarksP o28G) (by omega) (by have := hmod; omega)).mono ?_
    rintro e w29 ⟨rfl, rfl⟩
    have hb30 : Below w.heap.size w (w28).drew := hb28.drew
    clear hb28
    have o30W := own_drew o28W
    clear o28W
    have o30G := own_drew o28G
    clear o28G
    have ta30 := g1d _ ta28
    have tb30 := g1d _ tb28
    have tc30 := g1d _ tc28
    go_wp2_with fail
    go_region_held3 (fun w' => w'.cell? ⟨w.heap.size, 0, none⟩ = some (.int .i64 x1) ∧ w'.cell? ⟨w.heap.size, 1, none⟩ = some (.int .i64 y1) ∧ w'.cell? ⟨w.heap.size, 2, none⟩ = some (.int .i64 z1)) (first | exact ⟨ta38, tb38, tc38⟩ | exact ⟨ta35, tb35, tc35⟩ | exact ⟨ta33, tb33, tc33⟩ | exact ⟨ta28, tb28, tc28⟩ | go_keep) (first | (go_at_call 17; refine (c_toPlayS A0 c0 ts0 _ (hr0.below hb30) hle0).mono ?_; rintro e w31 ⟨rfl, o31d0, h31⟩; have apWd0 := fun g (hg : (Value.slice AW ((addHL ts0 (x1, y1, z1))).length cW).ownBlock = some g) => (World.ownsRow.lt o30W g hg).2; have apGd0 := fun g (hg : (Value.slice AG ((addHL ts0 (x1, y1, z1))).length cG).ownBlock = some g) => (World.ownsRow.lt o30G g hg).2; have sd0 : w.heap.size ≤ ((w28).drew).heap.size := hb30.size; have std0 := block_lt ta30; have hb33 : Below w.heap.size w w31 := bstep hb30 h31; have o33W := own_keep o30W h31; clear o30W; have o33G := own_keep o30G h31; clear o30G; clear hb30; have ta33 := keepc h31 ta30; have tb33 := keepc h31 tb30; have tc33 := keepc h31 tc30; clear ta30 tb30 tc30) | (go_at_call 52; refine (c_toPlay x1 y1 z1 _).mono ?_; rintro e w34 ⟨rfl, h34⟩; have hb35 : Below w.heap.size w w34 := bstep hb33 h34; have o35W := own_keep o33W h34; clear o33W; have o35G := own_keep o33G h34; clear o33G; have o35d0 := own_keep o31d0 h34; clear o31d0; clear hb33; have ta35 := keepc h34 ta33; have tb35 := keepc h34 tb33; have tc35 := keepc h34 tc33; clear ta33 tb33 tc33) | (go_at_call 53; refine (c_implAdd _ _ ts0 x1 y1 z1 _ (RdP.of_own o35d0) hle0).mono ?_; rintro e w36 ⟨AH, cH, rfl, o36H, h36⟩; have apWH := fun g (hg : (Value.slice AW ((addHL ts0 (x1, y1, z1))).length cW).ownBlock = some g) => (World.ownsRow.lt o35W g hg).2; have apGH := fun g (hg : (Value.slice AG ((addHL ts0 (x1, y1, z1))).length cG).ownBlock = some g) => (World.ownsRow.lt o35G g hg).2; have apd0H := fun g (hg : (Value.slice (some ⟨((w28).drew).heap.size, 0, none⟩) (ts0).length ts0.length).ownBlock = some g) => (World.ownsRow.lt o35d0 g hg).2; have sH : w.heap.size ≤ (w34).heap.size := hb35.size; have stH := block_lt ta35; have hb38 : Below w.heap.size w w36 := bstep hb35 h36; have o38W := own_keep o35W h36; clear o35W; have o38G := own_keep o35G h36; clear o35G; have o38d0 := own_keep o35d0 h36; clear o35d0; clear hb35; have ta38 := keepc h36 ta35; have tb38 := keepc h36 tb35; have tc38 := keepc h36 tc35; clear ta35 tb35 tc35))
    clear o38d0 sd0
    go_wp2_with fail
    refine (c_eqPlayS_same _ _ _ _ ((addHL ts0 (x1, y1, z1))) _ (RdP.of_own o36H) (RdP.of_own o38W) (by have := hmod; omega)).mono ?_
    rintro e w39 ⟨rfl, h39⟩
    have hb40 : Below w.heap.size w w39 := bstep hb38 h39
    have o40W := own_keep o38W h39
    clear o38W
    have o40G := own_keep o38G h39
    clear o38G
    have o40H := own_keep o36H h39
    clear o36H
    clear hb38
    have ta40 := keepc h39 ta38
    have tb40 := keepc h39 tb38
    have tc40 := keepc h39 tc38
    clear ta38 tb38 tc38
    go_wp2_with fail
    refine (c_heldPlayS _ _ ((addHL ts0 (x1, y1, z1))).length (1) _ (rdmarksP o40G) (by omega) (by have := hmod; omega)).mono ?_
    rintro e w41 ⟨rfl, rfl⟩
    go_wp2
    go_ret
    exact ⟨rfl, hb40⟩

set_option maxRecDepth 100000 in
theorem lifted_FnExactAddPlay (os : Os) (started : os.Started) (H : Type) (enc : TypeId × Value → H) :
    ReturnsInHanded {} Try.checked os 13 .any (Rows.fnExactAddPlaySpec.pre6 enc Try.prog Try.f13 Rows.fnExactAddPlayRow.domain false) (Rows.fnExactAddPlaySpec.post enc Try.prog Try.f13 false true false false) := by
  refine returnsInHanded_of_change (C := Try.checked) Try.own_ started (by kernel_rfl) Try.func13
    (ChangeSpec.witness6 (enc := enc) (C := Try.checked) false ⟨#[], #[.slice none 0 0, .agg #[.int .i64 0, .int .i64 0, .int .i64 0]], []⟩ 8 (by kernel_rfl) (by kernel_rfl) (by kernel_rfl) (by kernel_rfl)) ?_
  intro W base args ds gs before hval0 hW hcnd _
  have hval : ∀ (j : Nat) t v, Try.f13.params[j]? = some t → args[j]? = some v → Value.okWide Try.prog W .any base t v := hval0
  have hW' := hW
  obtain ⟨p, q, hA0, hV, rfl, hfz, hnd⟩ := hW
  have hA : DataW.TrodAll enc Try.prog W 0 (fun _ => true) true Try.f13.params.toList args.toList ds p := hA0
  rw [Try.params13] at hA hval
  obtain ⟨v0, vs0, d0, ds0, p0, q0, hargs0, rfl, rfl, h0, r0⟩ := trodAll_cons hA
  obtain ⟨v1, vs1, d1, ds1, p1, q1, rfl, rfl, rfl, h1, r1⟩ := trodAll_cons r0
  obtain ⟨rfl, rfl, rfl⟩ := trodAll_nil r1
  obtain rfl : args = #[v0, v1] := by cases args; simp_all
  obtain ⟨rfl, rfl⟩ := trodVars_none hV
  obtain ⟨A0, c0, ts0, rfl, hr0, hl0⟩ := open_plays (hval 0 22 v0 rfl rfl) h0
  obtain ⟨x1, y1, z1, rfl⟩ := open_play (hval 1 58 v1 rfl rfl) h1
  refine (w_FnExactAddPlay A0 c0 ts0 x1 y1 z1 W hr0 hl0).mono fun e W' ⟨he, hg⟩ => ?_
  subst he
  exact ⟨_, rfl, law_post rfl rfl (of_decide_eq_true (by kernel_rfl)) hW' rfl hg⟩

theorem fnExactAddPlay_holds : Rows.FnExactAddPlaySaid :=
  OpenClaim.holds_of_wide 13 Try.f13 rfl rfl rfl rfl rfl rfl rfl ⟨rfl, rfl, rfl, rfl, rfl⟩ rfl rfl rfl rfl rfl (by kernel_rfl) Try.func13 (by kernel_rfl)
    (of_decide_eq_true (by kernel_rfl)) (by unfold Func.isWrapper; first | (rw [if_pos (by decide +kernel)]; kernel_rfl) | (rw [if_neg (by decide +kernel)]; exact ⟨rfl, rfl⟩))
    (fun os started H enc _ => lifted_FnExactAddPlay os started H enc)
#print axioms fnExactAddPlay_holds

end Go.Proofs.Ytllfjffcogpaiaa

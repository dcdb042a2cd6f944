/- The law of PlacesOfTile: at every text and tile both functions answer alike, and each answer owns its memory. No condition. -/
import Derived.Test.YtjbdflkbclhonabDoorTabPl
import Derived.Test.YtjbdflkbclhonabDoorLawS
import Derived.Test.YtjbdflkbclhonabDoorDoorS
namespace Go.Proofs.YtjbdflkbclhonabDoor
open Go.ChangeShapes Go.WideShapes Go.ChangeAt Go.RowKit Go.Joins
set_option linter.unusedVariables false

set_option maxRecDepth 100000 in
set_option maxHeartbeats 1000000 in
theorem w_FnExactPlacesOfTile (s0 : ByteArray) (x1 y1 : Int) (w : World) (hl0 : s0.size ≤ 9223372036854775807) (m : Int) (hm : w.cell? ⟨0, 0, none⟩ = some (.int .i64 m)) :
    Calls Tryd.prog 3 #[.string s0, .agg #[.int .i64 x1, .int .i64 y1]] w fun e w' => e = .returned (.bool true) ∧ Below w.heap.size w w' := by
  have hmod := plcS_bd s0 (x1, y1)
  by_cases hbig0 : 1048576 < s0.size
  · go_enter Tryd.func3, Tryd.ntmps3
    go_wp2_with fail
    go_ret
    exact ⟨rfl, by go_grown⟩
  · have hle0 : s0.size ≤ 1048576 := by omega
    go_enter Tryd.func3, Tryd.ntmps3
    have hb0 : Below w.heap.size w (w.alloc (.cells #[.int .i64 x1, .int .i64 y1] 23)) := by go_grown
    have ta0 : (w.alloc (.cells #[.int .i64 x1, .int .i64 y1] 23)).cell? ⟨w.heap.size, 0, none⟩ = some (.int .i64 x1) := by simp
    have tb0 : (w.alloc (.cells #[.int .i64 x1, .int .i64 y1] 23)).cell? ⟨w.heap.size, 1, none⟩ = some (.int .i64 y1) := by simp
    go_wp2_with fail
    obtain ⟨w00, hw00⟩ : ∃ w00, w00 = (w.alloc (.cells #[.int .i64 x1, .int .i64 y1] 23)) := ⟨_, rfl⟩
    rw [← hw00] at hb0 ta0 tb0 ⊢
    clear hw00
    go_wp2_with fail
    refine (c_toTile x1 y1 _).mono ?_
    rintro e w1 ⟨rfl, h1⟩
    have hb2 : Below w.heap.size w w1 := bstep hb0 h1
    clear hb0
    have ta2 := keepc h1 ta0
    have tb2 := keepc h1 tb0
    clear ta0 tb0
    go_wp2_with fail
    refine (c_specPlaces s0 x1 y1 _ hle0).mono ?_
    rintro e w3 ⟨AW, cW, rfl, o3W, h3⟩
    have sW : w.heap.size ≤ (w1).heap.size := hb2.size
    have stW := block_lt ta2
    have lW : (w1).heap.size ≤ (w3).heap.size := h3.size
    have hb5 : Below w.heap.size w w3 := bstep hb2 h3
    clear hb2
    have ta5 := keepc h3 ta2
    have tb5 := keepc h3 tb2
    clear ta2 tb2
    go_wp2_with fail
    refine (c_toTile x1 y1 _).mono ?_
    rintro e w6 ⟨rfl, h6⟩
    have hb7 : Below w.heap.size w w6 := bstep hb5 h6
    have o7W := OwnRR.below o3W h6 (Nat.le_refl (w3).heap.size)
    have t7W := Nat.le_trans (Nat.le_refl (w3).heap.size) (h6).size
    clear o3W
    clear hb5
    have ta7 := keepc h6 ta5
    have tb7 := keepc h6 tb5
    clear ta5 tb5
    go_wp2_with fail
    refine (c_implPlacesB s0 x1 y1 m hm (by assumption) hle0).mono ?_
    rintro e w8 ⟨AG, cG, rfl, o8G, h8⟩
    have apWG := t7W
    have sG : w.heap.size ≤ (w6).heap.size := hb7.size
    have stG := block_lt ta7
    have lG : (w6).heap.size ≤ (w8).heap.size := h8.size
    have hb10 : Below w.heap.size w w8 := bstep hb7 h8
    have o10W := OwnRR.below o7W h8 t7W
    have t10W := Nat.le_trans t7W (h8).size
    clear o7W t7W
    clear hb7
    have ta10 := keepc h8 ta7
    have tb10 := keepc h8 tb7
    clear ta7 tb7
    go_wp2_with fail
    refine (c_eqIntSS_same _ _ _ _ ((plcS s0 (x1, y1))) _ (rdII_of o8G) (rdII_of o10W) (by have := hmod; omega) (fun k hk => Nat.le_trans (row_le_sum ((plcS s0 (x1, y1))) hk) (by have := hmod; omega))).mono ?_
    rintro e w11 ⟨rfl, h11⟩
    have hb12 : Below w.heap.size w w11 := bstep hb10 h11
    have o12W := OwnRR.below o10W h11 t10W
    have t12W := Nat.le_trans t10W (h11).size
    clear o10W t10W
    have o12G := OwnRR.below o8G h11 (Nat.le_refl (w8).heap.size)
    have t12G := Nat.le_trans (Nat.le_refl (w8).heap.size) (h11).size
    clear o8G
    clear hb10
    have ta12 := keepc h11 ta10
    have tb12 := keepc h11 tb10
    clear ta10 tb10
    go_wp2_with fail
    refine (c_markIntSS _ _ _ _ ((plcS s0 (x1, y1))) (1) _ o12G (Nat.le_trans lG t12G) (by omega) (by have := hmod; omega) (by have := hmod; omega)).mono ?_
    rintro e w13 ⟨rfl, o13G, hg13⟩
    have hb13 := hb12.trans (hg13.mono sG)
    have o13W := OwnRR.below o12W hg13 apWG
    have t13W := Nat.le_trans t12W hg13.size
    clear o12W
    have t13G := Nat.le_trans t12G hg13.size
    have ta13 := (hg13.cell (p := ⟨w.heap.size, _, none⟩) stG).trans ta12
    have tb13 := (hg13.cell (p := ⟨w.heap.size, _, none⟩) stG).trans tb12
    clear ta12 tb12
    clear o12G hb12 hg13
    go_wp2_with fail
    refine (c_heldIntSS _ _ ((plcS s0 (x1, y1))) (1) _ (rdmarksII o13G) (by omega) (by have := hmod; omega) (by have := hmod; omega)).mono ?_
    rintro e w14 ⟨rfl, rfl⟩
    go_wp2_with fail
    refine (c_toTile x1 y1 _).mono ?_
    rintro e w15 ⟨rfl, h15⟩
    have hb16 : Below w.heap.size w w15 := bstep hb13 h15
    have o16W := OwnRR.below o13W h15 t13W
    have t16W := Nat.le_trans t13W (h15).size
    clear o13W t13W
    have o16G := OwnRR.below o13G h15 t13G
    have t16G := Nat.le_trans t13G (h15).size
    clear o13G t13G
    clear hb13
    have ta16 := keepc h15 ta13
    have tb16 := keepc h15 tb13
    clear ta13 tb13
    go_wp2_with fail
    refine (c_implPlacesB s0 x1 y1 m hm (by assumption) hle0).mono ?_
    rintro e w17 ⟨AH, cH, rfl, o17H, h17⟩
    have apWH := t16W
    have apGH := t16G
    have sH : w.heap.size ≤ (w15).heap.size := hb16.size
    have stH := block_lt ta16
    have lH : (w15).heap.size ≤ (w17).heap.size := h17.size
    have hb19 : Below w.heap.size w w17 := bstep hb16 h17
    have o19W := OwnRR.below o16W h17 t16W
    have t19W := Nat.le_trans t16W (h17).size
    clear o16W t16W
    have o19G := OwnRR.below o16G h17 t16G
    have t19G := Nat.le_trans t16G (h17).size
    clear o16G t16G
    clear hb16
    have ta19 := keepc h17 ta16
    have tb19 := keepc h17 tb16
    clear ta16 tb16
    go_wp2_with fail
    refine (c_eqIntSS_same _ _ _ _ ((plcS s0 (x1, y1))) _ (rdII_of o17H) (rdII_of o19W) (by have := hmod; omega) (fun k hk => Nat.le_trans (row_le_sum ((plcS s0 (x1, y1))) hk) (by have := hmod; omega))).mono ?_
    rintro e w20 ⟨rfl, h20⟩
    have hb21 : Below w.heap.size w w20 := bstep hb19 h20
    have o21W := OwnRR.below o19W h20 t19W
    have t21W := Nat.le_trans t19W (h20).size
    clear o19W t19W
    have o21G := OwnRR.below o19G h20 t19G
    have t21G := Nat.le_trans t19G (h20).size
    clear o19G t19G
    have o21H := OwnRR.below o17H h20 (Nat.le_refl (w17).heap.size)
    have t21H := Nat.le_trans (Nat.le_refl (w17).heap.size) (h20).size
    clear o17H
    clear hb19
    have ta21 := keepc h20 ta19
    have tb21 := keepc h20 tb19
    clear ta19 tb19
    go_wp2_with fail
    refine (c_heldIntSS _ _ ((plcS s0 (x1, y1))) (1) _ (rdmarksII o21G) (by omega) (by have := hmod; omega) (by have := hmod; omega)).mono ?_
    rintro e w22 ⟨rfl, rfl⟩
    go_wp2
    go_ret
    exact ⟨rfl, hb21⟩

set_option maxRecDepth 100000 in
theorem lifted_FnExactPlacesOfTile (os : Os) (started : os.Started) (H : Type) (enc : TypeId × Value → H) :
    ReturnsInHanded {} Tryd.checked os 3 .any (fun w args => (Rows.fnExactPlacesOfTileSpec.pre enc Tryd.prog Tryd.f3 [] false w args ∧ laidMetH Tryd.prog Rows.fnExactPlacesOfTileRow.laid w) ∧ sizedMet enc Tryd.prog Tryd.f3 (OpenSpec.ofChange Rows.fnExactPlacesOfTileSpec) false w args) (Rows.fnExactPlacesOfTileSpec.post enc Tryd.prog Tryd.f3 false true false false) := by
  refine handed_and_shaped (C := Tryd.checked) (X := fun w _ => laidMetH Tryd.prog Rows.fnExactPlacesOfTileRow.laid w) (fun _ _ _ hh h => h.of_heap hh) Tryd.own_ started (by kernel_rfl) Tryd.func3
    (ChangeSpec.witness_shaped (enc := enc) (C := Tryd.checked) (os := os) (X := fun w _ => laidMetH Tryd.prog Rows.fnExactPlacesOfTileRow.laid w) false (World.laidAll Tryd.prog os Rows.fnExactPlacesOfTileRow.laid) #[.string ⟨#[]⟩, .agg #[.int .i64 0, .int .i64 0]] 8 (World.laidAll_os _ _ _) (World.shaped_of_ZipB (by kernel_rfl) (by kernel_rfl)) (by kernel_rfl) (by kernel_rfl) (by kernel_rfl)
      (by rw [MakeChecks.laidMetH_plain _ _ _ (by kernel_rfl)]; exact laidMet_laidAll _ (by kernel_rfl) (by kernel_rfl))) ?_
  intro W base args ds gs before hval0 hW hL hsh
  obtain ⟨m, hm⟩ := Tryd.laysM146.s1_3 W hsh
  have hval : ∀ (j : Nat) t v, Tryd.f3.params[j]? = some t → args[j]? = some v → Value.okWide Tryd.prog W .any base t v := hval0
  have hW' := hW
  obtain ⟨p, q, hA0, hV, rfl, hfz, hnd⟩ := hW
  have hA : DataW.TrodAll enc Tryd.prog W 0 (fun _ => true) true Tryd.f3.params.toList args.toList ds p := hA0
  rw [Tryd.params3] at hA hval
  obtain ⟨v0, vs0, d0, ds0, p0, q0, hargs0, rfl, rfl, h0, r0⟩ := trodAll_cons hA
  obtain ⟨v1, vs1, d1, ds1, p1, q1, rfl, rfl, rfl, h1, r1⟩ := trodAll_cons r0
  obtain ⟨rfl, rfl, rfl⟩ := trodAll_nil r1
  obtain rfl : args = #[v0, v1] := by cases args; simp_all
  obtain ⟨rfl, rfl⟩ := trodVars_none hV
  obtain ⟨s0, rfl, hl0⟩ := open_str (hval 0 9 v0 rfl rfl) h0
  obtain ⟨x1, y1, rfl⟩ := open_tile (hval 1 23 v1 rfl rfl) h1
  refine (w_FnExactPlacesOfTile s0 x1 y1 W hl0 m hm).mono fun e W' ⟨he, hg⟩ => ?_
  subst he
  exact ⟨_, rfl, law_post rfl rfl (of_decide_eq_true (by kernel_rfl)) hW' rfl hg⟩

theorem fnExactPlacesOfTile_holds : Rows.FnExactPlacesOfTileSaid :=
  OpenClaim.holds_of_wide 3 Tryd.f3 rfl rfl rfl rfl rfl rfl rfl ⟨rfl, rfl, rfl, rfl, rfl⟩ rfl rfl rfl rfl rfl (by kernel_rfl) Tryd.func3 (by kernel_rfl)
    (of_decide_eq_true (by kernel_rfl)) (by unfold Func.isWrapper; first | (rw [if_pos (by decide +kernel)]; kernel_rfl) | (rw [if_neg (by decide +kernel)]; exact ⟨rfl, rfl⟩))
    (fun os started H enc _ => lifted_FnExactPlacesOfTile os started H enc)
#print axioms fnExactPlacesOfTile_holds

end Go.Proofs.YtjbdflkbclhonabDoor

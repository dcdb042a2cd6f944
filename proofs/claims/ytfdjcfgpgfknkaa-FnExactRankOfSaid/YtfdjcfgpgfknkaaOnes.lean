/- The laws on one tile, two numbers, or one rank: at every argument both functions answer alike. No condition. -/
import Derived.Test.YtfdjcfgpgfknkaaLaw
import Derived.Test.YtfdjcfgpgfknkaaRank
namespace Go.Proofs.Ytfdjcfgpgfknkaa
open Go.ChangeShapes Go.WideShapes Go.ChangeAt Go.RowKit Go.Joins
set_option linter.unusedVariables false

set_option maxHeartbeats 400000 in
theorem w_FnExactIsTile (a b : Int) (w : World) : Calls Try.prog 3 #[.agg #[.int .i64 a, .int .i64 b]] w fun e w' => e = .returned (.bool true) ∧ Below w.heap.size w w' := by
  have hb0 : Below w.heap.size w (w.alloc (.cells #[.int .i64 a, .int .i64 b] 23)) := by go_grown
  have x0 : (w.alloc (.cells #[.int .i64 a, .int .i64 b] 23)).cell? ⟨w.heap.size, 0, none⟩ = some (.int .i64 a) := by simp
  have y0 : (w.alloc (.cells #[.int .i64 a, .int .i64 b] 23)).cell? ⟨w.heap.size, 1, none⟩ = some (.int .i64 b) := by simp
  go_enter Try.func3, Try.ntmps3
  go_wp2_with fail
  refine (c_toTile _ _ _).mono ?_
  rintro e w1 ⟨rfl, h1⟩
  have x1 := keepc h1 x0
  have y1 := keepc h1 y0
  have hb1 := bstep hb0 h1
  clear x0 y0 hb0 h1
  go_wp2_with fail
  refine (c_specIsTile _ _ _).mono ?_
  rintro e w2 ⟨rfl, h2⟩
  have x2 := keepc h2 x1
  have y2 := keepc h2 y1
  have hb2 := bstep hb1 h2
  clear x1 y1 hb1 h2
  go_wp2_with fail
  refine (c_toTile _ _ _).mono ?_
  rintro e w3 ⟨rfl, h3⟩
  have hb3 := bstep hb2 h3
  go_wp2_with fail
  refine (c_implIsTile _ _ _).mono ?_
  rintro e w4 ⟨rfl, h4⟩
  have hb4 := bstep hb3 h4
  go_wp2
  go_ret
  exact ⟨rfl, hb4⟩

set_option maxRecDepth 100000 in
theorem lifted_FnExactIsTile (os : Os) (started : os.Started) (H : Type) (enc : TypeId × Value → H) :
    ReturnsInHanded {} Try.checked os 3 .any (Rows.fnExactIsTileSpec.pre6 enc Try.prog Try.f3 Rows.fnExactIsTileRow.domain false) (Rows.fnExactIsTileSpec.post enc Try.prog Try.f3 false true false false) := by
  refine returnsInHanded_of_change (C := Try.checked) Try.own_ started (by kernel_rfl) Try.func3
    (ChangeSpec.witness6 (enc := enc) (C := Try.checked) false ⟨#[], #[.agg #[.int .i64 0, .int .i64 0]], []⟩ 8 (by kernel_rfl) (by kernel_rfl) (by kernel_rfl) (by kernel_rfl)) ?_
  intro W base args ds gs before hval0 hW hcnd _
  have hval : ∀ (j : Nat) t v, Try.f3.params[j]? = some t → args[j]? = some v → Value.okWide Try.prog W .any base t v := hval0
  have hW' := hW
  obtain ⟨p, q, hA0, hV, rfl, hfz, hnd⟩ := hW
  have hA : DataW.TrodAll enc Try.prog W 0 (fun _ => true) true Try.f3.params.toList args.toList ds p := hA0
  rw [Try.params3] at hA hval
  obtain ⟨v0, vs0, d0, ds0, p0, q0, hargs0, rfl, rfl, h0, r0⟩ := trodAll_cons hA
  obtain ⟨rfl, rfl, rfl⟩ := trodAll_nil r0
  obtain rfl : args = #[v0] := by cases args; simp_all
  obtain ⟨rfl, rfl⟩ := trodVars_none hV
  obtain ⟨x0, y0, rfl⟩ := open_tile (hval 0 23 v0 rfl rfl) h0
  refine (w_FnExactIsTile x0 y0 W).mono fun e W' ⟨he, hg⟩ => ?_
  subst he
  exact ⟨_, rfl, law_post rfl rfl (of_decide_eq_true (by kernel_rfl)) hW' rfl hg⟩

theorem fnExactIsTile_holds : Rows.FnExactIsTileSaid :=
  OpenClaim.holds_of_wide 3 Try.f3 rfl rfl rfl rfl rfl rfl rfl ⟨rfl, rfl, rfl, rfl, rfl⟩ rfl rfl rfl rfl rfl (by kernel_rfl) Try.func3 (by kernel_rfl)
    (of_decide_eq_true (by kernel_rfl)) (by unfold Func.isWrapper; first | (rw [if_pos (by decide +kernel)]; kernel_rfl) | (rw [if_neg (by decide +kernel)]; exact ⟨rfl, rfl⟩))
    (fun os started H enc _ => lifted_FnExactIsTile os started H enc)
#print axioms fnExactIsTile_holds

set_option maxHeartbeats 400000 in
theorem w_FnExactRankOf (a b : Int) (w : World) : Calls Try.prog 8 #[.agg #[.int .i64 a, .int .i64 b]] w fun e w' => e = .returned (.bool true) ∧ Below w.heap.size w w' := by
  have hb0 : Below w.heap.size w (w.alloc (.cells #[.int .i64 a, .int .i64 b] 23)) := by go_grown
  have x0 : (w.alloc (.cells #[.int .i64 a, .int .i64 b] 23)).cell? ⟨w.heap.size, 0, none⟩ = some (.int .i64 a) := by simp
  have y0 : (w.alloc (.cells #[.int .i64 a, .int .i64 b] 23)).cell? ⟨w.heap.size, 1, none⟩ = some (.int .i64 b) := by simp
  go_enter Try.func8, Try.ntmps8
  go_wp2_with fail
  refine (c_toTile _ _ _).mono ?_
  rintro e w1 ⟨rfl, h1⟩
  have x1 := keepc h1 x0
  have y1 := keepc h1 y0
  have hb1 := bstep hb0 h1
  clear x0 y0 hb0 h1
  go_wp2_with fail
  refine (c_specRankOf _ _ _).mono ?_
  rintro e w2 ⟨rfl, h2⟩
  have x2 := keepc h2 x1
  have y2 := keepc h2 y1
  have hb2 := bstep hb1 h2
  clear x1 y1 hb1 h2
  go_wp2_with fail
  refine (c_toTile _ _ _).mono ?_
  rintro e w3 ⟨rfl, h3⟩
  have hb3 := bstep hb2 h3
  go_wp2_with fail
  refine (c_implRankOf _ _ _).mono ?_
  rintro e w4 ⟨rfl, h4⟩
  have hb4 := bstep hb3 h4
  go_wp2
  go_ret
  exact ⟨rfl, hb4⟩

set_option maxRecDepth 100000 in
theorem lifted_FnExactRankOf (os : Os) (started : os.Started) (H : Type) (enc : TypeId × Value → H) :
    ReturnsInHanded {} Try.checked os 8 .any (Rows.fnExactRankOfSpec.pre6 enc Try.prog Try.f8 Rows.fnExactRankOfRow.domain false) (Rows.fnExactRankOfSpec.post enc Try.prog Try.f8 false true false false) := by
  refine returnsInHanded_of_change (C := Try.checked) Try.own_ started (by kernel_rfl) Try.func8
    (ChangeSpec.witness6 (enc := enc) (C := Try.checked) false ⟨#[], #[.agg #[.int .i64 0, .int .i64 0]], []⟩ 8 (by kernel_rfl) (by kernel_rfl) (by kernel_rfl) (by kernel_rfl)) ?_
  intro W base args ds gs before hval0 hW hcnd _
  have hval : ∀ (j : Nat) t v, Try.f8.params[j]? = some t → args[j]? = some v → Value.okWide Try.prog W .any base t v := hval0
  have hW' := hW
  obtain ⟨p, q, hA0, hV, rfl, hfz, hnd⟩ := hW
  have hA : DataW.TrodAll enc Try.prog W 0 (fun _ => true) true Try.f8.params.toList args.toList ds p := hA0
  rw [Try.params8] at hA hval
  obtain ⟨v0, vs0, d0, ds0, p0, q0, hargs0, rfl, rfl, h0, r0⟩ := trodAll_cons hA
  obtain ⟨rfl, rfl, rfl⟩ := trodAll_nil r0
  obtain rfl : args = #[v0] := by cases args; simp_all
  obtain ⟨rfl, rfl⟩ := trodVars_none hV
  obtain ⟨x0, y0, rfl⟩ := open_tile (hval 0 23 v0 rfl rfl) h0
  refine (w_FnExactRankOf x0 y0 W).mono fun e W' ⟨he, hg⟩ => ?_
  subst he
  exact ⟨_, rfl, law_post rfl rfl (of_decide_eq_true (by kernel_rfl)) hW' rfl hg⟩

theorem fnExactRankOf_holds : Rows.FnExactRankOfSaid :=
  OpenClaim.holds_of_wide 8 Try.f8 rfl rfl rfl rfl rfl rfl rfl ⟨rfl, rfl, rfl, rfl, rfl⟩ rfl rfl rfl rfl rfl (by kernel_rfl) Try.func8 (by kernel_rfl)
    (of_decide_eq_true (by kernel_rfl)) (by unfold Func.isWrapper; first | (rw [if_pos (by decide +kernel)]; kernel_rfl) | (rw [if_neg (by decide +kernel)]; exact ⟨rfl, rfl⟩))
    (fun os started H enc _ => lifted_FnExactRankOf os started H enc)
#print axioms fnExactRankOf_holds

set_option maxHeartbeats 400000 in
theorem w_FnExactTileOfRank (r : Int) (w : World) : Calls Try.prog 9 #[.int .i64 r] w fun e w' => e = .returned (.bool true) ∧ Below w.heap.size w w' := by
  have hs : sameB (rLow r) (rHigh r) (rLow r) (rHigh r) = true := by simp [sameB]
  go_enter Try.func9, Try.ntmps9
  go_wp2_with fail
  refine (c_specTileOfRank r _).mono ?_
  rintro e w1 ⟨rfl, h1⟩
  have x0 : (w1.alloc (.cells #[.int .i64 (rLow r), .int .i64 (rHigh r)] 25)).cell? ⟨w1.heap.size, 0, none⟩ = some (.int .i64 (rLow r)) := by simp
  have y0 : (w1.alloc (.cells #[.int .i64 (rLow r), .int .i64 (rHigh r)] 25)).cell? ⟨w1.heap.size, 1, none⟩ = some (.int .i64 (rHigh r)) := by simp
  have hz1 := h1.size
  have hb1 : Below w.heap.size w (w1.alloc (.cells #[.int .i64 (rLow r), .int .i64 (rHigh r)] 25)) := by go_grown
  go_wp2_with fail
  refine (c_implTileOfRank r _).mono ?_
  rintro e w2 ⟨rfl, h2⟩
  have x2 := keepc h2 x0
  have y2 := keepc h2 y0
  have hb2 := bstep hb1 h2
  have hz2 := hb2.size
  have hz3 : w1.heap.size < w2.heap.size := by have := h2.size; simp at this; omega
  clear x0 y0 hb1 h1 h2
  go_wp2_with (go_at_call 20; refine (c_eqTile _ _ _ _ _).mono ?_; rw [hs]; rintro e w3 ⟨rfl, h3⟩)
  go_ret
  exact ⟨rfl, bstep (by go_grown) h3⟩

set_option maxRecDepth 100000 in
theorem lifted_FnExactTileOfRank (os : Os) (started : os.Started) (H : Type) (enc : TypeId × Value → H) :
    ReturnsInHanded {} Try.checked os 9 .any (Rows.fnExactTileOfRankSpec.pre6 enc Try.prog Try.f9 Rows.fnExactTileOfRankRow.domain false) (Rows.fnExactTileOfRankSpec.post enc Try.prog Try.f9 false true false false) := by
  refine returnsInHanded_of_change (C := Try.checked) Try.own_ started (by kernel_rfl) Try.func9
    (ChangeSpec.witness6 (enc := enc) (C := Try.checked) false ⟨#[], #[.int .i64 0], []⟩ 8 (by kernel_rfl) (by kernel_rfl) (by kernel_rfl) (by kernel_rfl)) ?_
  intro W base args ds gs before hval0 hW hcnd _
  have hval : ∀ (j : Nat) t v, Try.f9.params[j]? = some t → args[j]? = some v → Value.okWide Try.prog W .any base t v := hval0
  have hW' := hW
  obtain ⟨p, q, hA0, hV, rfl, hfz, hnd⟩ := hW
  have hA : DataW.TrodAll enc Try.prog W 0 (fun _ => true) true Try.f9.params.toList args.toList ds p := hA0
  rw [Try.params9] at hA hval
  obtain ⟨v0, vs0, d0, ds0, p0, q0, hargs0, rfl, rfl, h0, r0⟩ := trodAll_cons hA
  obtain ⟨rfl, rfl, rfl⟩ := trodAll_nil r0
  obtain rfl : args = #[v0] := by cases args; simp_all
  obtain ⟨rfl, rfl⟩ := trodVars_none hV
  obtain ⟨x0, rfl, _, _, wf0⟩ := open_int Try.underlying3 (hval 0 3 v0 rfl rfl) h0
  refine (w_FnExactTileOfRank x0 W).mono fun e W' ⟨he, hg⟩ => ?_
  subst he
  exact ⟨_, rfl, law_post rfl rfl (of_decide_eq_true (by kernel_rfl)) hW' rfl hg⟩

theorem fnExactTileOfRank_holds : Rows.FnExactTileOfRankSaid :=
  OpenClaim.holds_of_wide 9 Try.f9 rfl rfl rfl rfl rfl rfl rfl ⟨rfl, rfl, rfl, rfl, rfl⟩ rfl rfl rfl rfl rfl (by kernel_rfl) Try.func9 (by kernel_rfl)
    (of_decide_eq_true (by kernel_rfl)) (by unfold Func.isWrapper; first | (rw [if_pos (by decide +kernel)]; kernel_rfl) | (rw [if_neg (by decide +kernel)]; exact ⟨rfl, rfl⟩))
    (fun os started H enc _ => lifted_FnExactTileOfRank os started H enc)
#print axioms fnExactTileOfRank_holds

set_option maxHeartbeats 400000 in
theorem w_FnExactTileOf (a b : Int) (w : World) : Calls Try.prog 4 #[.int .i64 a, .int .i64 b] w fun e w' => e = .returned (.bool true) ∧ Below w.heap.size w w' := by
  have hs : sameB (ofLow a b) (ofHigh a b) (ofLow a b) (ofHigh a b) = true := by simp [sameB]
  go_enter Try.func4, Try.ntmps4
  go_wp2_with fail
  refine (c_specTileOf a b _).mono ?_
  rintro e w1 ⟨rfl, h1⟩
  have x0 : (w1.alloc (.cells #[.int .i64 (ofLow a b), .int .i64 (ofHigh a b)] 25)).cell? ⟨w1.heap.size, 0, none⟩ = some (.int .i64 (ofLow a b)) := by simp
  have y0 : (w1.alloc (.cells #[.int .i64 (ofLow a b), .int .i64 (ofHigh a b)] 25)).cell? ⟨w1.heap.size, 1, none⟩ = some (.int .i64 (ofHigh a b)) := by simp
  have hz1 := h1.size
  have hb1 : Below w.heap.size w (w1.alloc (.cells #[.int .i64 (ofLow a b), .int .i64 (ofHigh a b)] 25)) := by go_grown
  go_wp2_with fail
  refine (c_implTileOf a b _).mono ?_
  rintro e w2 ⟨rfl, h2⟩
  have x2 := keepc h2 x0
  have y2 := keepc h2 y0
  have hb2 := bstep hb1 h2
  have hz2 := hb2.size
  have hz3 : w1.heap.size < w2.heap.size := by have := h2.size; simp at this; omega
  clear x0 y0 hb1 h1 h2
  go_wp2_with (go_at_call 20; refine (c_eqTile _ _ _ _ _).mono ?_; rw [hs]; rintro e w3 ⟨rfl, h3⟩)
  go_ret
  exact ⟨rfl, bstep (by go_grown) h3⟩

set_option maxRecDepth 100000 in
theorem lifted_FnExactTileOf (os : Os) (started : os.Started) (H : Type) (enc : TypeId × Value → H) :
    ReturnsInHanded {} Try.checked os 4 .any (Rows.fnExactTileOfSpec.pre6 enc Try.prog Try.f4 Rows.fnExactTileOfRow.domain false) (Rows.fnExactTileOfSpec.post enc Try.prog Try.f4 false true false false) := by
  refine returnsInHanded_of_change (C := Try.checked) Try.own_ started (by kernel_rfl) Try.func4
    (ChangeSpec.witness6 (enc := enc) (C := Try.checked) false ⟨#[], #[.int .i64 0, .int .i64 0], []⟩ 8 (by kernel_rfl) (by kernel_rfl) (by kernel_rfl) (by kernel_rfl)) ?_
  intro W base args ds gs before hval0 hW hcnd _
  have hval : ∀ (j : Nat) t v, Try.f4.params[j]? = some t → args[j]? = some v → Value.okWide Try.prog W .any base t v := hval0
  have hW' := hW
  obtain ⟨p, q, hA0, hV, rfl, hfz, hnd⟩ := hW
  have hA : DataW.TrodAll enc Try.prog W 0 (fun _ => true) true Try.f4.params.toList args.toList ds p := hA0
  rw [Try.params4] at hA hval
  obtain ⟨v0, vs0, d0, ds0, p0, q0, hargs0, rfl, rfl, h0, r0⟩ := trodAll_cons hA
  obtain ⟨v1, vs1, d1, ds1, p1, q1, rfl, rfl, rfl, h1, r1⟩ := trodAll_cons r0
  obtain ⟨rfl, rfl, rfl⟩ := trodAll_nil r1
  obtain rfl : args = #[v0, v1] := by cases args; simp_all
  obtain ⟨rfl, rfl⟩ := trodVars_none hV
  obtain ⟨x0, rfl, _, _, wf0⟩ := open_int Try.underlying3 (hval 0 3 v0 rfl rfl) h0
  obtain ⟨x1, rfl, _, _, wf1⟩ := open_int Try.underlying3 (hval 1 3 v1 rfl rfl) h1
  refine (w_FnExactTileOf x0 x1 W).mono fun e W' ⟨he, hg⟩ => ?_
  subst he
  exact ⟨_, rfl, law_post rfl rfl (of_decide_eq_true (by kernel_rfl)) hW' rfl hg⟩

theorem fnExactTileOf_holds : Rows.FnExactTileOfSaid :=
  OpenClaim.holds_of_wide 4 Try.f4 rfl rfl rfl rfl rfl rfl rfl ⟨rfl, rfl, rfl, rfl, rfl⟩ rfl rfl rfl rfl rfl (by kernel_rfl) Try.func4 (by kernel_rfl)
    (of_decide_eq_true (by kernel_rfl)) (by unfold Func.isWrapper; first | (rw [if_pos (by decide +kernel)]; kernel_rfl) | (rw [if_neg (by decide +kernel)]; exact ⟨rfl, rfl⟩))
    (fun os started H enc _ => lifted_FnExactTileOf os started H enc)
#print axioms fnExactTileOf_holds

end Go.Proofs.Ytfdjcfgpgfknkaa

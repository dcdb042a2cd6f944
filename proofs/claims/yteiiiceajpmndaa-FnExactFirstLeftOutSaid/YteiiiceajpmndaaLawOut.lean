/- The law of FirstLeftOut: at every number both functions answer alike, and each answer owns its memory. No condition. -/
import Derived.Test.YteiiiceajpmndaaOutL
import Derived.Test.YteiiiceajpmndaaLaw
namespace Go.Proofs.Yteiiiceajpmndaa
open Go.ChangeShapes Go.WideShapes Go.ChangeAt Go.RowKit Go.Joins
set_option linter.unusedVariables false

set_option maxRecDepth 100000 in
set_option maxHeartbeats 1000000 in
theorem w_FnExactFirstLeftOut (x0 : Int) (w : World) (lo0 : -9223372036854775808 ≤ x0) (hi0 : x0 ≤ 9223372036854775807) :
    Calls Try.prog 5 #[.int .i64 x0] w fun e w' => e = .returned (.bool true) ∧ Below w.heap.size w w' := by
  have hmod := outHL_len x0
  go_enter Try.func5, Try.ntmps5
  go_wp2_with fail
  refine (c_specOut x0 _).mono ?_
  rintro e w1 ⟨AW, cW, rfl, o1W, h1⟩
  have sW : w.heap.size ≤ (w).heap.size := Nat.le_refl _
  have hb3 : Below w.heap.size w w1 := h1
  go_wp2_with fail
  refine (c_implOut x0 _).mono ?_
  rintro e w4 ⟨AG, cG, rfl, o4G, h4⟩
  have apWG := fun g (hg : (Value.slice AW ((outHL x0)).length cW).ownBlock = some g) => (World.ownsRow.lt o1W g hg).2
  have sG : w.heap.size ≤ (w1).heap.size := hb3.size
  have hb6 : Below w.heap.size w w4 := bstep hb3 h4
  have o6W := own_keep o1W h4
  clear o1W
  clear hb3
  go_wp2_with fail
  refine (c_eqTileS_same _ _ _ _ ((outHL x0)) _ (RdT.of_own o4G) (RdT.of_own o6W) (by have := hmod; omega)).mono ?_
  rintro e w7 ⟨rfl, h7⟩
  have hb8 : Below w.heap.size w w7 := bstep hb6 h7
  have o8W := own_keep o6W h7
  clear o6W
  have o8G := own_keep o4G h7
  clear o4G
  clear hb6
  go_wp2_with fail
  refine (c_markTileS _ _ _ ((outHL x0)) (1) _ o8G (by omega) (by have := hmod; omega)).mono ?_
  rintro e w9 ⟨rfl, o9G, hg9⟩
  have hb9 := hb8.trans (below_of_grown hg9 hb8.size (fun g hg => Nat.le_trans sG (World.ownsRow.lt o8G g hg).1))
  have o9W := World.ownsRow.kept o8W hg9 (own_apart2 apWG o8G)
  clear o8W
  clear o8G hb8 hg9
  go_wp2_with fail
  refine (c_heldTileS _ _ ((outHL x0)).length (1) _ (rdmarksT o9G) (by omega) (by have := hmod; omega)).mono ?_
  rintro e w10 ⟨rfl, rfl⟩
  go_wp2_with fail
  refine (c_implOut x0 _).mono ?_
  rintro e w11 ⟨AH, cH, rfl, o11H, h11⟩
  have apWH := fun g (hg : (Value.slice AW ((outHL x0)).length cW).ownBlock = some g) => (World.ownsRow.lt o9W g hg).2
  have apGH := fun g (hg : (Value.slice AG ((outHL x0)).length cG).ownBlock = some g) => (World.ownsRow.lt o9G g hg).2
  have sH : w.heap.size ≤ (w9).heap.size := hb9.size
  have hb13 : Below w.heap.size w w11 := bstep hb9 h11
  have o13W := own_keep o9W h11
  clear o9W
  have o13G := own_keep o9G h11
  clear o9G
  clear hb9
  go_wp2_with fail
  refine (c_eqTileS_same _ _ _ _ ((outHL x0)) _ (RdT.of_own o11H) (RdT.of_own o13W) (by have := hmod; omega)).mono ?_
  rintro e w14 ⟨rfl, h14⟩
  have hb15 : Below w.heap.size w w14 := bstep hb13 h14
  have o15W := own_keep o13W h14
  clear o13W
  have o15G := own_keep o13G h14
  clear o13G
  have o15H := own_keep o11H h14
  clear o11H
  clear hb13
  go_wp2_with fail
  refine (c_heldTileS _ _ ((outHL x0)).length (1) _ (rdmarksT o15G) (by omega) (by have := hmod; omega)).mono ?_
  rintro e w16 ⟨rfl, rfl⟩
  go_wp2
  go_ret
  exact ⟨rfl, hb15⟩

set_option maxRecDepth 100000 in
theorem lifted_FnExactFirstLeftOut (os : Os) (started : os.Started) (H : Type) (enc : TypeId × Value → H) :
    ReturnsInHanded {} Try.checked os 5 .any (Rows.fnExactFirstLeftOutSpec.pre6 enc Try.prog Try.f5 Rows.fnExactFirstLeftOutRow.domain false) (Rows.fnExactFirstLeftOutSpec.post enc Try.prog Try.f5 false true false false) := by
  refine returnsInHanded_of_change (C := Try.checked) Try.own_ started (by kernel_rfl) Try.func5
    (ChangeSpec.witness6 (enc := enc) (C := Try.checked) false ⟨#[], #[.int .i64 0], []⟩ 8 (by kernel_rfl) (by kernel_rfl) (by kernel_rfl) (by kernel_rfl)) ?_
  intro W base args ds gs before hval0 hW hcnd _
  have hval : ∀ (j : Nat) t v, Try.f5.params[j]? = some t → args[j]? = some v → Value.okWide Try.prog W .any base t v := hval0
  have hW' := hW
  obtain ⟨p, q, hA0, hV, rfl, hfz, hnd⟩ := hW
  have hA : DataW.TrodAll enc Try.prog W 0 (fun _ => true) true Try.f5.params.toList args.toList ds p := hA0
  rw [Try.params5] at hA hval
  obtain ⟨v0, vs0, d0, ds0, p0, q0, hargs0, rfl, rfl, h0, r0⟩ := trodAll_cons hA
  obtain ⟨rfl, rfl, rfl⟩ := trodAll_nil r0
  obtain rfl : args = #[v0] := by cases args; simp_all
  obtain ⟨rfl, rfl⟩ := trodVars_none hV
  obtain ⟨x0, rfl, _, _, wf0⟩ := open_int Try.underlying3 (hval 0 3 v0 rfl rfl) h0
  refine (w_FnExactFirstLeftOut x0 W (wf_lo wf0) (wf_hi wf0)).mono fun e W' ⟨he, hg⟩ => ?_
  subst he
  exact ⟨_, rfl, law_post rfl rfl (of_decide_eq_true (by kernel_rfl)) hW' rfl hg⟩

theorem fnExactFirstLeftOut_holds : Rows.FnExactFirstLeftOutSaid :=
  OpenClaim.holds_of_wide 5 Try.f5 rfl rfl rfl rfl rfl rfl rfl ⟨rfl, rfl, rfl, rfl, rfl⟩ rfl rfl rfl rfl rfl (by kernel_rfl) Try.func5 (by kernel_rfl)
    (of_decide_eq_true (by kernel_rfl)) (by unfold Func.isWrapper; first | (rw [if_pos (by decide +kernel)]; kernel_rfl) | (rw [if_neg (by decide +kernel)]; exact ⟨rfl, rfl⟩))
    (fun os started H enc _ => lifted_FnExactFirstLeftOut os started H enc)
#print axioms fnExactFirstLeftOut_holds

end Go.Proofs.Yteiiiceajpmndaa

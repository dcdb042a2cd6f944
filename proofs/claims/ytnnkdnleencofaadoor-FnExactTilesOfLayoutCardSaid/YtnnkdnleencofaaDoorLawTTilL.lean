/- The law of TilesOfLayout: at every two texts both functions answer alike. No condition. -/
import Derived.Test.YtnnkdnleencofaaDoorTabV
import Derived.Test.YtnnkdnleencofaaDoorLawS
import Derived.Test.YtnnkdnleencofaaDoorDoorS
namespace Go.Proofs.YtnnkdnleencofaaDoor
open Go.ChangeShapes Go.WideShapes Go.ChangeAt Go.RowKit Go.Joins
set_option linter.unusedVariables false

set_option maxRecDepth 100000 in
set_option maxHeartbeats 1000000 in
theorem w_FnExactTilesOfLayout (s0 : ByteArray) (s1 : ByteArray) (w : World) (hl0 : s0.size ≤ 9223372036854775807) (hl1 : s1.size ≤ 9223372036854775807) (m : Int) (hm : w.cell? ⟨0, 0, none⟩ = some (.int .i64 m)) :
    Calls Tryd.prog 8 #[.string s0, .string s1] w fun e w' => e = .returned (.bool true) ∧ Below w.heap.size w w' := by
  have hmod := tilLay_len s0 s1
  by_cases hbig0 : 1048576 < s0.size
  · go_enter Tryd.func8, Tryd.ntmps8
    go_wp2_with fail
    go_ret
    exact ⟨rfl, Below.refl _ _⟩
  · have hle0 : s0.size ≤ 1048576 := by omega
    by_cases hbig1 : 1048576 < s1.size
    · go_enter Tryd.func8, Tryd.ntmps8
      go_wp2_with fail
      go_ret
      exact ⟨rfl, Below.refl _ _⟩
    · have hle1 : s1.size ≤ 1048576 := by omega
      go_enter Tryd.func8, Tryd.ntmps8
      go_wp2_with fail
      refine (c_specTilesOfLayout s0 s1 _ hle0 hle1).mono ?_
      rintro e w1 ⟨AW, cW, rfl, o1W, h1⟩
      have sW : w.heap.size ≤ (w).heap.size := Nat.le_refl _
      have hb3 : Below w.heap.size w w1 := h1
      go_wp2_with fail
      refine (c_implTilesOfLayoutB s0 s1 m hm (by assumption) hle0 hle1).mono ?_
      rintro e w4 ⟨AG, cG, rfl, o4G, h4⟩
      have apWG := fun g (hg : (Value.slice AW ((tilLay s0 s1)).length cW).ownBlock = some g) => (World.ownsRow.lt o1W g hg).2
      have sG : w.heap.size ≤ (w1).heap.size := hb3.size
      have hb6 : Below w.heap.size w w4 := bstep hb3 h4
      have o6W := own_keep o1W h4
      clear o1W
      clear hb3
      go_wp2_with fail
      refine (c_eqTileS_same _ _ _ _ ((tilLay s0 s1)) _ (RdT.of_own o4G) (RdT.of_own o6W) (by have := hmod; omega)).mono ?_
      rintro e w7 ⟨rfl, h7⟩
      have hb8 : Below w.heap.size w w7 := bstep hb6 h7
      have o8W := own_keep o6W h7
      clear o6W
      have o8G := own_keep o4G h7
      clear o4G
      clear hb6
      go_wp2_with fail
      refine (c_markTileS _ _ _ ((tilLay s0 s1)) (1) _ o8G (by omega) (by have := hmod; omega)).mono ?_
      rintro e w9 ⟨rfl, o9G, hg9⟩
      have hb9 := hb8.trans (below_of_grown hg9 hb8.size (fun g hg => Nat.le_trans sG (World.ownsRow.lt o8G g hg).1))
      have o9W := World.ownsRow.kept o8W hg9 (own_apart2 apWG o8G)
      clear o8W
      clear o8G hb8 hg9
      go_wp2_with fail
      refine (c_heldTileS _ _ ((tilLay s0 s1)).length (1) _ (rdmarksT o9G) (by omega) (by have := hmod; omega)).mono ?_
      rintro e w10 ⟨rfl, rfl⟩
      go_wp2_with fail
      refine (c_implTilesOfLayoutB s0 s1 m hm (by assumption) hle0 hle1).mono ?_
      rintro e w11 ⟨AH, cH, rfl, o11H, h11⟩
      have apWH := fun g (hg : (Value.slice AW ((tilLay s0 s1)).length cW).ownBlock = some g) => (World.ownsRow.lt o9W g hg).2
      have apGH := fun g (hg : (Value.slice AG ((tilLay s0 s1)).length cG).ownBlock = some g) => (World.ownsRow.lt o9G g hg).2
      have sH : w.heap.size ≤ (w9).heap.size := hb9.size
      have hb13 : Below w.heap.size w w11 := bstep hb9 h11
      have o13W := own_keep o9W h11
      clear o9W
      have o13G := own_keep o9G h11
      clear o9G
      clear hb9
      go_wp2_with fail
      refine (c_eqTileS_same _ _ _ _ ((tilLay s0 s1)) _ (RdT.of_own o11H) (RdT.of_own o13W) (by have := hmod; omega)).mono ?_
      rintro e w14 ⟨rfl, h14⟩
      have hb15 : Below w.heap.size w w14 := bstep hb13 h14
      have o15W := own_keep o13W h14
      clear o13W
      have o15G := own_keep o13G h14
      clear o13G
      have o15H := own_keep o11H h14
      clear o11H
      clear hb13
      go_wp2_with fail
      refine (c_heldTileS _ _ ((tilLay s0 s1)).length (1) _ (rdmarksT o15G) (by omega) (by have := hmod; omega)).mono ?_
      rintro e w16 ⟨rfl, rfl⟩
      go_wp2
      go_ret
      exact ⟨rfl, hb15⟩

set_option maxRecDepth 100000 in
theorem lifted_FnExactTilesOfLayout (os : Os) (started : os.Started) (H : Type) (enc : TypeId × Value → H) :
    ReturnsInHanded {} Tryd.checked os 8 .any (fun w args => (Rows.fnExactTilesOfLayoutSpec.pre enc Tryd.prog Tryd.f8 [] false w args ∧ laidMetH Tryd.prog Rows.fnExactTilesOfLayoutRow.laid w) ∧ sizedMet enc Tryd.prog Tryd.f8 (OpenSpec.ofChange Rows.fnExactTilesOfLayoutSpec) false w args) (Rows.fnExactTilesOfLayoutSpec.post enc Tryd.prog Tryd.f8 false true false false) := by
  refine handed_and_shaped (C := Tryd.checked) (X := fun w _ => laidMetH Tryd.prog Rows.fnExactTilesOfLayoutRow.laid w) (fun _ _ _ hh h => h.of_heap hh) Tryd.own_ started (by kernel_rfl) Tryd.func8
    (ChangeSpec.witness_shaped (enc := enc) (C := Tryd.checked) (os := os) (X := fun w _ => laidMetH Tryd.prog Rows.fnExactTilesOfLayoutRow.laid w) false (World.laidAll Tryd.prog os Rows.fnExactTilesOfLayoutRow.laid) #[.string ⟨#[]⟩, .string ⟨#[]⟩] 8 (World.laidAll_os _ _ _) (World.shaped_of_ZipB (by kernel_rfl) (by kernel_rfl)) (by kernel_rfl) (by kernel_rfl) (by kernel_rfl)
      (by rw [MakeChecks.laidMetH_plain _ _ _ (by kernel_rfl)]; exact laidMet_laidAll _ (by kernel_rfl) (by kernel_rfl))) ?_
  intro W base args ds gs before hval0 hW hL hsh
  obtain ⟨m, hm⟩ := Tryd.laysM146.s1_3 W hsh
  have hval : ∀ (j : Nat) t v, Tryd.f8.params[j]? = some t → args[j]? = some v → Value.okWide Tryd.prog W .any base t v := hval0
  have hW' := hW
  obtain ⟨p, q, hA0, hV, rfl, hfz, hnd⟩ := hW
  have hA : DataW.TrodAll enc Tryd.prog W 0 (fun _ => true) true Tryd.f8.params.toList args.toList ds p := hA0
  rw [Tryd.params8] at hA hval
  obtain ⟨v0, vs0, d0, ds0, p0, q0, hargs0, rfl, rfl, h0, r0⟩ := trodAll_cons hA
  obtain ⟨v1, vs1, d1, ds1, p1, q1, rfl, rfl, rfl, h1, r1⟩ := trodAll_cons r0
  obtain ⟨rfl, rfl, rfl⟩ := trodAll_nil r1
  obtain rfl : args = #[v0, v1] := by cases args; simp_all
  obtain ⟨rfl, rfl⟩ := trodVars_none hV
  obtain ⟨s0, rfl, hl0⟩ := open_str (hval 0 9 v0 rfl rfl) h0
  obtain ⟨s1, rfl, hl1⟩ := open_str (hval 1 9 v1 rfl rfl) h1
  refine (w_FnExactTilesOfLayout s0 s1 W hl0 hl1 m hm).mono fun e W' ⟨he, hg⟩ => ?_
  subst he
  exact ⟨_, rfl, law_post rfl rfl (of_decide_eq_true (by kernel_rfl)) hW' rfl hg⟩

theorem fnExactTilesOfLayout_holds : Rows.FnExactTilesOfLayoutSaid :=
  OpenClaim.holds_of_wide 8 Tryd.f8 rfl rfl rfl rfl rfl rfl rfl ⟨rfl, rfl, rfl, rfl, rfl⟩ rfl rfl rfl rfl rfl (by kernel_rfl) Tryd.func8 (by kernel_rfl)
    (of_decide_eq_true (by kernel_rfl)) (by unfold Func.isWrapper; first | (rw [if_pos (by decide +kernel)]; kernel_rfl) | (rw [if_neg (by decide +kernel)]; exact ⟨rfl, rfl⟩))
    (fun os started H enc _ => lifted_FnExactTilesOfLayout os started H enc)
#print axioms fnExactTilesOfLayout_holds

end Go.Proofs.YtnnkdnleencofaaDoor

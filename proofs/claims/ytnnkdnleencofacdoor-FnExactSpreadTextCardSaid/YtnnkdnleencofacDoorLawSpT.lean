/- The law of SpreadText: at every list of plays both functions answer alike and leave the list alone. No condition. -/
import Derived.Test.YtnnkdnleencofacDoorSpT
import Derived.Test.YtnnkdnleencofacDoorLawP
import Derived.Test.YtnnkdnleencofacDoorDoor
namespace Go.Proofs.YtnnkdnleencofacDoor
open Go.ChangeShapes Go.WideShapes Go.ChangeAt Go.RowKit Go.Joins
set_option linter.unusedVariables false

set_option maxRecDepth 100000 in
set_option maxHeartbeats 1000000 in
theorem w_FnExactSpreadText (A0 : Option Addr) (c0 : Nat) (ts0 : List (Int × Int × Int)) (w : World) (hr0 : RdP w A0 ts0) (hl0 : ts0.length ≤ 9223372036854775807) :
    Calls Tryd.prog 3 #[.slice A0 ts0.length c0] w fun e w' => e = .returned (.bool true) ∧ Below w.heap.size w w' := by
  have hs0 := c_szPlayS A0 c0 ts0.length (1048576) w hl0 (by omega) (by omega)
  by_cases hbig0 : 1048576 - (ts0.length : Int) < 0
  · rw [if_pos hbig0] at hs0
    go_enter Tryd.func3, Tryd.ntmps3
    go_wp2_with fail
    refine hs0.mono ?_
    rintro e w1 ⟨rfl, rfl⟩
    go_wp2
    go_ret
    exact ⟨rfl, Below.refl _ _⟩
  · rw [if_neg hbig0] at hs0
    have hle0 : ts0.length ≤ 1048576 := by omega
    go_enter Tryd.func3, Tryd.ntmps3
    go_wp2_with fail
    refine hs0.mono ?_
    rintro e w0 ⟨rfl, rfl⟩
    clear hs0
    go_wp2_with fail
    refine (c_toPlayS A0 c0 ts0 _ (hr0) hle0).mono ?_
    rintro e w1 ⟨rfl, o1a0, h1⟩
    have sa0 : w.heap.size ≤ (w).heap.size := Nat.le_refl _
    have hb3 : Below w.heap.size w w1 := h1
    go_wp2_with fail
    refine (c_specSpreadText _ _ ts0 _ (RdP.of_own o1a0) hle0).mono ?_
    rintro e w4 ⟨rfl, h4⟩
    have hb5 : Below w.heap.size w w4 := bstep hb3 h4
    have o5a0 := own_keep o1a0 h4
    clear o1a0
    clear hb3
    clear o5a0 sa0
    go_wp2_with fail
    refine (c_toPlayS A0 c0 ts0 _ (hr0.below hb5) hle0).mono ?_
    rintro e w6 ⟨rfl, o6x0, h6⟩
    have sx0 : w.heap.size ≤ (w4).heap.size := hb5.size
    have hb8 : Below w.heap.size w w6 := bstep hb5 h6
    clear hb5
    go_wp2_with fail
    refine (c_implSpreadText _ _ ts0 _ (RdP.of_own o6x0) hle0).mono ?_
    rintro e w9 ⟨rfl, h9⟩
    have hb10 : Below w.heap.size w w9 := bstep hb8 h9
    have o10x0 := own_keep o6x0 h9
    clear o6x0
    clear hb8
    go_wp2_with fail
    refine (c_toPlayS A0 c0 ts0 _ (hr0.below hb10) hle0).mono ?_
    rintro e w11 ⟨rfl, o11b0, h11⟩
    have apx0b0 := fun g (hg : (Value.slice (some ⟨(w4).heap.size, 0, none⟩) (ts0).length ts0.length).ownBlock = some g) => (World.ownsRow.lt o10x0 g hg).2
    have sb0 : w.heap.size ≤ (w9).heap.size := hb10.size
    have hb13 : Below w.heap.size w w11 := bstep hb10 h11
    have o13x0 := own_keep o10x0 h11
    clear o10x0
    clear hb10
    go_wp2_with fail
    refine (c_eqPlayS_same _ _ _ _ (ts0) _ (RdP.of_own o13x0) (RdP.of_own o11b0) (by omega)).mono ?_
    rintro e w14 ⟨rfl, h14⟩
    have hb15 : Below w.heap.size w w14 := bstep hb13 h14
    have o15x0 := own_keep o13x0 h14
    clear o13x0
    have o15b0 := own_keep o11b0 h14
    clear o11b0
    clear hb13
    clear o15b0 sb0
    go_wp2
    go_ret
    exact ⟨rfl, hb15⟩

set_option maxRecDepth 100000 in
theorem door_FnExactSpreadText (os : Os) (args : Array Value) : laidMetH Tryd.prog Rows.fnExactSpreadTextRow.laid ((World.doorLaid Tryd.prog 4000 os).forCall (fun _ _ => 0) ⟨#[], args, []⟩).memory :=
  laidMetH_of_parts3 (fuel := 8) (laidMet_of_run' 8 (by kernel_rfl) (by kernel_rfl)) (by kernel_rfl) (by kernel_rfl)

set_option maxRecDepth 100000 in
theorem lifted_FnExactSpreadText (os : Os) (started : os.Started) (H : Type) (enc : TypeId × Value → H) :
    ReturnsInHanded {} Tryd.checked os 3 .any (fun w args => (Rows.fnExactSpreadTextSpec.pre enc Tryd.prog Tryd.f3 [] false w args ∧ laidMetH Tryd.prog Rows.fnExactSpreadTextRow.laid w) ∧ sizedMet enc Tryd.prog Tryd.f3 (OpenSpec.ofChange Rows.fnExactSpreadTextSpec) false w args) (Rows.fnExactSpreadTextSpec.post enc Tryd.prog Tryd.f3 false true false false) := by
  refine returnsInHanded_of_change_and (C := Tryd.checked) (X := fun w _ => laidMetH Tryd.prog Rows.fnExactSpreadTextRow.laid w) (fun _ _ _ hh h => h.of_heap hh) Tryd.own_ started (by kernel_rfl) Tryd.func3
    (ChangeSpec.witness_shaped (enc := enc) (C := Tryd.checked) (os := os) (X := fun w _ => laidMetH Tryd.prog Rows.fnExactSpreadTextRow.laid w) false (World.doorLaid Tryd.prog 4000 os) #[.slice none 0 0] 8 rfl (World.shaped_of_RefB (by kernel_rfl) (by kernel_rfl)) (by kernel_rfl) (by kernel_rfl) (by kernel_rfl) (door_FnExactSpreadText os _)) ?_
  intro W base args ds gs before hval0 hW _ _ hL hsh
  have hval : ∀ (j : Nat) t v, Tryd.f3.params[j]? = some t → args[j]? = some v → Value.okWide Tryd.prog W .any base t v := hval0
  have hW' := hW
  obtain ⟨p, q, hA0, hV, rfl, hfz, hnd⟩ := hW
  have hA : DataW.TrodAll enc Tryd.prog W 0 (fun _ => true) true Tryd.f3.params.toList args.toList ds p := hA0
  rw [Tryd.params3] at hA hval
  obtain ⟨v0, vs0, d0, ds0, p0, q0, hargs0, rfl, rfl, h0, r0⟩ := trodAll_cons hA
  obtain ⟨rfl, rfl, rfl⟩ := trodAll_nil r0
  obtain rfl : args = #[v0] := by cases args; simp_all
  obtain ⟨rfl, rfl⟩ := trodVars_none hV
  obtain ⟨A0, c0, ts0, rfl, hr0, hl0⟩ := open_plays (hval 0 22 v0 rfl rfl) h0
  refine (w_FnExactSpreadText A0 c0 ts0 W hr0 hl0).mono fun e W' ⟨he, hg⟩ => ?_
  subst he
  exact ⟨_, rfl, law_post rfl rfl (of_decide_eq_true (by kernel_rfl)) hW' rfl hg⟩

theorem fnExactSpreadText_holds : Rows.FnExactSpreadTextSaid :=
  OpenClaim.holds_of_wide 3 Tryd.f3 rfl rfl rfl rfl rfl rfl rfl ⟨rfl, rfl, rfl, rfl, rfl⟩ rfl rfl rfl rfl rfl (by kernel_rfl) Tryd.func3 (by kernel_rfl)
    (of_decide_eq_true (by kernel_rfl)) (by unfold Func.isWrapper; first | (rw [if_pos (by decide +kernel)]; kernel_rfl) | (rw [if_neg (by decide +kernel)]; exact ⟨rfl, rfl⟩))
    (fun os started H enc _ => lifted_FnExactSpreadText os started H enc)
#print axioms fnExactSpreadText_holds

end Go.Proofs.YtnnkdnleencofacDoor

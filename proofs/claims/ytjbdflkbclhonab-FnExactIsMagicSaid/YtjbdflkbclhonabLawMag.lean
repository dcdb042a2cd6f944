/- The law of IsMagic: at every list of lists of numbers both functions answer alike and leave the lists alone. No condition. -/
import Derived.Test.YtjbdflkbclhonabMag
import Derived.Test.YtjbdflkbclhonabNestA
import Derived.Test.YtjbdflkbclhonabLawI
namespace Go.Proofs.Ytjbdflkbclhonab
open Go.ChangeShapes Go.WideShapes Go.ChangeAt Go.RowKit Go.Joins
set_option linter.unusedVariables false

set_option maxRecDepth 100000 in
set_option maxHeartbeats 1000000 in
theorem w_FnExactIsMagic (A0 : Option Addr) (c0 : Nat) (ts0 : List (List Int)) (w : World) (hr0 : RdII w A0 ts0) (hl0 : ts0.length ≤ 9223372036854775807) (hlr0 : ∀ k, k < ts0.length → (ts0.getD k []).length ≤ 9223372036854775807) :
    Calls Try.prog 3 #[.slice A0 ts0.length c0] w fun e w' => e = .returned (.bool true) ∧ Below w.heap.size w w' := by
  have hs0 := c_szIntSS A0 c0 ts0 (1048576) w hr0 hl0 hlr0 (by omega) (by omega)
  by_cases hbig0 : 1048576 - (ts0.length : Int) - (sumTo ts0 ts0.length : Int) < 0
  · rw [if_pos hbig0] at hs0
    go_enter Try.func3, Try.ntmps3
    go_wp2_with fail
    refine hs0.mono ?_
    rintro e w1 ⟨rfl, rfl⟩
    go_wp2
    go_ret
    exact ⟨rfl, Below.refl _ _⟩
  · rw [if_neg hbig0] at hs0
    have hle0 : ts0.length + sumTo ts0 ts0.length ≤ 1048576 := by omega
    go_enter Try.func3, Try.ntmps3
    go_wp2_with fail
    refine hs0.mono ?_
    rintro e w0 ⟨rfl, rfl⟩
    clear hs0
    go_wp2_with fail
    refine (c_toIntSS A0 c0 ts0 _ (hr0) hle0).mono ?_
    rintro e w1 ⟨rfl, o1a0, h1⟩
    have sa0 : w.heap.size ≤ (w).heap.size := Nat.le_refl _
    have la0 : (w).heap.size ≤ (w1).heap.size := h1.size
    have hb3 : Below w.heap.size w w1 := h1
    go_wp2_with fail
    refine (c_specMagic _ _ ts0 _ (rdII_of o1a0) hl0 hlr0).mono ?_
    rintro e w4 ⟨rfl, h4⟩
    have hb5 : Below w.heap.size w w4 := bstep hb3 h4
    have o5a0 := OwnRR.below o1a0 h4 (Nat.le_refl (w1).heap.size)
    have t5a0 := Nat.le_trans (Nat.le_refl (w1).heap.size) (h4).size
    clear o1a0
    clear hb3
    clear o5a0 sa0
    go_wp2_with fail
    refine (c_toIntSS A0 c0 ts0 _ (hr0.below hb5) hle0).mono ?_
    rintro e w6 ⟨rfl, o6x0, h6⟩
    have sx0 : w.heap.size ≤ (w4).heap.size := hb5.size
    have lx0 : (w4).heap.size ≤ (w6).heap.size := h6.size
    have hb8 : Below w.heap.size w w6 := bstep hb5 h6
    clear hb5
    go_wp2_with fail
    refine (c_implMagic _ _ ts0 _ (rdII_of o6x0) hl0 hlr0).mono ?_
    rintro e w9 ⟨rfl, h9⟩
    have hb10 : Below w.heap.size w w9 := bstep hb8 h9
    have o10x0 := OwnRR.below o6x0 h9 (Nat.le_refl (w6).heap.size)
    have t10x0 := Nat.le_trans (Nat.le_refl (w6).heap.size) (h9).size
    clear o6x0
    clear hb8
    go_wp2_with fail
    refine (c_toIntSS A0 c0 ts0 _ (hr0.below hb10) hle0).mono ?_
    rintro e w11 ⟨rfl, o11b0, h11⟩
    have apx0b0 := t10x0
    have sb0 : w.heap.size ≤ (w9).heap.size := hb10.size
    have lb0 : (w9).heap.size ≤ (w11).heap.size := h11.size
    have hb13 : Below w.heap.size w w11 := bstep hb10 h11
    have o13x0 := OwnRR.below o10x0 h11 t10x0
    have t13x0 := Nat.le_trans t10x0 (h11).size
    clear o10x0 t10x0
    clear hb10
    go_wp2_with fail
    refine (c_eqIntSS_same _ _ _ _ (ts0) _ (rdII_of o13x0) (rdII_of o11b0) (by omega) (fun k hk => Nat.le_trans (row_le_sum (ts0) hk) (by omega))).mono ?_
    rintro e w14 ⟨rfl, h14⟩
    have hb15 : Below w.heap.size w w14 := bstep hb13 h14
    have o15x0 := OwnRR.below o13x0 h14 t13x0
    have t15x0 := Nat.le_trans t13x0 (h14).size
    clear o13x0 t13x0
    have o15b0 := OwnRR.below o11b0 h14 (Nat.le_refl (w11).heap.size)
    have t15b0 := Nat.le_trans (Nat.le_refl (w11).heap.size) (h14).size
    clear o11b0
    clear hb13
    clear o15b0 sb0
    go_wp2
    go_ret
    exact ⟨rfl, hb15⟩

set_option maxRecDepth 100000 in
theorem lifted_FnExactIsMagic (os : Os) (started : os.Started) (H : Type) (enc : TypeId × Value → H) :
    ReturnsInHanded {} Try.checked os 3 .any (Rows.fnExactIsMagicSpec.pre6 enc Try.prog Try.f3 Rows.fnExactIsMagicRow.domain false) (Rows.fnExactIsMagicSpec.post enc Try.prog Try.f3 false true false false) := by
  refine returnsInHanded_of_change (C := Try.checked) Try.own_ started (by kernel_rfl) Try.func3
    (ChangeSpec.witness6 (enc := enc) (C := Try.checked) false ⟨#[], #[.slice none 0 0], []⟩ 8 (by kernel_rfl) (by kernel_rfl) (by kernel_rfl) (by kernel_rfl)) ?_
  intro W base args ds gs before hval0 hW hcnd _
  have hval : ∀ (j : Nat) t v, Try.f3.params[j]? = some t → args[j]? = some v → Value.okWide Try.prog W .any base t v := hval0
  have hW' := hW
  obtain ⟨p, q, hA0, hV, rfl, hfz, hnd⟩ := hW
  have hA : DataW.TrodAll enc Try.prog W 0 (fun _ => true) true Try.f3.params.toList args.toList ds p := hA0
  rw [Try.params3] at hA hval
  obtain ⟨v0, vs0, d0, ds0, p0, q0, hargs0, rfl, rfl, h0, r0⟩ := trodAll_cons hA
  obtain ⟨rfl, rfl, rfl⟩ := trodAll_nil r0
  obtain rfl : args = #[v0] := by cases args; simp_all
  obtain ⟨rfl, rfl⟩ := trodVars_none hV
  obtain ⟨A0, c0, ts0, rfl, hr0, hl0, hlr0⟩ := open_numss (hval 0 22 v0 rfl rfl) h0
  refine (w_FnExactIsMagic A0 c0 ts0 W hr0 hl0 hlr0).mono fun e W' ⟨he, hg⟩ => ?_
  subst he
  exact ⟨_, rfl, law_post rfl rfl (of_decide_eq_true (by kernel_rfl)) hW' rfl hg⟩

theorem fnExactIsMagic_holds : Rows.FnExactIsMagicSaid :=
  OpenClaim.holds_of_wide 3 Try.f3 rfl rfl rfl rfl rfl rfl rfl ⟨rfl, rfl, rfl, rfl, rfl⟩ rfl rfl rfl rfl rfl (by kernel_rfl) Try.func3 (by kernel_rfl)
    (of_decide_eq_true (by kernel_rfl)) (by unfold Func.isWrapper; first | (rw [if_pos (by decide +kernel)]; kernel_rfl) | (rw [if_neg (by decide +kernel)]; exact ⟨rfl, rfl⟩))
    (fun os started H enc _ => lifted_FnExactIsMagic os started H enc)
#print axioms fnExactIsMagic_holds

end Go.Proofs.Ytjbdflkbclhonab

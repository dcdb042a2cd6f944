/- The law of BestPlay: at every list of plays and of tiles both functions answer alike and leave the lists alone. No condition. -/
import Derived.Test.YtnnkdnleencofabBestS
import Derived.Test.YtnnkdnleencofabLawP
namespace Go.Proofs.Ytnnkdnleencofab
open Go.ChangeShapes Go.WideShapes Go.ChangeAt Go.RowKit Go.Joins
set_option linter.unusedVariables false

set_option maxRecDepth 100000 in
set_option maxHeartbeats 1000000 in
theorem w_FnExactBestPlay (A0 : Option Addr) (c0 : Nat) (ts0 : List (Int × Int × Int)) (A1 : Option Addr) (c1 : Nat) (ts1 : List (Int × Int)) (w : World) (hr0 : RdP w A0 ts0) (hl0 : ts0.length ≤ 9223372036854775807) (hr1 : RdT w A1 ts1) (hl1 : ts1.length ≤ 9223372036854775807) :
    Calls Try.prog 4 #[.slice A0 ts0.length c0, .slice A1 ts1.length c1] w fun e w' => e = .returned (.bool true) ∧ Below w.heap.size w w' := by
  have hs0 := c_szPlayS A0 c0 ts0.length (1048576) w hl0 (by omega) (by omega)
  by_cases hbig0 : 1048576 - (ts0.length : Int) < 0
  · rw [if_pos hbig0] at hs0
    go_enter Try.func4, Try.ntmps4
    go_wp2_with fail
    refine hs0.mono ?_
    rintro e w1 ⟨rfl, rfl⟩
    go_wp2
    go_ret
    exact ⟨rfl, Below.refl _ _⟩
  · rw [if_neg hbig0] at hs0
    have hle0 : ts0.length ≤ 1048576 := by omega
    have hs1 := c_szTileS A1 c1 ts1.length (1048576 - (ts0.length : Int)) w hl1 (by omega) (by omega)
    by_cases hbig1 : 1048576 - (ts0.length : Int) - (ts1.length : Int) < 0
    · rw [if_pos hbig1] at hs1
      go_enter Try.func4, Try.ntmps4
      go_wp2_with fail
      refine hs0.mono ?_
      rintro e w1 ⟨rfl, rfl⟩
      go_wp2_with fail
      refine hs1.mono ?_
      rintro e w1 ⟨rfl, rfl⟩
      go_wp2
      go_ret
      exact ⟨rfl, Below.refl _ _⟩
    · rw [if_neg hbig1] at hs1
      have hle1 : ts1.length ≤ 1048576 := by omega
      go_enter Try.func4, Try.ntmps4
      go_wp2_with fail
      refine hs0.mono ?_
      rintro e w0 ⟨rfl, rfl⟩
      go_wp2_with fail
      refine hs1.mono ?_
      rintro e w0 ⟨rfl, rfl⟩
      clear hs0 hs1
      go_wp2_with fail
      refine (c_toPlayS A0 c0 ts0 _ (hr0) hle0).mono ?_
      rintro e w1 ⟨rfl, o1a0, h1⟩
      have sa0 : w.heap.size ≤ (w).heap.size := Nat.le_refl _
      have hb3 : Below w.heap.size w w1 := h1
      go_wp2_with fail
      refine (c_toTileS A1 c1 ts1 _ (hr1.below hb3) hle1).mono ?_
      rintro e w4 ⟨rfl, o4a1, h4⟩
      have apa0a1 := fun g (hg : (Value.slice (some ⟨(w).heap.size, 0, none⟩) (ts0).length ts0.length).ownBlock = some g) => (World.ownsRow.lt o1a0 g hg).2
      have sa1 : w.heap.size ≤ (w1).heap.size := hb3.size
      have hb6 : Below w.heap.size w w4 := bstep hb3 h4
      have o6a0 := own_keep o1a0 h4
      clear o1a0
      clear hb3
      go_wp2_with fail
      refine (c_specBest _ _ ts0 _ _ ts1 _ (RdP.of_own o6a0) hle0 (RdT.of_own o4a1) hle1 (Nat.le_refl _)).mono ?_
      rintro e w7 ⟨rfl, h7⟩
      have hb8 : Below w.heap.size w w7 := bstep hb6 h7
      have o8a0 := own_keep o6a0 h7
      clear o6a0
      have o8a1 := own_keep o4a1 h7
      clear o4a1
      clear hb6
      clear o8a0 sa0
      clear o8a1 sa1
      go_wp2_with fail
      obtain ⟨w9, hw9⟩ : ∃ w9, w9 = w7.alloc (.cells #[.int .i64 (bestHL ts0 ts1).pl.1, .int .i64 (bestHL ts0 ts1).pl.2.1, .int .i64 (bestHL ts0 ts1).pl.2.2] 32) := ⟨_, rfl⟩
      rw [← hw9]
      have h9 : Below w7.heap.size w7 w9 := by rw [hw9]; exact (Below.refl _ _).alloc (Nat.le_refl _) _
      have ta9q : w9.cell? ⟨w7.heap.size, 0, none⟩ = some (.int .i64 (bestHL ts0 ts1).pl.1) := by rw [hw9]; simp
      have tb9q : w9.cell? ⟨w7.heap.size, 1, none⟩ = some (.int .i64 (bestHL ts0 ts1).pl.2.1) := by rw [hw9]; simp
      have tc9q : w9.cell? ⟨w7.heap.size, 2, none⟩ = some (.int .i64 (bestHL ts0 ts1).pl.2.2) := by rw [hw9]; simp
      clear hw9
      have hb10 : Below w.heap.size w w9 := bstep hb8 h9
      clear hb8
      refine (c_toPlayS A0 c0 ts0 _ (hr0.below hb10) hle0).mono ?_
      rintro e w11 ⟨rfl, o11x0, h11⟩
      have sx0 : w.heap.size ≤ (w9).heap.size := hb10.size
      have stx0 := block_lt ta9q
      have hb13 : Below w.heap.size w w11 := bstep hb10 h11
      clear hb10
      have ta13 := keepc h11 ta9q
      have tb13 := keepc h11 tb9q
      have tc13 := keepc h11 tc9q
      clear ta9q tb9q tc9q
      go_wp2_with fail
      refine (c_toTileS A1 c1 ts1 _ (hr1.below hb13) hle1).mono ?_
      rintro e w14 ⟨rfl, o14x1, h14⟩
      have apx0x1 := fun g (hg : (Value.slice (some ⟨(w9).heap.size, 0, none⟩) (ts0).length ts0.length).ownBlock = some g) => (World.ownsRow.lt o11x0 g hg).2
      have sx1 : w.heap.size ≤ (w11).heap.size := hb13.size
      have stx1 := block_lt ta13
      have hb16 : Below w.heap.size w w14 := bstep hb13 h14
      have o16x0 := own_keep o11x0 h14
      clear o11x0
      clear hb13
      have ta16 := keepc h14 ta13
      have tb16 := keepc h14 tb13
      have tc16 := keepc h14 tc13
      clear ta13 tb13 tc13
      go_wp2_with fail
      refine (c_implBest _ _ ts0 _ _ ts1 _ (RdP.of_own o16x0) hle0 (RdT.of_own o14x1) hle1).mono ?_
      rintro e w17 ⟨rfl, h17⟩
      have hb18 : Below w.heap.size w w17 := bstep hb16 h17
      have o18x0 := own_keep o16x0 h17
      clear o16x0
      have o18x1 := own_keep o14x1 h17
      clear o14x1
      clear hb16
      have ta18 := keepc h17 ta16
      have tb18 := keepc h17 tb16
      have tc18 := keepc h17 tc16
      clear ta16 tb16 tc16
      have stq := block_lt ta18
      go_wp2_with fail
      obtain ⟨w19, hw19⟩ : ∃ w19, w19 = w17.alloc (.cells #[.int .i64 (bestHL ts0 ts1).pl.1, .int .i64 (bestHL ts0 ts1).pl.2.1, .int .i64 (bestHL ts0 ts1).pl.2.2] 32) := ⟨_, rfl⟩
      rw [← hw19]
      have h19 : Below w17.heap.size w17 w19 := by rw [hw19]; exact (Below.refl _ _).alloc (Nat.le_refl _) _
      clear hw19
      have hb20 : Below w.heap.size w w19 := bstep hb18 h19
      have o20x0 := own_keep o18x0 h19
      clear o18x0
      have o20x1 := own_keep o18x1 h19
      clear o18x1
      clear hb18
      have ta20 := keepc h19 ta18
      have tb20 := keepc h19 tb18
      have tc20 := keepc h19 tc18
      clear ta18 tb18 tc18
      refine (c_eqPlay_same _ _ _ _).mono ?_
      rintro e w21 ⟨rfl, h21⟩
      have hb22 : Below w.heap.size w w21 := bstep hb20 h21
      have o22x0 := own_keep o20x0 h21
      clear o20x0
      have o22x1 := own_keep o20x1 h21
      clear o20x1
      clear hb20
      go_wp2_with fail
      refine (c_toPlayS A0 c0 ts0 _ (hr0.below hb22) hle0).mono ?_
      rintro e w23 ⟨rfl, o23b0, h23⟩
      have apx0b0 := fun g (hg : (Value.slice (some ⟨(w9).heap.size, 0, none⟩) (ts0).length ts0.length).ownBlock = some g) => (World.ownsRow.lt o22x0 g hg).2
      have apx1b0 := fun g (hg : (Value.slice (some ⟨(w11).heap.size, 0, none⟩) (ts1).length ts1.length).ownBlock = some g) => (World.ownsRow.lt o22x1 g hg).2
      have sb0 : w.heap.size ≤ (w21).heap.size := hb22.size
      have hb25 : Below w.heap.size w w23 := bstep hb22 h23
      have o25x0 := own_keep o22x0 h23
      clear o22x0
      have o25x1 := own_keep o22x1 h23
      clear o22x1
      clear hb22
      go_wp2_with fail
      refine (c_eqPlayS_same _ _ _ _ (ts0) _ (RdP.of_own o25x0) (RdP.of_own o23b0) (by omega)).mono ?_
      rintro e w26 ⟨rfl, h26⟩
      have hb27 : Below w.heap.size w w26 := bstep hb25 h26
      have o27x0 := own_keep o25x0 h26
      clear o25x0
      have o27x1 := own_keep o25x1 h26
      clear o25x1
      have o27b0 := own_keep o23b0 h26
      clear o23b0
      clear hb25
      clear o27b0 sb0
      go_wp2_with fail
      refine (c_toTileS A1 c1 ts1 _ (hr1.below hb27) hle1).mono ?_
      rintro e w28 ⟨rfl, o28b1, h28⟩
      have apx0b1 := fun g (hg : (Value.slice (some ⟨(w9).heap.size, 0, none⟩) (ts0).length ts0.length).ownBlock = some g) => (World.ownsRow.lt o27x0 g hg).2
      have apx1b1 := fun g (hg : (Value.slice (some ⟨(w11).heap.size, 0, none⟩) (ts1).length ts1.length).ownBlock = some g) => (World.ownsRow.lt o27x1 g hg).2
      have sb1 : w.heap.size ≤ (w26).heap.size := hb27.size
      have hb30 : Below w.heap.size w w28 := bstep hb27 h28
      have o30x0 := own_keep o27x0 h28
      clear o27x0
      have o30x1 := own_keep o27x1 h28
      clear o27x1
      clear hb27
      go_wp2_with fail
      refine (c_eqTileS_same _ _ _ _ (ts1) _ (RdT.of_own o30x1) (RdT.of_own o28b1) (by omega)).mono ?_
      rintro e w31 ⟨rfl, h31⟩
      have hb32 : Below w.heap.size w w31 := bstep hb30 h31
      have o32x0 := own_keep o30x0 h31
      clear o30x0
      have o32x1 := own_keep o30x1 h31
      clear o30x1
      have o32b1 := own_keep o28b1 h31
      clear o28b1
      clear hb30
      clear o32b1 sb1
      go_wp2
      go_ret
      exact ⟨rfl, hb32⟩

set_option maxRecDepth 100000 in
theorem lifted_FnExactBestPlay (os : Os) (started : os.Started) (H : Type) (enc : TypeId × Value → H) :
    ReturnsInHanded {} Try.checked os 4 .any (Rows.fnExactBestPlaySpec.pre6 enc Try.prog Try.f4 Rows.fnExactBestPlayRow.domain false) (Rows.fnExactBestPlaySpec.post enc Try.prog Try.f4 false true false false) := by
  refine returnsInHanded_of_change (C := Try.checked) Try.own_ started (by kernel_rfl) Try.func4
    (ChangeSpec.witness6 (enc := enc) (C := Try.checked) false ⟨#[], #[.slice none 0 0, .slice none 0 0], []⟩ 8 (by kernel_rfl) (by kernel_rfl) (by kernel_rfl) (by kernel_rfl)) ?_
  intro W base args ds gs before hval0 hW hcnd _
  have hval : ∀ (j : Nat) t v, Try.f4.params[j]? = some t → args[j]? = some v → Value.okWide Try.prog W .any base t v := hval0
  have hW' := hW
  obtain ⟨p, q, hA0, hV, rfl, hfz, hnd⟩ := hW
  have hA : DataW.TrodAll enc Try.prog W 0 (fun _ => true) true Try.f4.params.toList args.toList ds p := hA0
  rw [Try.params4] at hA hval
  obtain ⟨v0, vs0, d0, ds0, p0, q0, hargs0, rfl, rfl, h0, r0⟩ := trodAll_cons hA
  obtain ⟨v1, vs1, d1, ds1, p1, q1, rfl, rfl, rfl, h1, r1⟩ := trodAll_cons r0
  obtain ⟨rfl, rfl, rfl⟩ := trodAll_nil r1
  obtain rfl : args = #[v0, v1] := by cases args; simp_all
  obtain ⟨rfl, rfl⟩ := trodVars_none hV
  obtain ⟨A0, c0, ts0, rfl, hr0, hl0⟩ := open_plays (hval 0 25 v0 rfl rfl) h0
  obtain ⟨A1, c1, ts1, rfl, hr1, hl1⟩ := open_tiles (hval 1 26 v1 rfl rfl) h1
  refine (w_FnExactBestPlay A0 c0 ts0 A1 c1 ts1 W hr0 hl0 hr1 hl1).mono fun e W' ⟨he, hg⟩ => ?_
  subst he
  exact ⟨_, rfl, law_post rfl rfl (of_decide_eq_true (by kernel_rfl)) hW' rfl hg⟩

theorem fnExactBestPlay_holds : Rows.FnExactBestPlaySaid :=
  OpenClaim.holds_of_wide 4 Try.f4 rfl rfl rfl rfl rfl rfl rfl ⟨rfl, rfl, rfl, rfl, rfl⟩ rfl rfl rfl rfl rfl (by kernel_rfl) Try.func4 (by kernel_rfl)
    (of_decide_eq_true (by kernel_rfl)) (by unfold Func.isWrapper; first | (rw [if_pos (by decide +kernel)]; kernel_rfl) | (rw [if_neg (by decide +kernel)]; exact ⟨rfl, rfl⟩))
    (fun os started H enc _ => lifted_FnExactBestPlay os started H enc)
#print axioms fnExactBestPlay_holds

end Go.Proofs.Ytnnkdnleencofab

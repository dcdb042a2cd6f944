/- The law of MakePuzzle: at every list of numbers and number both functions answer alike, leave the list alone, and each answer owns its memory. No condition. -/
import Derived.Test.YtjdnkcdnppcbhaaPzK
import Derived.Test.YtjdnkcdnppcbhaaPzL
import Derived.Test.YtjdnkcdnppcbhaaLawPz
namespace Go.Proofs.Ytjdnkcdnppcbhaa
open Go.ChangeShapes Go.WideShapes Go.ChangeAt Go.RowKit Go.Joins
set_option linter.unusedVariables false

set_option maxRecDepth 100000 in
set_option maxHeartbeats 4000000 in
theorem w_FnExactMakePuzzle (A0 : Option Addr) (c0 : Nat) (ts0 : List Int) (x1 : Int) (w : World) (hr0 : RdI w A0 ts0) (hl0 : ts0.length ≤ 9223372036854775807) (lo1 : -9223372036854775808 ≤ x1) (hi1 : x1 ≤ 9223372036854775807) :
    Calls Try.prog 8 #[.slice A0 ts0.length c0, .int .i64 x1] w fun e w' => e = .returned (.bool true) ∧ Below w.heap.size w w' := by
  by_cases hbig0 : 1048576 < ts0.length
  · go_enter Try.func8, Try.ntmps8
    go_wp2_with fail
    go_ret
    exact ⟨rfl, by go_grown⟩
  have hle0 : ts0.length ≤ 1048576 := by omega
  have hl2 : (mkPT ts0 x1).length + (mkPC ts0 x1).length ≤ 1048576 := mkP_len ts0 x1
  have cs := fun A0 c0 W h0 k0 => c_specMakePz A0 c0 ts0 x1 W h0 (by omega) k0
  have ci := fun A0 c0 W h0 => c_implMakePz A0 c0 ts0 x1 W h0 (by omega)
  unfold RetPB at cs ci
  generalize mkPT ts0 x1 = T2 at cs ci hl2
  generalize mkPC ts0 x1 = C2 at cs ci hl2
  generalize mkPB ts0 x1 = bg at cs ci
  have Cs := Lib.hid cs
  have Ci := Lib.hid ci
  clear cs ci
  go_enter Try.func8, Try.ntmps8
  have hb : Below w.heap.size w w := Below.refl _ _
  have s0 : w.heap.size ≤ w.heap.size := Nat.le_refl _
  go_wp2_with fail
  refine (c_toIntS A0 c0 ts0 w (hr0.below hb) hle0).mono ?_
  rintro e w1 ⟨rfl, no, h1⟩
  generalize hA : (some ⟨w.heap.size, 0, none⟩ : Option Addr) = Api at no ⊢
  clear hA
  have lpi := no.lt
  replace hb := bstep hb h1
  have s1 : w.heap.size ≤ w1.heap.size := h1.size
  have opi := no
  clear no
  go_wp2_with fail
  refine (Cs.out Api _ w1 (RdI.of_own opi) (own_capG opi)).mono ?_
  rintro e w2 ⟨AWt, cWt, AWc, cWc, rfl, no, h2⟩
  replace hb := bstep hb h2
  replace opi := own_keep opi h2
  have s2 : w1.heap.size ≤ w2.heap.size := h2.size
  have oW := no
  clear no
  clear opi
  go_wp2_with fail
  obtain ⟨w3, hw⟩ : ∃ v, v = w2.alloc (.cells #[.slice AWt T2.length cWt, .slice AWc C2.length cWc] 30) := ⟨_, rfl⟩
  rw [← hw]
  have h3 : Below w2.heap.size w2 w3 := by rw [hw]; exact (Below.refl _ _).alloc (Nat.le_refl _) _
  have nb : Bx2 w3 w2.heap.size (.slice AWt T2.length cWt) (.slice AWc C2.length cWc) := by rw [hw]; exact Bx2.fresh w2 _ _ _
  have hz3 : w3.heap.size = w2.heap.size + 1 := by rw [hw]; simp
  clear hw
  replace hb := bstep hb h3
  replace oW := oW.below h3 (by omega)
  have s3 : w2.heap.size ≤ w3.heap.size := h3.size
  have bW := nb
  clear nb
  refine (c_toIntS A0 c0 ts0 w3 (hr0.below hb) hle0).mono ?_
  rintro e w4 ⟨rfl, no, h4⟩
  generalize hA : (some ⟨w3.heap.size, 0, none⟩ : Option Addr) = Axi at no ⊢
  clear hA
  have lxi := no.lt
  replace hb := bstep hb h4
  replace bW := bW.keep h4
  replace oW := oW.below h4 (by omega)
  have s4 : w3.heap.size ≤ w4.heap.size := h4.size
  have oxi := no
  clear no
  have xW0 := bW.c0
  have xW1 := bW.c1
  have nW := bW.lt
  go_wp2_with fail
  refine (Ci.out Axi _ w4 (RdI.of_own oxi)).mono ?_
  rintro e w5 ⟨AGt, cGt, AGc, cGc, rfl, no, h5⟩
  clear xW0 xW1 nW
  replace hb := bstep hb h5
  replace bW := bW.keep h5
  replace oW := oW.below h5 (by omega)
  replace oxi := own_keep oxi h5
  have s5 : w4.heap.size ≤ w5.heap.size := h5.size
  have oG := no
  clear no
  have xW0 := bW.c0
  have xW1 := bW.c1
  have nW := bW.lt
  go_wp2_with fail
  clear xW0 xW1 nW
  obtain ⟨w6, hw⟩ : ∃ v, v = w5.alloc (.cells #[.slice AGt T2.length cGt, .slice AGc C2.length cGc] 30) := ⟨_, rfl⟩
  rw [← hw]
  have h6 : Below w5.heap.size w5 w6 := by rw [hw]; exact (Below.refl _ _).alloc (Nat.le_refl _) _
  have nb : Bx2 w6 w5.heap.size (.slice AGt T2.length cGt) (.slice AGc C2.length cGc) := by rw [hw]; exact Bx2.fresh w5 _ _ _
  have hz6 : w6.heap.size = w5.heap.size + 1 := by rw [hw]; simp
  clear hw
  replace hb := bstep hb h6
  replace bW := bW.keep h6
  replace oW := oW.below h6 (by omega)
  replace oG := oG.below h6 (by omega)
  replace oxi := own_keep oxi h6
  have s6 : w5.heap.size ≤ w6.heap.size := h6.size
  have bG := nb
  clear nb
  refine (c_eqPuzzle_same AGt cGt AGc cGc AWt cWt AWc cWc T2 C2 _ (RdT.of_own oG.f) (RdI.of_own oG.r) (RdT.of_own oW.f) (RdI.of_own oW.r) (by omega) (by omega)).mono ?_
  rintro e w7 ⟨rfl, h7⟩
  replace hb := bstep hb h7
  replace bW := bW.keep h7
  replace bG := bG.keep h7
  replace oW := oW.below h7 (by omega)
  replace oG := oG.below h7 (by omega)
  replace oxi := own_keep oxi h7
  have s7 : w6.heap.size ≤ w7.heap.size := h7.size
  have xW0 := bW.c0
  have xW1 := bW.c1
  have nW := bW.lt
  have xG0 := bG.c0
  have xG1 := bG.c1
  have nG := bG.lt
  go_wp2_with fail
  refine (c_toIntS A0 c0 ts0 w7 (hr0.below hb) hle0).mono ?_
  rintro e w8 ⟨rfl, no, h8⟩
  generalize hA : (some ⟨w7.heap.size, 0, none⟩ : Option Addr) = Ayi at no ⊢
  clear hA
  have lyi := no.lt
  clear xW0 xW1 nW xG0 xG1 nG
  replace hb := bstep hb h8
  replace bW := bW.keep h8
  replace bG := bG.keep h8
  replace oW := oW.below h8 (by omega)
  replace oG := oG.below h8 (by omega)
  replace oxi := own_keep oxi h8
  have s8 : w7.heap.size ≤ w8.heap.size := h8.size
  have oyi := no
  clear no
  have xW0 := bW.c0
  have xW1 := bW.c1
  have nW := bW.lt
  have xG0 := bG.c0
  have xG1 := bG.c1
  have nG := bG.lt
  go_wp2_with fail
  refine (c_eqIntS_same Axi Ayi _ _ ts0 _ (RdI.of_own oxi) (RdI.of_own oyi) (by omega)).mono ?_
  rintro e w9 ⟨rfl, h9⟩
  clear xW0 xW1 nW xG0 xG1 nG
  replace hb := bstep hb h9
  replace bW := bW.keep h9
  replace bG := bG.keep h9
  replace oW := oW.below h9 (by omega)
  replace oG := oG.below h9 (by omega)
  replace oxi := own_keep oxi h9
  replace oyi := own_keep oyi h9
  have s9 : w8.heap.size ≤ w9.heap.size := h9.size
  clear oyi
  have xW0 := bW.c0
  have xW1 := bW.c1
  have nW := bW.lt
  have xG0 := bG.c0
  have xG1 := bG.c1
  have nG := bG.lt
  go_wp2_with fail
  refine (c_markIntS Axi _ _ ts0 (1) w9 oxi (by omega) (by omega)).mono ?_
  rintro e w10 ⟨rfl, no, hg⟩
  clear xW0 xW1 nW xG0 xG1 nG
  have s10 : w9.heap.size ≤ w10.heap.size := hg.size
  replace hb := hb.trans (below_of_grown hg (by omega) (fun g h => by have := lxi g h; omega))
  replace bW := bW.of_block (hg.block _ bW.lt (fun e => by have := lxi _ e.symm; omega))
  replace bG := bG.of_block (hg.block _ bG.lt (fun e => by have := lxi _ e.symm; omega))
  replace oW := oW.grown hg (fun g h => by have := lxi g h; omega)
  replace oG := oG.grown hg (fun g h => by have := lxi g h; omega)
  clear no oxi hg
  have xW0 := bW.c0
  have xW1 := bW.c1
  have nW := bW.lt
  have xG0 := bG.c0
  have xG1 := bG.c1
  have nG := bG.lt
  go_wp2_with fail
  refine (c_eqPuzzle_same AGt cGt AGc cGc AWt cWt AWc cWc T2 C2 _ (RdT.of_own oG.f) (RdI.of_own oG.r) (RdT.of_own oW.f) (RdI.of_own oW.r) (by omega) (by omega)).mono ?_
  rintro e w11 ⟨rfl, h11⟩
  clear xW0 xW1 nW xG0 xG1 nG
  replace hb := bstep hb h11
  replace bW := bW.keep h11
  replace bG := bG.keep h11
  replace oW := oW.below h11 (by omega)
  replace oG := oG.below h11 (by omega)
  have s11 : w10.heap.size ≤ w11.heap.size := h11.size
  have xW0 := bW.c0
  have xW1 := bW.c1
  have nW := bW.lt
  have xG0 := bG.c0
  have xG1 := bG.c1
  have nG := bG.lt
  go_wp2_with fail
  refine (c_markPuzzle AGt cGt T2 AGc cGc C2 w4.heap.size w5.heap.size (1) w11 oG (by omega) (by omega) (by omega) (by omega) (by omega)).mono ?_
  rintro e w12 ⟨rfl, no, h12, hx12⟩
  clear xW0 xW1 nW xG0 xG1 nG
  have s12 : w11.heap.size ≤ w12.heap.size := h12.size
  replace hb := hb.trans (h12.mono (by omega))
  replace bW := bW.of_block (hx12 _ (by omega) bW.lt)
  replace bG := bG.of_block (hx12 _ (by omega) bG.lt)
  replace oW := oW.below h12 (by omega)
  have oGm := no
  clear no oG h12 hx12
  have xW0 := bW.c0
  have xW1 := bW.c1
  have nW := bW.lt
  have xG0 := bG.c0
  have xG1 := bG.c1
  have nG := bG.lt
  go_wp2_with fail
  refine (c_heldPuzzle AGt cGt T2.length AGc cGc C2.length 1 _ (rdmarksT oGm.f) (rdmarksI oGm.r) (by omega) (by omega) (by omega)).mono ?_
  rintro e w13 ⟨rfl, h13⟩
  clear xW0 xW1 nW xG0 xG1 nG
  replace hb := bstep hb h13
  replace bW := bW.keep h13
  replace bG := bG.keep h13
  replace oW := oW.below h13 (by omega)
  replace oGm := oGm.below h13 (by omega)
  have s13 : w12.heap.size ≤ w13.heap.size := h13.size
  have xW0 := bW.c0
  have xW1 := bW.c1
  have nW := bW.lt
  have xG0 := bG.c0
  have xG1 := bG.c1
  have nG := bG.lt
  go_wp2_with fail
  refine (c_toIntS A0 c0 ts0 w13 (hr0.below hb) hle0).mono ?_
  rintro e w14 ⟨rfl, no, h14⟩
  generalize hA : (some ⟨w13.heap.size, 0, none⟩ : Option Addr) = Adi at no ⊢
  clear hA
  have ldi := no.lt
  clear xW0 xW1 nW xG0 xG1 nG
  replace hb := bstep hb h14
  replace bW := bW.keep h14
  replace bG := bG.keep h14
  replace oW := oW.below h14 (by omega)
  replace oGm := oGm.below h14 (by omega)
  have s14 : w13.heap.size ≤ w14.heap.size := h14.size
  have odi := no
  clear no
  have xW0 := bW.c0
  have xW1 := bW.c1
  have nW := bW.lt
  have xG0 := bG.c0
  have xG1 := bG.c1
  have nG := bG.lt
  go_wp2_with fail
  refine (Ci.out Adi _ w14 (RdI.of_own odi)).mono ?_
  rintro e w15 ⟨AHt, cHt, AHc, cHc, rfl, no, h15⟩
  clear xW0 xW1 nW xG0 xG1 nG
  replace hb := bstep hb h15
  replace bW := bW.keep h15
  replace bG := bG.keep h15
  replace oW := oW.below h15 (by omega)
  replace odi := own_keep odi h15
  replace oGm := oGm.below h15 (by omega)
  have s15 : w14.heap.size ≤ w15.heap.size := h15.size
  have oH := no
  clear no
  clear odi
  have xW0 := bW.c0
  have xW1 := bW.c1
  have nW := bW.lt
  have xG0 := bG.c0
  have xG1 := bG.c1
  have nG := bG.lt
  go_wp2_with fail
  clear xW0 xW1 nW xG0 xG1 nG
  obtain ⟨w16, hw⟩ : ∃ v, v = w15.alloc (.cells #[.slice AHt T2.length cHt, .slice AHc C2.length cHc] 30) := ⟨_, rfl⟩
  rw [← hw]
  have h16 : Below w15.heap.size w15 w16 := by rw [hw]; exact (Below.refl _ _).alloc (Nat.le_refl _) _
  have nb : Bx2 w16 w15.heap.size (.slice AHt T2.length cHt) (.slice AHc C2.length cHc) := by rw [hw]; exact Bx2.fresh w15 _ _ _
  have hz16 : w16.heap.size = w15.heap.size + 1 := by rw [hw]; simp
  clear hw
  replace hb := bstep hb h16
  replace bW := bW.keep h16
  replace bG := bG.keep h16
  replace oW := oW.below h16 (by omega)
  replace oH := oH.below h16 (by omega)
  replace oGm := oGm.below h16 (by omega)
  have s16 : w15.heap.size ≤ w16.heap.size := h16.size
  have bH := nb
  clear nb
  refine (c_eqPuzzle_same AHt cHt AHc cHc AWt cWt AWc cWc T2 C2 _ (RdT.of_own oH.f) (RdI.of_own oH.r) (RdT.of_own oW.f) (RdI.of_own oW.r) (by omega) (by omega)).mono ?_
  rintro e w17 ⟨rfl, h17⟩
  replace hb := bstep hb h17
  replace bW := bW.keep h17
  replace bG := bG.keep h17
  replace bH := bH.keep h17
  replace oW := oW.below h17 (by omega)
  replace oH := oH.below h17 (by omega)
  replace oGm := oGm.below h17 (by omega)
  have s17 : w16.heap.size ≤ w17.heap.size := h17.size
  have xW0 := bW.c0
  have xW1 := bW.c1
  have nW := bW.lt
  have xG0 := bG.c0
  have xG1 := bG.c1
  have nG := bG.lt
  have xH0 := bH.c0
  have xH1 := bH.c1
  have nH := bH.lt
  go_wp2_with fail
  refine (c_heldPuzzle AGt cGt T2.length AGc cGc C2.length 1 _ (rdmarksT oGm.f) (rdmarksI oGm.r) (by omega) (by omega) (by omega)).mono ?_
  rintro e w18 ⟨rfl, h18⟩
  clear xW0 xW1 nW xG0 xG1 nG xH0 xH1 nH
  replace hb := bstep hb h18
  replace bW := bW.keep h18
  replace bG := bG.keep h18
  replace bH := bH.keep h18
  replace oW := oW.below h18 (by omega)
  replace oH := oH.below h18 (by omega)
  replace oGm := oGm.below h18 (by omega)
  have s18 : w17.heap.size ≤ w18.heap.size := h18.size
  go_wp2
  go_ret
  exact ⟨rfl, hb⟩

set_option maxRecDepth 100000 in
theorem lifted_FnExactMakePuzzle (os : Os) (started : os.Started) (H : Type) (enc : TypeId × Value → H) :
    ReturnsInHanded {} Try.checked os 8 .any (Rows.fnExactMakePuzzleSpec.pre6 enc Try.prog Try.f8 Rows.fnExactMakePuzzleRow.domain false) (Rows.fnExactMakePuzzleSpec.post enc Try.prog Try.f8 false true false false) := by
  refine returnsInHanded_of_change (C := Try.checked) Try.own_ started (by kernel_rfl) Try.func8
    (ChangeSpec.witness6 (enc := enc) (C := Try.checked) false ⟨#[], #[.slice none 0 0, .int .i64 0], []⟩ 8 (by kernel_rfl) (by kernel_rfl) (by kernel_rfl) (by kernel_rfl)) ?_
  intro W base args ds gs before hval0 hW hcnd _
  have hval : ∀ (j : Nat) t v, Try.f8.params[j]? = some t → args[j]? = some v → Value.okWide Try.prog W .any base t v := hval0
  have hW' := hW
  obtain ⟨p, q, hA0, hV, rfl, hfz, hnd⟩ := hW
  have hA : DataW.TrodAll enc Try.prog W 0 (fun _ => true) true Try.f8.params.toList args.toList ds p := hA0
  rw [Try.params8] at hA hval
  obtain ⟨v0, vs0, d0, ds0, p0, q0, hargs0, rfl, rfl, h0, r0⟩ := trodAll_cons hA
  obtain ⟨v1, vs1, d1, ds1, p1, q1, rfl, rfl, rfl, h1, r1⟩ := trodAll_cons r0
  obtain ⟨rfl, rfl, rfl⟩ := trodAll_nil r1
  obtain rfl : args = #[v0, v1] := by cases args; simp_all
  obtain ⟨rfl, rfl⟩ := trodVars_none hV
  obtain ⟨A0, c0, ts0, rfl, hr0, hl0⟩ := open_nums (hval 0 23 v0 rfl rfl) h0
  obtain ⟨x1, rfl, _, _, wf1⟩ := open_int Try.underlying3 (hval 1 3 v1 rfl rfl) h1
  refine (w_FnExactMakePuzzle A0 c0 ts0 x1 W hr0 hl0 (wf_lo wf1) (wf_hi wf1)).mono fun e W' ⟨he, hg⟩ => ?_
  subst he
  exact ⟨_, rfl, law_post rfl rfl (of_decide_eq_true (by kernel_rfl)) hW' rfl hg⟩

theorem fnExactMakePuzzle_holds : Rows.FnExactMakePuzzleSaid :=
  OpenClaim.holds_of_wide 8 Try.f8 rfl rfl rfl rfl rfl rfl rfl ⟨rfl, rfl, rfl, rfl, rfl⟩ rfl rfl rfl rfl rfl (by kernel_rfl) Try.func8 (by kernel_rfl)
    (of_decide_eq_true (by kernel_rfl)) (by unfold Func.isWrapper; first | (rw [if_pos (by decide +kernel)]; kernel_rfl) | (rw [if_neg (by decide +kernel)]; exact ⟨rfl, rfl⟩))
    (fun os started H enc _ => lifted_FnExactMakePuzzle os started H enc)
#print axioms fnExactMakePuzzle_holds

end Go.Proofs.Ytjdnkcdnppcbhaa

/- The law of ParsePuzzle: at every text both functions answer alike, and each answer owns its memory. No condition. -/
import Derived.Test.YtjdnkcdnppcbhabDoorPzPi
import Derived.Test.YtjdnkcdnppcbhabDoorPzPs
import Derived.Test.YtjdnkcdnppcbhabDoorPzL
import Derived.Test.YtjdnkcdnppcbhabDoorLawPz
import Derived.Test.YtjdnkcdnppcbhabDoorLawS
import Derived.Test.YtjdnkcdnppcbhabDoorDoorS
namespace Go.Proofs.YtjdnkcdnppcbhabDoor
open Go.ChangeShapes Go.WideShapes Go.ChangeAt Go.RowKit Go.Joins
set_option linter.unusedVariables false

set_option maxRecDepth 100000 in
set_option maxHeartbeats 4000000 in
theorem w_FnExactParsePuzzle (s0 : ByteArray) (w : World) (hl0 : s0.size ≤ 9223372036854775807) (m : Int) (hm : w.cell? ⟨0, 0, none⟩ = some (.int .i64 m)) :
    Calls Tryd.prog 4 #[.string s0] w fun e w' => e = .returned (.bool true) ∧ Below w.heap.size w w' := by
  by_cases hbig0 : 1048576 < s0.size
  · go_enter Tryd.func4, Tryd.ntmps4
    go_wp2_with fail
    go_ret
    exact ⟨rfl, by go_grown⟩
  have hle0 : s0.size ≤ 1048576 := by omega
  have hl2 : (parPT s0).length + (parPC s0).length ≤ 1048576 := parP_len s0
  have cs := fun W => c_specParsePz s0 W hle0
  have ci := fun W (hb : Below w.heap.size w W) => c_implParsePz s0 m W (keepc hb hm) hle0
  unfold RetPB at cs ci
  generalize parPT s0 = T2 at cs ci hl2
  generalize parPC s0 = C2 at cs ci hl2
  generalize parPB s0 = bg at cs ci
  have Cs := Lib.hid cs
  have Ci := Lib.hid ci
  clear cs ci
  go_enter Tryd.func4, Tryd.ntmps4
  have hb : Below w.heap.size w w := Below.refl _ _
  have s0 : w.heap.size ≤ w.heap.size := Nat.le_refl _
  go_wp2_with fail
  refine (Cs.out  w  ).mono ?_
  rintro e w1 ⟨AWt, cWt, AWc, cWc, rfl, no, h1⟩
  replace hb := bstep hb h1
  have s1 : w.heap.size ≤ w1.heap.size := h1.size
  have oW := no
  clear no
  go_wp2_with fail
  obtain ⟨w2, hw⟩ : ∃ v, v = w1.alloc (.cells #[.slice AWt T2.length cWt, .slice AWc C2.length cWc] 31) := ⟨_, rfl⟩
  rw [← hw]
  have h2 : Below w1.heap.size w1 w2 := by rw [hw]; exact (Below.refl _ _).alloc (Nat.le_refl _) _
  have nb : Bx2 w2 w1.heap.size (.slice AWt T2.length cWt) (.slice AWc C2.length cWc) := by rw [hw]; exact Bx2.fresh w1 _ _ _
  have hz2 : w2.heap.size = w1.heap.size + 1 := by rw [hw]; simp
  clear hw
  replace hb := bstep hb h2
  replace oW := oW.below h2 (by omega)
  have s2 : w1.heap.size ≤ w2.heap.size := h2.size
  have bW := nb
  clear nb
  refine (Ci.out  w2 hb).mono ?_
  rintro e w3 ⟨AGt, cGt, AGc, cGc, rfl, no, h3⟩
  replace hb := bstep hb h3
  replace bW := bW.keep h3
  replace oW := oW.below h3 (by omega)
  have s3 : w2.heap.size ≤ w3.heap.size := h3.size
  have oG := no
  clear no
  have xW0 := bW.c0
  have xW1 := bW.c1
  have nW := bW.lt
  go_wp2_with fail
  clear xW0 xW1 nW
  obtain ⟨w4, hw⟩ : ∃ v, v = w3.alloc (.cells #[.slice AGt T2.length cGt, .slice AGc C2.length cGc] 31) := ⟨_, rfl⟩
  rw [← hw]
  have h4 : Below w3.heap.size w3 w4 := by rw [hw]; exact (Below.refl _ _).alloc (Nat.le_refl _) _
  have nb : Bx2 w4 w3.heap.size (.slice AGt T2.length cGt) (.slice AGc C2.length cGc) := by rw [hw]; exact Bx2.fresh w3 _ _ _
  have hz4 : w4.heap.size = w3.heap.size + 1 := by rw [hw]; simp
  clear hw
  replace hb := bstep hb h4
  replace bW := bW.keep h4
  replace oW := oW.below h4 (by omega)
  replace oG := oG.below h4 (by omega)
  have s4 : w3.heap.size ≤ w4.heap.size := h4.size
  have bG := nb
  clear nb
  refine (c_eqPuzzle_same AGt cGt AGc cGc AWt cWt AWc cWc T2 C2 _ (RdT.of_own oG.f) (RdI.of_own oG.r) (RdT.of_own oW.f) (RdI.of_own oW.r) (by omega) (by omega)).mono ?_
  rintro e w5 ⟨rfl, h5⟩
  replace hb := bstep hb h5
  replace bW := bW.keep h5
  replace bG := bG.keep h5
  replace oW := oW.below h5 (by omega)
  replace oG := oG.below h5 (by omega)
  have s5 : w4.heap.size ≤ w5.heap.size := h5.size
  have xW0 := bW.c0
  have xW1 := bW.c1
  have nW := bW.lt
  have xG0 := bG.c0
  have xG1 := bG.c1
  have nG := bG.lt
  go_wp2_with fail
  refine (c_markPuzzle AGt cGt T2 AGc cGc C2 w2.heap.size w3.heap.size (1) w5 oG (by omega) (by omega) (by omega) (by omega) (by omega)).mono ?_
  rintro e w6 ⟨rfl, no, h6, hx6⟩
  clear xW0 xW1 nW xG0 xG1 nG
  have s6 : w5.heap.size ≤ w6.heap.size := h6.size
  replace hb := hb.trans (h6.mono (by omega))
  replace bW := bW.of_block (hx6 _ (by omega) bW.lt)
  replace bG := bG.of_block (hx6 _ (by omega) bG.lt)
  replace oW := oW.below h6 (by omega)
  have oGm := no
  clear no oG h6 hx6
  have xW0 := bW.c0
  have xW1 := bW.c1
  have nW := bW.lt
  have xG0 := bG.c0
  have xG1 := bG.c1
  have nG := bG.lt
  go_wp2_with fail
  refine (c_heldPuzzle AGt cGt T2.length AGc cGc C2.length 1 _ (rdmarksT oGm.f) (rdmarksI oGm.r) (by omega) (by omega) (by omega)).mono ?_
  rintro e w7 ⟨rfl, h7⟩
  clear xW0 xW1 nW xG0 xG1 nG
  replace hb := bstep hb h7
  replace bW := bW.keep h7
  replace bG := bG.keep h7
  replace oW := oW.below h7 (by omega)
  replace oGm := oGm.below h7 (by omega)
  have s7 : w6.heap.size ≤ w7.heap.size := h7.size
  have xW0 := bW.c0
  have xW1 := bW.c1
  have nW := bW.lt
  have xG0 := bG.c0
  have xG1 := bG.c1
  have nG := bG.lt
  go_wp2_with fail
  refine (Ci.out  w7 hb).mono ?_
  rintro e w8 ⟨AHt, cHt, AHc, cHc, rfl, no, h8⟩
  clear xW0 xW1 nW xG0 xG1 nG
  replace hb := bstep hb h8
  replace bW := bW.keep h8
  replace bG := bG.keep h8
  replace oW := oW.below h8 (by omega)
  replace oGm := oGm.below h8 (by omega)
  have s8 : w7.heap.size ≤ w8.heap.size := h8.size
  have oH := no
  clear no
  have xW0 := bW.c0
  have xW1 := bW.c1
  have nW := bW.lt
  have xG0 := bG.c0
  have xG1 := bG.c1
  have nG := bG.lt
  go_wp2_with fail
  clear xW0 xW1 nW xG0 xG1 nG
  obtain ⟨w9, hw⟩ : ∃ v, v = w8.alloc (.cells #[.slice AHt T2.length cHt, .slice AHc C2.length cHc] 31) := ⟨_, rfl⟩
  rw [← hw]
  have h9 : Below w8.heap.size w8 w9 := by rw [hw]; exact (Below.refl _ _).alloc (Nat.le_refl _) _
  have nb : Bx2 w9 w8.heap.size (.slice AHt T2.length cHt) (.slice AHc C2.length cHc) := by rw [hw]; exact Bx2.fresh w8 _ _ _
  have hz9 : w9.heap.size = w8.heap.size + 1 := by rw [hw]; simp
  clear hw
  replace hb := bstep hb h9
  replace bW := bW.keep h9
  replace bG := bG.keep h9
  replace oW := oW.below h9 (by omega)
  replace oH := oH.below h9 (by omega)
  replace oGm := oGm.below h9 (by omega)
  have s9 : w8.heap.size ≤ w9.heap.size := h9.size
  have bH := nb
  clear nb
  refine (c_eqPuzzle_same AHt cHt AHc cHc AWt cWt AWc cWc T2 C2 _ (RdT.of_own oH.f) (RdI.of_own oH.r) (RdT.of_own oW.f) (RdI.of_own oW.r) (by omega) (by omega)).mono ?_
  rintro e w10 ⟨rfl, h10⟩
  replace hb := bstep hb h10
  replace bW := bW.keep h10
  replace bG := bG.keep h10
  replace bH := bH.keep h10
  replace oW := oW.below h10 (by omega)
  replace oH := oH.below h10 (by omega)
  replace oGm := oGm.below h10 (by omega)
  have s10 : w9.heap.size ≤ w10.heap.size := h10.size
  have xW0 := bW.c0
  have xW1 := bW.c1
  have nW := bW.lt
  have xG0 := bG.c0
  have xG1 := bG.c1
  have nG := bG.lt
  have xH0 := bH.c0
  have xH1 := bH.c1
  have nH := bH.lt
  go_wp2_with fail
  refine (c_heldPuzzle AGt cGt T2.length AGc cGc C2.length 1 _ (rdmarksT oGm.f) (rdmarksI oGm.r) (by omega) (by omega) (by omega)).mono ?_
  rintro e w11 ⟨rfl, h11⟩
  clear xW0 xW1 nW xG0 xG1 nG xH0 xH1 nH
  replace hb := bstep hb h11
  replace bW := bW.keep h11
  replace bG := bG.keep h11
  replace bH := bH.keep h11
  replace oW := oW.below h11 (by omega)
  replace oH := oH.below h11 (by omega)
  replace oGm := oGm.below h11 (by omega)
  have s11 : w10.heap.size ≤ w11.heap.size := h11.size
  go_wp2
  go_ret
  exact ⟨rfl, hb⟩

set_option maxRecDepth 100000 in
theorem lifted_FnExactParsePuzzle (os : Os) (started : os.Started) (H : Type) (enc : TypeId × Value → H) :
    ReturnsInHanded {} Tryd.checked os 4 .any (fun w args => (Rows.fnExactParsePuzzleSpec.pre enc Tryd.prog Tryd.f4 [] false w args ∧ laidMetH Tryd.prog Rows.fnExactParsePuzzleRow.laid w) ∧ sizedMet enc Tryd.prog Tryd.f4 (OpenSpec.ofChange Rows.fnExactParsePuzzleSpec) false w args) (Rows.fnExactParsePuzzleSpec.post enc Tryd.prog Tryd.f4 false true false false) := by
  refine handed_and_shaped (C := Tryd.checked) (X := fun w _ => laidMetH Tryd.prog Rows.fnExactParsePuzzleRow.laid w) (fun _ _ _ hh h => h.of_heap hh) Tryd.own_ started (by kernel_rfl) Tryd.func4
    (ChangeSpec.witness_shaped (enc := enc) (C := Tryd.checked) (os := os) (X := fun w _ => laidMetH Tryd.prog Rows.fnExactParsePuzzleRow.laid w) false (World.laidAll Tryd.prog os Rows.fnExactParsePuzzleRow.laid) #[.string ⟨#[]⟩] 8 (World.laidAll_os _ _ _) (World.shaped_of_ZipB (by kernel_rfl) (by kernel_rfl)) (by kernel_rfl) (by kernel_rfl) (by kernel_rfl)
      (by rw [MakeChecks.laidMetH_plain _ _ _ (by kernel_rfl)]; exact laidMet_laidAll _ (by kernel_rfl) (by kernel_rfl))) ?_
  intro W base args ds gs before hval0 hW hL hsh
  obtain ⟨m, hm⟩ := Tryd.laysM146.s1_3 W hsh
  have hval : ∀ (j : Nat) t v, Tryd.f4.params[j]? = some t → args[j]? = some v → Value.okWide Tryd.prog W .any base t v := hval0
  have hW' := hW
  obtain ⟨p, q, hA0, hV, rfl, hfz, hnd⟩ := hW
  have hA : DataW.TrodAll enc Tryd.prog W 0 (fun _ => true) true Tryd.f4.params.toList args.toList ds p := hA0
  rw [Tryd.params4] at hA hval
  obtain ⟨v0, vs0, d0, ds0, p0, q0, hargs0, rfl, rfl, h0, r0⟩ := trodAll_cons hA
  obtain ⟨rfl, rfl, rfl⟩ := trodAll_nil r0
  obtain rfl : args = #[v0] := by cases args; simp_all
  obtain ⟨rfl, rfl⟩ := trodVars_none hV
  obtain ⟨s0, rfl, hl0⟩ := open_str (hval 0 9 v0 rfl rfl) h0
  refine (w_FnExactParsePuzzle s0 W hl0 m hm).mono fun e W' ⟨he, hg⟩ => ?_
  subst he
  exact ⟨_, rfl, law_post rfl rfl (of_decide_eq_true (by kernel_rfl)) hW' rfl hg⟩

theorem fnExactParsePuzzle_holds : Rows.FnExactParsePuzzleSaid :=
  OpenClaim.holds_of_wide 4 Tryd.f4 rfl rfl rfl rfl rfl rfl rfl ⟨rfl, rfl, rfl, rfl, rfl⟩ rfl rfl rfl rfl rfl (by kernel_rfl) Tryd.func4 (by kernel_rfl)
    (of_decide_eq_true (by kernel_rfl)) (by unfold Func.isWrapper; first | (rw [if_pos (by decide +kernel)]; kernel_rfl) | (rw [if_neg (by decide +kernel)]; exact ⟨rfl, rfl⟩))
    (fun os started H enc _ => lifted_FnExactParsePuzzle os started H enc)
#print axioms fnExactParsePuzzle_holds

end Go.Proofs.YtjdnkcdnppcbhabDoor

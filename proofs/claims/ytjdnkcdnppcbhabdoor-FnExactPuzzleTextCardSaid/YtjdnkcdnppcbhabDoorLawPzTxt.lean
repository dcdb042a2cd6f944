/- The law of PuzzleText: at every puzzle both functions answer alike and leave it alone. No condition. -/
import Derived.Test.YtjdnkcdnppcbhabDoorPzY
import Derived.Test.YtjdnkcdnppcbhabDoorPzL
import Derived.Test.YtjdnkcdnppcbhabDoorLawPz
import Derived.Test.YtjdnkcdnppcbhabDoorDoor
namespace Go.Proofs.YtjdnkcdnppcbhabDoor
open Go.ChangeShapes Go.WideShapes Go.ChangeAt Go.RowKit Go.Joins
set_option linter.unusedVariables false

set_option maxRecDepth 100000 in
set_option maxHeartbeats 4000000 in
theorem w_FnExactPuzzleText (AT : Option Addr) (cT : Nat) (T : List (Int × Int)) (AC : Option Addr) (cC : Nat) (C : List Int) (w : World) (hT : RdT w AT T) (lT : T.length ≤ 9223372036854775807) (hC : RdI w AC C) (lC : C.length ≤ 9223372036854775807) :
    Calls Tryd.prog 3 #[.agg #[.slice AT T.length cT, .slice AC C.length cC]] w fun e w' => e = .returned (.bool true) ∧ Below w.heap.size w w' := by
  by_cases hbig : 1048576 < T.length + C.length
  · have q0 : True := trivial
    go_enter Tryd.func3, Tryd.ntmps3
    go_wp2_with fail
    obtain ⟨w0, hw0⟩ : ∃ w0, w0 = w.alloc (.cells #[.slice AT T.length cT, .slice AC C.length cC] 25) := ⟨_, rfl⟩
    rw [← hw0]
    have ba0 : Bx2 w0 w.heap.size (.slice AT T.length cT) (.slice AC C.length cC) := by rw [hw0]; exact Bx2.fresh w _ _ _
    have hb0 : Below w.heap.size w w0 := by rw [hw0]; go_grown
    clear hw0
    refine (c_szPuzzle_no AT cT T AC cC C w0 lT lC hbig).mono ?_
    rintro e w1 ⟨rfl, h1⟩
    have hb1 := bstep hb0 h1
    go_wp2
    go_ret
    exact ⟨rfl, hb1⟩
  have hle : T.length + C.length ≤ 1048576 := by omega
  have hlt : ¬ (1048576 - (T.length : Int) - (C.length : Int)) < 0 := by omega
  go_enter Tryd.func3, Tryd.ntmps3
  go_wp2_with fail
  have hb : Below w.heap.size w w := Below.refl _ _
  have s0 : w.heap.size ≤ w.heap.size := Nat.le_refl _
  obtain ⟨w1, hw⟩ : ∃ v, v = w.alloc (.cells #[.slice AT T.length cT, .slice AC C.length cC] 25) := ⟨_, rfl⟩
  rw [← hw]
  have h1 : Below w.heap.size w w1 := by rw [hw]; exact (Below.refl _ _).alloc (Nat.le_refl _) _
  have nb : Bx2 w1 w.heap.size (.slice AT T.length cT) (.slice AC C.length cC) := by rw [hw]; exact Bx2.fresh w _ _ _
  have hz1 : w1.heap.size = w.heap.size + 1 := by rw [hw]; simp
  clear hw
  replace hb := bstep hb h1
  have s1 : w.heap.size ≤ w1.heap.size := h1.size
  have ba := nb
  clear nb
  refine (c_szPuzzle_yes AT cT T AC cC C w1 hle).mono ?_
  rintro e w2 ⟨rfl, h2⟩
  replace hb := bstep hb h2
  replace ba := ba.keep h2
  have s2 : w1.heap.size ≤ w2.heap.size := h2.size
  have xa0 := ba.c0
  have xa1 := ba.c1
  have na := ba.lt
  go_wp2_with fail
  refine (c_toPuzzle AT cT T AC cC C w2 (hT.below hb) (hC.below hb) hle).mono ?_
  rintro e w3 ⟨Apt, cpt, Apc, cpc, rfl, no, h3⟩
  clear xa0 xa1 na
  replace hb := bstep hb h3
  replace ba := ba.keep h3
  have s3 : w2.heap.size ≤ w3.heap.size := h3.size
  have op := no
  clear no
  have xa0 := ba.c0
  have xa1 := ba.c1
  have na := ba.lt
  go_wp2_with fail
  refine (c_specPzText Apt cpt T Apc cpc C _ (RdT.of_own op.f) (RdI.of_own op.r) (by omega) (own_capG op.f)).mono ?_
  rintro e w4 ⟨rfl, h4⟩
  clear xa0 xa1 na
  replace hb := bstep hb h4
  replace ba := ba.keep h4
  replace op := op.below h4 (by omega)
  have s4 : w3.heap.size ≤ w4.heap.size := h4.size
  clear op
  have xa0 := ba.c0
  have xa1 := ba.c1
  have na := ba.lt
  go_wp2_with fail
  refine (c_toPuzzle AT cT T AC cC C w4 (hT.below hb) (hC.below hb) hle).mono ?_
  rintro e w5 ⟨Axt, cxt, Axc, cxc, rfl, no, h5⟩
  clear xa0 xa1 na
  replace hb := bstep hb h5
  replace ba := ba.keep h5
  have s5 : w4.heap.size ≤ w5.heap.size := h5.size
  have ox := no
  clear no
  have xa0 := ba.c0
  have xa1 := ba.c1
  have na := ba.lt
  go_wp2_with fail
  clear xa0 xa1 na
  obtain ⟨w6, hw⟩ : ∃ v, v = w5.alloc (.cells #[.slice Axt T.length cxt, .slice Axc C.length cxc] 31) := ⟨_, rfl⟩
  rw [← hw]
  have h6 : Below w5.heap.size w5 w6 := by rw [hw]; exact (Below.refl _ _).alloc (Nat.le_refl _) _
  have nb : Bx2 w6 w5.heap.size (.slice Axt T.length cxt) (.slice Axc C.length cxc) := by rw [hw]; exact Bx2.fresh w5 _ _ _
  have hz6 : w6.heap.size = w5.heap.size + 1 := by rw [hw]; simp
  clear hw
  replace hb := bstep hb h6
  replace ba := ba.keep h6
  replace ox := ox.below h6 (by omega)
  have s6 : w5.heap.size ≤ w6.heap.size := h6.size
  have bx := nb
  clear nb
  refine (c_implPzText Axt cxt T Axc cxc C _ (RdT.of_own ox.f) (RdI.of_own ox.r) (by omega)).mono ?_
  rintro e w7 ⟨rfl, h7⟩
  replace hb := bstep hb h7
  replace ba := ba.keep h7
  replace bx := bx.keep h7
  replace ox := ox.below h7 (by omega)
  have s7 : w6.heap.size ≤ w7.heap.size := h7.size
  have xa0 := ba.c0
  have xa1 := ba.c1
  have na := ba.lt
  have xx0 := bx.c0
  have xx1 := bx.c1
  have nx := bx.lt
  go_wp2_with fail
  have hbd : Below w.heap.size w w7.drew := hb.drew
  go_region_held3 (fun w' => w'.cell? ⟨w.heap.size, 0, none⟩ = some (.slice AT T.length cT) ∧ w'.cell? ⟨w.heap.size, 1, none⟩ = some (.slice AC C.length cC) ∧ w'.cell? ⟨w5.heap.size, 0, none⟩ = some (.slice Axt T.length cxt) ∧ w'.cell? ⟨w5.heap.size, 1, none⟩ = some (.slice Axc C.length cxc)) (first | exact ⟨zxa0, zxa1, zxx0, zxx1⟩ | exact ⟨yxa0, yxa1, yxx0, yxx1⟩ | go_keep) (first | (go_at_call 7; refine (c_toPuzzle AT cT T AC cC C _ (hT.below hbd) (hC.below hbd) hle).mono ?_; rintro e w8 ⟨Bf, df, Br, dr, rfl, ob, h8⟩; have hb8 := bstep hbd h8; have yxa0 := keepc h8 (gdG _ xa0); have yxa1 := keepc h8 (gdG _ xa1); have yxx0 := keepc h8 (gdG _ xx0); have yxx1 := keepc h8 (gdG _ xx1)) | (go_at_call 9; refine (c_eqPuzzle_same Axt cxt Axc cxc Bf df Br dr T C _ (RdT.of_own (own_keep (own_drew ox.f) h8)) (RdI.of_own (own_keep (own_drew ox.r) h8)) (RdT.of_own ob.f) (RdI.of_own ob.r) lT lC).mono ?_; rintro e w9 ⟨rfl, h9⟩; have hb9 := bstep hb8 h9; have zxa0 := keepc h9 yxa0; have zxa1 := keepc h9 yxa1; have zxx0 := keepc h9 yxx0; have zxx1 := keepc h9 yxx1))
  have hR9 : Below w7.heap.size w7 w9 := bstep (bstep (Below.refl w7.heap.size w7).drew h8) h9
  clear xa0 xa1 na xx0 xx1 nx yxa0 yxa1 yxx0 yxx1 zxa0 zxa1 zxx0 zxx1 hbd hb8 hb9 ob
  replace hb := bstep hb hR9
  replace ba := ba.keep hR9
  replace bx := bx.keep hR9
  replace ox := ox.below hR9 (by omega)
  have s9 : w7.heap.size ≤ w9.heap.size := hR9.size
  go_wp2
  go_ret
  exact ⟨rfl, hb⟩

set_option maxRecDepth 100000 in
theorem door_FnExactPuzzleText (os : Os) (args : Array Value) : laidMetH Tryd.prog Rows.fnExactPuzzleTextRow.laid ((World.doorLaid Tryd.prog 4000 os).forCall (fun _ _ => 0) ⟨#[], args, []⟩).memory :=
  laidMetH_of_parts3 (fuel := 8) (laidMet_of_run' 8 (by kernel_rfl) (by kernel_rfl)) (by kernel_rfl) (by kernel_rfl)

set_option maxRecDepth 100000 in
theorem lifted_FnExactPuzzleText (os : Os) (started : os.Started) (H : Type) (enc : TypeId × Value → H) :
    ReturnsInHanded {} Tryd.checked os 3 .any (fun w args => (Rows.fnExactPuzzleTextSpec.pre enc Tryd.prog Tryd.f3 [] false w args ∧ laidMetH Tryd.prog Rows.fnExactPuzzleTextRow.laid w) ∧ sizedMet enc Tryd.prog Tryd.f3 (OpenSpec.ofChange Rows.fnExactPuzzleTextSpec) false w args) (Rows.fnExactPuzzleTextSpec.post enc Tryd.prog Tryd.f3 false true false false) := by
  refine returnsInHanded_of_change_and (C := Tryd.checked) (X := fun w _ => laidMetH Tryd.prog Rows.fnExactPuzzleTextRow.laid w) (fun _ _ _ hh h => h.of_heap hh) Tryd.own_ started (by kernel_rfl) Tryd.func3
    (ChangeSpec.witness_shaped (enc := enc) (C := Tryd.checked) (os := os) (X := fun w _ => laidMetH Tryd.prog Rows.fnExactPuzzleTextRow.laid w) false (World.doorLaid Tryd.prog 4000 os) #[.agg #[.slice none 0 0, .slice none 0 0]] 8 rfl (World.shaped_of_RefB (by kernel_rfl) (by kernel_rfl)) (by kernel_rfl) (by kernel_rfl) (by kernel_rfl) (door_FnExactPuzzleText os _)) ?_
  intro W base args ds gs before hval0 hW _ _ hL hsh
  have hval : ∀ (j : Nat) t v, Tryd.f3.params[j]? = some t → args[j]? = some v → Value.okWide Tryd.prog W .any base t v := hval0
  have hW' := hW
  obtain ⟨p, q, hA0, hV, rfl, hfz, hnd⟩ := hW
  have hA : DataW.TrodAll enc Tryd.prog W 0 (fun _ => true) true Tryd.f3.params.toList args.toList ds p := hA0
  rw [Tryd.params3] at hA hval
  obtain ⟨v0, vs0, d0, ds0, p0, q0, hargs0, rfl, rfl, h0, r0⟩ := trodAll_cons hA
  obtain ⟨rfl, rfl, rfl⟩ := trodAll_nil r0
  obtain rfl : args = #[v0] := by cases args; simp_all
  obtain ⟨rfl, rfl⟩ := trodVars_none hV
  obtain ⟨AT, cT, T, AC, cC, C, rfl, ⟨hT, lT⟩, ⟨hC, lC⟩⟩ := open_puzzle (hval 0 25 v0 rfl rfl) h0
  refine (w_FnExactPuzzleText AT cT T AC cC C W hT lT hC lC).mono fun e W' ⟨he, hg⟩ => ?_
  subst he
  exact ⟨_, rfl, law_post rfl rfl (of_decide_eq_true (by kernel_rfl)) hW' rfl hg⟩

theorem fnExactPuzzleText_holds : Rows.FnExactPuzzleTextSaid :=
  OpenClaim.holds_of_wide 3 Tryd.f3 rfl rfl rfl rfl rfl rfl rfl ⟨rfl, rfl, rfl, rfl, rfl⟩ rfl rfl rfl rfl rfl (by kernel_rfl) Tryd.func3 (by kernel_rfl)
    (of_decide_eq_true (by kernel_rfl)) (by unfold Func.isWrapper; first | (rw [if_pos (by decide +kernel)]; kernel_rfl) | (rw [if_neg (by decide +kernel)]; exact ⟨rfl, rfl⟩))
    (fun os started H enc _ => lifted_FnExactPuzzleText os started H enc)
#print axioms fnExactPuzzleText_holds

end Go.Proofs.YtjdnkcdnppcbhabDoor

/- The law of IsSolution: at every puzzle and list of numbers both functions answer alike and leave them alone. No condition. -/
import Derived.Test.YtjdnkcdnppcbhaaPzW
import Derived.Test.YtjdnkcdnppcbhaaPzX
import Derived.Test.YtjdnkcdnppcbhaaPzL
import Derived.Test.YtjdnkcdnppcbhaaLawPz
namespace Go.Proofs.Ytjdnkcdnppcbhaa
open Go.ChangeShapes Go.WideShapes Go.ChangeAt Go.RowKit Go.Joins
set_option linter.unusedVariables false

set_option maxRecDepth 100000 in
set_option maxHeartbeats 4000000 in
theorem w_FnExactIsSolution (AT : Option Addr) (cT : Nat) (T : List (Int × Int)) (AC : Option Addr) (cC : Nat) (C : List Int) (A1 : Option Addr) (c1 : Nat) (ts1 : List Int) (w : World) (hT : RdT w AT T) (lT : T.length ≤ 9223372036854775807) (hC : RdI w AC C) (lC : C.length ≤ 9223372036854775807) (hr1 : RdI w A1 ts1) (hl1 : ts1.length ≤ 9223372036854775807) :
    Calls Try.prog 5 #[.agg #[.slice AT T.length cT, .slice AC C.length cC], .slice A1 ts1.length c1] w fun e w' => e = .returned (.bool true) ∧ Below w.heap.size w w' := by
  by_cases hbig1 : 1048576 < ts1.length
  · go_enter Try.func5, Try.ntmps5
    go_wp2_with fail
    go_ret
    exact ⟨rfl, by go_grown⟩
  have hle1 : ts1.length ≤ 1048576 := by omega
  by_cases hbig : 1048576 < T.length + C.length
  · have q0 : True := trivial
    go_enter Try.func5, Try.ntmps5
    go_wp2_with fail
    obtain ⟨w0, hw0⟩ : ∃ w0, w0 = w.alloc (.cells #[.slice AT T.length cT, .slice AC C.length cC] 25) := ⟨_, rfl⟩
    rw [← hw0]
    have ba0 : Bx2 w0 w.heap.size (.slice AT T.length cT) (.slice AC C.length cC) := by rw [hw0]; exact Bx2.fresh w _ _ _
    have hb0 : Below w.heap.size w w0 := by rw [hw0]; go_grown
    clear hw0
    refine (c_szPuzzle_no AT cT T AC cC C w0 lT lC hbig).mono ?_
    rintro e w1 ⟨rfl, h1⟩
    have hb1 := bstep hb0 h1
    go_wp2
    go_ret
    exact ⟨rfl, hb1⟩
  have hle : T.length + C.length ≤ 1048576 := by omega
  have hlt : ¬ (1048576 - (T.length : Int) - (C.length : Int)) < 0 := by omega
  go_enter Try.func5, Try.ntmps5
  go_wp2_with fail
  have hb : Below w.heap.size w w := Below.refl _ _
  have s0 : w.heap.size ≤ w.heap.size := Nat.le_refl _
  obtain ⟨w1, hw⟩ : ∃ v, v = w.alloc (.cells #[.slice AT T.length cT, .slice AC C.length cC] 25) := ⟨_, rfl⟩
  rw [← hw]
  have h1 : Below w.heap.size w w1 := by rw [hw]; exact (Below.refl _ _).alloc (Nat.le_refl _) _
  have nb : Bx2 w1 w.heap.size (.slice AT T.length cT) (.slice AC C.length cC) := by rw [hw]; exact Bx2.fresh w _ _ _
  have hz1 : w1.heap.size = w.heap.size + 1 := by rw [hw]; simp
  clear hw
  replace hb := bstep hb h1
  have s1 : w.heap.size ≤ w1.heap.size := h1.size
  have ba := nb
  clear nb
  refine (c_szPuzzle_yes AT cT T AC cC C w1 hle).mono ?_
  rintro e w2 ⟨rfl, h2⟩
  replace hb := bstep hb h2
  replace ba := ba.keep h2
  have s2 : w1.heap.size ≤ w2.heap.size := h2.size
  have xa0 := ba.c0
  have xa1 := ba.c1
  have na := ba.lt
  go_wp2_with fail
  refine (c_toPuzzle AT cT T AC cC C w2 (hT.below hb) (hC.below hb) hle).mono ?_
  rintro e w3 ⟨Apt, cpt, Apc, cpc, rfl, no, h3⟩
  clear xa0 xa1 na
  replace hb := bstep hb h3
  replace ba := ba.keep h3
  have s3 : w2.heap.size ≤ w3.heap.size := h3.size
  have op := no
  clear no
  have xa0 := ba.c0
  have xa1 := ba.c1
  have na := ba.lt
  go_wp2_with fail
  refine (c_toIntS A1 c1 ts1 w3 (hr1.below hb) hle1).mono ?_
  rintro e w4 ⟨rfl, no, h4⟩
  generalize hA : (some ⟨w3.heap.size, 0, none⟩ : Option Addr) = Api at no ⊢
  clear hA
  have lpi := no.lt
  clear xa0 xa1 na
  replace hb := bstep hb h4
  replace ba := ba.keep h4
  replace op := op.below h4 (by omega)
  have s4 : w3.heap.size ≤ w4.heap.size := h4.size
  have opi := no
  clear no
  have xa0 := ba.c0
  have xa1 := ba.c1
  have na := ba.lt
  go_wp2_with fail
  refine (c_specIsSol Apt cpt T Apc cpc C Api _ ts1 _ (RdT.of_own op.f) (RdI.of_own op.r) (RdI.of_own opi) (by omega) (by omega) (own_capG op.f)).mono ?_
  rintro e w5 ⟨rfl, h5⟩
  clear xa0 xa1 na
  replace hb := bstep hb h5
  replace ba := ba.keep h5
  replace op := op.below h5 (by omega)
  replace opi := own_keep opi h5
  have s5 : w4.heap.size ≤ w5.heap.size := h5.size
  clear op
  clear opi
  have xa0 := ba.c0
  have xa1 := ba.c1
  have na := ba.lt
  go_wp2_with fail
  refine (c_toPuzzle AT cT T AC cC C w5 (hT.below hb) (hC.below hb) hle).mono ?_
  rintro e w6 ⟨Axt, cxt, Axc, cxc, rfl, no, h6⟩
  clear xa0 xa1 na
  replace hb := bstep hb h6
  replace ba := ba.keep h6
  have s6 : w5.heap.size ≤ w6.heap.size := h6.size
  have ox := no
  clear no
  have xa0 := ba.c0
  have xa1 := ba.c1
  have na := ba.lt
  go_wp2_with fail
  clear xa0 xa1 na
  obtain ⟨w7, hw⟩ : ∃ v, v = w6.alloc (.cells #[.slice Axt T.length cxt, .slice Axc C.length cxc] 30) := ⟨_, rfl⟩
  rw [← hw]
  have h7 : Below w6.heap.size w6 w7 := by rw [hw]; exact (Below.refl _ _).alloc (Nat.le_refl _) _
  have nb : Bx2 w7 w6.heap.size (.slice Axt T.length cxt) (.slice Axc C.length cxc) := by rw [hw]; exact Bx2.fresh w6 _ _ _
  have hz7 : w7.heap.size = w6.heap.size + 1 := by rw [hw]; simp
  clear hw
  replace hb := bstep hb h7
  replace ba := ba.keep h7
  replace ox := ox.below h7 (by omega)
  have s7 : w6.heap.size ≤ w7.heap.size := h7.size
  have bx := nb
  clear nb
  refine (c_toIntS A1 c1 ts1 w7 (hr1.below hb) hle1).mono ?_
  rintro e w8 ⟨rfl, no, h8⟩
  generalize hA : (some ⟨w7.heap.size, 0, none⟩ : Option Addr) = Axi at no ⊢
  clear hA
  have lxi := no.lt
  replace hb := bstep hb h8
  replace ba := ba.keep h8
  replace bx := bx.keep h8
  replace ox := ox.below h8 (by omega)
  have s8 : w7.heap.size ≤ w8.heap.size := h8.size
  have oxi := no
  clear no
  have xa0 := ba.c0
  have xa1 := ba.c1
  have na := ba.lt
  have xx0 := bx.c0
  have xx1 := bx.c1
  have nx := bx.lt
  go_wp2_with fail
  refine (c_implIsSol Axt cxt T Axc cxc C Axi _ ts1 _ (RdT.of_own ox.f) (RdI.of_own ox.r) (RdI.of_own oxi) (by omega) (by omega)).mono ?_
  rintro e w9 ⟨rfl, h9⟩
  clear xa0 xa1 na xx0 xx1 nx
  replace hb := bstep hb h9
  replace ba := ba.keep h9
  replace bx := bx.keep h9
  replace ox := ox.below h9 (by omega)
  replace oxi := own_keep oxi h9
  have s9 : w8.heap.size ≤ w9.heap.size := h9.size
  have xa0 := ba.c0
  have xa1 := ba.c1
  have na := ba.lt
  have xx0 := bx.c0
  have xx1 := bx.c1
  have nx := bx.lt
  go_wp2_with fail
  have hbd : Below w.heap.size w w9.drew := hb.drew
  go_region_held3 (fun w' => w'.cell? ⟨w.heap.size, 0, none⟩ = some (.slice AT T.length cT) ∧ w'.cell? ⟨w.heap.size, 1, none⟩ = some (.slice AC C.length cC) ∧ w'.cell? ⟨w6.heap.size, 0, none⟩ = some (.slice Axt T.length cxt) ∧ w'.cell? ⟨w6.heap.size, 1, none⟩ = some (.slice Axc C.length cxc)) (first | exact ⟨zxa0, zxa1, zxx0, zxx1⟩ | exact ⟨yxa0, yxa1, yxx0, yxx1⟩ | go_keep) (first | (go_at_call 17; refine (c_toPuzzle AT cT T AC cC C _ (hT.below hbd) (hC.below hbd) hle).mono ?_; rintro e w10 ⟨Bf, df, Br, dr, rfl, ob, h10⟩; have hb10 := bstep hbd h10; have yxa0 := keepc h10 (gdG _ xa0); have yxa1 := keepc h10 (gdG _ xa1); have yxx0 := keepc h10 (gdG _ xx0); have yxx1 := keepc h10 (gdG _ xx1)) | (go_at_call 19; refine (c_eqPuzzle_same Axt cxt Axc cxc Bf df Br dr T C _ (RdT.of_own (own_keep (own_drew ox.f) h10)) (RdI.of_own (own_keep (own_drew ox.r) h10)) (RdT.of_own ob.f) (RdI.of_own ob.r) lT lC).mono ?_; rintro e w11 ⟨rfl, h11⟩; have hb11 := bstep hb10 h11; have zxa0 := keepc h11 yxa0; have zxa1 := keepc h11 yxa1; have zxx0 := keepc h11 yxx0; have zxx1 := keepc h11 yxx1))
  have hR11 : Below w9.heap.size w9 w11 := bstep (bstep (Below.refl w9.heap.size w9).drew h10) h11
  clear xa0 xa1 na xx0 xx1 nx yxa0 yxa1 yxx0 yxx1 zxa0 zxa1 zxx0 zxx1 hbd hb10 hb11 ob
  replace hb := bstep hb hR11
  replace ba := ba.keep hR11
  replace bx := bx.keep hR11
  replace ox := ox.below hR11 (by omega)
  replace oxi := own_keep oxi hR11
  have s11 : w9.heap.size ≤ w11.heap.size := hR11.size
  have xa0 := ba.c0
  have xa1 := ba.c1
  have na := ba.lt
  have xx0 := bx.c0
  have xx1 := bx.c1
  have nx := bx.lt
  go_wp2_with fail
  refine (c_toIntS A1 c1 ts1 w11 (hr1.below hb) hle1).mono ?_
  rintro e w12 ⟨rfl, no, h12⟩
  generalize hA : (some ⟨w11.heap.size, 0, none⟩ : Option Addr) = Ayi at no ⊢
  clear hA
  have lyi := no.lt
  clear xa0 xa1 na xx0 xx1 nx
  replace hb := bstep hb h12
  replace ba := ba.keep h12
  replace bx := bx.keep h12
  replace ox := ox.below h12 (by omega)
  replace oxi := own_keep oxi h12
  have s12 : w11.heap.size ≤ w12.heap.size := h12.size
  have oyi := no
  clear no
  have xa0 := ba.c0
  have xa1 := ba.c1
  have na := ba.lt
  have xx0 := bx.c0
  have xx1 := bx.c1
  have nx := bx.lt
  go_wp2_with fail
  refine (c_eqIntS_same Axi Ayi _ _ ts1 _ (RdI.of_own oxi) (RdI.of_own oyi) (by omega)).mono ?_
  rintro e w13 ⟨rfl, h13⟩
  clear xa0 xa1 na xx0 xx1 nx
  replace hb := bstep hb h13
  replace ba := ba.keep h13
  replace bx := bx.keep h13
  replace ox := ox.below h13 (by omega)
  replace oxi := own_keep oxi h13
  replace oyi := own_keep oyi h13
  have s13 : w12.heap.size ≤ w13.heap.size := h13.size
  go_wp2
  go_ret
  exact ⟨rfl, hb⟩

set_option maxRecDepth 100000 in
theorem lifted_FnExactIsSolution (os : Os) (started : os.Started) (H : Type) (enc : TypeId × Value → H) :
    ReturnsInHanded {} Try.checked os 5 .any (Rows.fnExactIsSolutionSpec.pre6 enc Try.prog Try.f5 Rows.fnExactIsSolutionRow.domain false) (Rows.fnExactIsSolutionSpec.post enc Try.prog Try.f5 false true false false) := by
  refine returnsInHanded_of_change (C := Try.checked) Try.own_ started (by kernel_rfl) Try.func5
    (ChangeSpec.witness6 (enc := enc) (C := Try.checked) false ⟨#[], #[.agg #[.slice none 0 0, .slice none 0 0], .slice none 0 0], []⟩ 8 (by kernel_rfl) (by kernel_rfl) (by kernel_rfl) (by kernel_rfl)) ?_
  intro W base args ds gs before hval0 hW hcnd _
  have hval : ∀ (j : Nat) t v, Try.f5.params[j]? = some t → args[j]? = some v → Value.okWide Try.prog W .any base t v := hval0
  have hW' := hW
  obtain ⟨p, q, hA0, hV, rfl, hfz, hnd⟩ := hW
  have hA : DataW.TrodAll enc Try.prog W 0 (fun _ => true) true Try.f5.params.toList args.toList ds p := hA0
  rw [Try.params5] at hA hval
  obtain ⟨v0, vs0, d0, ds0, p0, q0, hargs0, rfl, rfl, h0, r0⟩ := trodAll_cons hA
  obtain ⟨v1, vs1, d1, ds1, p1, q1, rfl, rfl, rfl, h1, r1⟩ := trodAll_cons r0
  obtain ⟨rfl, rfl, rfl⟩ := trodAll_nil r1
  obtain rfl : args = #[v0, v1] := by cases args; simp_all
  obtain ⟨rfl, rfl⟩ := trodVars_none hV
  obtain ⟨AT, cT, T, AC, cC, C, rfl, ⟨hT, lT⟩, ⟨hC, lC⟩⟩ := open_puzzle (hval 0 25 v0 rfl rfl) h0
  obtain ⟨A1, c1, ts1, rfl, hr1, hl1⟩ := open_nums (hval 1 23 v1 rfl rfl) h1
  refine (w_FnExactIsSolution AT cT T AC cC C A1 c1 ts1 W hT lT hC lC hr1 hl1).mono fun e W' ⟨he, hg⟩ => ?_
  subst he
  exact ⟨_, rfl, law_post rfl rfl (of_decide_eq_true (by kernel_rfl)) hW' rfl hg⟩

theorem fnExactIsSolution_holds : Rows.FnExactIsSolutionSaid :=
  OpenClaim.holds_of_wide 5 Try.f5 rfl rfl rfl rfl rfl rfl rfl ⟨rfl, rfl, rfl, rfl, rfl⟩ rfl rfl rfl rfl rfl (by kernel_rfl) Try.func5 (by kernel_rfl)
    (of_decide_eq_true (by kernel_rfl)) (by unfold Func.isWrapper; first | (rw [if_pos (by decide +kernel)]; kernel_rfl) | (rw [if_neg (by decide +kernel)]; exact ⟨rfl, rfl⟩))
    (fun os started H enc _ => lifted_FnExactIsSolution os started H enc)
#print axioms fnExactIsSolution_holds

end Go.Proofs.Ytjdnkcdnppcbhaa

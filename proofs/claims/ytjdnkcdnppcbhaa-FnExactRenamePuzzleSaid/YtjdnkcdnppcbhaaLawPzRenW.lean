/- The law of RenamePuzzle: at every puzzle and list of numbers both functions answer alike, leave the puzzle alone, and each answer owns its memory. No condition. -/
import Derived.Test.YtjdnkcdnppcbhaaPzR
import Derived.Test.YtjdnkcdnppcbhaaPzL
import Derived.Test.YtjdnkcdnppcbhaaLawPz
namespace Go.Proofs.Ytjdnkcdnppcbhaa
open Go.ChangeShapes Go.WideShapes Go.ChangeAt Go.RowKit Go.Joins
set_option linter.unusedVariables false

set_option maxRecDepth 100000 in
set_option maxHeartbeats 4000000 in
theorem w_FnExactRenamePuzzle (AT : Option Addr) (cT : Nat) (T : List (Int × Int)) (AC : Option Addr) (cC : Nat) (C : List Int) (A1 : Option Addr) (c1 : Nat) (ts1 : List Int) (w : World) (hT : RdT w AT T) (lT : T.length ≤ 9223372036854775807) (hC : RdI w AC C) (lC : C.length ≤ 9223372036854775807) (hr1 : RdI w A1 ts1) (hl1 : ts1.length ≤ 9223372036854775807) :
    Calls Try.prog 10 #[.agg #[.slice AT T.length cT, .slice AC C.length cC], .slice A1 ts1.length c1] w fun e w' => e = .returned (.bool true) ∧ Below w.heap.size w w' := by
  by_cases hbig1 : 1048576 < ts1.length
  · go_enter Try.func10, Try.ntmps10
    go_wp2_with fail
    go_ret
    exact ⟨rfl, by go_grown⟩
  have hle1 : ts1.length ≤ 1048576 := by omega
  by_cases hbig : 1048576 < T.length + C.length
  · have q0 : True := trivial
    go_enter Try.func10, Try.ntmps10
    go_wp2_with fail
    obtain ⟨w0, hw0⟩ : ∃ w0, w0 = w.alloc (.cells #[.slice AT T.length cT, .slice AC C.length cC] 25) := ⟨_, rfl⟩
    rw [← hw0]
    have ba0 : Bx2 w0 w.heap.size (.slice AT T.length cT) (.slice AC C.length cC) := by rw [hw0]; exact Bx2.fresh w _ _ _
    have hb0 : Below w.heap.size w w0 := by rw [hw0]; go_grown
    clear hw0
    refine (c_szPuzzle_no AT cT T AC cC C w0 lT lC hbig).mono ?_
    rintro e w1 ⟨rfl, h1⟩
    have hb1 := bstep hb0 h1
    go_wp2
    go_ret
    exact ⟨rfl, hb1⟩
  have hle : T.length + C.length ≤ 1048576 := by omega
  have hlt : ¬ (1048576 - (T.length : Int) - (C.length : Int)) < 0 := by omega
  have hl2 : (renPT T C ts1).length + (renPC T C ts1).length ≤ 1048576 := renP_len T C ts1
  have cs := fun AT cT AC cC A1 c1 W hT hC h1 kT k1 => c_specRenPz AT cT T AC cC C A1 c1 ts1 W hT hC h1 (by omega) (by omega) kT k1
  have ci := fun AT cT AC cC A1 c1 W hT hC h1 => c_implRenPz AT cT T AC cC C A1 c1 ts1 W hT hC h1 (by omega) (by omega)
  unfold RetPB at cs ci
  generalize renPT T C ts1 = T2 at cs ci hl2
  generalize renPC T C ts1 = C2 at cs ci hl2
  generalize renPB T C ts1 = bg at cs ci
  have Cs := Lib.hid cs
  have Ci := Lib.hid ci
  clear cs ci
  go_enter Try.func10, Try.ntmps10
  go_wp2_with fail
  have hb : Below w.heap.size w w := Below.refl _ _
  have s0 : w.heap.size ≤ w.heap.size := Nat.le_refl _
  obtain ⟨w1, hw⟩ : ∃ v, v = w.alloc (.cells #[.slice AT T.length cT, .slice AC C.length cC] 25) := ⟨_, rfl⟩
  rw [← hw]
  have h1 : Below w.heap.size w w1 := by rw [hw]; exact (Below.refl _ _).alloc (Nat.le_refl _) _
  have nb : Bx2 w1 w.heap.size (.slice AT T.length cT) (.slice AC C.length cC) := by rw [hw]; exact Bx2.fresh w _ _ _
  have hz1 : w1.heap.size = w.heap.size + 1 := by rw [hw]; simp
  clear hw
  replace hb := bstep hb h1
  have s1 : w.heap.size ≤ w1.heap.size := h1.size
  have ba := nb
  clear nb
  refine (c_szPuzzle_yes AT cT T AC cC C w1 hle).mono ?_
  rintro e w2 ⟨rfl, h2⟩
  replace hb := bstep hb h2
  replace ba := ba.keep h2
  have s2 : w1.heap.size ≤ w2.heap.size := h2.size
  have xa0 := ba.c0
  have xa1 := ba.c1
  have na := ba.lt
  go_wp2_with fail
  refine (c_toPuzzle AT cT T AC cC C w2 (hT.below hb) (hC.below hb) hle).mono ?_
  rintro e w3 ⟨Apt, cpt, Apc, cpc, rfl, no, h3⟩
  clear xa0 xa1 na
  replace hb := bstep hb h3
  replace ba := ba.keep h3
  have s3 : w2.heap.size ≤ w3.heap.size := h3.size
  have op := no
  clear no
  have xa0 := ba.c0
  have xa1 := ba.c1
  have na := ba.lt
  go_wp2_with fail
  refine (c_toIntS A1 c1 ts1 w3 (hr1.below hb) hle1).mono ?_
  rintro e w4 ⟨rfl, no, h4⟩
  generalize hA : (some ⟨w3.heap.size, 0, none⟩ : Option Addr) = Api at no ⊢
  clear hA
  have lpi := no.lt
  clear xa0 xa1 na
  replace hb := bstep hb h4
  replace ba := ba.keep h4
  replace op := op.below h4 (by omega)
  have s4 : w3.heap.size ≤ w4.heap.size := h4.size
  have opi := no
  clear no
  have xa0 := ba.c0
  have xa1 := ba.c1
  have na := ba.lt
  go_wp2_with fail
  refine (Cs.out Apt cpt Apc cpc Api _ w4 (RdT.of_own op.f) (RdI.of_own op.r) (RdI.of_own opi) (own_capG op.f) (own_capG opi)).mono ?_
  rintro e w5 ⟨AWt, cWt, AWc, cWc, rfl, no, h5⟩
  clear xa0 xa1 na
  replace hb := bstep hb h5
  replace ba := ba.keep h5
  replace op := op.below h5 (by omega)
  replace opi := own_keep opi h5
  have s5 : w4.heap.size ≤ w5.heap.size := h5.size
  have oW := no
  clear no
  clear op
  clear opi
  have xa0 := ba.c0
  have xa1 := ba.c1
  have na := ba.lt
  go_wp2_with fail
  clear xa0 xa1 na
  obtain ⟨w6, hw⟩ : ∃ v, v = w5.alloc (.cells #[.slice AWt T2.length cWt, .slice AWc C2.length cWc] 30) := ⟨_, rfl⟩
  rw [← hw]
  have h6 : Below w5.heap.size w5 w6 := by rw [hw]; exact (Below.refl _ _).alloc (Nat.le_refl _) _
  have nb : Bx2 w6 w5.heap.size (.slice AWt T2.length cWt) (.slice AWc C2.length cWc) := by rw [hw]; exact Bx2.fresh w5 _ _ _
  have hz6 : w6.heap.size = w5.heap.size + 1 := by rw [hw]; simp
  clear hw
  replace hb := bstep hb h6
  replace ba := ba.keep h6
  replace oW := oW.below h6 (by omega)
  have s6 : w5.heap.size ≤ w6.heap.size := h6.size
  have bW := nb
  clear nb
  refine (c_toPuzzle AT cT T AC cC C w6 (hT.below hb) (hC.below hb) hle).mono ?_
  rintro e w7 ⟨Axt, cxt, Axc, cxc, rfl, no, h7⟩
  replace hb := bstep hb h7
  replace ba := ba.keep h7
  replace bW := bW.keep h7
  replace oW := oW.below h7 (by omega)
  have s7 : w6.heap.size ≤ w7.heap.size := h7.size
  have ox := no
  clear no
  have xa0 := ba.c0
  have xa1 := ba.c1
  have na := ba.lt
  have xW0 := bW.c0
  have xW1 := bW.c1
  have nW := bW.lt
  go_wp2_with fail
  clear xa0 xa1 na xW0 xW1 nW
  obtain ⟨w8, hw⟩ : ∃ v, v = w7.alloc (.cells #[.slice Axt T.length cxt, .slice Axc C.length cxc] 30) := ⟨_, rfl⟩
  rw [← hw]
  have h8 : Below w7.heap.size w7 w8 := by rw [hw]; exact (Below.refl _ _).alloc (Nat.le_refl _) _
  have nb : Bx2 w8 w7.heap.size (.slice Axt T.length cxt) (.slice Axc C.length cxc) := by rw [hw]; exact Bx2.fresh w7 _ _ _
  have hz8 : w8.heap.size = w7.heap.size + 1 := by rw [hw]; simp
  clear hw
  replace hb := bstep hb h8
  replace ba := ba.keep h8
  replace bW := bW.keep h8
  replace oW := oW.below h8 (by omega)
  replace ox := ox.below h8 (by omega)
  have s8 : w7.heap.size ≤ w8.heap.size := h8.size
  have bx := nb
  clear nb
  refine (c_toIntS A1 c1 ts1 w8 (hr1.below hb) hle1).mono ?_
  rintro e w9 ⟨rfl, no, h9⟩
  generalize hA : (some ⟨w8.heap.size, 0, none⟩ : Option Addr) = Axi at no ⊢
  clear hA
  have lxi := no.lt
  replace hb := bstep hb h9
  replace ba := ba.keep h9
  replace bW := bW.keep h9
  replace bx := bx.keep h9
  replace oW := oW.below h9 (by omega)
  replace ox := ox.below h9 (by omega)
  have s9 : w8.heap.size ≤ w9.heap.size := h9.size
  have oxi := no
  clear no
  have xa0 := ba.c0
  have xa1 := ba.c1
  have na := ba.lt
  have xW0 := bW.c0
  have xW1 := bW.c1
  have nW := bW.lt
  have xx0 := bx.c0
  have xx1 := bx.c1
  have nx := bx.lt
  go_wp2_with fail
  refine (Ci.out Axt cxt Axc cxc Axi _ w9 (RdT.of_own ox.f) (RdI.of_own ox.r) (RdI.of_own oxi)).mono ?_
  rintro e w10 ⟨AGt, cGt, AGc, cGc, rfl, no, h10⟩
  clear xa0 xa1 na xW0 xW1 nW xx0 xx1 nx
  replace hb := bstep hb h10
  replace ba := ba.keep h10
  replace bW := bW.keep h10
  replace bx := bx.keep h10
  replace oW := oW.below h10 (by omega)
  replace ox := ox.below h10 (by omega)
  replace oxi := own_keep oxi h10
  have s10 : w9.heap.size ≤ w10.heap.size := h10.size
  have oG := no
  clear no
  have xa0 := ba.c0
  have xa1 := ba.c1
  have na := ba.lt
  have xW0 := bW.c0
  have xW1 := bW.c1
  have nW := bW.lt
  have xx0 := bx.c0
  have xx1 := bx.c1
  have nx := bx.lt
  go_wp2_with fail
  clear xa0 xa1 na xW0 xW1 nW xx0 xx1 nx
  obtain ⟨w11, hw⟩ : ∃ v, v = w10.alloc (.cells #[.slice AGt T2.length cGt, .slice AGc C2.length cGc] 30) := ⟨_, rfl⟩
  rw [← hw]
  have h11 : Below w10.heap.size w10 w11 := by rw [hw]; exact (Below.refl _ _).alloc (Nat.le_refl _) _
  have nb : Bx2 w11 w10.heap.size (.slice AGt T2.length cGt) (.slice AGc C2.length cGc) := by rw [hw]; exact Bx2.fresh w10 _ _ _
  have hz11 : w11.heap.size = w10.heap.size + 1 := by rw [hw]; simp
  clear hw
  replace hb := bstep hb h11
  replace ba := ba.keep h11
  replace bW := bW.keep h11
  replace bx := bx.keep h11
  replace oW := oW.below h11 (by omega)
  replace ox := ox.below h11 (by omega)
  replace oG := oG.below h11 (by omega)
  replace oxi := own_keep oxi h11
  have s11 : w10.heap.size ≤ w11.heap.size := h11.size
  have bG := nb
  clear nb
  refine (c_eqPuzzle_same AGt cGt AGc cGc AWt cWt AWc cWc T2 C2 _ (RdT.of_own oG.f) (RdI.of_own oG.r) (RdT.of_own oW.f) (RdI.of_own oW.r) (by omega) (by omega)).mono ?_
  rintro e w12 ⟨rfl, h12⟩
  replace hb := bstep hb h12
  replace ba := ba.keep h12
  replace bW := bW.keep h12
  replace bx := bx.keep h12
  replace bG := bG.keep h12
  replace oW := oW.below h12 (by omega)
  replace ox := ox.below h12 (by omega)
  replace oG := oG.below h12 (by omega)
  replace oxi := own_keep oxi h12
  have s12 : w11.heap.size ≤ w12.heap.size := h12.size
  as_aux_lemma =>
    have xa0 := ba.c0
    have xa1 := ba.c1
    have na := ba.lt
    have xW0 := bW.c0
    have xW1 := bW.c1
    have nW := bW.lt
    have xx0 := bx.c0
    have xx1 := bx.c1
    have nx := bx.lt
    have xG0 := bG.c0
    have xG1 := bG.c1
    have nG := bG.lt
    go_wp2_with fail
    have hbd : Below w.heap.size w w12.drew := hb.drew
    go_region_held3 (fun w' => w'.cell? ⟨w.heap.size, 0, none⟩ = some (.slice AT T.length cT) ∧ w'.cell? ⟨w.heap.size, 1, none⟩ = some (.slice AC C.length cC) ∧ w'.cell? ⟨w5.heap.size, 0, none⟩ = some (.slice AWt T2.length cWt) ∧ w'.cell? ⟨w5.heap.size, 1, none⟩ = some (.slice AWc C2.length cWc) ∧ w'.cell? ⟨w7.heap.size, 0, none⟩ = some (.slice Axt T.length cxt) ∧ w'.cell? ⟨w7.heap.size, 1, none⟩ = some (.slice Axc C.length cxc) ∧ w'.cell? ⟨w10.heap.size, 0, none⟩ = some (.slice AGt T2.length cGt) ∧ w'.cell? ⟨w10.heap.size, 1, none⟩ = some (.slice AGc C2.length cGc)) (first | exact ⟨zxa0, zxa1, zxW0, zxW1, zxx0, zxx1, zxG0, zxG1⟩ | exact ⟨yxa0, yxa1, yxW0, yxW1, yxx0, yxx1, yxG0, yxG1⟩ | go_keep) (first | (go_at_call 17; refine (c_toPuzzle AT cT T AC cC C _ (hT.below hbd) (hC.below hbd) hle).mono ?_; rintro e w13 ⟨Bf, df, Br, dr, rfl, ob, h13⟩; have hb13 := bstep hbd h13; have yxa0 := keepc h13 (gdG _ xa0); have yxa1 := keepc h13 (gdG _ xa1); have yxW0 := keepc h13 (gdG _ xW0); have yxW1 := keepc h13 (gdG _ xW1); have yxx0 := keepc h13 (gdG _ xx0); have yxx1 := keepc h13 (gdG _ xx1); have yxG0 := keepc h13 (gdG _ xG0); have yxG1 := keepc h13 (gdG _ xG1)) | (go_at_call 19; refine (c_eqPuzzle_same Axt cxt Axc cxc Bf df Br dr T C _ (RdT.of_own (own_keep (own_drew ox.f) h13)) (RdI.of_own (own_keep (own_drew ox.r) h13)) (RdT.of_own ob.f) (RdI.of_own ob.r) lT lC).mono ?_; rintro e w14 ⟨rfl, h14⟩; have hb14 := bstep hb13 h14; have zxa0 := keepc h14 yxa0; have zxa1 := keepc h14 yxa1; have zxW0 := keepc h14 yxW0; have zxW1 := keepc h14 yxW1; have zxx0 := keepc h14 yxx0; have zxx1 := keepc h14 yxx1; have zxG0 := keepc h14 yxG0; have zxG1 := keepc h14 yxG1))
    have hR14 : Below w12.heap.size w12 w14 := bstep (bstep (Below.refl w12.heap.size w12).drew h13) h14
    clear xa0 xa1 na xW0 xW1 nW xx0 xx1 nx xG0 xG1 nG yxa0 yxa1 yxW0 yxW1 yxx0 yxx1 yxG0 yxG1 zxa0 zxa1 zxW0 zxW1 zxx0 zxx1 zxG0 zxG1 hbd hb13 hb14 ob
    replace hb := bstep hb hR14
    replace ba := ba.keep hR14
    replace bW := bW.keep hR14
    replace bx := bx.keep hR14
    replace bG := bG.keep hR14
    replace oW := oW.below hR14 (by omega)
    replace ox := ox.below hR14 (by omega)
    replace oG := oG.below hR14 (by omega)
    replace oxi := own_keep oxi hR14
    have s14 : w12.heap.size ≤ w14.heap.size := hR14.size
    as_aux_lemma =>
      have xa0 := ba.c0
      have xa1 := ba.c1
      have na := ba.lt
      have xW0 := bW.c0
      have xW1 := bW.c1
      have nW := bW.lt
      have xx0 := bx.c0
      have xx1 := bx.c1
      have nx := bx.lt
      have xG0 := bG.c0
      have xG1 := bG.c1
      have nG := bG.lt
      go_wp2_with fail
      refine (c_toIntS A1 c1 ts1 w14 (hr1.below hb) hle1).mono ?_
      rintro e w15 ⟨rfl, no, h15⟩
      generalize hA : (some ⟨w14.heap.size, 0, none⟩ : Option Addr) = Ayi at no ⊢
      clear hA
      have lyi := no.lt
      clear xa0 xa1 na xW0 xW1 nW xx0 xx1 nx xG0 xG1 nG
      replace hb := bstep hb h15
      replace ba := ba.keep h15
      replace bW := bW.keep h15
      replace bx := bx.keep h15
      replace bG := bG.keep h15
      replace oW := oW.below h15 (by omega)
      replace ox := ox.below h15 (by omega)
      replace oG := oG.below h15 (by omega)
      replace oxi := own_keep oxi h15
      have s15 : w14.heap.size ≤ w15.heap.size := h15.size
      have oyi := no
      clear no
      have xa0 := ba.c0
      have xa1 := ba.c1
      have na := ba.lt
      have xW0 := bW.c0
      have xW1 := bW.c1
      have nW := bW.lt
      have xx0 := bx.c0
      have xx1 := bx.c1
      have nx := bx.lt
      have xG0 := bG.c0
      have xG1 := bG.c1
      have nG := bG.lt
      go_wp2_with fail
      refine (c_eqIntS_same Axi Ayi _ _ ts1 _ (RdI.of_own oxi) (RdI.of_own oyi) (by omega)).mono ?_
      rintro e w16 ⟨rfl, h16⟩
      clear xa0 xa1 na xW0 xW1 nW xx0 xx1 nx xG0 xG1 nG
      replace hb := bstep hb h16
      replace ba := ba.keep h16
      replace bW := bW.keep h16
      replace bx := bx.keep h16
      replace bG := bG.keep h16
      replace oW := oW.below h16 (by omega)
      replace ox := ox.below h16 (by omega)
      replace oG := oG.below h16 (by omega)
      replace oxi := own_keep oxi h16
      replace oyi := own_keep oyi h16
      have s16 : w15.heap.size ≤ w16.heap.size := h16.size
      clear oyi
      have xa0 := ba.c0
      have xa1 := ba.c1
      have na := ba.lt
      have xW0 := bW.c0
      have xW1 := bW.c1
      have nW := bW.lt
      have xx0 := bx.c0
      have xx1 := bx.c1
      have nx := bx.lt
      have xG0 := bG.c0
      have xG1 := bG.c1
      have nG := bG.lt
      go_wp2_with fail
      refine (c_markPuzzle Axt cxt T Axc cxc C w6.heap.size w7.heap.size (1) w16 ox (by omega) (by omega) (by omega) (by omega) (by omega)).mono ?_
      rintro e w17 ⟨rfl, no, h17, hx17⟩
      clear xa0 xa1 na xW0 xW1 nW xx0 xx1 nx xG0 xG1 nG
      have s17 : w16.heap.size ≤ w17.heap.size := h17.size
      replace hb := hb.trans (h17.mono (by omega))
      replace ba := ba.of_block (hx17 _ (by omega) ba.lt)
      replace bW := bW.of_block (hx17 _ (by omega) bW.lt)
      replace bx := bx.of_block (hx17 _ (by omega) bx.lt)
      replace bG := bG.of_block (hx17 _ (by omega) bG.lt)
      replace oW := oW.below h17 (by omega)
      replace oG := oG.moved (fun g h1 h2 => hx17 g (.inr (by omega)) h2)
      replace oxi := own_blockG oxi (fun g hg => hx17 g (by have := lxi g hg; omega) (oxi.lt g hg).2)
      have oxm := no
      clear no ox h17 hx17
      clear oxm
      have xa0 := ba.c0
      have xa1 := ba.c1
      have na := ba.lt
      have xW0 := bW.c0
      have xW1 := bW.c1
      have nW := bW.lt
      have xx0 := bx.c0
      have xx1 := bx.c1
      have nx := bx.lt
      have xG0 := bG.c0
      have xG1 := bG.c1
      have nG := bG.lt
      go_wp2_with fail
      refine (c_markIntS Axi _ _ ts1 ((1) + 2 * (T.length : Int) + (C.length : Int)) w17 oxi (by omega) (by omega)).mono ?_
      rintro e w18 ⟨rfl, no, hg⟩
      clear xa0 xa1 na xW0 xW1 nW xx0 xx1 nx xG0 xG1 nG
      have s18 : w17.heap.size ≤ w18.heap.size := hg.size
      replace hb := hb.trans (below_of_grown hg (by omega) (fun g h => by have := lxi g h; omega))
      replace ba := ba.of_block (hg.block _ ba.lt (fun e => by have := lxi _ e.symm; omega))
      replace bW := bW.of_block (hg.block _ bW.lt (fun e => by have := lxi _ e.symm; omega))
      replace bx := bx.of_block (hg.block _ bx.lt (fun e => by have := lxi _ e.symm; omega))
      replace bG := bG.of_block (hg.block _ bG.lt (fun e => by have := lxi _ e.symm; omega))
      replace oW := oW.grown hg (fun g h => by have := lxi g h; omega)
      replace oG := oG.grown hg (fun g h => by have := lxi g h; omega)
      clear no oxi hg
      as_aux_lemma =>
        have xa0 := ba.c0
        have xa1 := ba.c1
        have na := ba.lt
        have xW0 := bW.c0
        have xW1 := bW.c1
        have nW := bW.lt
        have xx0 := bx.c0
        have xx1 := bx.c1
        have nx := bx.lt
        have xG0 := bG.c0
        have xG1 := bG.c1
        have nG := bG.lt
        go_wp2_with fail
        refine (c_eqPuzzle_same AGt cGt AGc cGc AWt cWt AWc cWc T2 C2 _ (RdT.of_own oG.f) (RdI.of_own oG.r) (RdT.of_own oW.f) (RdI.of_own oW.r) (by omega) (by omega)).mono ?_
        rintro e w19 ⟨rfl, h19⟩
        clear xa0 xa1 na xW0 xW1 nW xx0 xx1 nx xG0 xG1 nG
        replace hb := bstep hb h19
        replace ba := ba.keep h19
        replace bW := bW.keep h19
        replace bx := bx.keep h19
        replace bG := bG.keep h19
        replace oW := oW.below h19 (by omega)
        replace oG := oG.below h19 (by omega)
        have s19 : w18.heap.size ≤ w19.heap.size := h19.size
        have xa0 := ba.c0
        have xa1 := ba.c1
        have na := ba.lt
        have xW0 := bW.c0
        have xW1 := bW.c1
        have nW := bW.lt
        have xx0 := bx.c0
        have xx1 := bx.c1
        have nx := bx.lt
        have xG0 := bG.c0
        have xG1 := bG.c1
        have nG := bG.lt
        go_wp2_with fail
        refine (c_markPuzzle AGt cGt T2 AGc cGc C2 w9.heap.size w10.heap.size (1) w19 oG (by omega) (by omega) (by omega) (by omega) (by omega)).mono ?_
        rintro e w20 ⟨rfl, no, h20, hx20⟩
        clear xa0 xa1 na xW0 xW1 nW xx0 xx1 nx xG0 xG1 nG
        have s20 : w19.heap.size ≤ w20.heap.size := h20.size
        replace hb := hb.trans (h20.mono (by omega))
        replace ba := ba.of_block (hx20 _ (by omega) ba.lt)
        replace bW := bW.of_block (hx20 _ (by omega) bW.lt)
        replace bx := bx.of_block (hx20 _ (by omega) bx.lt)
        replace bG := bG.of_block (hx20 _ (by omega) bG.lt)
        replace oW := oW.below h20 (by omega)
        have oGm := no
        clear no oG h20 hx20
        have xa0 := ba.c0
        have xa1 := ba.c1
        have na := ba.lt
        have xW0 := bW.c0
        have xW1 := bW.c1
        have nW := bW.lt
        have xx0 := bx.c0
        have xx1 := bx.c1
        have nx := bx.lt
        have xG0 := bG.c0
        have xG1 := bG.c1
        have nG := bG.lt
        go_wp2_with fail
        refine (c_heldPuzzle AGt cGt T2.length AGc cGc C2.length 1 _ (rdmarksT oGm.f) (rdmarksI oGm.r) (by omega) (by omega) (by omega)).mono ?_
        rintro e w21 ⟨rfl, h21⟩
        clear xa0 xa1 na xW0 xW1 nW xx0 xx1 nx xG0 xG1 nG
        replace hb := bstep hb h21
        replace ba := ba.keep h21
        replace bW := bW.keep h21
        replace bx := bx.keep h21
        replace bG := bG.keep h21
        replace oW := oW.below h21 (by omega)
        replace oGm := oGm.below h21 (by omega)
        have s21 : w20.heap.size ≤ w21.heap.size := h21.size
        as_aux_lemma =>
          have xa0 := ba.c0
          have xa1 := ba.c1
          have na := ba.lt
          have xW0 := bW.c0
          have xW1 := bW.c1
          have nW := bW.lt
          have xx0 := bx.c0
          have xx1 := bx.c1
          have nx := bx.lt
          have xG0 := bG.c0
          have xG1 := bG.c1
          have nG := bG.lt
          go_wp2_with fail
          refine (c_toPuzzle AT cT T AC cC C w21 (hT.below hb) (hC.below hb) hle).mono ?_
          rintro e w22 ⟨Adt, cdt, Adc, cdc, rfl, no, h22⟩
          clear xa0 xa1 na xW0 xW1 nW xx0 xx1 nx xG0 xG1 nG
          replace hb := bstep hb h22
          replace ba := ba.keep h22
          replace bW := bW.keep h22
          replace bx := bx.keep h22
          replace bG := bG.keep h22
          replace oW := oW.below h22 (by omega)
          replace oGm := oGm.below h22 (by omega)
          have s22 : w21.heap.size ≤ w22.heap.size := h22.size
          have od := no
          clear no
          have xa0 := ba.c0
          have xa1 := ba.c1
          have na := ba.lt
          have xW0 := bW.c0
          have xW1 := bW.c1
          have nW := bW.lt
          have xx0 := bx.c0
          have xx1 := bx.c1
          have nx := bx.lt
          have xG0 := bG.c0
          have xG1 := bG.c1
          have nG := bG.lt
          go_wp2_with fail
          refine (c_toIntS A1 c1 ts1 w22 (hr1.below hb) hle1).mono ?_
          rintro e w23 ⟨rfl, no, h23⟩
          generalize hA : (some ⟨w22.heap.size, 0, none⟩ : Option Addr) = Adi at no ⊢
          clear hA
          have ldi := no.lt
          clear xa0 xa1 na xW0 xW1 nW xx0 xx1 nx xG0 xG1 nG
          replace hb := bstep hb h23
          replace ba := ba.keep h23
          replace bW := bW.keep h23
          replace bx := bx.keep h23
          replace bG := bG.keep h23
          replace oW := oW.below h23 (by omega)
          replace od := od.below h23 (by omega)
          replace oGm := oGm.below h23 (by omega)
          have s23 : w22.heap.size ≤ w23.heap.size := h23.size
          have odi := no
          clear no
          have xa0 := ba.c0
          have xa1 := ba.c1
          have na := ba.lt
          have xW0 := bW.c0
          have xW1 := bW.c1
          have nW := bW.lt
          have xx0 := bx.c0
          have xx1 := bx.c1
          have nx := bx.lt
          have xG0 := bG.c0
          have xG1 := bG.c1
          have nG := bG.lt
          go_wp2_with fail
          refine (Ci.out Adt cdt Adc cdc Adi _ w23 (RdT.of_own od.f) (RdI.of_own od.r) (RdI.of_own odi)).mono ?_
          rintro e w24 ⟨AHt, cHt, AHc, cHc, rfl, no, h24⟩
          clear xa0 xa1 na xW0 xW1 nW xx0 xx1 nx xG0 xG1 nG
          replace hb := bstep hb h24
          replace ba := ba.keep h24
          replace bW := bW.keep h24
          replace bx := bx.keep h24
          replace bG := bG.keep h24
          replace oW := oW.below h24 (by omega)
          replace od := od.below h24 (by omega)
          replace odi := own_keep odi h24
          replace oGm := oGm.below h24 (by omega)
          have s24 : w23.heap.size ≤ w24.heap.size := h24.size
          have oH := no
          clear no
          clear od
          clear odi
          have xa0 := ba.c0
          have xa1 := ba.c1
          have na := ba.lt
          have xW0 := bW.c0
          have xW1 := bW.c1
          have nW := bW.lt
          have xx0 := bx.c0
          have xx1 := bx.c1
          have nx := bx.lt
          have xG0 := bG.c0
          have xG1 := bG.c1
          have nG := bG.lt
          go_wp2_with fail
          clear xa0 xa1 na xW0 xW1 nW xx0 xx1 nx xG0 xG1 nG
          obtain ⟨w25, hw⟩ : ∃ v, v = w24.alloc (.cells #[.slice AHt T2.length cHt, .slice AHc C2.length cHc] 30) := ⟨_, rfl⟩
          rw [← hw]
          have h25 : Below w24.heap.size w24 w25 := by rw [hw]; exact (Below.refl _ _).alloc (Nat.le_refl _) _
          have nb : Bx2 w25 w24.heap.size (.slice AHt T2.length cHt) (.slice AHc C2.length cHc) := by rw [hw]; exact Bx2.fresh w24 _ _ _
          have hz25 : w25.heap.size = w24.heap.size + 1 := by rw [hw]; simp
          clear hw
          replace hb := bstep hb h25
          replace ba := ba.keep h25
          replace bW := bW.keep h25
          replace bx := bx.keep h25
          replace bG := bG.keep h25
          replace oW := oW.below h25 (by omega)
          replace oH := oH.below h25 (by omega)
          replace oGm := oGm.below h25 (by omega)
          have s25 : w24.heap.size ≤ w25.heap.size := h25.size
          have bH := nb
          clear nb
          refine (c_eqPuzzle_same AHt cHt AHc cHc AWt cWt AWc cWc T2 C2 _ (RdT.of_own oH.f) (RdI.of_own oH.r) (RdT.of_own oW.f) (RdI.of_own oW.r) (by omega) (by omega)).mono ?_
          rintro e w26 ⟨rfl, h26⟩
          replace hb := bstep hb h26
          replace ba := ba.keep h26
          replace bW := bW.keep h26
          replace bx := bx.keep h26
          replace bG := bG.keep h26
          replace bH := bH.keep h26
          replace oW := oW.below h26 (by omega)
          replace oH := oH.below h26 (by omega)
          replace oGm := oGm.below h26 (by omega)
          have s26 : w25.heap.size ≤ w26.heap.size := h26.size
          have xa0 := ba.c0
          have xa1 := ba.c1
          have na := ba.lt
          have xW0 := bW.c0
          have xW1 := bW.c1
          have nW := bW.lt
          have xx0 := bx.c0
          have xx1 := bx.c1
          have nx := bx.lt
          have xG0 := bG.c0
          have xG1 := bG.c1
          have nG := bG.lt
          have xH0 := bH.c0
          have xH1 := bH.c1
          have nH := bH.lt
          go_wp2_with fail
          refine (c_heldPuzzle AGt cGt T2.length AGc cGc C2.length 1 _ (rdmarksT oGm.f) (rdmarksI oGm.r) (by omega) (by omega) (by omega)).mono ?_
          rintro e w27 ⟨rfl, h27⟩
          clear xa0 xa1 na xW0 xW1 nW xx0 xx1 nx xG0 xG1 nG xH0 xH1 nH
          replace hb := bstep hb h27
          replace ba := ba.keep h27
          replace bW := bW.keep h27
          replace bx := bx.keep h27
          replace bG := bG.keep h27
          replace bH := bH.keep h27
          replace oW := oW.below h27 (by omega)
          replace oH := oH.below h27 (by omega)
          replace oGm := oGm.below h27 (by omega)
          have s27 : w26.heap.size ≤ w27.heap.size := h27.size
          go_wp2
          go_ret
          exact ⟨rfl, hb⟩
end Go.Proofs.Ytjdnkcdnppcbhaa

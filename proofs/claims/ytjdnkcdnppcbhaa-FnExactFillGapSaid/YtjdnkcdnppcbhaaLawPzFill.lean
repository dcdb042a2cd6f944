/- The law of FillGap: at every puzzle and two numbers both functions answer alike, leave the puzzle alone, and each answer owns its memory. No condition. -/
import Derived.Test.YtjdnkcdnppcbhaaPzF
import Derived.Test.YtjdnkcdnppcbhaaPzL
import Derived.Test.YtjdnkcdnppcbhaaLawPz
namespace Go.Proofs.Ytjdnkcdnppcbhaa
open Go.ChangeShapes Go.WideShapes Go.ChangeAt Go.RowKit Go.Joins
set_option linter.unusedVariables false

set_option maxRecDepth 100000 in
set_option maxHeartbeats 4000000 in
theorem w_FnExactFillGap (AT : Option Addr) (cT : Nat) (T : List (Int × Int)) (AC : Option Addr) (cC : Nat) (C : List Int) (x1 : Int) (x2 : Int) (w : World) (hT : RdT w AT T) (lT : T.length ≤ 9223372036854775807) (hC : RdI w AC C) (lC : C.length ≤ 9223372036854775807) (lo1 : -9223372036854775808 ≤ x1) (hi1 : x1 ≤ 9223372036854775807) (lo2 : -9223372036854775808 ≤ x2) (hi2 : x2 ≤ 9223372036854775807) :
    Calls Try.prog 6 #[.agg #[.slice AT T.length cT, .slice AC C.length cC], .int .i64 x1, .int .i64 x2] w fun e w' => e = .returned (.bool true) ∧ Below w.heap.size w w' := by
  by_cases hbig : 1048576 < T.length + C.length
  · have q0 : True := trivial
    go_enter Try.func6, Try.ntmps6
    go_wp2_with fail
    obtain ⟨w0, hw0⟩ : ∃ w0, w0 = w.alloc (.cells #[.slice AT T.length cT, .slice AC C.length cC] 25) := ⟨_, rfl⟩
    rw [← hw0]
    have ba0 : Bx2 w0 w.heap.size (.slice AT T.length cT) (.slice AC C.length cC) := by rw [hw0]; exact Bx2.fresh w _ _ _
    have hb0 : Below w.heap.size w w0 := by rw [hw0]; go_grown
    clear hw0
    refine (c_szPuzzle_no AT cT T AC cC C w0 lT lC hbig).mono ?_
    rintro e w1 ⟨rfl, h1⟩
    have hb1 := bstep hb0 h1
    go_wp2
    go_ret
    exact ⟨rfl, hb1⟩
  have hle : T.length + C.length ≤ 1048576 := by omega
  have hlt : ¬ (1048576 - (T.length : Int) - (C.length : Int)) < 0 := by omega
  have hl2 : (selPT (fillB T C x1 x2) T).length + (selPI (fillB T C x1 x2) (C.set x1.toNat x2)).length ≤ 1048576 := sel_len2 _ _ _ (by simp; omega)
  have cs := fun AT cT AC cC W hT hC kT => c_specFill AT cT T AC cC C x1 x2 W hT hC (by omega) kT
  have ci := fun AT cT AC cC W hT hC => c_implFill AT cT T AC cC C x1 x2 W hT hC (by omega)
  unfold RetPB at cs ci
  generalize selPT (fillB T C x1 x2) T = T2 at cs ci hl2
  generalize selPI (fillB T C x1 x2) (C.set x1.toNat x2) = C2 at cs ci hl2
  generalize fillB T C x1 x2 = bg at cs ci
  have Cs := Lib.hid cs
  have Ci := Lib.hid ci
  clear cs ci
  go_enter Try.func6, Try.ntmps6
  go_wp2_with fail
  have hb : Below w.heap.size w w := Below.refl _ _
  have s0 : w.heap.size ≤ w.heap.size := Nat.le_refl _
  obtain ⟨w1, hw⟩ : ∃ v, v = w.alloc (.cells #[.slice AT T.length cT, .slice AC C.length cC] 25) := ⟨_, rfl⟩
  rw [← hw]
  have h1 : Below w.heap.size w w1 := by rw [hw]; exact (Below.refl _ _).alloc (Nat.le_refl _) _
  have nb : Bx2 w1 w.heap.size (.slice AT T.length cT) (.slice AC C.length cC) := by rw [hw]; exact Bx2.fresh w _ _ _
  have hz1 : w1.heap.size = w.heap.size + 1 := by rw [hw]; simp
  clear hw
  replace hb := bstep hb h1
  have s1 : w.heap.size ≤ w1.heap.size := h1.size
  have ba := nb
  clear nb
  refine (c_szPuzzle_yes AT cT T AC cC C w1 hle).mono ?_
  rintro e w2 ⟨rfl, h2⟩
  replace hb := bstep hb h2
  replace ba := ba.keep h2
  have s2 : w1.heap.size ≤ w2.heap.size := h2.size
  have xa0 := ba.c0
  have xa1 := ba.c1
  have na := ba.lt
  go_wp2_with fail
  refine (c_toPuzzle AT cT T AC cC C w2 (hT.below hb) (hC.below hb) hle).mono ?_
  rintro e w3 ⟨Apt, cpt, Apc, cpc, rfl, no, h3⟩
  clear xa0 xa1 na
  replace hb := bstep hb h3
  replace ba := ba.keep h3
  have s3 : w2.heap.size ≤ w3.heap.size := h3.size
  have op := no
  clear no
  have xa0 := ba.c0
  have xa1 := ba.c1
  have na := ba.lt
  go_wp2_with fail
  refine (Cs.out Apt cpt Apc cpc w3 (RdT.of_own op.f) (RdI.of_own op.r) (own_capG op.f)).mono ?_
  rintro e w4 ⟨AWt, cWt, AWc, cWc, rfl, no, h4⟩
  clear xa0 xa1 na
  replace hb := bstep hb h4
  replace ba := ba.keep h4
  replace op := op.below h4 (by omega)
  have s4 : w3.heap.size ≤ w4.heap.size := h4.size
  have oW := no
  clear no
  clear op
  have xa0 := ba.c0
  have xa1 := ba.c1
  have na := ba.lt
  go_wp2_with fail
  clear xa0 xa1 na
  obtain ⟨w5, hw⟩ : ∃ v, v = w4.alloc (.cells #[.slice AWt T2.length cWt, .slice AWc C2.length cWc] 30) := ⟨_, rfl⟩
  rw [← hw]
  have h5 : Below w4.heap.size w4 w5 := by rw [hw]; exact (Below.refl _ _).alloc (Nat.le_refl _) _
  have nb : Bx2 w5 w4.heap.size (.slice AWt T2.length cWt) (.slice AWc C2.length cWc) := by rw [hw]; exact Bx2.fresh w4 _ _ _
  have hz5 : w5.heap.size = w4.heap.size + 1 := by rw [hw]; simp
  clear hw
  replace hb := bstep hb h5
  replace ba := ba.keep h5
  replace oW := oW.below h5 (by omega)
  have s5 : w4.heap.size ≤ w5.heap.size := h5.size
  have bW := nb
  clear nb
  refine (c_toPuzzle AT cT T AC cC C w5 (hT.below hb) (hC.below hb) hle).mono ?_
  rintro e w6 ⟨Axt, cxt, Axc, cxc, rfl, no, h6⟩
  replace hb := bstep hb h6
  replace ba := ba.keep h6
  replace bW := bW.keep h6
  replace oW := oW.below h6 (by omega)
  have s6 : w5.heap.size ≤ w6.heap.size := h6.size
  have ox := no
  clear no
  have xa0 := ba.c0
  have xa1 := ba.c1
  have na := ba.lt
  have xW0 := bW.c0
  have xW1 := bW.c1
  have nW := bW.lt
  go_wp2_with fail
  clear xa0 xa1 na xW0 xW1 nW
  obtain ⟨w7, hw⟩ : ∃ v, v = w6.alloc (.cells #[.slice Axt T.length cxt, .slice Axc C.length cxc] 30) := ⟨_, rfl⟩
  rw [← hw]
  have h7 : Below w6.heap.size w6 w7 := by rw [hw]; exact (Below.refl _ _).alloc (Nat.le_refl _) _
  have nb : Bx2 w7 w6.heap.size (.slice Axt T.length cxt) (.slice Axc C.length cxc) := by rw [hw]; exact Bx2.fresh w6 _ _ _
  have hz7 : w7.heap.size = w6.heap.size + 1 := by rw [hw]; simp
  clear hw
  replace hb := bstep hb h7
  replace ba := ba.keep h7
  replace bW := bW.keep h7
  replace oW := oW.below h7 (by omega)
  replace ox := ox.below h7 (by omega)
  have s7 : w6.heap.size ≤ w7.heap.size := h7.size
  have bx := nb
  clear nb
  refine (Ci.out Axt cxt Axc cxc w7 (RdT.of_own ox.f) (RdI.of_own ox.r)).mono ?_
  rintro e w8 ⟨AGt, cGt, AGc, cGc, rfl, no, h8⟩
  replace hb := bstep hb h8
  replace ba := ba.keep h8
  replace bW := bW.keep h8
  replace bx := bx.keep h8
  replace oW := oW.below h8 (by omega)
  replace ox := ox.below h8 (by omega)
  have s8 : w7.heap.size ≤ w8.heap.size := h8.size
  have oG := no
  clear no
  have xa0 := ba.c0
  have xa1 := ba.c1
  have na := ba.lt
  have xW0 := bW.c0
  have xW1 := bW.c1
  have nW := bW.lt
  have xx0 := bx.c0
  have xx1 := bx.c1
  have nx := bx.lt
  go_wp2_with fail
  clear xa0 xa1 na xW0 xW1 nW xx0 xx1 nx
  obtain ⟨w9, hw⟩ : ∃ v, v = w8.alloc (.cells #[.slice AGt T2.length cGt, .slice AGc C2.length cGc] 30) := ⟨_, rfl⟩
  rw [← hw]
  have h9 : Below w8.heap.size w8 w9 := by rw [hw]; exact (Below.refl _ _).alloc (Nat.le_refl _) _
  have nb : Bx2 w9 w8.heap.size (.slice AGt T2.length cGt) (.slice AGc C2.length cGc) := by rw [hw]; exact Bx2.fresh w8 _ _ _
  have hz9 : w9.heap.size = w8.heap.size + 1 := by rw [hw]; simp
  clear hw
  replace hb := bstep hb h9
  replace ba := ba.keep h9
  replace bW := bW.keep h9
  replace bx := bx.keep h9
  replace oW := oW.below h9 (by omega)
  replace ox := ox.below h9 (by omega)
  replace oG := oG.below h9 (by omega)
  have s9 : w8.heap.size ≤ w9.heap.size := h9.size
  have bG := nb
  clear nb
  refine (c_eqPuzzle_same AGt cGt AGc cGc AWt cWt AWc cWc T2 C2 _ (RdT.of_own oG.f) (RdI.of_own oG.r) (RdT.of_own oW.f) (RdI.of_own oW.r) (by omega) (by omega)).mono ?_
  rintro e w10 ⟨rfl, h10⟩
  replace hb := bstep hb h10
  replace ba := ba.keep h10
  replace bW := bW.keep h10
  replace bx := bx.keep h10
  replace bG := bG.keep h10
  replace oW := oW.below h10 (by omega)
  replace ox := ox.below h10 (by omega)
  replace oG := oG.below h10 (by omega)
  have s10 : w9.heap.size ≤ w10.heap.size := h10.size
  have xa0 := ba.c0
  have xa1 := ba.c1
  have na := ba.lt
  have xW0 := bW.c0
  have xW1 := bW.c1
  have nW := bW.lt
  have xx0 := bx.c0
  have xx1 := bx.c1
  have nx := bx.lt
  have xG0 := bG.c0
  have xG1 := bG.c1
  have nG := bG.lt
  go_wp2_with fail
  have hbd : Below w.heap.size w w10.drew := hb.drew
  go_region_held3 (fun w' => w'.cell? ⟨w.heap.size, 0, none⟩ = some (.slice AT T.length cT) ∧ w'.cell? ⟨w.heap.size, 1, none⟩ = some (.slice AC C.length cC) ∧ w'.cell? ⟨w4.heap.size, 0, none⟩ = some (.slice AWt T2.length cWt) ∧ w'.cell? ⟨w4.heap.size, 1, none⟩ = some (.slice AWc C2.length cWc) ∧ w'.cell? ⟨w6.heap.size, 0, none⟩ = some (.slice Axt T.length cxt) ∧ w'.cell? ⟨w6.heap.size, 1, none⟩ = some (.slice Axc C.length cxc) ∧ w'.cell? ⟨w8.heap.size, 0, none⟩ = some (.slice AGt T2.length cGt) ∧ w'.cell? ⟨w8.heap.size, 1, none⟩ = some (.slice AGc C2.length cGc)) (first | exact ⟨zxa0, zxa1, zxW0, zxW1, zxx0, zxx1, zxG0, zxG1⟩ | exact ⟨yxa0, yxa1, yxW0, yxW1, yxx0, yxx1, yxG0, yxG1⟩ | go_keep) (first | (go_at_call 17; refine (c_toPuzzle AT cT T AC cC C _ (hT.below hbd) (hC.below hbd) hle).mono ?_; rintro e w11 ⟨Bf, df, Br, dr, rfl, ob, h11⟩; have hb11 := bstep hbd h11; have yxa0 := keepc h11 (gdG _ xa0); have yxa1 := keepc h11 (gdG _ xa1); have yxW0 := keepc h11 (gdG _ xW0); have yxW1 := keepc h11 (gdG _ xW1); have yxx0 := keepc h11 (gdG _ xx0); have yxx1 := keepc h11 (gdG _ xx1); have yxG0 := keepc h11 (gdG _ xG0); have yxG1 := keepc h11 (gdG _ xG1)) | (go_at_call 19; refine (c_eqPuzzle_same Axt cxt Axc cxc Bf df Br dr T C _ (RdT.of_own (own_keep (own_drew ox.f) h11)) (RdI.of_own (own_keep (own_drew ox.r) h11)) (RdT.of_own ob.f) (RdI.of_own ob.r) lT lC).mono ?_; rintro e w12 ⟨rfl, h12⟩; have hb12 := bstep hb11 h12; have zxa0 := keepc h12 yxa0; have zxa1 := keepc h12 yxa1; have zxW0 := keepc h12 yxW0; have zxW1 := keepc h12 yxW1; have zxx0 := keepc h12 yxx0; have zxx1 := keepc h12 yxx1; have zxG0 := keepc h12 yxG0; have zxG1 := keepc h12 yxG1))
  have hR12 : Below w10.heap.size w10 w12 := bstep (bstep (Below.refl w10.heap.size w10).drew h11) h12
  clear xa0 xa1 na xW0 xW1 nW xx0 xx1 nx xG0 xG1 nG yxa0 yxa1 yxW0 yxW1 yxx0 yxx1 yxG0 yxG1 zxa0 zxa1 zxW0 zxW1 zxx0 zxx1 zxG0 zxG1 hbd hb11 hb12 ob
  replace hb := bstep hb hR12
  replace ba := ba.keep hR12
  replace bW := bW.keep hR12
  replace bx := bx.keep hR12
  replace bG := bG.keep hR12
  replace oW := oW.below hR12 (by omega)
  replace ox := ox.below hR12 (by omega)
  replace oG := oG.below hR12 (by omega)
  have s12 : w10.heap.size ≤ w12.heap.size := hR12.size
  have xa0 := ba.c0
  have xa1 := ba.c1
  have na := ba.lt
  have xW0 := bW.c0
  have xW1 := bW.c1
  have nW := bW.lt
  have xx0 := bx.c0
  have xx1 := bx.c1
  have nx := bx.lt
  have xG0 := bG.c0
  have xG1 := bG.c1
  have nG := bG.lt
  go_wp2_with fail
  refine (c_markPuzzle Axt cxt T Axc cxc C w5.heap.size w6.heap.size (1) w12 ox (by omega) (by omega) (by omega) (by omega) (by omega)).mono ?_
  rintro e w13 ⟨rfl, no, h13, hx13⟩
  clear xa0 xa1 na xW0 xW1 nW xx0 xx1 nx xG0 xG1 nG
  have s13 : w12.heap.size ≤ w13.heap.size := h13.size
  replace hb := hb.trans (h13.mono (by omega))
  replace ba := ba.of_block (hx13 _ (by omega) ba.lt)
  replace bW := bW.of_block (hx13 _ (by omega) bW.lt)
  replace bx := bx.of_block (hx13 _ (by omega) bx.lt)
  replace bG := bG.of_block (hx13 _ (by omega) bG.lt)
  replace oW := oW.below h13 (by omega)
  replace oG := oG.moved (fun g h1 h2 => hx13 g (.inr (by omega)) h2)
  have oxm := no
  clear no ox h13 hx13
  clear oxm
  have xa0 := ba.c0
  have xa1 := ba.c1
  have na := ba.lt
  have xW0 := bW.c0
  have xW1 := bW.c1
  have nW := bW.lt
  have xx0 := bx.c0
  have xx1 := bx.c1
  have nx := bx.lt
  have xG0 := bG.c0
  have xG1 := bG.c1
  have nG := bG.lt
  go_wp2_with fail
  refine (c_eqPuzzle_same AGt cGt AGc cGc AWt cWt AWc cWc T2 C2 _ (RdT.of_own oG.f) (RdI.of_own oG.r) (RdT.of_own oW.f) (RdI.of_own oW.r) (by omega) (by omega)).mono ?_
  rintro e w14 ⟨rfl, h14⟩
  clear xa0 xa1 na xW0 xW1 nW xx0 xx1 nx xG0 xG1 nG
  replace hb := bstep hb h14
  replace ba := ba.keep h14
  replace bW := bW.keep h14
  replace bx := bx.keep h14
  replace bG := bG.keep h14
  replace oW := oW.below h14 (by omega)
  replace oG := oG.below h14 (by omega)
  have s14 : w13.heap.size ≤ w14.heap.size := h14.size
  have xa0 := ba.c0
  have xa1 := ba.c1
  have na := ba.lt
  have xW0 := bW.c0
  have xW1 := bW.c1
  have nW := bW.lt
  have xx0 := bx.c0
  have xx1 := bx.c1
  have nx := bx.lt
  have xG0 := bG.c0
  have xG1 := bG.c1
  have nG := bG.lt
  go_wp2_with fail
  refine (c_markPuzzle AGt cGt T2 AGc cGc C2 w7.heap.size w8.heap.size (1) w14 oG (by omega) (by omega) (by omega) (by omega) (by omega)).mono ?_
  rintro e w15 ⟨rfl, no, h15, hx15⟩
  clear xa0 xa1 na xW0 xW1 nW xx0 xx1 nx xG0 xG1 nG
  have s15 : w14.heap.size ≤ w15.heap.size := h15.size
  replace hb := hb.trans (h15.mono (by omega))
  replace ba := ba.of_block (hx15 _ (by omega) ba.lt)
  replace bW := bW.of_block (hx15 _ (by omega) bW.lt)
  replace bx := bx.of_block (hx15 _ (by omega) bx.lt)
  replace bG := bG.of_block (hx15 _ (by omega) bG.lt)
  replace oW := oW.below h15 (by omega)
  have oGm := no
  clear no oG h15 hx15
  have xa0 := ba.c0
  have xa1 := ba.c1
  have na := ba.lt
  have xW0 := bW.c0
  have xW1 := bW.c1
  have nW := bW.lt
  have xx0 := bx.c0
  have xx1 := bx.c1
  have nx := bx.lt
  have xG0 := bG.c0
  have xG1 := bG.c1
  have nG := bG.lt
  go_wp2_with fail
  refine (c_heldPuzzle AGt cGt T2.length AGc cGc C2.length 1 _ (rdmarksT oGm.f) (rdmarksI oGm.r) (by omega) (by omega) (by omega)).mono ?_
  rintro e w16 ⟨rfl, h16⟩
  clear xa0 xa1 na xW0 xW1 nW xx0 xx1 nx xG0 xG1 nG
  replace hb := bstep hb h16
  replace ba := ba.keep h16
  replace bW := bW.keep h16
  replace bx := bx.keep h16
  replace bG := bG.keep h16
  replace oW := oW.below h16 (by omega)
  replace oGm := oGm.below h16 (by omega)
  have s16 : w15.heap.size ≤ w16.heap.size := h16.size
  have xa0 := ba.c0
  have xa1 := ba.c1
  have na := ba.lt
  have xW0 := bW.c0
  have xW1 := bW.c1
  have nW := bW.lt
  have xx0 := bx.c0
  have xx1 := bx.c1
  have nx := bx.lt
  have xG0 := bG.c0
  have xG1 := bG.c1
  have nG := bG.lt
  go_wp2_with fail
  refine (c_toPuzzle AT cT T AC cC C w16 (hT.below hb) (hC.below hb) hle).mono ?_
  rintro e w17 ⟨Adt, cdt, Adc, cdc, rfl, no, h17⟩
  clear xa0 xa1 na xW0 xW1 nW xx0 xx1 nx xG0 xG1 nG
  replace hb := bstep hb h17
  replace ba := ba.keep h17
  replace bW := bW.keep h17
  replace bx := bx.keep h17
  replace bG := bG.keep h17
  replace oW := oW.below h17 (by omega)
  replace oGm := oGm.below h17 (by omega)
  have s17 : w16.heap.size ≤ w17.heap.size := h17.size
  have od := no
  clear no
  have xa0 := ba.c0
  have xa1 := ba.c1
  have na := ba.lt
  have xW0 := bW.c0
  have xW1 := bW.c1
  have nW := bW.lt
  have xx0 := bx.c0
  have xx1 := bx.c1
  have nx := bx.lt
  have xG0 := bG.c0
  have xG1 := bG.c1
  have nG := bG.lt
  go_wp2_with fail
  refine (Ci.out Adt cdt Adc cdc w17 (RdT.of_own od.f) (RdI.of_own od.r)).mono ?_
  rintro e w18 ⟨AHt, cHt, AHc, cHc, rfl, no, h18⟩
  clear xa0 xa1 na xW0 xW1 nW xx0 xx1 nx xG0 xG1 nG
  replace hb := bstep hb h18
  replace ba := ba.keep h18
  replace bW := bW.keep h18
  replace bx := bx.keep h18
  replace bG := bG.keep h18
  replace oW := oW.below h18 (by omega)
  replace od := od.below h18 (by omega)
  replace oGm := oGm.below h18 (by omega)
  have s18 : w17.heap.size ≤ w18.heap.size := h18.size
  have oH := no
  clear no
  clear od
  have xa0 := ba.c0
  have xa1 := ba.c1
  have na := ba.lt
  have xW0 := bW.c0
  have xW1 := bW.c1
  have nW := bW.lt
  have xx0 := bx.c0
  have xx1 := bx.c1
  have nx := bx.lt
  have xG0 := bG.c0
  have xG1 := bG.c1
  have nG := bG.lt
  go_wp2_with fail
  clear xa0 xa1 na xW0 xW1 nW xx0 xx1 nx xG0 xG1 nG
  obtain ⟨w19, hw⟩ : ∃ v, v = w18.alloc (.cells #[.slice AHt T2.length cHt, .slice AHc C2.length cHc] 30) := ⟨_, rfl⟩
  rw [← hw]
  have h19 : Below w18.heap.size w18 w19 := by rw [hw]; exact (Below.refl _ _).alloc (Nat.le_refl _) _
  have nb : Bx2 w19 w18.heap.size (.slice AHt T2.length cHt) (.slice AHc C2.length cHc) := by rw [hw]; exact Bx2.fresh w18 _ _ _
  have hz19 : w19.heap.size = w18.heap.size + 1 := by rw [hw]; simp
  clear hw
  replace hb := bstep hb h19
  replace ba := ba.keep h19
  replace bW := bW.keep h19
  replace bx := bx.keep h19
  replace bG := bG.keep h19
  replace oW := oW.below h19 (by omega)
  replace oH := oH.below h19 (by omega)
  replace oGm := oGm.below h19 (by omega)
  have s19 : w18.heap.size ≤ w19.heap.size := h19.size
  have bH := nb
  clear nb
  refine (c_eqPuzzle_same AHt cHt AHc cHc AWt cWt AWc cWc T2 C2 _ (RdT.of_own oH.f) (RdI.of_own oH.r) (RdT.of_own oW.f) (RdI.of_own oW.r) (by omega) (by omega)).mono ?_
  rintro e w20 ⟨rfl, h20⟩
  replace hb := bstep hb h20
  replace ba := ba.keep h20
  replace bW := bW.keep h20
  replace bx := bx.keep h20
  replace bG := bG.keep h20
  replace bH := bH.keep h20
  replace oW := oW.below h20 (by omega)
  replace oH := oH.below h20 (by omega)
  replace oGm := oGm.below h20 (by omega)
  have s20 : w19.heap.size ≤ w20.heap.size := h20.size
  have xa0 := ba.c0
  have xa1 := ba.c1
  have na := ba.lt
  have xW0 := bW.c0
  have xW1 := bW.c1
  have nW := bW.lt
  have xx0 := bx.c0
  have xx1 := bx.c1
  have nx := bx.lt
  have xG0 := bG.c0
  have xG1 := bG.c1
  have nG := bG.lt
  have xH0 := bH.c0
  have xH1 := bH.c1
  have nH := bH.lt
  go_wp2_with fail
  refine (c_heldPuzzle AGt cGt T2.length AGc cGc C2.length 1 _ (rdmarksT oGm.f) (rdmarksI oGm.r) (by omega) (by omega) (by omega)).mono ?_
  rintro e w21 ⟨rfl, h21⟩
  clear xa0 xa1 na xW0 xW1 nW xx0 xx1 nx xG0 xG1 nG xH0 xH1 nH
  replace hb := bstep hb h21
  replace ba := ba.keep h21
  replace bW := bW.keep h21
  replace bx := bx.keep h21
  replace bG := bG.keep h21
  replace bH := bH.keep h21
  replace oW := oW.below h21 (by omega)
  replace oH := oH.below h21 (by omega)
  replace oGm := oGm.below h21 (by omega)
  have s21 : w20.heap.size ≤ w21.heap.size := h21.size
  go_wp2
  go_ret
  exact ⟨rfl, hb⟩

set_option maxRecDepth 100000 in
theorem lifted_FnExactFillGap (os : Os) (started : os.Started) (H : Type) (enc : TypeId × Value → H) :
    ReturnsInHanded {} Try.checked os 6 .any (Rows.fnExactFillGapSpec.pre6 enc Try.prog Try.f6 Rows.fnExactFillGapRow.domain false) (Rows.fnExactFillGapSpec.post enc Try.prog Try.f6 false true false false) := by
  refine returnsInHanded_of_change (C := Try.checked) Try.own_ started (by kernel_rfl) Try.func6
    (ChangeSpec.witness6 (enc := enc) (C := Try.checked) false ⟨#[], #[.agg #[.slice none 0 0, .slice none 0 0], .int .i64 0, .int .i64 0], []⟩ 8 (by kernel_rfl) (by kernel_rfl) (by kernel_rfl) (by kernel_rfl)) ?_
  intro W base args ds gs before hval0 hW hcnd _
  have hval : ∀ (j : Nat) t v, Try.f6.params[j]? = some t → args[j]? = some v → Value.okWide Try.prog W .any base t v := hval0
  have hW' := hW
  obtain ⟨p, q, hA0, hV, rfl, hfz, hnd⟩ := hW
  have hA : DataW.TrodAll enc Try.prog W 0 (fun _ => true) true Try.f6.params.toList args.toList ds p := hA0
  rw [Try.params6] at hA hval
  obtain ⟨v0, vs0, d0, ds0, p0, q0, hargs0, rfl, rfl, h0, r0⟩ := trodAll_cons hA
  obtain ⟨v1, vs1, d1, ds1, p1, q1, rfl, rfl, rfl, h1, r1⟩ := trodAll_cons r0
  obtain ⟨v2, vs2, d2, ds2, p2, q2, rfl, rfl, rfl, h2, r2⟩ := trodAll_cons r1
  obtain ⟨rfl, rfl, rfl⟩ := trodAll_nil r2
  obtain rfl : args = #[v0, v1, v2] := by cases args; simp_all
  obtain ⟨rfl, rfl⟩ := trodVars_none hV
  obtain ⟨AT, cT, T, AC, cC, C, rfl, ⟨hT, lT⟩, ⟨hC, lC⟩⟩ := open_puzzle (hval 0 25 v0 rfl rfl) h0
  obtain ⟨x1, rfl, _, _, wf1⟩ := open_int Try.underlying3 (hval 1 3 v1 rfl rfl) h1
  obtain ⟨x2, rfl, _, _, wf2⟩ := open_int Try.underlying3 (hval 2 3 v2 rfl rfl) h2
  refine (w_FnExactFillGap AT cT T AC cC C x1 x2 W hT lT hC lC (wf_lo wf1) (wf_hi wf1) (wf_lo wf2) (wf_hi wf2)).mono fun e W' ⟨he, hg⟩ => ?_
  subst he
  exact ⟨_, rfl, law_post rfl rfl (of_decide_eq_true (by kernel_rfl)) hW' rfl hg⟩

theorem fnExactFillGap_holds : Rows.FnExactFillGapSaid :=
  OpenClaim.holds_of_wide 6 Try.f6 rfl rfl rfl rfl rfl rfl rfl ⟨rfl, rfl, rfl, rfl, rfl⟩ rfl rfl rfl rfl rfl (by kernel_rfl) Try.func6 (by kernel_rfl)
    (of_decide_eq_true (by kernel_rfl)) (by unfold Func.isWrapper; first | (rw [if_pos (by decide +kernel)]; kernel_rfl) | (rw [if_neg (by decide +kernel)]; exact ⟨rfl, rfl⟩))
    (fun os started H enc _ => lifted_FnExactFillGap os started H enc)
#print axioms fnExactFillGap_holds

end Go.Proofs.Ytjdnkcdnppcbhaa

/- The law of HeavyLine: at every game both functions answer alike, leave the game alone, and each answer owns its memory. No condition. -/
import Derived.Test.YtgjdpiooocpmhabGreatDoorHvs
import Derived.Test.YtgjdpiooocpmhabGreatDoorGameL
import Derived.Test.YtgjdpiooocpmhabGreatDoorDoor
namespace Go.Proofs.YtgjdpiooocpmhabGreatDoor
open Go.ChangeShapes Go.WideShapes Go.ChangeAt Go.RowKit Go.Joins
set_option linter.unusedVariables false

set_option maxRecDepth 100000 in
set_option maxHeartbeats 4000000 in
theorem w_FnExactHeavyLine (AF : Option Addr) (cF : Nat) (F : List (Int × Int)) (AS : Option Addr) (cS : Nat) (S : List (Int × Int)) (AR : Option Addr) (cR : Nat) (R : List Int) (t u : Int) (w : World) (hF : RdT w AF F) (lF : F.length ≤ 9223372036854775807) (hS : RdT w AS S) (lS : S.length ≤ 9223372036854775807) (hR : RdI w AR R) (lR : R.length ≤ 9223372036854775807) :
    Calls Tryz.prog 6 #[.agg #[.slice AF F.length cF, .slice AS S.length cS, .slice AR R.length cR, .int .i64 t, .int .i64 u]] w fun e w' => e = .returned (.bool true) ∧ Below w.heap.size w w' := by
  by_cases hbig : 1048576 < F.length + S.length + R.length
  · have q0 : True := trivial
    go_enter Tryz.func6, Tryz.ntmps6
    go_wp2_with fail
    obtain ⟨w0, hw0⟩ : ∃ w0, w0 = w.alloc (.cells #[.slice AF F.length cF, .slice AS S.length cS, .slice AR R.length cR, .int .i64 t, .int .i64 u] 25) := ⟨_, rfl⟩
    rw [← hw0]
    have ba0 : BoxAt w0 w.heap.size (.slice AF F.length cF) (.slice AS S.length cS) (.slice AR R.length cR) (.int .i64 t) (.int .i64 u) := by rw [hw0]; exact BoxAt.fresh w _ _ _ _ _ _
    have hb0 : Below w.heap.size w w0 := by rw [hw0]; go_grown
    clear hw0
    refine (c_szGame_no AF cF F AS cS S AR cR R t u w0 lF lS lR hbig).mono ?_
    rintro e w1 ⟨rfl, h1⟩
    have hb1 := bstep hb0 h1
    go_wp2
    go_ret
    exact ⟨rfl, hb1⟩
  have hle : F.length + S.length + R.length ≤ 1048576 := by omega
  have hlt : ¬ (1048576 - (F.length : Int) - (S.length : Int) - (R.length : Int)) < 0 := by omega
  have cs := fun AF cF AS cS AR cR W h1 h2 h3 k1 k2 => c_specHeavyLine AF cF F AS cS S AR cR R t u W h1 h2 h3 (by omega) (by omega) k1 k2
  have ci := fun AF cF AS cS AR cR W h1 h2 h3 => c_implHeavyLine AF cF F AS cS S AR cR R t u W h1 h2 h3 (by omega) (by omega)
  unfold RetStB at cs ci
  have hl2 : (selW (gameB F S R t u) (hlT F S R t u)).length ≤ 1048576 := hlT_len F S R t u _
  generalize selW (gameB F S R t u) (hlT F S R t u) = X2 at cs ci hl2
  generalize gameB F S R t u = bg at cs ci
  have Cs := Lib.hid cs
  have Ci := Lib.hid ci
  clear cs ci
  go_enter Tryz.func6, Tryz.ntmps6
  go_wp2_with fail
  have hb : Below w.heap.size w w := Below.refl _ _
  have s0 : w.heap.size ≤ w.heap.size := Nat.le_refl _
  obtain ⟨w1, hw⟩ : ∃ v, v = w.alloc (.cells #[.slice AF F.length cF, .slice AS S.length cS, .slice AR R.length cR, .int .i64 t, .int .i64 u] 25) := ⟨_, rfl⟩
  rw [← hw]
  have h1 : Below w.heap.size w w1 := by rw [hw]; exact (Below.refl _ _).alloc (Nat.le_refl _) _
  have nb : BoxAt w1 w.heap.size (.slice AF F.length cF) (.slice AS S.length cS) (.slice AR R.length cR) (.int .i64 t) (.int .i64 u) := by rw [hw]; exact BoxAt.fresh w _ _ _ _ _ _
  have hz1 : w1.heap.size = w.heap.size + 1 := by rw [hw]; simp
  clear hw
  replace hb := bstep hb h1
  have s1 : w.heap.size ≤ w1.heap.size := h1.size
  have ba := nb
  clear nb
  refine (c_szGame_yes AF cF F AS cS S AR cR R t u w1 hle).mono ?_
  rintro e w2 ⟨rfl, h2⟩
  replace hb := bstep hb h2
  replace ba := ba.keep h2
  have s2 : w1.heap.size ≤ w2.heap.size := h2.size
  have xa0 := ba.c0
  have xa1 := ba.c1
  have xa2 := ba.c2
  have xa3 := ba.c3
  have xa4 := ba.c4
  have na := ba.lt
  go_wp2_with fail
  refine (c_toGame AF cF F AS cS S AR cR R t u w2 (hF.below hb) (hS.below hb) (hR.below hb) hle).mono ?_
  rintro e w3 ⟨Apf, cpf, Aps, cps, Apr, cpr, rfl, no, h3⟩
  clear xa0 xa1 xa2 xa3 xa4 na
  replace hb := bstep hb h3
  replace ba := ba.keep h3
  have s3 : w2.heap.size ≤ w3.heap.size := h3.size
  have op := no
  clear no
  have xa0 := ba.c0
  have xa1 := ba.c1
  have xa2 := ba.c2
  have xa3 := ba.c3
  have xa4 := ba.c4
  have na := ba.lt
  go_wp2_with fail
  refine (Cs.out Apf cpf Aps cps Apr cpr w3 (RdT.of_own op.f) (RdT.of_own op.s) (RdI.of_own op.r) (own_capG op.f) (own_capG op.s)).mono ?_
  rintro e w4 ⟨AW, cW, rfl, no, h4⟩
  have lW := no.lt
  clear xa0 xa1 xa2 xa3 xa4 na
  replace hb := bstep hb h4
  replace ba := ba.keep h4
  replace op := op.below h4 (by omega)
  have s4 : w3.heap.size ≤ w4.heap.size := h4.size
  have oW := no
  clear no
  clear op
  have xa0 := ba.c0
  have xa1 := ba.c1
  have xa2 := ba.c2
  have xa3 := ba.c3
  have xa4 := ba.c4
  have na := ba.lt
  go_wp2_with fail
  refine (c_toGame AF cF F AS cS S AR cR R t u w4 (hF.below hb) (hS.below hb) (hR.below hb) hle).mono ?_
  rintro e w5 ⟨Axf, cxf, Axs, cxs, Axr, cxr, rfl, no, h5⟩
  clear xa0 xa1 xa2 xa3 xa4 na
  replace hb := bstep hb h5
  replace ba := ba.keep h5
  replace oW := own_keep oW h5
  have s5 : w4.heap.size ≤ w5.heap.size := h5.size
  have ox := no
  clear no
  have xa0 := ba.c0
  have xa1 := ba.c1
  have xa2 := ba.c2
  have xa3 := ba.c3
  have xa4 := ba.c4
  have na := ba.lt
  go_wp2_with fail
  clear xa0 xa1 xa2 xa3 xa4 na
  obtain ⟨w6, hw⟩ : ∃ v, v = w5.alloc (.cells #[.slice Axf F.length cxf, .slice Axs S.length cxs, .slice Axr R.length cxr, .int .i64 t, .int .i64 u] 32) := ⟨_, rfl⟩
  rw [← hw]
  have h6 : Below w5.heap.size w5 w6 := by rw [hw]; exact (Below.refl _ _).alloc (Nat.le_refl _) _
  have nb : BoxAt w6 w5.heap.size (.slice Axf F.length cxf) (.slice Axs S.length cxs) (.slice Axr R.length cxr) (.int .i64 t) (.int .i64 u) := by rw [hw]; exact BoxAt.fresh w5 _ _ _ _ _ _
  have hz6 : w6.heap.size = w5.heap.size + 1 := by rw [hw]; simp
  clear hw
  replace hb := bstep hb h6
  replace ba := ba.keep h6
  replace ox := ox.below h6 (by omega)
  replace oW := own_keep oW h6
  have s6 : w5.heap.size ≤ w6.heap.size := h6.size
  have bx := nb
  clear nb
  refine (Ci.out Axf cxf Axs cxs Axr cxr w6 (RdT.of_own ox.f) (RdT.of_own ox.s) (RdI.of_own ox.r)).mono ?_
  rintro e w7 ⟨AG, cG, rfl, no, h7⟩
  have lG := no.lt
  replace hb := bstep hb h7
  replace ba := ba.keep h7
  replace bx := bx.keep h7
  replace ox := ox.below h7 (by omega)
  replace oW := own_keep oW h7
  have s7 : w6.heap.size ≤ w7.heap.size := h7.size
  have oG := no
  clear no
  have xa0 := ba.c0
  have xa1 := ba.c1
  have xa2 := ba.c2
  have xa3 := ba.c3
  have xa4 := ba.c4
  have na := ba.lt
  have xx0 := bx.c0
  have xx1 := bx.c1
  have xx2 := bx.c2
  have xx3 := bx.c3
  have xx4 := bx.c4
  have nx := bx.lt
  go_wp2_with fail
  refine (c_eqStringS_same AG AW _ _ X2 _ (RdSt.of_own oG) (RdSt.of_own oW) (by omega)).mono ?_
  rintro e w8 ⟨rfl, h8⟩
  clear xa0 xa1 xa2 xa3 xa4 na xx0 xx1 xx2 xx3 xx4 nx
  replace hb := bstep hb h8
  replace ba := ba.keep h8
  replace bx := bx.keep h8
  replace ox := ox.below h8 (by omega)
  replace oW := own_keep oW h8
  replace oG := own_keep oG h8
  have s8 : w7.heap.size ≤ w8.heap.size := h8.size
  have xa0 := ba.c0
  have xa1 := ba.c1
  have xa2 := ba.c2
  have xa3 := ba.c3
  have xa4 := ba.c4
  have na := ba.lt
  have xx0 := bx.c0
  have xx1 := bx.c1
  have xx2 := bx.c2
  have xx3 := bx.c3
  have xx4 := bx.c4
  have nx := bx.lt
  go_wp2_with fail
  have hbd : Below w.heap.size w w8.drew := hb.drew
  go_region_held3 (fun w' => w'.cell? ⟨w.heap.size, 0, none⟩ = some (.slice AF F.length cF) ∧ w'.cell? ⟨w.heap.size, 1, none⟩ = some (.slice AS S.length cS) ∧ w'.cell? ⟨w.heap.size, 2, none⟩ = some (.slice AR R.length cR) ∧ w'.cell? ⟨w.heap.size, 3, none⟩ = some (.int .i64 t) ∧ w'.cell? ⟨w.heap.size, 4, none⟩ = some (.int .i64 u) ∧ w'.cell? ⟨w5.heap.size, 0, none⟩ = some (.slice Axf F.length cxf) ∧ w'.cell? ⟨w5.heap.size, 1, none⟩ = some (.slice Axs S.length cxs) ∧ w'.cell? ⟨w5.heap.size, 2, none⟩ = some (.slice Axr R.length cxr) ∧ w'.cell? ⟨w5.heap.size, 3, none⟩ = some (.int .i64 t) ∧ w'.cell? ⟨w5.heap.size, 4, none⟩ = some (.int .i64 u)) (first | exact ⟨zxa0, zxa1, zxa2, zxa3, zxa4, zxx0, zxx1, zxx2, zxx3, zxx4⟩ | exact ⟨yxa0, yxa1, yxa2, yxa3, yxa4, yxx0, yxx1, yxx2, yxx3, yxx4⟩ | go_keep) (first | (go_at_call 11; refine (c_toGame AF cF F AS cS S AR cR R t u _ (hF.below hbd) (hS.below hbd) (hR.below hbd) hle).mono ?_; rintro e w9 ⟨Bf, df, Bs, ds, Br, dr, rfl, ob, h9⟩; have hb9 := bstep hbd h9; have yxa0 := keepc h9 (gdG _ xa0); have yxa1 := keepc h9 (gdG _ xa1); have yxa2 := keepc h9 (gdG _ xa2); have yxa3 := keepc h9 (gdG _ xa3); have yxa4 := keepc h9 (gdG _ xa4); have yxx0 := keepc h9 (gdG _ xx0); have yxx1 := keepc h9 (gdG _ xx1); have yxx2 := keepc h9 (gdG _ xx2); have yxx3 := keepc h9 (gdG _ xx3); have yxx4 := keepc h9 (gdG _ xx4)) | (go_at_call 14; refine (c_eqGame_same Axf cxf Axs cxs Axr cxr Bf df Bs ds Br dr F S R t u _ (RdT.of_own (own_keep (own_drew ox.f) h9)) (RdT.of_own (own_keep (own_drew ox.s) h9)) (RdI.of_own (own_keep (own_drew ox.r) h9)) (RdT.of_own ob.f) (RdT.of_own ob.s) (RdI.of_own ob.r) lF lS lR).mono ?_; rintro e w10 ⟨rfl, h10⟩; have hb10 := bstep hb9 h10; have zxa0 := keepc h10 yxa0; have zxa1 := keepc h10 yxa1; have zxa2 := keepc h10 yxa2; have zxa3 := keepc h10 yxa3; have zxa4 := keepc h10 yxa4; have zxx0 := keepc h10 yxx0; have zxx1 := keepc h10 yxx1; have zxx2 := keepc h10 yxx2; have zxx3 := keepc h10 yxx3; have zxx4 := keepc h10 yxx4))
  have hR10 : Below w8.heap.size w8 w10 := bstep (bstep (Below.refl w8.heap.size w8).drew h9) h10
  clear xa0 xa1 xa2 xa3 xa4 na xx0 xx1 xx2 xx3 xx4 nx yxa0 yxa1 yxa2 yxa3 yxa4 yxx0 yxx1 yxx2 yxx3 yxx4 zxa0 zxa1 zxa2 zxa3 zxa4 zxx0 zxx1 zxx2 zxx3 zxx4 hbd hb9 hb10 ob
  replace hb := bstep hb hR10
  replace ba := ba.keep hR10
  replace bx := bx.keep hR10
  replace ox := ox.below hR10 (by omega)
  replace oW := own_keep oW hR10
  replace oG := own_keep oG hR10
  have s10 : w8.heap.size ≤ w10.heap.size := hR10.size
  have xa0 := ba.c0
  have xa1 := ba.c1
  have xa2 := ba.c2
  have xa3 := ba.c3
  have xa4 := ba.c4
  have na := ba.lt
  have xx0 := bx.c0
  have xx1 := bx.c1
  have xx2 := bx.c2
  have xx3 := bx.c3
  have xx4 := bx.c4
  have nx := bx.lt
  go_wp2_with fail
  refine (c_markGame Axf cxf F Axs cxs S Axr cxr R t u w4.heap.size w5.heap.size (1) w10 ox (by omega) (by omega) (by omega) (by omega) (by omega)).mono ?_
  rintro e w11 ⟨rfl, no, h11, hx11⟩
  clear xa0 xa1 xa2 xa3 xa4 na xx0 xx1 xx2 xx3 xx4 nx
  have s11 : w10.heap.size ≤ w11.heap.size := h11.size
  replace hb := hb.trans (h11.mono (by omega))
  replace ba := ba.of_block (hx11 _ (by omega) ba.lt)
  replace bx := bx.of_block (hx11 _ (by omega) bx.lt)
  have oxm := no
  replace oW := own_blockS oW (fun g e => hx11 g (by have := lW g e; omega) (oW.lt g e).2)
  replace oG := own_blockS oG (fun g e => hx11 g (by have := lG g e; omega) (oG.lt g e).2)
  clear no ox h11 hx11
  clear oxm
  have xa0 := ba.c0
  have xa1 := ba.c1
  have xa2 := ba.c2
  have xa3 := ba.c3
  have xa4 := ba.c4
  have na := ba.lt
  have xx0 := bx.c0
  have xx1 := bx.c1
  have xx2 := bx.c2
  have xx3 := bx.c3
  have xx4 := bx.c4
  have nx := bx.lt
  go_wp2_with fail
  refine (c_eqStringS_same AG AW _ _ X2 _ (RdSt.of_own oG) (RdSt.of_own oW) (by omega)).mono ?_
  rintro e w12 ⟨rfl, h12⟩
  clear xa0 xa1 xa2 xa3 xa4 na xx0 xx1 xx2 xx3 xx4 nx
  replace hb := bstep hb h12
  replace ba := ba.keep h12
  replace bx := bx.keep h12
  replace oW := own_keep oW h12
  replace oG := own_keep oG h12
  have s12 : w11.heap.size ≤ w12.heap.size := h12.size
  have xa0 := ba.c0
  have xa1 := ba.c1
  have xa2 := ba.c2
  have xa3 := ba.c3
  have xa4 := ba.c4
  have na := ba.lt
  have xx0 := bx.c0
  have xx1 := bx.c1
  have xx2 := bx.c2
  have xx3 := bx.c3
  have xx4 := bx.c4
  have nx := bx.lt
  go_wp2_with fail
  refine (c_markStringS AG cG _ X2 1 w12 oG (by omega) (by omega)).mono ?_
  rintro e w13 ⟨rfl, no, hg⟩
  clear xa0 xa1 xa2 xa3 xa4 na xx0 xx1 xx2 xx3 xx4 nx
  have s13 : w12.heap.size ≤ w13.heap.size := hg.size
  replace hb := hb.trans (below_of_grown hg (by omega) (fun g h => by have := lG g h; omega))
  replace ba := ba.of_block (hg.block _ ba.lt (fun e => by have := lG _ e.symm; omega))
  replace bx := bx.of_block (hg.block _ bx.lt (fun e => by have := lG _ e.symm; omega))
  replace oW := oW.kept hg (ApG.kept (fun g h1 h2 => by have := lG g h2; have := lW g h1; omega))
  replace oG := no
  clear no hg
  have xa0 := ba.c0
  have xa1 := ba.c1
  have xa2 := ba.c2
  have xa3 := ba.c3
  have xa4 := ba.c4
  have na := ba.lt
  have xx0 := bx.c0
  have xx1 := bx.c1
  have xx2 := bx.c2
  have xx3 := bx.c3
  have xx4 := bx.c4
  have nx := bx.lt
  go_wp2_with fail
  refine (c_heldStringS AG cG X2.length 1 _ (rdmarksSt oG) (by omega) (by omega)).mono ?_
  rintro e w14 ⟨rfl, h14⟩
  clear xa0 xa1 xa2 xa3 xa4 na xx0 xx1 xx2 xx3 xx4 nx
  replace hb := bstep hb h14
  replace ba := ba.keep h14
  replace bx := bx.keep h14
  replace oW := own_keep oW h14
  replace oG := own_keep oG h14
  have s14 : w13.heap.size ≤ w14.heap.size := h14.size
  have xa0 := ba.c0
  have xa1 := ba.c1
  have xa2 := ba.c2
  have xa3 := ba.c3
  have xa4 := ba.c4
  have na := ba.lt
  have xx0 := bx.c0
  have xx1 := bx.c1
  have xx2 := bx.c2
  have xx3 := bx.c3
  have xx4 := bx.c4
  have nx := bx.lt
  go_wp2_with fail
  refine (c_toGame AF cF F AS cS S AR cR R t u w14 (hF.below hb) (hS.below hb) (hR.below hb) hle).mono ?_
  rintro e w15 ⟨Adf, cdf, Ads, cds, Adr, cdr, rfl, no, h15⟩
  clear xa0 xa1 xa2 xa3 xa4 na xx0 xx1 xx2 xx3 xx4 nx
  replace hb := bstep hb h15
  replace ba := ba.keep h15
  replace bx := bx.keep h15
  replace oW := own_keep oW h15
  replace oG := own_keep oG h15
  have s15 : w14.heap.size ≤ w15.heap.size := h15.size
  have od := no
  clear no
  have xa0 := ba.c0
  have xa1 := ba.c1
  have xa2 := ba.c2
  have xa3 := ba.c3
  have xa4 := ba.c4
  have na := ba.lt
  have xx0 := bx.c0
  have xx1 := bx.c1
  have xx2 := bx.c2
  have xx3 := bx.c3
  have xx4 := bx.c4
  have nx := bx.lt
  go_wp2_with fail
  refine (Ci.out Adf cdf Ads cds Adr cdr w15 (RdT.of_own od.f) (RdT.of_own od.s) (RdI.of_own od.r)).mono ?_
  rintro e w16 ⟨AH, cH, rfl, no, h16⟩
  have lH := no.lt
  clear xa0 xa1 xa2 xa3 xa4 na xx0 xx1 xx2 xx3 xx4 nx
  replace hb := bstep hb h16
  replace ba := ba.keep h16
  replace bx := bx.keep h16
  replace od := od.below h16 (by omega)
  replace oW := own_keep oW h16
  replace oG := own_keep oG h16
  have s16 : w15.heap.size ≤ w16.heap.size := h16.size
  have oH := no
  clear no
  clear od
  have xa0 := ba.c0
  have xa1 := ba.c1
  have xa2 := ba.c2
  have xa3 := ba.c3
  have xa4 := ba.c4
  have na := ba.lt
  have xx0 := bx.c0
  have xx1 := bx.c1
  have xx2 := bx.c2
  have xx3 := bx.c3
  have xx4 := bx.c4
  have nx := bx.lt
  go_wp2_with fail
  refine (c_eqStringS_same AH AW _ _ X2 _ (RdSt.of_own oH) (RdSt.of_own oW) (by omega)).mono ?_
  rintro e w17 ⟨rfl, h17⟩
  clear xa0 xa1 xa2 xa3 xa4 na xx0 xx1 xx2 xx3 xx4 nx
  replace hb := bstep hb h17
  replace ba := ba.keep h17
  replace bx := bx.keep h17
  replace oW := own_keep oW h17
  replace oG := own_keep oG h17
  replace oH := own_keep oH h17
  have s17 : w16.heap.size ≤ w17.heap.size := h17.size
  have xa0 := ba.c0
  have xa1 := ba.c1
  have xa2 := ba.c2
  have xa3 := ba.c3
  have xa4 := ba.c4
  have na := ba.lt
  have xx0 := bx.c0
  have xx1 := bx.c1
  have xx2 := bx.c2
  have xx3 := bx.c3
  have xx4 := bx.c4
  have nx := bx.lt
  go_wp2_with fail
  refine (c_heldStringS AG cG X2.length 1 _ (rdmarksSt oG) (by omega) (by omega)).mono ?_
  rintro e w18 ⟨rfl, h18⟩
  clear xa0 xa1 xa2 xa3 xa4 na xx0 xx1 xx2 xx3 xx4 nx
  replace hb := bstep hb h18
  replace ba := ba.keep h18
  replace bx := bx.keep h18
  replace oW := own_keep oW h18
  replace oG := own_keep oG h18
  replace oH := own_keep oH h18
  have s18 : w17.heap.size ≤ w18.heap.size := h18.size
  go_wp2
  go_ret
  exact ⟨rfl, hb⟩

set_option maxRecDepth 100000 in
theorem door_FnExactHeavyLine (os : Os) (args : Array Value) : laidMetH Tryz.prog Rows.fnExactHeavyLineRow.laid ((World.doorLaid Tryz.prog 4000 os).forCall (fun _ _ => 0) ⟨#[], args, []⟩).memory :=
  laidMetH_of_parts3 (fuel := 8) (laidMet_of_run' 8 (by kernel_rfl) (by kernel_rfl)) (by kernel_rfl) (by kernel_rfl)

set_option maxRecDepth 100000 in
theorem lifted_FnExactHeavyLine (os : Os) (started : os.Started) (H : Type) (enc : TypeId × Value → H) :
    ReturnsInHanded {} Tryz.checked os 6 .any (fun w args => (Rows.fnExactHeavyLineSpec.pre enc Tryz.prog Tryz.f6 [] false w args ∧ laidMetH Tryz.prog Rows.fnExactHeavyLineRow.laid w) ∧ sizedMet enc Tryz.prog Tryz.f6 (OpenSpec.ofChange Rows.fnExactHeavyLineSpec) false w args) (Rows.fnExactHeavyLineSpec.post enc Tryz.prog Tryz.f6 false true false false) := by
  refine returnsInHanded_of_change_and (C := Tryz.checked) (X := fun w _ => laidMetH Tryz.prog Rows.fnExactHeavyLineRow.laid w) (fun _ _ _ hh h => h.of_heap hh) Tryz.own_ started (by kernel_rfl) Tryz.func6
    (ChangeSpec.witness_shaped (enc := enc) (C := Tryz.checked) (os := os) (X := fun w _ => laidMetH Tryz.prog Rows.fnExactHeavyLineRow.laid w) false (World.doorLaid Tryz.prog 4000 os) #[.agg #[.slice none 0 0, .slice none 0 0, .slice none 0 0, .int .i64 0, .int .i64 0]] 8 rfl (World.shaped_of_RefB (by kernel_rfl) (by kernel_rfl)) (by kernel_rfl) (by kernel_rfl) (by kernel_rfl) (door_FnExactHeavyLine os _)) ?_
  intro W base args ds gs before hval0 hW _ _ hL hsh
  have hval : ∀ (j : Nat) t v, Tryz.f6.params[j]? = some t → args[j]? = some v → Value.okWide Tryz.prog W .any base t v := hval0
  have hW' := hW
  obtain ⟨p, q, hA0, hV, rfl, hfz, hnd⟩ := hW
  have hA : DataW.TrodAll enc Tryz.prog W 0 (fun _ => true) true Tryz.f6.params.toList args.toList ds p := hA0
  rw [Tryz.params6] at hA hval
  obtain ⟨v0, vs0, d0, ds0, p0, q0, hargs0, rfl, rfl, h0, r0⟩ := trodAll_cons hA
  obtain ⟨rfl, rfl, rfl⟩ := trodAll_nil r0
  obtain rfl : args = #[v0] := by cases args; simp_all
  obtain ⟨rfl, rfl⟩ := trodVars_none hV
  obtain ⟨AF, cF, F, AS, cS, S, AR, cR, R, t, u, rfl, ⟨hF, lF⟩, ⟨hS, lS⟩, ⟨hR, lR⟩, wt, wu⟩ := open_game (hval 0 25 v0 rfl rfl) h0
  refine (w_FnExactHeavyLine AF cF F AS cS S AR cR R t u W hF lF hS lS hR lR).mono fun e W' ⟨he, hg⟩ => ?_
  subst he
  exact ⟨_, rfl, law_post rfl rfl (of_decide_eq_true (by kernel_rfl)) hW' rfl hg⟩

theorem fnExactHeavyLine_holds : Rows.FnExactHeavyLineSaid :=
  OpenClaim.holds_of_wide 6 Tryz.f6 rfl rfl rfl rfl rfl rfl rfl ⟨rfl, rfl, rfl, rfl, rfl⟩ rfl rfl rfl rfl rfl (by kernel_rfl) Tryz.func6 (by kernel_rfl)
    (of_decide_eq_true (by kernel_rfl)) (by unfold Func.isWrapper; first | (rw [if_pos (by decide +kernel)]; kernel_rfl) | (rw [if_neg (by decide +kernel)]; exact ⟨rfl, rfl⟩))
    (fun os started H enc _ => lifted_FnExactHeavyLine os started H enc)
#print axioms fnExactHeavyLine_holds

end Go.Proofs.YtgjdpiooocpmhabGreatDoor

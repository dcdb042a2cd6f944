/- The law of MakeMove: at every game and text both functions answer alike, leave the game alone, and each answer owns its memory. No condition. -/
import Derived.Test.YtgjdpiooocpmhabGreatDoorFnd
import Derived.Test.YtgjdpiooocpmhabGreatDoorGameL
import Derived.Test.YtgjdpiooocpmhabGreatDoorLawS
import Derived.Test.YtgjdpiooocpmhabGreatDoorDoor
namespace Go.Proofs.YtgjdpiooocpmhabGreatDoor
open Go.ChangeShapes Go.WideShapes Go.ChangeAt Go.RowKit Go.Joins
set_option linter.unusedVariables false

set_option maxRecDepth 100000 in
set_option maxHeartbeats 4000000 in
theorem w_FnExactMakeMove (AF : Option Addr) (cF : Nat) (F : List (Int × Int)) (AS : Option Addr) (cS : Nat) (S : List (Int × Int)) (AR : Option Addr) (cR : Nat) (R : List Int) (t u : Int) (s : ByteArray) (w : World) (hF : RdT w AF F) (lF : F.length ≤ 9223372036854775807) (hS : RdT w AS S) (lS : S.length ≤ 9223372036854775807) (hR : RdI w AR R) (lR : R.length ≤ 9223372036854775807) (ls : s.size ≤ 9223372036854775807) :
    Calls Tryz.prog 4 #[.agg #[.slice AF F.length cF, .slice AS S.length cS, .slice AR R.length cR, .int .i64 t, .int .i64 u], .string s] w fun e w' => e = .returned (.bool true) ∧ Below w.heap.size w w' := by
  by_cases sbig : 1048576 < s.size
  · go_enter Tryz.func4, Tryz.ntmps4
    go_wp2_with fail
    go_ret
    exact ⟨rfl, (Below.refl _ _).alloc (Nat.le_refl _) _⟩
  have sle : s.size ≤ 1048576 := by omega
  by_cases hbig : 1048576 < F.length + S.length + R.length
  · have q0 : True := trivial
    go_enter Tryz.func4, Tryz.ntmps4
    go_wp2_with fail
    obtain ⟨w0, hw0⟩ : ∃ w0, w0 = w.alloc (.cells #[.slice AF F.length cF, .slice AS S.length cS, .slice AR R.length cR, .int .i64 t, .int .i64 u] 25) := ⟨_, rfl⟩
    rw [← hw0]
    have ba0 : BoxAt w0 w.heap.size (.slice AF F.length cF) (.slice AS S.length cS) (.slice AR R.length cR) (.int .i64 t) (.int .i64 u) := by rw [hw0]; exact BoxAt.fresh w _ _ _ _ _ _
    have hb0 : Below w.heap.size w w0 := by rw [hw0]; go_grown
    clear hw0
    refine (c_szGame_no AF cF F AS cS S AR cR R t u w0 lF lS lR hbig).mono ?_
    rintro e w1 ⟨rfl, h1⟩
    have hb1 := bstep hb0 h1
    go_wp2
    go_ret
    exact ⟨rfl, hb1⟩
  have hle : F.length + S.length + R.length ≤ 1048576 := by omega
  have hlt : ¬ (1048576 - (F.length : Int) - (S.length : Int) - (R.length : Int)) < 0 := by omega
  have cs := fun AF cF AS cS AR cR W h1 h2 h3 k1 k2 => c_specMake AF cF F AS cS S AR cR R t u s W h1 h2 h3 (by omega) (by omega) (by omega) k1 k2
  have ci := fun AF cF AS cS AR cR W h1 h2 h3 => c_implMake AF cF F AS cS S AR cR R t u s W h1 h2 h3 (by omega) (by omega)
  unfold RetGs at cs ci
  have hl2 : (selT (mkB F S R t u s) (behF F t (mkM F S R t u s))).length + (selT (mkB F S R t u s) (behS S t (mkM F S R t u s))).length + (selI (mkB F S R t u s) (behR R (mkM F S R t u s))).length ≤ 1048576 := mk_len F S R t u s
  generalize selT (mkB F S R t u s) (behF F t (mkM F S R t u s)) = F2 at cs ci hl2
  generalize selT (mkB F S R t u s) (behS S t (mkM F S R t u s)) = S2 at cs ci hl2
  generalize selI (mkB F S R t u s) (behR R (mkM F S R t u s)) = R2 at cs ci hl2
  generalize selV (mkB F S R t u s) (1 - t) = t2 at cs ci
  generalize selV (mkB F S R t u s) (behU u (mkM F S R t u s)) = u2 at cs ci
  generalize mkB F S R t u s = bg at cs ci
  have Cs := Lib.hid cs
  have Ci := Lib.hid ci
  clear cs ci
  go_enter Tryz.func4, Tryz.ntmps4
  go_wp2_with fail
  have hb : Below w.heap.size w w := Below.refl _ _
  have s0 : w.heap.size ≤ w.heap.size := Nat.le_refl _
  obtain ⟨w1, hw⟩ : ∃ v, v = w.alloc (.cells #[.slice AF F.length cF, .slice AS S.length cS, .slice AR R.length cR, .int .i64 t, .int .i64 u] 25) := ⟨_, rfl⟩
  rw [← hw]
  have h1 : Below w.heap.size w w1 := by rw [hw]; exact (Below.refl _ _).alloc (Nat.le_refl _) _
  have nb : BoxAt w1 w.heap.size (.slice AF F.length cF) (.slice AS S.length cS) (.slice AR R.length cR) (.int .i64 t) (.int .i64 u) := by rw [hw]; exact BoxAt.fresh w _ _ _ _ _ _
  have hz1 : w1.heap.size = w.heap.size + 1 := by rw [hw]; simp
  clear hw
  replace hb := bstep hb h1
  have s1 : w.heap.size ≤ w1.heap.size := h1.size
  have ba := nb
  clear nb
  refine (c_szGame_yes AF cF F AS cS S AR cR R t u w1 hle).mono ?_
  rintro e w2 ⟨rfl, h2⟩
  replace hb := bstep hb h2
  replace ba := ba.keep h2
  have s2 : w1.heap.size ≤ w2.heap.size := h2.size
  have xa0 := ba.c0
  have xa1 := ba.c1
  have xa2 := ba.c2
  have xa3 := ba.c3
  have xa4 := ba.c4
  have na := ba.lt
  go_wp2_with fail
  refine (c_toGame AF cF F AS cS S AR cR R t u w2 (hF.below hb) (hS.below hb) (hR.below hb) hle).mono ?_
  rintro e w3 ⟨Apf, cpf, Aps, cps, Apr, cpr, rfl, no, h3⟩
  clear xa0 xa1 xa2 xa3 xa4 na
  replace hb := bstep hb h3
  replace ba := ba.keep h3
  have s3 : w2.heap.size ≤ w3.heap.size := h3.size
  have op := no
  clear no
  have xa0 := ba.c0
  have xa1 := ba.c1
  have xa2 := ba.c2
  have xa3 := ba.c3
  have xa4 := ba.c4
  have na := ba.lt
  go_wp2_with fail
  refine (Cs.out Apf cpf Aps cps Apr cpr w3 (RdT.of_own op.f) (RdT.of_own op.s) (RdI.of_own op.r) (own_capG op.f) (own_capG op.s)).mono ?_
  rintro e w4 ⟨AWf, cWf, AWs, cWs, AWr, cWr, rfl, no, h4⟩
  clear xa0 xa1 xa2 xa3 xa4 na
  replace hb := bstep hb h4
  replace ba := ba.keep h4
  replace op := op.below h4 (by omega)
  have s4 : w3.heap.size ≤ w4.heap.size := h4.size
  have oW := no
  clear no
  clear op
  have xa0 := ba.c0
  have xa1 := ba.c1
  have xa2 := ba.c2
  have xa3 := ba.c3
  have xa4 := ba.c4
  have na := ba.lt
  go_wp2_with fail
  clear xa0 xa1 xa2 xa3 xa4 na
  obtain ⟨w5, hw⟩ : ∃ v, v = w4.alloc (.cells #[.slice AWf F2.length cWf, .slice AWs S2.length cWs, .slice AWr R2.length cWr, .int .i64 t2, .int .i64 u2] 32) := ⟨_, rfl⟩
  rw [← hw]
  have h5 : Below w4.heap.size w4 w5 := by rw [hw]; exact (Below.refl _ _).alloc (Nat.le_refl _) _
  have nb : BoxAt w5 w4.heap.size (.slice AWf F2.length cWf) (.slice AWs S2.length cWs) (.slice AWr R2.length cWr) (.int .i64 t2) (.int .i64 u2) := by rw [hw]; exact BoxAt.fresh w4 _ _ _ _ _ _
  have hz5 : w5.heap.size = w4.heap.size + 1 := by rw [hw]; simp
  clear hw
  replace hb := bstep hb h5
  replace ba := ba.keep h5
  replace oW := oW.below h5 (by omega)
  have s5 : w4.heap.size ≤ w5.heap.size := h5.size
  have bW := nb
  clear nb
  refine (c_toGame AF cF F AS cS S AR cR R t u w5 (hF.below hb) (hS.below hb) (hR.below hb) hle).mono ?_
  rintro e w6 ⟨Axf, cxf, Axs, cxs, Axr, cxr, rfl, no, h6⟩
  replace hb := bstep hb h6
  replace ba := ba.keep h6
  replace bW := bW.keep h6
  replace oW := oW.below h6 (by omega)
  have s6 : w5.heap.size ≤ w6.heap.size := h6.size
  have ox := no
  clear no
  have xa0 := ba.c0
  have xa1 := ba.c1
  have xa2 := ba.c2
  have xa3 := ba.c3
  have xa4 := ba.c4
  have na := ba.lt
  have xW0 := bW.c0
  have xW1 := bW.c1
  have xW2 := bW.c2
  have xW3 := bW.c3
  have xW4 := bW.c4
  have nW := bW.lt
  go_wp2_with fail
  clear xa0 xa1 xa2 xa3 xa4 na xW0 xW1 xW2 xW3 xW4 nW
  obtain ⟨w7, hw⟩ : ∃ v, v = w6.alloc (.cells #[.slice Axf F.length cxf, .slice Axs S.length cxs, .slice Axr R.length cxr, .int .i64 t, .int .i64 u] 32) := ⟨_, rfl⟩
  rw [← hw]
  have h7 : Below w6.heap.size w6 w7 := by rw [hw]; exact (Below.refl _ _).alloc (Nat.le_refl _) _
  have nb : BoxAt w7 w6.heap.size (.slice Axf F.length cxf) (.slice Axs S.length cxs) (.slice Axr R.length cxr) (.int .i64 t) (.int .i64 u) := by rw [hw]; exact BoxAt.fresh w6 _ _ _ _ _ _
  have hz7 : w7.heap.size = w6.heap.size + 1 := by rw [hw]; simp
  clear hw
  replace hb := bstep hb h7
  replace ba := ba.keep h7
  replace bW := bW.keep h7
  replace oW := oW.below h7 (by omega)
  replace ox := ox.below h7 (by omega)
  have s7 : w6.heap.size ≤ w7.heap.size := h7.size
  have bx := nb
  clear nb
  refine (Ci.out Axf cxf Axs cxs Axr cxr w7 (RdT.of_own ox.f) (RdT.of_own ox.s) (RdI.of_own ox.r)).mono ?_
  rintro e w8 ⟨AGf, cGf, AGs, cGs, AGr, cGr, rfl, no, h8⟩
  replace hb := bstep hb h8
  replace ba := ba.keep h8
  replace bW := bW.keep h8
  replace bx := bx.keep h8
  replace oW := oW.below h8 (by omega)
  replace ox := ox.below h8 (by omega)
  have s8 : w7.heap.size ≤ w8.heap.size := h8.size
  have oG := no
  clear no
  have xa0 := ba.c0
  have xa1 := ba.c1
  have xa2 := ba.c2
  have xa3 := ba.c3
  have xa4 := ba.c4
  have na := ba.lt
  have xW0 := bW.c0
  have xW1 := bW.c1
  have xW2 := bW.c2
  have xW3 := bW.c3
  have xW4 := bW.c4
  have nW := bW.lt
  have xx0 := bx.c0
  have xx1 := bx.c1
  have xx2 := bx.c2
  have xx3 := bx.c3
  have xx4 := bx.c4
  have nx := bx.lt
  go_wp2_with fail
  clear xa0 xa1 xa2 xa3 xa4 na xW0 xW1 xW2 xW3 xW4 nW xx0 xx1 xx2 xx3 xx4 nx
  obtain ⟨w9, hw⟩ : ∃ v, v = w8.alloc (.cells #[.slice AGf F2.length cGf, .slice AGs S2.length cGs, .slice AGr R2.length cGr, .int .i64 t2, .int .i64 u2] 32) := ⟨_, rfl⟩
  rw [← hw]
  have h9 : Below w8.heap.size w8 w9 := by rw [hw]; exact (Below.refl _ _).alloc (Nat.le_refl _) _
  have nb : BoxAt w9 w8.heap.size (.slice AGf F2.length cGf) (.slice AGs S2.length cGs) (.slice AGr R2.length cGr) (.int .i64 t2) (.int .i64 u2) := by rw [hw]; exact BoxAt.fresh w8 _ _ _ _ _ _
  have hz9 : w9.heap.size = w8.heap.size + 1 := by rw [hw]; simp
  clear hw
  replace hb := bstep hb h9
  replace ba := ba.keep h9
  replace bW := bW.keep h9
  replace bx := bx.keep h9
  replace oW := oW.below h9 (by omega)
  replace ox := ox.below h9 (by omega)
  replace oG := oG.below h9 (by omega)
  have s9 : w8.heap.size ≤ w9.heap.size := h9.size
  have bG := nb
  clear nb
  refine (c_eqGame_same AGf cGf AGs cGs AGr cGr AWf cWf AWs cWs AWr cWr F2 S2 R2 t2 u2 _ (RdT.of_own oG.f) (RdT.of_own oG.s) (RdI.of_own oG.r) (RdT.of_own oW.f) (RdT.of_own oW.s) (RdI.of_own oW.r) (by omega) (by omega) (by omega)).mono ?_
  rintro e w10 ⟨rfl, h10⟩
  replace hb := bstep hb h10
  replace ba := ba.keep h10
  replace bW := bW.keep h10
  replace bx := bx.keep h10
  replace bG := bG.keep h10
  replace oW := oW.below h10 (by omega)
  replace ox := ox.below h10 (by omega)
  replace oG := oG.below h10 (by omega)
  have s10 : w9.heap.size ≤ w10.heap.size := h10.size
  have xa0 := ba.c0
  have xa1 := ba.c1
  have xa2 := ba.c2
  have xa3 := ba.c3
  have xa4 := ba.c4
  have na := ba.lt
  have xW0 := bW.c0
  have xW1 := bW.c1
  have xW2 := bW.c2
  have xW3 := bW.c3
  have xW4 := bW.c4
  have nW := bW.lt
  have xx0 := bx.c0
  have xx1 := bx.c1
  have xx2 := bx.c2
  have xx3 := bx.c3
  have xx4 := bx.c4
  have nx := bx.lt
  have xG0 := bG.c0
  have xG1 := bG.c1
  have xG2 := bG.c2
  have xG3 := bG.c3
  have xG4 := bG.c4
  have nG := bG.lt
  go_wp2_with fail
  have hbd : Below w.heap.size w w10.drew := hb.drew
  go_region_held3 (fun w' => w'.cell? ⟨w.heap.size, 0, none⟩ = some (.slice AF F.length cF) ∧ w'.cell? ⟨w.heap.size, 1, none⟩ = some (.slice AS S.length cS) ∧ w'.cell? ⟨w.heap.size, 2, none⟩ = some (.slice AR R.length cR) ∧ w'.cell? ⟨w.heap.size, 3, none⟩ = some (.int .i64 t) ∧ w'.cell? ⟨w.heap.size, 4, none⟩ = some (.int .i64 u) ∧ w'.cell? ⟨w4.heap.size, 0, none⟩ = some (.slice AWf F2.length cWf) ∧ w'.cell? ⟨w4.heap.size, 1, none⟩ = some (.slice AWs S2.length cWs) ∧ w'.cell? ⟨w4.heap.size, 2, none⟩ = some (.slice AWr R2.length cWr) ∧ w'.cell? ⟨w4.heap.size, 3, none⟩ = some (.int .i64 t2) ∧ w'.cell? ⟨w4.heap.size, 4, none⟩ = some (.int .i64 u2) ∧ w'.cell? ⟨w6.heap.size, 0, none⟩ = some (.slice Axf F.length cxf) ∧ w'.cell? ⟨w6.heap.size, 1, none⟩ = some (.slice Axs S.length cxs) ∧ w'.cell? ⟨w6.heap.size, 2, none⟩ = some (.slice Axr R.length cxr) ∧ w'.cell? ⟨w6.heap.size, 3, none⟩ = some (.int .i64 t) ∧ w'.cell? ⟨w6.heap.size, 4, none⟩ = some (.int .i64 u) ∧ w'.cell? ⟨w8.heap.size, 0, none⟩ = some (.slice AGf F2.length cGf) ∧ w'.cell? ⟨w8.heap.size, 1, none⟩ = some (.slice AGs S2.length cGs) ∧ w'.cell? ⟨w8.heap.size, 2, none⟩ = some (.slice AGr R2.length cGr) ∧ w'.cell? ⟨w8.heap.size, 3, none⟩ = some (.int .i64 t2) ∧ w'.cell? ⟨w8.heap.size, 4, none⟩ = some (.int .i64 u2)) (first | exact ⟨zxa0, zxa1, zxa2, zxa3, zxa4, zxW0, zxW1, zxW2, zxW3, zxW4, zxx0, zxx1, zxx2, zxx3, zxx4, zxG0, zxG1, zxG2, zxG3, zxG4⟩ | exact ⟨yxa0, yxa1, yxa2, yxa3, yxa4, yxW0, yxW1, yxW2, yxW3, yxW4, yxx0, yxx1, yxx2, yxx3, yxx4, yxG0, yxG1, yxG2, yxG3, yxG4⟩ | go_keep) (first | (go_at_call 11; refine (c_toGame AF cF F AS cS S AR cR R t u _ (hF.below hbd) (hS.below hbd) (hR.below hbd) hle).mono ?_; rintro e w11 ⟨Bf, df, Bs, ds, Br, dr, rfl, ob, h11⟩; have hb11 := bstep hbd h11; have yxa0 := keepc h11 (gdG _ xa0); have yxa1 := keepc h11 (gdG _ xa1); have yxa2 := keepc h11 (gdG _ xa2); have yxa3 := keepc h11 (gdG _ xa3); have yxa4 := keepc h11 (gdG _ xa4); have yxW0 := keepc h11 (gdG _ xW0); have yxW1 := keepc h11 (gdG _ xW1); have yxW2 := keepc h11 (gdG _ xW2); have yxW3 := keepc h11 (gdG _ xW3); have yxW4 := keepc h11 (gdG _ xW4); have yxx0 := keepc h11 (gdG _ xx0); have yxx1 := keepc h11 (gdG _ xx1); have yxx2 := keepc h11 (gdG _ xx2); have yxx3 := keepc h11 (gdG _ xx3); have yxx4 := keepc h11 (gdG _ xx4); have yxG0 := keepc h11 (gdG _ xG0); have yxG1 := keepc h11 (gdG _ xG1); have yxG2 := keepc h11 (gdG _ xG2); have yxG3 := keepc h11 (gdG _ xG3); have yxG4 := keepc h11 (gdG _ xG4)) | (go_at_call 14; refine (c_eqGame_same Axf cxf Axs cxs Axr cxr Bf df Bs ds Br dr F S R t u _ (RdT.of_own (own_keep (own_drew ox.f) h11)) (RdT.of_own (own_keep (own_drew ox.s) h11)) (RdI.of_own (own_keep (own_drew ox.r) h11)) (RdT.of_own ob.f) (RdT.of_own ob.s) (RdI.of_own ob.r) lF lS lR).mono ?_; rintro e w12 ⟨rfl, h12⟩; have hb12 := bstep hb11 h12; have zxa0 := keepc h12 yxa0; have zxa1 := keepc h12 yxa1; have zxa2 := keepc h12 yxa2; have zxa3 := keepc h12 yxa3; have zxa4 := keepc h12 yxa4; have zxW0 := keepc h12 yxW0; have zxW1 := keepc h12 yxW1; have zxW2 := keepc h12 yxW2; have zxW3 := keepc h12 yxW3; have zxW4 := keepc h12 yxW4; have zxx0 := keepc h12 yxx0; have zxx1 := keepc h12 yxx1; have zxx2 := keepc h12 yxx2; have zxx3 := keepc h12 yxx3; have zxx4 := keepc h12 yxx4; have zxG0 := keepc h12 yxG0; have zxG1 := keepc h12 yxG1; have zxG2 := keepc h12 yxG2; have zxG3 := keepc h12 yxG3; have zxG4 := keepc h12 yxG4))
  have hR12 : Below w10.heap.size w10 w12 := bstep (bstep (Below.refl w10.heap.size w10).drew h11) h12
  clear xa0 xa1 xa2 xa3 xa4 na xW0 xW1 xW2 xW3 xW4 nW xx0 xx1 xx2 xx3 xx4 nx xG0 xG1 xG2 xG3 xG4 nG yxa0 yxa1 yxa2 yxa3 yxa4 yxW0 yxW1 yxW2 yxW3 yxW4 yxx0 yxx1 yxx2 yxx3 yxx4 yxG0 yxG1 yxG2 yxG3 yxG4 zxa0 zxa1 zxa2 zxa3 zxa4 zxW0 zxW1 zxW2 zxW3 zxW4 zxx0 zxx1 zxx2 zxx3 zxx4 zxG0 zxG1 zxG2 zxG3 zxG4 hbd hb11 hb12 ob
  replace hb := bstep hb hR12
  replace ba := ba.keep hR12
  replace bW := bW.keep hR12
  replace bx := bx.keep hR12
  replace bG := bG.keep hR12
  replace oW := oW.below hR12 (by omega)
  replace ox := ox.below hR12 (by omega)
  replace oG := oG.below hR12 (by omega)
  have s12 : w10.heap.size ≤ w12.heap.size := hR12.size
  have xa0 := ba.c0
  have xa1 := ba.c1
  have xa2 := ba.c2
  have xa3 := ba.c3
  have xa4 := ba.c4
  have na := ba.lt
  have xW0 := bW.c0
  have xW1 := bW.c1
  have xW2 := bW.c2
  have xW3 := bW.c3
  have xW4 := bW.c4
  have nW := bW.lt
  have xx0 := bx.c0
  have xx1 := bx.c1
  have xx2 := bx.c2
  have xx3 := bx.c3
  have xx4 := bx.c4
  have nx := bx.lt
  have xG0 := bG.c0
  have xG1 := bG.c1
  have xG2 := bG.c2
  have xG3 := bG.c3
  have xG4 := bG.c4
  have nG := bG.lt
  go_wp2_with fail
  refine (c_markGame Axf cxf F Axs cxs S Axr cxr R t u w5.heap.size w6.heap.size (1) w12 ox (by omega) (by omega) (by omega) (by omega) (by omega)).mono ?_
  rintro e w13 ⟨rfl, no, h13, hx13⟩
  clear xa0 xa1 xa2 xa3 xa4 na xW0 xW1 xW2 xW3 xW4 nW xx0 xx1 xx2 xx3 xx4 nx xG0 xG1 xG2 xG3 xG4 nG
  have s13 : w12.heap.size ≤ w13.heap.size := h13.size
  replace hb := hb.trans (h13.mono (by omega))
  replace ba := ba.of_block (hx13 _ (by omega) ba.lt)
  replace bW := bW.of_block (hx13 _ (by omega) bW.lt)
  replace bx := bx.of_block (hx13 _ (by omega) bx.lt)
  replace bG := bG.of_block (hx13 _ (by omega) bG.lt)
  replace oW := oW.below h13 (by omega)
  replace oG := oG.moved (fun g h1 h2 => hx13 g (.inr (by omega)) h2)
  have oxm := no
  clear no ox h13 hx13
  clear oxm
  have xa0 := ba.c0
  have xa1 := ba.c1
  have xa2 := ba.c2
  have xa3 := ba.c3
  have xa4 := ba.c4
  have na := ba.lt
  have xW0 := bW.c0
  have xW1 := bW.c1
  have xW2 := bW.c2
  have xW3 := bW.c3
  have xW4 := bW.c4
  have nW := bW.lt
  have xx0 := bx.c0
  have xx1 := bx.c1
  have xx2 := bx.c2
  have xx3 := bx.c3
  have xx4 := bx.c4
  have nx := bx.lt
  have xG0 := bG.c0
  have xG1 := bG.c1
  have xG2 := bG.c2
  have xG3 := bG.c3
  have xG4 := bG.c4
  have nG := bG.lt
  go_wp2_with fail
  refine (c_eqGame_same AGf cGf AGs cGs AGr cGr AWf cWf AWs cWs AWr cWr F2 S2 R2 t2 u2 _ (RdT.of_own oG.f) (RdT.of_own oG.s) (RdI.of_own oG.r) (RdT.of_own oW.f) (RdT.of_own oW.s) (RdI.of_own oW.r) (by omega) (by omega) (by omega)).mono ?_
  rintro e w14 ⟨rfl, h14⟩
  clear xa0 xa1 xa2 xa3 xa4 na xW0 xW1 xW2 xW3 xW4 nW xx0 xx1 xx2 xx3 xx4 nx xG0 xG1 xG2 xG3 xG4 nG
  replace hb := bstep hb h14
  replace ba := ba.keep h14
  replace bW := bW.keep h14
  replace bx := bx.keep h14
  replace bG := bG.keep h14
  replace oW := oW.below h14 (by omega)
  replace oG := oG.below h14 (by omega)
  have s14 : w13.heap.size ≤ w14.heap.size := h14.size
  have xa0 := ba.c0
  have xa1 := ba.c1
  have xa2 := ba.c2
  have xa3 := ba.c3
  have xa4 := ba.c4
  have na := ba.lt
  have xW0 := bW.c0
  have xW1 := bW.c1
  have xW2 := bW.c2
  have xW3 := bW.c3
  have xW4 := bW.c4
  have nW := bW.lt
  have xx0 := bx.c0
  have xx1 := bx.c1
  have xx2 := bx.c2
  have xx3 := bx.c3
  have xx4 := bx.c4
  have nx := bx.lt
  have xG0 := bG.c0
  have xG1 := bG.c1
  have xG2 := bG.c2
  have xG3 := bG.c3
  have xG4 := bG.c4
  have nG := bG.lt
  go_wp2_with fail
  refine (c_markGame AGf cGf F2 AGs cGs S2 AGr cGr R2 t2 u2 w7.heap.size w8.heap.size (1) w14 oG (by omega) (by omega) (by omega) (by omega) (by omega)).mono ?_
  rintro e w15 ⟨rfl, no, h15, hx15⟩
  clear xa0 xa1 xa2 xa3 xa4 na xW0 xW1 xW2 xW3 xW4 nW xx0 xx1 xx2 xx3 xx4 nx xG0 xG1 xG2 xG3 xG4 nG
  have s15 : w14.heap.size ≤ w15.heap.size := h15.size
  replace hb := hb.trans (h15.mono (by omega))
  replace ba := ba.of_block (hx15 _ (by omega) ba.lt)
  replace bW := bW.of_block (hx15 _ (by omega) bW.lt)
  replace bx := bx.of_block (hx15 _ (by omega) bx.lt)
  replace bG := bG.of_block (hx15 _ (by omega) bG.lt)
  replace oW := oW.below h15 (by omega)
  have oGm := no
  clear no oG h15 hx15
  have xa0 := ba.c0
  have xa1 := ba.c1
  have xa2 := ba.c2
  have xa3 := ba.c3
  have xa4 := ba.c4
  have na := ba.lt
  have xW0 := bW.c0
  have xW1 := bW.c1
  have xW2 := bW.c2
  have xW3 := bW.c3
  have xW4 := bW.c4
  have nW := bW.lt
  have xx0 := bx.c0
  have xx1 := bx.c1
  have xx2 := bx.c2
  have xx3 := bx.c3
  have xx4 := bx.c4
  have nx := bx.lt
  have xG0 := bG.c0
  have xG1 := bG.c1
  have xG2 := bG.c2
  have xG3 := bG.c3
  have xG4 := bG.c4
  have nG := bG.lt
  go_wp2_with fail
  refine (c_heldGame AGf cGf F2.length AGs cGs S2.length AGr cGr R2.length t2 u2 1 _ (rdmarksT oGm.f) (rdmarksT oGm.s) (rdmarksI oGm.r) (by omega) (by omega) (by omega)).mono ?_
  rintro e w16 ⟨rfl, h16⟩
  clear xa0 xa1 xa2 xa3 xa4 na xW0 xW1 xW2 xW3 xW4 nW xx0 xx1 xx2 xx3 xx4 nx xG0 xG1 xG2 xG3 xG4 nG
  replace hb := bstep hb h16
  replace ba := ba.keep h16
  replace bW := bW.keep h16
  replace bx := bx.keep h16
  replace bG := bG.keep h16
  replace oW := oW.below h16 (by omega)
  replace oGm := oGm.below h16 (by omega)
  have s16 : w15.heap.size ≤ w16.heap.size := h16.size
  have xa0 := ba.c0
  have xa1 := ba.c1
  have xa2 := ba.c2
  have xa3 := ba.c3
  have xa4 := ba.c4
  have na := ba.lt
  have xW0 := bW.c0
  have xW1 := bW.c1
  have xW2 := bW.c2
  have xW3 := bW.c3
  have xW4 := bW.c4
  have nW := bW.lt
  have xx0 := bx.c0
  have xx1 := bx.c1
  have xx2 := bx.c2
  have xx3 := bx.c3
  have xx4 := bx.c4
  have nx := bx.lt
  have xG0 := bG.c0
  have xG1 := bG.c1
  have xG2 := bG.c2
  have xG3 := bG.c3
  have xG4 := bG.c4
  have nG := bG.lt
  go_wp2_with fail
  refine (c_toGame AF cF F AS cS S AR cR R t u w16 (hF.below hb) (hS.below hb) (hR.below hb) hle).mono ?_
  rintro e w17 ⟨Adf, cdf, Ads, cds, Adr, cdr, rfl, no, h17⟩
  clear xa0 xa1 xa2 xa3 xa4 na xW0 xW1 xW2 xW3 xW4 nW xx0 xx1 xx2 xx3 xx4 nx xG0 xG1 xG2 xG3 xG4 nG
  replace hb := bstep hb h17
  replace ba := ba.keep h17
  replace bW := bW.keep h17
  replace bx := bx.keep h17
  replace bG := bG.keep h17
  replace oW := oW.below h17 (by omega)
  replace oGm := oGm.below h17 (by omega)
  have s17 : w16.heap.size ≤ w17.heap.size := h17.size
  have od := no
  clear no
  have xa0 := ba.c0
  have xa1 := ba.c1
  have xa2 := ba.c2
  have xa3 := ba.c3
  have xa4 := ba.c4
  have na := ba.lt
  have xW0 := bW.c0
  have xW1 := bW.c1
  have xW2 := bW.c2
  have xW3 := bW.c3
  have xW4 := bW.c4
  have nW := bW.lt
  have xx0 := bx.c0
  have xx1 := bx.c1
  have xx2 := bx.c2
  have xx3 := bx.c3
  have xx4 := bx.c4
  have nx := bx.lt
  have xG0 := bG.c0
  have xG1 := bG.c1
  have xG2 := bG.c2
  have xG3 := bG.c3
  have xG4 := bG.c4
  have nG := bG.lt
  go_wp2_with fail
  refine (Ci.out Adf cdf Ads cds Adr cdr w17 (RdT.of_own od.f) (RdT.of_own od.s) (RdI.of_own od.r)).mono ?_
  rintro e w18 ⟨AHf, cHf, AHs, cHs, AHr, cHr, rfl, no, h18⟩
  clear xa0 xa1 xa2 xa3 xa4 na xW0 xW1 xW2 xW3 xW4 nW xx0 xx1 xx2 xx3 xx4 nx xG0 xG1 xG2 xG3 xG4 nG
  replace hb := bstep hb h18
  replace ba := ba.keep h18
  replace bW := bW.keep h18
  replace bx := bx.keep h18
  replace bG := bG.keep h18
  replace oW := oW.below h18 (by omega)
  replace od := od.below h18 (by omega)
  replace oGm := oGm.below h18 (by omega)
  have s18 : w17.heap.size ≤ w18.heap.size := h18.size
  have oH := no
  clear no
  clear od
  have xa0 := ba.c0
  have xa1 := ba.c1
  have xa2 := ba.c2
  have xa3 := ba.c3
  have xa4 := ba.c4
  have na := ba.lt
  have xW0 := bW.c0
  have xW1 := bW.c1
  have xW2 := bW.c2
  have xW3 := bW.c3
  have xW4 := bW.c4
  have nW := bW.lt
  have xx0 := bx.c0
  have xx1 := bx.c1
  have xx2 := bx.c2
  have xx3 := bx.c3
  have xx4 := bx.c4
  have nx := bx.lt
  have xG0 := bG.c0
  have xG1 := bG.c1
  have xG2 := bG.c2
  have xG3 := bG.c3
  have xG4 := bG.c4
  have nG := bG.lt
  go_wp2_with fail
  clear xa0 xa1 xa2 xa3 xa4 na xW0 xW1 xW2 xW3 xW4 nW xx0 xx1 xx2 xx3 xx4 nx xG0 xG1 xG2 xG3 xG4 nG
  obtain ⟨w19, hw⟩ : ∃ v, v = w18.alloc (.cells #[.slice AHf F2.length cHf, .slice AHs S2.length cHs, .slice AHr R2.length cHr, .int .i64 t2, .int .i64 u2] 32) := ⟨_, rfl⟩
  rw [← hw]
  have h19 : Below w18.heap.size w18 w19 := by rw [hw]; exact (Below.refl _ _).alloc (Nat.le_refl _) _
  have nb : BoxAt w19 w18.heap.size (.slice AHf F2.length cHf) (.slice AHs S2.length cHs) (.slice AHr R2.length cHr) (.int .i64 t2) (.int .i64 u2) := by rw [hw]; exact BoxAt.fresh w18 _ _ _ _ _ _
  have hz19 : w19.heap.size = w18.heap.size + 1 := by rw [hw]; simp
  clear hw
  replace hb := bstep hb h19
  replace ba := ba.keep h19
  replace bW := bW.keep h19
  replace bx := bx.keep h19
  replace bG := bG.keep h19
  replace oW := oW.below h19 (by omega)
  replace oH := oH.below h19 (by omega)
  replace oGm := oGm.below h19 (by omega)
  have s19 : w18.heap.size ≤ w19.heap.size := h19.size
  have bH := nb
  clear nb
  refine (c_eqGame_same AHf cHf AHs cHs AHr cHr AWf cWf AWs cWs AWr cWr F2 S2 R2 t2 u2 _ (RdT.of_own oH.f) (RdT.of_own oH.s) (RdI.of_own oH.r) (RdT.of_own oW.f) (RdT.of_own oW.s) (RdI.of_own oW.r) (by omega) (by omega) (by omega)).mono ?_
  rintro e w20 ⟨rfl, h20⟩
  replace hb := bstep hb h20
  replace ba := ba.keep h20
  replace bW := bW.keep h20
  replace bx := bx.keep h20
  replace bG := bG.keep h20
  replace bH := bH.keep h20
  replace oW := oW.below h20 (by omega)
  replace oH := oH.below h20 (by omega)
  replace oGm := oGm.below h20 (by omega)
  have s20 : w19.heap.size ≤ w20.heap.size := h20.size
  have xa0 := ba.c0
  have xa1 := ba.c1
  have xa2 := ba.c2
  have xa3 := ba.c3
  have xa4 := ba.c4
  have na := ba.lt
  have xW0 := bW.c0
  have xW1 := bW.c1
  have xW2 := bW.c2
  have xW3 := bW.c3
  have xW4 := bW.c4
  have nW := bW.lt
  have xx0 := bx.c0
  have xx1 := bx.c1
  have xx2 := bx.c2
  have xx3 := bx.c3
  have xx4 := bx.c4
  have nx := bx.lt
  have xG0 := bG.c0
  have xG1 := bG.c1
  have xG2 := bG.c2
  have xG3 := bG.c3
  have xG4 := bG.c4
  have nG := bG.lt
  have xH0 := bH.c0
  have xH1 := bH.c1
  have xH2 := bH.c2
  have xH3 := bH.c3
  have xH4 := bH.c4
  have nH := bH.lt
  go_wp2_with fail
  refine (c_heldGame AGf cGf F2.length AGs cGs S2.length AGr cGr R2.length t2 u2 1 _ (rdmarksT oGm.f) (rdmarksT oGm.s) (rdmarksI oGm.r) (by omega) (by omega) (by omega)).mono ?_
  rintro e w21 ⟨rfl, h21⟩
  clear xa0 xa1 xa2 xa3 xa4 na xW0 xW1 xW2 xW3 xW4 nW xx0 xx1 xx2 xx3 xx4 nx xG0 xG1 xG2 xG3 xG4 nG xH0 xH1 xH2 xH3 xH4 nH
  replace hb := bstep hb h21
  replace ba := ba.keep h21
  replace bW := bW.keep h21
  replace bx := bx.keep h21
  replace bG := bG.keep h21
  replace bH := bH.keep h21
  replace oW := oW.below h21 (by omega)
  replace oH := oH.below h21 (by omega)
  replace oGm := oGm.below h21 (by omega)
  have s21 : w20.heap.size ≤ w21.heap.size := h21.size
  go_wp2
  go_ret
  exact ⟨rfl, hb⟩

set_option maxRecDepth 100000 in
theorem door_FnExactMakeMove (os : Os) (args : Array Value) : laidMetH Tryz.prog Rows.fnExactMakeMoveRow.laid ((World.doorLaid Tryz.prog 4000 os).forCall (fun _ _ => 0) ⟨#[], args, []⟩).memory :=
  laidMetH_of_parts3 (fuel := 8) (laidMet_of_run' 8 (by kernel_rfl) (by kernel_rfl)) (by kernel_rfl) (by kernel_rfl)

set_option maxRecDepth 100000 in
theorem lifted_FnExactMakeMove (os : Os) (started : os.Started) (H : Type) (enc : TypeId × Value → H) :
    ReturnsInHanded {} Tryz.checked os 4 .any (fun w args => (Rows.fnExactMakeMoveSpec.pre enc Tryz.prog Tryz.f4 [] false w args ∧ laidMetH Tryz.prog Rows.fnExactMakeMoveRow.laid w) ∧ sizedMet enc Tryz.prog Tryz.f4 (OpenSpec.ofChange Rows.fnExactMakeMoveSpec) false w args) (Rows.fnExactMakeMoveSpec.post enc Tryz.prog Tryz.f4 false true false false) := by
  refine returnsInHanded_of_change_and (C := Tryz.checked) (X := fun w _ => laidMetH Tryz.prog Rows.fnExactMakeMoveRow.laid w) (fun _ _ _ hh h => h.of_heap hh) Tryz.own_ started (by kernel_rfl) Tryz.func4
    (ChangeSpec.witness_shaped (enc := enc) (C := Tryz.checked) (os := os) (X := fun w _ => laidMetH Tryz.prog Rows.fnExactMakeMoveRow.laid w) false (World.doorLaid Tryz.prog 4000 os) #[.agg #[.slice none 0 0, .slice none 0 0, .slice none 0 0, .int .i64 0, .int .i64 0], .string ⟨#[]⟩] 8 rfl (World.shaped_of_RefB (by kernel_rfl) (by kernel_rfl)) (by kernel_rfl) (by kernel_rfl) (by kernel_rfl) (door_FnExactMakeMove os _)) ?_
  intro W base args ds gs before hval0 hW _ _ hL hsh
  have hval : ∀ (j : Nat) t v, Tryz.f4.params[j]? = some t → args[j]? = some v → Value.okWide Tryz.prog W .any base t v := hval0
  have hW' := hW
  obtain ⟨p, q, hA0, hV, rfl, hfz, hnd⟩ := hW
  have hA : DataW.TrodAll enc Tryz.prog W 0 (fun _ => true) true Tryz.f4.params.toList args.toList ds p := hA0
  rw [Tryz.params4] at hA hval
  obtain ⟨v0, vs0, d0, ds0, p0, q0, hargs0, rfl, rfl, h0, r0⟩ := trodAll_cons hA
  obtain ⟨v1, vs1, d1, ds1, p1, q1, rfl, rfl, rfl, h1, r1⟩ := trodAll_cons r0
  obtain ⟨rfl, rfl, rfl⟩ := trodAll_nil r1
  obtain rfl : args = #[v0, v1] := by cases args; simp_all
  obtain ⟨rfl, rfl⟩ := trodVars_none hV
  obtain ⟨AF, cF, F, AS, cS, S, AR, cR, R, t, u, rfl, ⟨hF, lF⟩, ⟨hS, lS⟩, ⟨hR, lR⟩, wt, wu⟩ := open_game (hval 0 25 v0 rfl rfl) h0
  obtain ⟨s1, rfl, hl1⟩ := open_str (hval 1 9 v1 rfl rfl) h1
  refine (w_FnExactMakeMove AF cF F AS cS S AR cR R t u s1 W hF lF hS lS hR lR hl1).mono fun e W' ⟨he, hg⟩ => ?_
  subst he
  exact ⟨_, rfl, law_post rfl rfl (of_decide_eq_true (by kernel_rfl)) hW' rfl hg⟩

theorem fnExactMakeMove_holds : Rows.FnExactMakeMoveSaid :=
  OpenClaim.holds_of_wide 4 Tryz.f4 rfl rfl rfl rfl rfl rfl rfl ⟨rfl, rfl, rfl, rfl, rfl⟩ rfl rfl rfl rfl rfl (by kernel_rfl) Tryz.func4 (by kernel_rfl)
    (of_decide_eq_true (by kernel_rfl)) (by unfold Func.isWrapper; first | (rw [if_pos (by decide +kernel)]; kernel_rfl) | (rw [if_neg (by decide +kernel)]; exact ⟨rfl, rfl⟩))
    (fun os started H enc _ => lifted_FnExactMakeMove os started H enc)
#print axioms fnExactMakeMove_holds

end Go.Proofs.YtgjdpiooocpmhabGreatDoor

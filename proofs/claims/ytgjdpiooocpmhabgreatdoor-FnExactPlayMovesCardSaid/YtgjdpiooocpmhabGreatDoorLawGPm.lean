/- The law of PlayMoves: at every game and list of texts both functions answer alike, leave both alone, and each answer owns its memory. No condition. -/
import Derived.Test.YtgjdpiooocpmhabGreatDoorPly
import Derived.Test.YtgjdpiooocpmhabGreatDoorStrA
import Derived.Test.YtgjdpiooocpmhabGreatDoorGameL
import Derived.Test.YtgjdpiooocpmhabGreatDoorDoor
namespace Go.Proofs.YtgjdpiooocpmhabGreatDoor
open Go.ChangeShapes Go.WideShapes Go.ChangeAt Go.RowKit Go.Joins
set_option linter.unusedVariables false

set_option maxRecDepth 100000 in
set_option maxHeartbeats 4000000 in
theorem w_FnExactPlayMoves (AF : Option Addr) (cF : Nat) (F : List (Int × Int)) (AS : Option Addr) (cS : Nat) (S : List (Int × Int)) (AR : Option Addr) (cR : Nat) (R : List Int) (t u : Int) (A0 : Option Addr) (c0 : Nat) (xs : List ByteArray) (w : World) (hF : RdT w AF F) (lF : F.length ≤ 9223372036854775807) (hS : RdT w AS S) (lS : S.length ≤ 9223372036854775807) (hR : RdI w AR R) (lR : R.length ≤ 9223372036854775807) (hX : RdSt w A0 xs) (lX : xs.length ≤ 9223372036854775807) (bX : ∀ k (h : k < xs.length), xs[k].size ≤ 9223372036854775807) :
    Calls Tryz.prog 5 #[.agg #[.slice AF F.length cF, .slice AS S.length cS, .slice AR R.length cR, .int .i64 t, .int .i64 u], .slice A0 xs.length c0] w fun e w' => e = .returned (.bool true) ∧ Below w.heap.size w w' := by
  by_cases hbig : 1048576 < F.length + S.length + R.length
  · have q0 : True := trivial
    go_enter Tryz.func5, Tryz.ntmps5
    go_wp2_with fail
    obtain ⟨w0, hw0⟩ : ∃ w0, w0 = w.alloc (.cells #[.slice AF F.length cF, .slice AS S.length cS, .slice AR R.length cR, .int .i64 t, .int .i64 u] 25) := ⟨_, rfl⟩
    rw [← hw0]
    have ba0 : BoxAt w0 w.heap.size (.slice AF F.length cF) (.slice AS S.length cS) (.slice AR R.length cR) (.int .i64 t) (.int .i64 u) := by rw [hw0]; exact BoxAt.fresh w _ _ _ _ _ _
    have hb0 : Below w.heap.size w w0 := by rw [hw0]; go_grown
    clear hw0
    refine (c_szGame_no AF cF F AS cS S AR cR R t u w0 lF lS lR hbig).mono ?_
    rintro e w1 ⟨rfl, h1⟩
    have hb1 := bstep hb0 h1
    go_wp2
    go_ret
    exact ⟨rfl, hb1⟩
  have hle : F.length + S.length + R.length ≤ 1048576 := by omega
  have hlt : ¬ (1048576 - (F.length : Int) - (S.length : Int) - (R.length : Int)) < 0 := by omega
  have cz := fun W (hb : Below w.heap.size w W) => c_szStringS A0 c0 xs (1048576 - (F.length : Int) - (S.length : Int) - (R.length : Int)) W (hX.below hb) lX bX (by omega) (by omega)
  by_cases zneg : 1048576 - (F.length : Int) - (S.length : Int) - (R.length : Int) - (xs.length : Int) - (szTo xs xs.length : Int) < 0
  · simp only [if_pos zneg] at cz
    have Cz := Lib.hid cz
    clear cz
    go_enter Tryz.func5, Tryz.ntmps5
    go_wp2_with fail
    obtain ⟨w0, hw0⟩ : ∃ w0, w0 = w.alloc (.cells #[.slice AF F.length cF, .slice AS S.length cS, .slice AR R.length cR, .int .i64 t, .int .i64 u] 25) := ⟨_, rfl⟩
    rw [← hw0]
    have hb0 : Below w.heap.size w w0 := by rw [hw0]; go_grown
    clear hw0
    refine (c_szGame_yes AF cF F AS cS S AR cR R t u w0 hle).mono ?_
    rintro e w1 ⟨rfl, h1⟩
    have hb1 := bstep hb0 h1
    go_wp2_with fail
    refine (Cz.out w1 hb1).mono ?_
    rintro e w2 ⟨rfl, rfl⟩
    go_wp2
    go_ret
    exact ⟨rfl, hb1⟩
  simp only [if_neg zneg] at cz
  have Cz := Lib.hid cz
  clear cz
  have cs := fun AF cF AS cS AR cR A1 c1 W h1 h2 h3 (hX : RdSt W A1 xs) k1 k2 => c_specPlay AF cF F AS cS S AR cR R t u A1 c1 xs W h1 h2 h3 hX (by omega) (by omega) (by omega) k1 k2
  have ci := fun AF cF AS cS AR cR A1 c1 W h1 h2 h3 (hX : RdSt W A1 xs) => c_implPlay AF cF F AS cS S AR cR R t u A1 c1 xs W h1 h2 h3 hX (by omega) (by omega)
  unfold RetGs at cs ci
  have hl2 : (selT (plB F S R t u xs) (plM F S R t u xs).1).length + (selT (plB F S R t u xs) (plM F S R t u xs).2.1).length + (selI (plB F S R t u xs) (plM F S R t u xs).2.2.1).length ≤ 1048576 := pl_len F S R t u xs
  generalize selT (plB F S R t u xs) (plM F S R t u xs).1 = F2 at cs ci hl2
  generalize selT (plB F S R t u xs) (plM F S R t u xs).2.1 = S2 at cs ci hl2
  generalize selI (plB F S R t u xs) (plM F S R t u xs).2.2.1 = R2 at cs ci hl2
  generalize selV (plB F S R t u xs) (plM F S R t u xs).2.2.2.1 = t2 at cs ci
  generalize selV (plB F S R t u xs) (plM F S R t u xs).2.2.2.2 = u2 at cs ci
  generalize plB F S R t u xs = bg at cs ci
  have Cs := Lib.hid cs
  have Ci := Lib.hid ci
  clear cs ci
  go_enter Tryz.func5, Tryz.ntmps5
  go_wp2_with fail
  have hb : Below w.heap.size w w := Below.refl _ _
  have s0 : w.heap.size ≤ w.heap.size := Nat.le_refl _
  obtain ⟨w1, hw⟩ : ∃ v, v = w.alloc (.cells #[.slice AF F.length cF, .slice AS S.length cS, .slice AR R.length cR, .int .i64 t, .int .i64 u] 25) := ⟨_, rfl⟩
  rw [← hw]
  have h1 : Below w.heap.size w w1 := by rw [hw]; exact (Below.refl _ _).alloc (Nat.le_refl _) _
  have nb : BoxAt w1 w.heap.size (.slice AF F.length cF) (.slice AS S.length cS) (.slice AR R.length cR) (.int .i64 t) (.int .i64 u) := by rw [hw]; exact BoxAt.fresh w _ _ _ _ _ _
  have hz1 : w1.heap.size = w.heap.size + 1 := by rw [hw]; simp
  clear hw
  replace hb := bstep hb h1
  have s1 : w.heap.size ≤ w1.heap.size := h1.size
  have ba := nb
  clear nb
  refine (c_szGame_yes AF cF F AS cS S AR cR R t u w1 hle).mono ?_
  rintro e w2 ⟨rfl, h2⟩
  replace hb := bstep hb h2
  replace ba := ba.keep h2
  have s2 : w1.heap.size ≤ w2.heap.size := h2.size
  have xa0 := ba.c0
  have xa1 := ba.c1
  have xa2 := ba.c2
  have xa3 := ba.c3
  have xa4 := ba.c4
  have na := ba.lt
  go_wp2_with fail
  clear xa0 xa1 xa2 xa3 xa4 na
  refine (Cz.out w2 hb).mono ?_
  rintro e w' ⟨rfl, rfl⟩
  have xa0 := ba.c0
  have xa1 := ba.c1
  have xa2 := ba.c2
  have xa3 := ba.c3
  have xa4 := ba.c4
  have na := ba.lt
  go_wp2_with fail
  refine (c_toGame AF cF F AS cS S AR cR R t u w2 (hF.below hb) (hS.below hb) (hR.below hb) hle).mono ?_
  rintro e w3 ⟨Apf, cpf, Aps, cps, Apr, cpr, rfl, no, h3⟩
  clear xa0 xa1 xa2 xa3 xa4 na
  replace hb := bstep hb h3
  replace ba := ba.keep h3
  have s3 : w2.heap.size ≤ w3.heap.size := h3.size
  have op := no
  clear no
  have xa0 := ba.c0
  have xa1 := ba.c1
  have xa2 := ba.c2
  have xa3 := ba.c3
  have xa4 := ba.c4
  have na := ba.lt
  go_wp2_with fail
  refine (c_toStringS A0 c0 xs w3 (hX.below hb) (by omega)).mono ?_
  rintro e w4 ⟨rfl, no, h4⟩
  generalize hA : (some ⟨w3.heap.size, 0, none⟩ : Option Addr) = Aq at no ⊢
  clear hA
  have lq := no.lt
  clear xa0 xa1 xa2 xa3 xa4 na
  replace hb := bstep hb h4
  replace ba := ba.keep h4
  replace op := op.below h4 (by omega)
  have s4 : w3.heap.size ≤ w4.heap.size := h4.size
  have oq := no
  clear no
  have xa0 := ba.c0
  have xa1 := ba.c1
  have xa2 := ba.c2
  have xa3 := ba.c3
  have xa4 := ba.c4
  have na := ba.lt
  go_wp2_with fail
  refine (Cs.out Apf cpf Aps cps Apr cpr Aq _ w4 (RdT.of_own op.f) (RdT.of_own op.s) (RdI.of_own op.r) (RdSt.of_own oq) (own_capG op.f) (own_capG op.s)).mono ?_
  rintro e w5 ⟨AWf, cWf, AWs, cWs, AWr, cWr, rfl, no, h5⟩
  clear xa0 xa1 xa2 xa3 xa4 na
  replace hb := bstep hb h5
  replace ba := ba.keep h5
  replace op := op.below h5 (by omega)
  replace oq := own_keep oq h5
  have s5 : w4.heap.size ≤ w5.heap.size := h5.size
  have oW := no
  clear no
  clear op
  clear oq
  have xa0 := ba.c0
  have xa1 := ba.c1
  have xa2 := ba.c2
  have xa3 := ba.c3
  have xa4 := ba.c4
  have na := ba.lt
  go_wp2_with fail
  clear xa0 xa1 xa2 xa3 xa4 na
  obtain ⟨w6, hw⟩ : ∃ v, v = w5.alloc (.cells #[.slice AWf F2.length cWf, .slice AWs S2.length cWs, .slice AWr R2.length cWr, .int .i64 t2, .int .i64 u2] 32) := ⟨_, rfl⟩
  rw [← hw]
  have h6 : Below w5.heap.size w5 w6 := by rw [hw]; exact (Below.refl _ _).alloc (Nat.le_refl _) _
  have nb : BoxAt w6 w5.heap.size (.slice AWf F2.length cWf) (.slice AWs S2.length cWs) (.slice AWr R2.length cWr) (.int .i64 t2) (.int .i64 u2) := by rw [hw]; exact BoxAt.fresh w5 _ _ _ _ _ _
  have hz6 : w6.heap.size = w5.heap.size + 1 := by rw [hw]; simp
  clear hw
  replace hb := bstep hb h6
  replace ba := ba.keep h6
  replace oW := oW.below h6 (by omega)
  have s6 : w5.heap.size ≤ w6.heap.size := h6.size
  have bW := nb
  clear nb
  refine (c_toGame AF cF F AS cS S AR cR R t u w6 (hF.below hb) (hS.below hb) (hR.below hb) hle).mono ?_
  rintro e w7 ⟨Axf, cxf, Axs, cxs, Axr, cxr, rfl, no, h7⟩
  replace hb := bstep hb h7
  replace ba := ba.keep h7
  replace bW := bW.keep h7
  replace oW := oW.below h7 (by omega)
  have s7 : w6.heap.size ≤ w7.heap.size := h7.size
  have ox := no
  clear no
  have xa0 := ba.c0
  have xa1 := ba.c1
  have xa2 := ba.c2
  have xa3 := ba.c3
  have xa4 := ba.c4
  have na := ba.lt
  have xW0 := bW.c0
  have xW1 := bW.c1
  have xW2 := bW.c2
  have xW3 := bW.c3
  have xW4 := bW.c4
  have nW := bW.lt
  go_wp2_with fail
  clear xa0 xa1 xa2 xa3 xa4 na xW0 xW1 xW2 xW3 xW4 nW
  obtain ⟨w8, hw⟩ : ∃ v, v = w7.alloc (.cells #[.slice Axf F.length cxf, .slice Axs S.length cxs, .slice Axr R.length cxr, .int .i64 t, .int .i64 u] 32) := ⟨_, rfl⟩
  rw [← hw]
  have h8 : Below w7.heap.size w7 w8 := by rw [hw]; exact (Below.refl _ _).alloc (Nat.le_refl _) _
  have nb : BoxAt w8 w7.heap.size (.slice Axf F.length cxf) (.slice Axs S.length cxs) (.slice Axr R.length cxr) (.int .i64 t) (.int .i64 u) := by rw [hw]; exact BoxAt.fresh w7 _ _ _ _ _ _
  have hz8 : w8.heap.size = w7.heap.size + 1 := by rw [hw]; simp
  clear hw
  replace hb := bstep hb h8
  replace ba := ba.keep h8
  replace bW := bW.keep h8
  replace oW := oW.below h8 (by omega)
  replace ox := ox.below h8 (by omega)
  have s8 : w7.heap.size ≤ w8.heap.size := h8.size
  have bx := nb
  clear nb
  refine (c_toStringS A0 c0 xs w8 (hX.below hb) (by omega)).mono ?_
  rintro e w9 ⟨rfl, no, h9⟩
  generalize hA : (some ⟨w8.heap.size, 0, none⟩ : Option Addr) = Ay at no ⊢
  clear hA
  have ly := no.lt
  replace hb := bstep hb h9
  replace ba := ba.keep h9
  replace bW := bW.keep h9
  replace bx := bx.keep h9
  replace oW := oW.below h9 (by omega)
  replace ox := ox.below h9 (by omega)
  have s9 : w8.heap.size ≤ w9.heap.size := h9.size
  have oy := no
  clear no
  have xa0 := ba.c0
  have xa1 := ba.c1
  have xa2 := ba.c2
  have xa3 := ba.c3
  have xa4 := ba.c4
  have na := ba.lt
  have xW0 := bW.c0
  have xW1 := bW.c1
  have xW2 := bW.c2
  have xW3 := bW.c3
  have xW4 := bW.c4
  have nW := bW.lt
  have xx0 := bx.c0
  have xx1 := bx.c1
  have xx2 := bx.c2
  have xx3 := bx.c3
  have xx4 := bx.c4
  have nx := bx.lt
  go_wp2_with fail
  refine (Ci.out Axf cxf Axs cxs Axr cxr Ay _ w9 (RdT.of_own ox.f) (RdT.of_own ox.s) (RdI.of_own ox.r) (RdSt.of_own oy)).mono ?_
  rintro e w10 ⟨AGf, cGf, AGs, cGs, AGr, cGr, rfl, no, h10⟩
  clear xa0 xa1 xa2 xa3 xa4 na xW0 xW1 xW2 xW3 xW4 nW xx0 xx1 xx2 xx3 xx4 nx
  replace hb := bstep hb h10
  replace ba := ba.keep h10
  replace bW := bW.keep h10
  replace bx := bx.keep h10
  replace oW := oW.below h10 (by omega)
  replace ox := ox.below h10 (by omega)
  replace oy := own_keep oy h10
  have s10 : w9.heap.size ≤ w10.heap.size := h10.size
  have oG := no
  clear no
  have xa0 := ba.c0
  have xa1 := ba.c1
  have xa2 := ba.c2
  have xa3 := ba.c3
  have xa4 := ba.c4
  have na := ba.lt
  have xW0 := bW.c0
  have xW1 := bW.c1
  have xW2 := bW.c2
  have xW3 := bW.c3
  have xW4 := bW.c4
  have nW := bW.lt
  have xx0 := bx.c0
  have xx1 := bx.c1
  have xx2 := bx.c2
  have xx3 := bx.c3
  have xx4 := bx.c4
  have nx := bx.lt
  go_wp2_with fail
  clear xa0 xa1 xa2 xa3 xa4 na xW0 xW1 xW2 xW3 xW4 nW xx0 xx1 xx2 xx3 xx4 nx
  obtain ⟨w11, hw⟩ : ∃ v, v = w10.alloc (.cells #[.slice AGf F2.length cGf, .slice AGs S2.length cGs, .slice AGr R2.length cGr, .int .i64 t2, .int .i64 u2] 32) := ⟨_, rfl⟩
  rw [← hw]
  have h11 : Below w10.heap.size w10 w11 := by rw [hw]; exact (Below.refl _ _).alloc (Nat.le_refl _) _
  have nb : BoxAt w11 w10.heap.size (.slice AGf F2.length cGf) (.slice AGs S2.length cGs) (.slice AGr R2.length cGr) (.int .i64 t2) (.int .i64 u2) := by rw [hw]; exact BoxAt.fresh w10 _ _ _ _ _ _
  have hz11 : w11.heap.size = w10.heap.size + 1 := by rw [hw]; simp
  clear hw
  replace hb := bstep hb h11
  replace ba := ba.keep h11
  replace bW := bW.keep h11
  replace bx := bx.keep h11
  replace oW := oW.below h11 (by omega)
  replace ox := ox.below h11 (by omega)
  replace oG := oG.below h11 (by omega)
  replace oy := own_keep oy h11
  have s11 : w10.heap.size ≤ w11.heap.size := h11.size
  have bG := nb
  clear nb
  refine (c_eqGame_same AGf cGf AGs cGs AGr cGr AWf cWf AWs cWs AWr cWr F2 S2 R2 t2 u2 _ (RdT.of_own oG.f) (RdT.of_own oG.s) (RdI.of_own oG.r) (RdT.of_own oW.f) (RdT.of_own oW.s) (RdI.of_own oW.r) (by omega) (by omega) (by omega)).mono ?_
  rintro e w12 ⟨rfl, h12⟩
  replace hb := bstep hb h12
  replace ba := ba.keep h12
  replace bW := bW.keep h12
  replace bx := bx.keep h12
  replace bG := bG.keep h12
  replace oW := oW.below h12 (by omega)
  replace ox := ox.below h12 (by omega)
  replace oG := oG.below h12 (by omega)
  replace oy := own_keep oy h12
  have s12 : w11.heap.size ≤ w12.heap.size := h12.size
  have xa0 := ba.c0
  have xa1 := ba.c1
  have xa2 := ba.c2
  have xa3 := ba.c3
  have xa4 := ba.c4
  have na := ba.lt
  have xW0 := bW.c0
  have xW1 := bW.c1
  have xW2 := bW.c2
  have xW3 := bW.c3
  have xW4 := bW.c4
  have nW := bW.lt
  have xx0 := bx.c0
  have xx1 := bx.c1
  have xx2 := bx.c2
  have xx3 := bx.c3
  have xx4 := bx.c4
  have nx := bx.lt
  have xG0 := bG.c0
  have xG1 := bG.c1
  have xG2 := bG.c2
  have xG3 := bG.c3
  have xG4 := bG.c4
  have nG := bG.lt
  go_wp2_with fail
  have hbd : Below w.heap.size w w12.drew := hb.drew
  go_region_held3 (fun w' => w'.cell? ⟨w.heap.size, 0, none⟩ = some (.slice AF F.length cF) ∧ w'.cell? ⟨w.heap.size, 1, none⟩ = some (.slice AS S.length cS) ∧ w'.cell? ⟨w.heap.size, 2, none⟩ = some (.slice AR R.length cR) ∧ w'.cell? ⟨w.heap.size, 3, none⟩ = some (.int .i64 t) ∧ w'.cell? ⟨w.heap.size, 4, none⟩ = some (.int .i64 u) ∧ w'.cell? ⟨w5.heap.size, 0, none⟩ = some (.slice AWf F2.length cWf) ∧ w'.cell? ⟨w5.heap.size, 1, none⟩ = some (.slice AWs S2.length cWs) ∧ w'.cell? ⟨w5.heap.size, 2, none⟩ = some (.slice AWr R2.length cWr) ∧ w'.cell? ⟨w5.heap.size, 3, none⟩ = some (.int .i64 t2) ∧ w'.cell? ⟨w5.heap.size, 4, none⟩ = some (.int .i64 u2) ∧ w'.cell? ⟨w7.heap.size, 0, none⟩ = some (.slice Axf F.length cxf) ∧ w'.cell? ⟨w7.heap.size, 1, none⟩ = some (.slice Axs S.length cxs) ∧ w'.cell? ⟨w7.heap.size, 2, none⟩ = some (.slice Axr R.length cxr) ∧ w'.cell? ⟨w7.heap.size, 3, none⟩ = some (.int .i64 t) ∧ w'.cell? ⟨w7.heap.size, 4, none⟩ = some (.int .i64 u) ∧ w'.cell? ⟨w10.heap.size, 0, none⟩ = some (.slice AGf F2.length cGf) ∧ w'.cell? ⟨w10.heap.size, 1, none⟩ = some (.slice AGs S2.length cGs) ∧ w'.cell? ⟨w10.heap.size, 2, none⟩ = some (.slice AGr R2.length cGr) ∧ w'.cell? ⟨w10.heap.size, 3, none⟩ = some (.int .i64 t2) ∧ w'.cell? ⟨w10.heap.size, 4, none⟩ = some (.int .i64 u2)) (first | exact ⟨zxa0, zxa1, zxa2, zxa3, zxa4, zxW0, zxW1, zxW2, zxW3, zxW4, zxx0, zxx1, zxx2, zxx3, zxx4, zxG0, zxG1, zxG2, zxG3, zxG4⟩ | exact ⟨yxa0, yxa1, yxa2, yxa3, yxa4, yxW0, yxW1, yxW2, yxW3, yxW4, yxx0, yxx1, yxx2, yxx3, yxx4, yxG0, yxG1, yxG2, yxG3, yxG4⟩ | go_keep) (first | (go_at_call 11; refine (c_toGame AF cF F AS cS S AR cR R t u _ (hF.below hbd) (hS.below hbd) (hR.below hbd) hle).mono ?_; rintro e w13 ⟨Bf, df, Bs, ds, Br, dr, rfl, ob, h13⟩; have hb13 := bstep hbd h13; have yxa0 := keepc h13 (gdG _ xa0); have yxa1 := keepc h13 (gdG _ xa1); have yxa2 := keepc h13 (gdG _ xa2); have yxa3 := keepc h13 (gdG _ xa3); have yxa4 := keepc h13 (gdG _ xa4); have yxW0 := keepc h13 (gdG _ xW0); have yxW1 := keepc h13 (gdG _ xW1); have yxW2 := keepc h13 (gdG _ xW2); have yxW3 := keepc h13 (gdG _ xW3); have yxW4 := keepc h13 (gdG _ xW4); have yxx0 := keepc h13 (gdG _ xx0); have yxx1 := keepc h13 (gdG _ xx1); have yxx2 := keepc h13 (gdG _ xx2); have yxx3 := keepc h13 (gdG _ xx3); have yxx4 := keepc h13 (gdG _ xx4); have yxG0 := keepc h13 (gdG _ xG0); have yxG1 := keepc h13 (gdG _ xG1); have yxG2 := keepc h13 (gdG _ xG2); have yxG3 := keepc h13 (gdG _ xG3); have yxG4 := keepc h13 (gdG _ xG4)) | (go_at_call 14; refine (c_eqGame_same Axf cxf Axs cxs Axr cxr Bf df Bs ds Br dr F S R t u _ (RdT.of_own (own_keep (own_drew ox.f) h13)) (RdT.of_own (own_keep (own_drew ox.s) h13)) (RdI.of_own (own_keep (own_drew ox.r) h13)) (RdT.of_own ob.f) (RdT.of_own ob.s) (RdI.of_own ob.r) lF lS lR).mono ?_; rintro e w14 ⟨rfl, h14⟩; have hb14 := bstep hb13 h14; have zxa0 := keepc h14 yxa0; have zxa1 := keepc h14 yxa1; have zxa2 := keepc h14 yxa2; have zxa3 := keepc h14 yxa3; have zxa4 := keepc h14 yxa4; have zxW0 := keepc h14 yxW0; have zxW1 := keepc h14 yxW1; have zxW2 := keepc h14 yxW2; have zxW3 := keepc h14 yxW3; have zxW4 := keepc h14 yxW4; have zxx0 := keepc h14 yxx0; have zxx1 := keepc h14 yxx1; have zxx2 := keepc h14 yxx2; have zxx3 := keepc h14 yxx3; have zxx4 := keepc h14 yxx4; have zxG0 := keepc h14 yxG0; have zxG1 := keepc h14 yxG1; have zxG2 := keepc h14 yxG2; have zxG3 := keepc h14 yxG3; have zxG4 := keepc h14 yxG4))
  have hR14 : Below w12.heap.size w12 w14 := bstep (bstep (Below.refl w12.heap.size w12).drew h13) h14
  clear xa0 xa1 xa2 xa3 xa4 na xW0 xW1 xW2 xW3 xW4 nW xx0 xx1 xx2 xx3 xx4 nx xG0 xG1 xG2 xG3 xG4 nG yxa0 yxa1 yxa2 yxa3 yxa4 yxW0 yxW1 yxW2 yxW3 yxW4 yxx0 yxx1 yxx2 yxx3 yxx4 yxG0 yxG1 yxG2 yxG3 yxG4 zxa0 zxa1 zxa2 zxa3 zxa4 zxW0 zxW1 zxW2 zxW3 zxW4 zxx0 zxx1 zxx2 zxx3 zxx4 zxG0 zxG1 zxG2 zxG3 zxG4 hbd hb13 hb14 ob
  replace hb := bstep hb hR14
  replace ba := ba.keep hR14
  replace bW := bW.keep hR14
  replace bx := bx.keep hR14
  replace bG := bG.keep hR14
  replace oW := oW.below hR14 (by omega)
  replace ox := ox.below hR14 (by omega)
  replace oG := oG.below hR14 (by omega)
  replace oy := own_keep oy hR14
  have s14 : w12.heap.size ≤ w14.heap.size := hR14.size
  have xa0 := ba.c0
  have xa1 := ba.c1
  have xa2 := ba.c2
  have xa3 := ba.c3
  have xa4 := ba.c4
  have na := ba.lt
  have xW0 := bW.c0
  have xW1 := bW.c1
  have xW2 := bW.c2
  have xW3 := bW.c3
  have xW4 := bW.c4
  have nW := bW.lt
  have xx0 := bx.c0
  have xx1 := bx.c1
  have xx2 := bx.c2
  have xx3 := bx.c3
  have xx4 := bx.c4
  have nx := bx.lt
  have xG0 := bG.c0
  have xG1 := bG.c1
  have xG2 := bG.c2
  have xG3 := bG.c3
  have xG4 := bG.c4
  have nG := bG.lt
  go_wp2_with fail
  refine (c_toStringS A0 c0 xs w14 (hX.below hb) (by omega)).mono ?_
  rintro e w15 ⟨rfl, no, h15⟩
  generalize hA : (some ⟨w14.heap.size, 0, none⟩ : Option Addr) = Az at no ⊢
  clear hA
  have lz := no.lt
  clear xa0 xa1 xa2 xa3 xa4 na xW0 xW1 xW2 xW3 xW4 nW xx0 xx1 xx2 xx3 xx4 nx xG0 xG1 xG2 xG3 xG4 nG
  replace hb := bstep hb h15
  replace ba := ba.keep h15
  replace bW := bW.keep h15
  replace bx := bx.keep h15
  replace bG := bG.keep h15
  replace oW := oW.below h15 (by omega)
  replace ox := ox.below h15 (by omega)
  replace oG := oG.below h15 (by omega)
  replace oy := own_keep oy h15
  have s15 : w14.heap.size ≤ w15.heap.size := h15.size
  have oz := no
  clear no
  have xa0 := ba.c0
  have xa1 := ba.c1
  have xa2 := ba.c2
  have xa3 := ba.c3
  have xa4 := ba.c4
  have na := ba.lt
  have xW0 := bW.c0
  have xW1 := bW.c1
  have xW2 := bW.c2
  have xW3 := bW.c3
  have xW4 := bW.c4
  have nW := bW.lt
  have xx0 := bx.c0
  have xx1 := bx.c1
  have xx2 := bx.c2
  have xx3 := bx.c3
  have xx4 := bx.c4
  have nx := bx.lt
  have xG0 := bG.c0
  have xG1 := bG.c1
  have xG2 := bG.c2
  have xG3 := bG.c3
  have xG4 := bG.c4
  have nG := bG.lt
  go_wp2_with fail
  refine (c_eqStringS_same Ay Az _ _ xs _ (RdSt.of_own oy) (RdSt.of_own oz) (by omega)).mono ?_
  rintro e w16 ⟨rfl, h16⟩
  clear xa0 xa1 xa2 xa3 xa4 na xW0 xW1 xW2 xW3 xW4 nW xx0 xx1 xx2 xx3 xx4 nx xG0 xG1 xG2 xG3 xG4 nG
  replace hb := bstep hb h16
  replace ba := ba.keep h16
  replace bW := bW.keep h16
  replace bx := bx.keep h16
  replace bG := bG.keep h16
  replace oW := oW.below h16 (by omega)
  replace ox := ox.below h16 (by omega)
  replace oG := oG.below h16 (by omega)
  replace oy := own_keep oy h16
  replace oz := own_keep oz h16
  have s16 : w15.heap.size ≤ w16.heap.size := h16.size
  clear oz
  have xa0 := ba.c0
  have xa1 := ba.c1
  have xa2 := ba.c2
  have xa3 := ba.c3
  have xa4 := ba.c4
  have na := ba.lt
  have xW0 := bW.c0
  have xW1 := bW.c1
  have xW2 := bW.c2
  have xW3 := bW.c3
  have xW4 := bW.c4
  have nW := bW.lt
  have xx0 := bx.c0
  have xx1 := bx.c1
  have xx2 := bx.c2
  have xx3 := bx.c3
  have xx4 := bx.c4
  have nx := bx.lt
  have xG0 := bG.c0
  have xG1 := bG.c1
  have xG2 := bG.c2
  have xG3 := bG.c3
  have xG4 := bG.c4
  have nG := bG.lt
  go_wp2_with fail
  refine (c_markGame Axf cxf F Axs cxs S Axr cxr R t u w6.heap.size w7.heap.size (1) w16 ox (by omega) (by omega) (by omega) (by omega) (by omega)).mono ?_
  rintro e w17 ⟨rfl, no, h17, hx17⟩
  clear xa0 xa1 xa2 xa3 xa4 na xW0 xW1 xW2 xW3 xW4 nW xx0 xx1 xx2 xx3 xx4 nx xG0 xG1 xG2 xG3 xG4 nG
  have s17 : w16.heap.size ≤ w17.heap.size := h17.size
  replace hb := hb.trans (h17.mono (by omega))
  replace ba := ba.of_block (hx17 _ (by omega) ba.lt)
  replace bW := bW.of_block (hx17 _ (by omega) bW.lt)
  replace bx := bx.of_block (hx17 _ (by omega) bx.lt)
  replace bG := bG.of_block (hx17 _ (by omega) bG.lt)
  replace oW := oW.below h17 (by omega)
  replace oG := oG.moved (fun g h1 h2 => hx17 g (.inr (by omega)) h2)
  have oxm := no
  replace oy := own_blockS oy (fun g e => hx17 g (by have := ly g e; omega) (oy.lt g e).2)
  clear no ox h17 hx17
  clear oxm
  have xa0 := ba.c0
  have xa1 := ba.c1
  have xa2 := ba.c2
  have xa3 := ba.c3
  have xa4 := ba.c4
  have na := ba.lt
  have xW0 := bW.c0
  have xW1 := bW.c1
  have xW2 := bW.c2
  have xW3 := bW.c3
  have xW4 := bW.c4
  have nW := bW.lt
  have xx0 := bx.c0
  have xx1 := bx.c1
  have xx2 := bx.c2
  have xx3 := bx.c3
  have xx4 := bx.c4
  have nx := bx.lt
  have xG0 := bG.c0
  have xG1 := bG.c1
  have xG2 := bG.c2
  have xG3 := bG.c3
  have xG4 := bG.c4
  have nG := bG.lt
  go_wp2_with fail
  refine (c_markStringS Ay _ _ xs ((1) + 2 * (F.length : Int) + 2 * (S.length : Int) + (R.length : Int)) w17 oy (by omega) (by omega)).mono ?_
  rintro e w18 ⟨rfl, no, hg⟩
  clear xa0 xa1 xa2 xa3 xa4 na xW0 xW1 xW2 xW3 xW4 nW xx0 xx1 xx2 xx3 xx4 nx xG0 xG1 xG2 xG3 xG4 nG
  have s18 : w17.heap.size ≤ w18.heap.size := hg.size
  replace hb := hb.trans (below_of_grown hg (by omega) (fun g h => by have := ly g h; omega))
  replace ba := ba.of_block (hg.block _ ba.lt (fun e => by have := ly _ e.symm; omega))
  replace bW := bW.of_block (hg.block _ bW.lt (fun e => by have := ly _ e.symm; omega))
  replace bx := bx.of_block (hg.block _ bx.lt (fun e => by have := ly _ e.symm; omega))
  replace bG := bG.of_block (hg.block _ bG.lt (fun e => by have := ly _ e.symm; omega))
  replace oW := oW.grown hg (fun g h => by have := ly g h; omega)
  replace oG := oG.grown hg (fun g h => by have := ly g h; omega)
  clear no oy hg
  have xa0 := ba.c0
  have xa1 := ba.c1
  have xa2 := ba.c2
  have xa3 := ba.c3
  have xa4 := ba.c4
  have na := ba.lt
  have xW0 := bW.c0
  have xW1 := bW.c1
  have xW2 := bW.c2
  have xW3 := bW.c3
  have xW4 := bW.c4
  have nW := bW.lt
  have xx0 := bx.c0
  have xx1 := bx.c1
  have xx2 := bx.c2
  have xx3 := bx.c3
  have xx4 := bx.c4
  have nx := bx.lt
  have xG0 := bG.c0
  have xG1 := bG.c1
  have xG2 := bG.c2
  have xG3 := bG.c3
  have xG4 := bG.c4
  have nG := bG.lt
  go_wp2_with fail
  refine (c_eqGame_same AGf cGf AGs cGs AGr cGr AWf cWf AWs cWs AWr cWr F2 S2 R2 t2 u2 _ (RdT.of_own oG.f) (RdT.of_own oG.s) (RdI.of_own oG.r) (RdT.of_own oW.f) (RdT.of_own oW.s) (RdI.of_own oW.r) (by omega) (by omega) (by omega)).mono ?_
  rintro e w19 ⟨rfl, h19⟩
  clear xa0 xa1 xa2 xa3 xa4 na xW0 xW1 xW2 xW3 xW4 nW xx0 xx1 xx2 xx3 xx4 nx xG0 xG1 xG2 xG3 xG4 nG
  replace hb := bstep hb h19
  replace ba := ba.keep h19
  replace bW := bW.keep h19
  replace bx := bx.keep h19
  replace bG := bG.keep h19
  replace oW := oW.below h19 (by omega)
  replace oG := oG.below h19 (by omega)
  have s19 : w18.heap.size ≤ w19.heap.size := h19.size
  have xa0 := ba.c0
  have xa1 := ba.c1
  have xa2 := ba.c2
  have xa3 := ba.c3
  have xa4 := ba.c4
  have na := ba.lt
  have xW0 := bW.c0
  have xW1 := bW.c1
  have xW2 := bW.c2
  have xW3 := bW.c3
  have xW4 := bW.c4
  have nW := bW.lt
  have xx0 := bx.c0
  have xx1 := bx.c1
  have xx2 := bx.c2
  have xx3 := bx.c3
  have xx4 := bx.c4
  have nx := bx.lt
  have xG0 := bG.c0
  have xG1 := bG.c1
  have xG2 := bG.c2
  have xG3 := bG.c3
  have xG4 := bG.c4
  have nG := bG.lt
  go_wp2_with fail
  refine (c_markGame AGf cGf F2 AGs cGs S2 AGr cGr R2 t2 u2 w9.heap.size w10.heap.size (1) w19 oG (by omega) (by omega) (by omega) (by omega) (by omega)).mono ?_
  rintro e w20 ⟨rfl, no, h20, hx20⟩
  clear xa0 xa1 xa2 xa3 xa4 na xW0 xW1 xW2 xW3 xW4 nW xx0 xx1 xx2 xx3 xx4 nx xG0 xG1 xG2 xG3 xG4 nG
  have s20 : w19.heap.size ≤ w20.heap.size := h20.size
  replace hb := hb.trans (h20.mono (by omega))
  replace ba := ba.of_block (hx20 _ (by omega) ba.lt)
  replace bW := bW.of_block (hx20 _ (by omega) bW.lt)
  replace bx := bx.of_block (hx20 _ (by omega) bx.lt)
  replace bG := bG.of_block (hx20 _ (by omega) bG.lt)
  replace oW := oW.below h20 (by omega)
  have oGm := no
  clear no oG h20 hx20
  have xa0 := ba.c0
  have xa1 := ba.c1
  have xa2 := ba.c2
  have xa3 := ba.c3
  have xa4 := ba.c4
  have na := ba.lt
  have xW0 := bW.c0
  have xW1 := bW.c1
  have xW2 := bW.c2
  have xW3 := bW.c3
  have xW4 := bW.c4
  have nW := bW.lt
  have xx0 := bx.c0
  have xx1 := bx.c1
  have xx2 := bx.c2
  have xx3 := bx.c3
  have xx4 := bx.c4
  have nx := bx.lt
  have xG0 := bG.c0
  have xG1 := bG.c1
  have xG2 := bG.c2
  have xG3 := bG.c3
  have xG4 := bG.c4
  have nG := bG.lt
  go_wp2_with fail
  refine (c_heldGame AGf cGf F2.length AGs cGs S2.length AGr cGr R2.length t2 u2 1 _ (rdmarksT oGm.f) (rdmarksT oGm.s) (rdmarksI oGm.r) (by omega) (by omega) (by omega)).mono ?_
  rintro e w21 ⟨rfl, h21⟩
  clear xa0 xa1 xa2 xa3 xa4 na xW0 xW1 xW2 xW3 xW4 nW xx0 xx1 xx2 xx3 xx4 nx xG0 xG1 xG2 xG3 xG4 nG
  replace hb := bstep hb h21
  replace ba := ba.keep h21
  replace bW := bW.keep h21
  replace bx := bx.keep h21
  replace bG := bG.keep h21
  replace oW := oW.below h21 (by omega)
  replace oGm := oGm.below h21 (by omega)
  have s21 : w20.heap.size ≤ w21.heap.size := h21.size
  have xa0 := ba.c0
  have xa1 := ba.c1
  have xa2 := ba.c2
  have xa3 := ba.c3
  have xa4 := ba.c4
  have na := ba.lt
  have xW0 := bW.c0
  have xW1 := bW.c1
  have xW2 := bW.c2
  have xW3 := bW.c3
  have xW4 := bW.c4
  have nW := bW.lt
  have xx0 := bx.c0
  have xx1 := bx.c1
  have xx2 := bx.c2
  have xx3 := bx.c3
  have xx4 := bx.c4
  have nx := bx.lt
  have xG0 := bG.c0
  have xG1 := bG.c1
  have xG2 := bG.c2
  have xG3 := bG.c3
  have xG4 := bG.c4
  have nG := bG.lt
  go_wp2_with fail
  refine (c_toGame AF cF F AS cS S AR cR R t u w21 (hF.below hb) (hS.below hb) (hR.below hb) hle).mono ?_
  rintro e w22 ⟨Adf, cdf, Ads, cds, Adr, cdr, rfl, no, h22⟩
  clear xa0 xa1 xa2 xa3 xa4 na xW0 xW1 xW2 xW3 xW4 nW xx0 xx1 xx2 xx3 xx4 nx xG0 xG1 xG2 xG3 xG4 nG
  replace hb := bstep hb h22
  replace ba := ba.keep h22
  replace bW := bW.keep h22
  replace bx := bx.keep h22
  replace bG := bG.keep h22
  replace oW := oW.below h22 (by omega)
  replace oGm := oGm.below h22 (by omega)
  have s22 : w21.heap.size ≤ w22.heap.size := h22.size
  have od := no
  clear no
  have xa0 := ba.c0
  have xa1 := ba.c1
  have xa2 := ba.c2
  have xa3 := ba.c3
  have xa4 := ba.c4
  have na := ba.lt
  have xW0 := bW.c0
  have xW1 := bW.c1
  have xW2 := bW.c2
  have xW3 := bW.c3
  have xW4 := bW.c4
  have nW := bW.lt
  have xx0 := bx.c0
  have xx1 := bx.c1
  have xx2 := bx.c2
  have xx3 := bx.c3
  have xx4 := bx.c4
  have nx := bx.lt
  have xG0 := bG.c0
  have xG1 := bG.c1
  have xG2 := bG.c2
  have xG3 := bG.c3
  have xG4 := bG.c4
  have nG := bG.lt
  go_wp2_with fail
  refine (c_toStringS A0 c0 xs w22 (hX.below hb) (by omega)).mono ?_
  rintro e w23 ⟨rfl, no, h23⟩
  generalize hA : (some ⟨w22.heap.size, 0, none⟩ : Option Addr) = Av at no ⊢
  clear hA
  have lv := no.lt
  clear xa0 xa1 xa2 xa3 xa4 na xW0 xW1 xW2 xW3 xW4 nW xx0 xx1 xx2 xx3 xx4 nx xG0 xG1 xG2 xG3 xG4 nG
  replace hb := bstep hb h23
  replace ba := ba.keep h23
  replace bW := bW.keep h23
  replace bx := bx.keep h23
  replace bG := bG.keep h23
  replace oW := oW.below h23 (by omega)
  replace od := od.below h23 (by omega)
  replace oGm := oGm.below h23 (by omega)
  have s23 : w22.heap.size ≤ w23.heap.size := h23.size
  have ov := no
  clear no
  have xa0 := ba.c0
  have xa1 := ba.c1
  have xa2 := ba.c2
  have xa3 := ba.c3
  have xa4 := ba.c4
  have na := ba.lt
  have xW0 := bW.c0
  have xW1 := bW.c1
  have xW2 := bW.c2
  have xW3 := bW.c3
  have xW4 := bW.c4
  have nW := bW.lt
  have xx0 := bx.c0
  have xx1 := bx.c1
  have xx2 := bx.c2
  have xx3 := bx.c3
  have xx4 := bx.c4
  have nx := bx.lt
  have xG0 := bG.c0
  have xG1 := bG.c1
  have xG2 := bG.c2
  have xG3 := bG.c3
  have xG4 := bG.c4
  have nG := bG.lt
  go_wp2_with fail
  refine (Ci.out Adf cdf Ads cds Adr cdr Av _ w23 (RdT.of_own od.f) (RdT.of_own od.s) (RdI.of_own od.r) (RdSt.of_own ov)).mono ?_
  rintro e w24 ⟨AHf, cHf, AHs, cHs, AHr, cHr, rfl, no, h24⟩
  clear xa0 xa1 xa2 xa3 xa4 na xW0 xW1 xW2 xW3 xW4 nW xx0 xx1 xx2 xx3 xx4 nx xG0 xG1 xG2 xG3 xG4 nG
  replace hb := bstep hb h24
  replace ba := ba.keep h24
  replace bW := bW.keep h24
  replace bx := bx.keep h24
  replace bG := bG.keep h24
  replace oW := oW.below h24 (by omega)
  replace od := od.below h24 (by omega)
  replace ov := own_keep ov h24
  replace oGm := oGm.below h24 (by omega)
  have s24 : w23.heap.size ≤ w24.heap.size := h24.size
  have oH := no
  clear no
  clear od
  clear ov
  have xa0 := ba.c0
  have xa1 := ba.c1
  have xa2 := ba.c2
  have xa3 := ba.c3
  have xa4 := ba.c4
  have na := ba.lt
  have xW0 := bW.c0
  have xW1 := bW.c1
  have xW2 := bW.c2
  have xW3 := bW.c3
  have xW4 := bW.c4
  have nW := bW.lt
  have xx0 := bx.c0
  have xx1 := bx.c1
  have xx2 := bx.c2
  have xx3 := bx.c3
  have xx4 := bx.c4
  have nx := bx.lt
  have xG0 := bG.c0
  have xG1 := bG.c1
  have xG2 := bG.c2
  have xG3 := bG.c3
  have xG4 := bG.c4
  have nG := bG.lt
  go_wp2_with fail
  clear xa0 xa1 xa2 xa3 xa4 na xW0 xW1 xW2 xW3 xW4 nW xx0 xx1 xx2 xx3 xx4 nx xG0 xG1 xG2 xG3 xG4 nG
  obtain ⟨w25, hw⟩ : ∃ v, v = w24.alloc (.cells #[.slice AHf F2.length cHf, .slice AHs S2.length cHs, .slice AHr R2.length cHr, .int .i64 t2, .int .i64 u2] 32) := ⟨_, rfl⟩
  rw [← hw]
  have h25 : Below w24.heap.size w24 w25 := by rw [hw]; exact (Below.refl _ _).alloc (Nat.le_refl _) _
  have nb : BoxAt w25 w24.heap.size (.slice AHf F2.length cHf) (.slice AHs S2.length cHs) (.slice AHr R2.length cHr) (.int .i64 t2) (.int .i64 u2) := by rw [hw]; exact BoxAt.fresh w24 _ _ _ _ _ _
  have hz25 : w25.heap.size = w24.heap.size + 1 := by rw [hw]; simp
  clear hw
  replace hb := bstep hb h25
  replace ba := ba.keep h25
  replace bW := bW.keep h25
  replace bx := bx.keep h25
  replace bG := bG.keep h25
  replace oW := oW.below h25 (by omega)
  replace oH := oH.below h25 (by omega)
  replace oGm := oGm.below h25 (by omega)
  have s25 : w24.heap.size ≤ w25.heap.size := h25.size
  have bH := nb
  clear nb
  refine (c_eqGame_same AHf cHf AHs cHs AHr cHr AWf cWf AWs cWs AWr cWr F2 S2 R2 t2 u2 _ (RdT.of_own oH.f) (RdT.of_own oH.s) (RdI.of_own oH.r) (RdT.of_own oW.f) (RdT.of_own oW.s) (RdI.of_own oW.r) (by omega) (by omega) (by omega)).mono ?_
  rintro e w26 ⟨rfl, h26⟩
  replace hb := bstep hb h26
  replace ba := ba.keep h26
  replace bW := bW.keep h26
  replace bx := bx.keep h26
  replace bG := bG.keep h26
  replace bH := bH.keep h26
  replace oW := oW.below h26 (by omega)
  replace oH := oH.below h26 (by omega)
  replace oGm := oGm.below h26 (by omega)
  have s26 : w25.heap.size ≤ w26.heap.size := h26.size
  have xa0 := ba.c0
  have xa1 := ba.c1
  have xa2 := ba.c2
  have xa3 := ba.c3
  have xa4 := ba.c4
  have na := ba.lt
  have xW0 := bW.c0
  have xW1 := bW.c1
  have xW2 := bW.c2
  have xW3 := bW.c3
  have xW4 := bW.c4
  have nW := bW.lt
  have xx0 := bx.c0
  have xx1 := bx.c1
  have xx2 := bx.c2
  have xx3 := bx.c3
  have xx4 := bx.c4
  have nx := bx.lt
  have xG0 := bG.c0
  have xG1 := bG.c1
  have xG2 := bG.c2
  have xG3 := bG.c3
  have xG4 := bG.c4
  have nG := bG.lt
  have xH0 := bH.c0
  have xH1 := bH.c1
  have xH2 := bH.c2
  have xH3 := bH.c3
  have xH4 := bH.c4
  have nH := bH.lt
  go_wp2_with fail
  refine (c_heldGame AGf cGf F2.length AGs cGs S2.length AGr cGr R2.length t2 u2 1 _ (rdmarksT oGm.f) (rdmarksT oGm.s) (rdmarksI oGm.r) (by omega) (by omega) (by omega)).mono ?_
  rintro e w27 ⟨rfl, h27⟩
  clear xa0 xa1 xa2 xa3 xa4 na xW0 xW1 xW2 xW3 xW4 nW xx0 xx1 xx2 xx3 xx4 nx xG0 xG1 xG2 xG3 xG4 nG xH0 xH1 xH2 xH3 xH4 nH
  replace hb := bstep hb h27
  replace ba := ba.keep h27
  replace bW := bW.keep h27
  replace bx := bx.keep h27
  replace bG := bG.keep h27
  replace bH := bH.keep h27
  replace oW := oW.below h27 (by omega)
  replace oH := oH.below h27 (by omega)
  replace oGm := oGm.below h27 (by omega)
  have s27 : w26.heap.size ≤ w27.heap.size := h27.size
  go_wp2
  go_ret
  exact ⟨rfl, hb⟩

set_option maxRecDepth 100000 in
theorem door_FnExactPlayMoves (os : Os) (args : Array Value) : laidMetH Tryz.prog Rows.fnExactPlayMovesRow.laid ((World.doorLaid Tryz.prog 4000 os).forCall (fun _ _ => 0) ⟨#[], args, []⟩).memory :=
  laidMetH_of_parts3 (fuel := 8) (laidMet_of_run' 8 (by kernel_rfl) (by kernel_rfl)) (by kernel_rfl) (by kernel_rfl)

set_option maxRecDepth 100000 in
theorem lifted_FnExactPlayMoves (os : Os) (started : os.Started) (H : Type) (enc : TypeId × Value → H) :
    ReturnsInHanded {} Tryz.checked os 5 .any (fun w args => (Rows.fnExactPlayMovesSpec.pre enc Tryz.prog Tryz.f5 [] false w args ∧ laidMetH Tryz.prog Rows.fnExactPlayMovesRow.laid w) ∧ sizedMet enc Tryz.prog Tryz.f5 (OpenSpec.ofChange Rows.fnExactPlayMovesSpec) false w args) (Rows.fnExactPlayMovesSpec.post enc Tryz.prog Tryz.f5 false true false false) := by
  refine returnsInHanded_of_change_and (C := Tryz.checked) (X := fun w _ => laidMetH Tryz.prog Rows.fnExactPlayMovesRow.laid w) (fun _ _ _ hh h => h.of_heap hh) Tryz.own_ started (by kernel_rfl) Tryz.func5
    (ChangeSpec.witness_shaped (enc := enc) (C := Tryz.checked) (os := os) (X := fun w _ => laidMetH Tryz.prog Rows.fnExactPlayMovesRow.laid w) false (World.doorLaid Tryz.prog 4000 os) #[.agg #[.slice none 0 0, .slice none 0 0, .slice none 0 0, .int .i64 0, .int .i64 0], .slice none 0 0] 8 rfl (World.shaped_of_RefB (by kernel_rfl) (by kernel_rfl)) (by kernel_rfl) (by kernel_rfl) (by kernel_rfl) (door_FnExactPlayMoves os _)) ?_
  intro W base args ds gs before hval0 hW _ _ hL hsh
  have hval : ∀ (j : Nat) t v, Tryz.f5.params[j]? = some t → args[j]? = some v → Value.okWide Tryz.prog W .any base t v := hval0
  have hW' := hW
  obtain ⟨p, q, hA0, hV, rfl, hfz, hnd⟩ := hW
  have hA : DataW.TrodAll enc Tryz.prog W 0 (fun _ => true) true Tryz.f5.params.toList args.toList ds p := hA0
  rw [Tryz.params5] at hA hval
  obtain ⟨v0, vs0, d0, ds0, p0, q0, hargs0, rfl, rfl, h0, r0⟩ := trodAll_cons hA
  obtain ⟨v1, vs1, d1, ds1, p1, q1, rfl, rfl, rfl, h1, r1⟩ := trodAll_cons r0
  obtain ⟨rfl, rfl, rfl⟩ := trodAll_nil r1
  obtain rfl : args = #[v0, v1] := by cases args; simp_all
  obtain ⟨rfl, rfl⟩ := trodVars_none hV
  obtain ⟨AF, cF, F, AS, cS, S, AR, cR, R, t, u, rfl, ⟨hF, lF⟩, ⟨hS, lS⟩, ⟨hR, lR⟩, wt, wu⟩ := open_game (hval 0 25 v0 rfl rfl) h0
  obtain ⟨A1, c1, xs1, rfl, hX1, lX1, bX1⟩ := open_texts (hval 1 27 v1 rfl rfl) h1
  refine (w_FnExactPlayMoves AF cF F AS cS S AR cR R t u A1 c1 xs1 W hF lF hS lS hR lR hX1 lX1 bX1).mono fun e W' ⟨he, hg⟩ => ?_
  subst he
  exact ⟨_, rfl, law_post rfl rfl (of_decide_eq_true (by kernel_rfl)) hW' rfl hg⟩

theorem fnExactPlayMoves_holds : Rows.FnExactPlayMovesSaid :=
  OpenClaim.holds_of_wide 5 Tryz.f5 rfl rfl rfl rfl rfl rfl rfl ⟨rfl, rfl, rfl, rfl, rfl⟩ rfl rfl rfl rfl rfl (by kernel_rfl) Tryz.func5 (by kernel_rfl)
    (of_decide_eq_true (by kernel_rfl)) (by unfold Func.isWrapper; first | (rw [if_pos (by decide +kernel)]; kernel_rfl) | (rw [if_neg (by decide +kernel)]; exact ⟨rfl, rfl⟩))
    (fun os started H enc _ => lifted_FnExactPlayMoves os started H enc)
#print axioms fnExactPlayMoves_holds

end Go.Proofs.YtgjdpiooocpmhabGreatDoor

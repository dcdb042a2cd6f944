/- The law of GameOf: at every two lists of tiles both functions answer alike, leave the lists alone, and each answer owns its memory. No condition. -/
import Derived.Test.YtepedcdnaodhcaaGamD
import Derived.Test.YtepedcdnaodhcaaLawG
namespace Go.Proofs.Ytepedcdnaodhcaa
open Go.ChangeShapes Go.WideShapes Go.ChangeAt Go.RowKit Go.Joins
set_option linter.unusedVariables false

set_option maxRecDepth 100000 in
set_option maxHeartbeats 4000000 in
theorem w_FnExactGameOf (A0 : Option Addr) (c0 : Nat) (F : List (Int × Int)) (A1 : Option Addr) (c1 : Nat) (S : List (Int × Int)) (w : World) (hF : RdT w A0 F) (lF : F.length ≤ 9223372036854775807) (hS : RdT w A1 S) (lS : S.length ≤ 9223372036854775807) :
    Calls Try.prog 4 #[.slice A0 F.length c0, .slice A1 S.length c1] w fun e w' => e = .returned (.bool true) ∧ Below w.heap.size w w' := by
  have h0 := fun W => c_szTileS A0 c0 F.length 1048576 W lF (by omega) (by omega)
  by_cases e0 : 1048576 - (F.length : Int) < 0
  · simp only [if_pos e0] at h0
    go_enter Try.func4, Try.ntmps4
    go_wp2_with fail
    refine (h0 _).mono ?_
    rintro e w1 ⟨rfl, rfl⟩
    go_wp2
    go_ret
    exact ⟨rfl, Below.refl _ _⟩
  simp only [if_neg e0] at h0
  have h1 := fun W => c_szTileS A1 c1 S.length (1048576 - (F.length : Int)) W lS (by omega) (by omega)
  by_cases e1 : 1048576 - (F.length : Int) - (S.length : Int) < 0
  · simp only [if_pos e1] at h1
    go_enter Try.func4, Try.ntmps4
    go_wp2_with fail
    refine (h0 _).mono ?_
    rintro e w1 ⟨rfl, rfl⟩
    go_wp2_with fail
    refine (h1 _).mono ?_
    rintro e w1 ⟨rfl, rfl⟩
    go_wp2
    go_ret
    exact ⟨rfl, Below.refl _ _⟩
  simp only [if_neg e1] at h1
  have H0 := Lib.hid h0
  have H1 := Lib.hid h1
  clear h0 h1
  have hle : F.length + S.length ≤ 1048576 := by omega
  have cs := fun A c A2 c2 W h1 h2 => c_specGameOf A c F A2 c2 S W h1 h2 (by omega) (by omega)
  have ci := fun A c A2 c2 W h1 h2 => c_implGameOf A c F A2 c2 S W h1 h2 hle
  unfold RetGs at cs ci
  have hl2 : (selT (gameB F S [] 0 0) F).length + (selT (gameB F S [] 0 0) S).length + (selI (gameB F S [] 0 0) []).length ≤ 1048576 := sel_len3 _ _ _ _ (by simp; omega)
  generalize selT (gameB F S [] 0 0) F = F2 at cs ci hl2
  generalize selT (gameB F S [] 0 0) S = S2 at cs ci hl2
  generalize selI (gameB F S [] 0 0) [] = R2 at cs ci hl2
  generalize selV (gameB F S [] 0 0) 0 = t2 at cs ci
  generalize gameB F S [] 0 0 = bg at cs ci
  have Cs := Lib.hid cs
  have Ci := Lib.hid ci
  clear cs ci
  go_enter Try.func4, Try.ntmps4
  have hb : Below w.heap.size w w := Below.refl _ _
  have s0 : w.heap.size ≤ w.heap.size := Nat.le_refl _
  go_wp2_with fail
  refine (H0.out _).mono ?_
  rintro e w' ⟨rfl, rfl⟩
  go_wp2_with fail
  refine (H1.out _).mono ?_
  rintro e w' ⟨rfl, rfl⟩
  go_wp2_with fail
  refine (c_toTileS A0 c0 F w (hF.below hb) (by omega)).mono ?_
  rintro e w1 ⟨rfl, no, h1⟩
  generalize hA : (some ⟨w.heap.size, 0, none⟩ : Option Addr) = Aa0 at no ⊢
  clear hA
  have la0 := no.lt
  replace hb := bstep hb h1
  have s1 : w.heap.size ≤ w1.heap.size := h1.size
  have oa0 := no
  clear no
  go_wp2_with fail
  refine (c_toTileS A1 c1 S w1 (hS.below hb) (by omega)).mono ?_
  rintro e w2 ⟨rfl, no, h2⟩
  generalize hA : (some ⟨w1.heap.size, 0, none⟩ : Option Addr) = Aa1 at no ⊢
  clear hA
  have la1 := no.lt
  replace hb := bstep hb h2
  replace oa0 := own_keep oa0 h2
  have s2 : w1.heap.size ≤ w2.heap.size := h2.size
  have oa1 := no
  clear no
  go_wp2_with fail
  refine (Cs.out Aa0 _ Aa1 _ w2 (RdT.of_own oa0) (RdT.of_own oa1)).mono ?_
  rintro e w3 ⟨AWf, cWf, AWs, cWs, AWr, cWr, rfl, no, h3⟩
  replace hb := bstep hb h3
  replace oa0 := own_keep oa0 h3
  replace oa1 := own_keep oa1 h3
  have s3 : w2.heap.size ≤ w3.heap.size := h3.size
  have oW := no
  clear no
  clear oa0
  clear oa1
  go_wp2_with fail
  obtain ⟨w4, hw⟩ : ∃ v, v = w3.alloc (.cells #[.slice AWf F2.length cWf, .slice AWs S2.length cWs, .slice AWr R2.length cWr, .int .i64 t2, .int .i64 t2] 30) := ⟨_, rfl⟩
  rw [← hw]
  have h4 : Below w3.heap.size w3 w4 := by rw [hw]; exact (Below.refl _ _).alloc (Nat.le_refl _) _
  have nb : BoxAt w4 w3.heap.size (.slice AWf F2.length cWf) (.slice AWs S2.length cWs) (.slice AWr R2.length cWr) (.int .i64 t2) (.int .i64 t2) := by rw [hw]; exact BoxAt.fresh w3 _ _ _ _ _ _
  have hz4 : w4.heap.size = w3.heap.size + 1 := by rw [hw]; simp
  clear hw
  replace hb := bstep hb h4
  replace oW := oW.below h4 (by omega)
  have s4 : w3.heap.size ≤ w4.heap.size := h4.size
  have bW := nb
  clear nb
  refine (c_toTileS A0 c0 F w4 (hF.below hb) (by omega)).mono ?_
  rintro e w5 ⟨rfl, no, h5⟩
  generalize hA : (some ⟨w4.heap.size, 0, none⟩ : Option Addr) = Ax0 at no ⊢
  clear hA
  have lx0 := no.lt
  replace hb := bstep hb h5
  replace bW := bW.keep h5
  replace oW := oW.below h5 (by omega)
  have s5 : w4.heap.size ≤ w5.heap.size := h5.size
  have ox0 := no
  clear no
  have xW0 := bW.c0
  have xW1 := bW.c1
  have xW2 := bW.c2
  have xW3 := bW.c3
  have xW4 := bW.c4
  have nW := bW.lt
  go_wp2_with fail
  refine (c_toTileS A1 c1 S w5 (hS.below hb) (by omega)).mono ?_
  rintro e w6 ⟨rfl, no, h6⟩
  generalize hA : (some ⟨w5.heap.size, 0, none⟩ : Option Addr) = Ax1 at no ⊢
  clear hA
  have lx1 := no.lt
  clear xW0 xW1 xW2 xW3 xW4 nW
  replace hb := bstep hb h6
  replace bW := bW.keep h6
  replace oW := oW.below h6 (by omega)
  replace ox0 := own_keep ox0 h6
  have s6 : w5.heap.size ≤ w6.heap.size := h6.size
  have ox1 := no
  clear no
  have xW0 := bW.c0
  have xW1 := bW.c1
  have xW2 := bW.c2
  have xW3 := bW.c3
  have xW4 := bW.c4
  have nW := bW.lt
  go_wp2_with fail
  refine (Ci.out Ax0 _ Ax1 _ w6 (RdT.of_own ox0) (RdT.of_own ox1)).mono ?_
  rintro e w7 ⟨AGf, cGf, AGs, cGs, AGr, cGr, rfl, no, h7⟩
  clear xW0 xW1 xW2 xW3 xW4 nW
  replace hb := bstep hb h7
  replace bW := bW.keep h7
  replace oW := oW.below h7 (by omega)
  replace ox0 := own_keep ox0 h7
  replace ox1 := own_keep ox1 h7
  have s7 : w6.heap.size ≤ w7.heap.size := h7.size
  have oG := no
  clear no
  have xW0 := bW.c0
  have xW1 := bW.c1
  have xW2 := bW.c2
  have xW3 := bW.c3
  have xW4 := bW.c4
  have nW := bW.lt
  go_wp2_with fail
  clear xW0 xW1 xW2 xW3 xW4 nW
  obtain ⟨w8, hw⟩ : ∃ v, v = w7.alloc (.cells #[.slice AGf F2.length cGf, .slice AGs S2.length cGs, .slice AGr R2.length cGr, .int .i64 t2, .int .i64 t2] 30) := ⟨_, rfl⟩
  rw [← hw]
  have h8 : Below w7.heap.size w7 w8 := by rw [hw]; exact (Below.refl _ _).alloc (Nat.le_refl _) _
  have nb : BoxAt w8 w7.heap.size (.slice AGf F2.length cGf) (.slice AGs S2.length cGs) (.slice AGr R2.length cGr) (.int .i64 t2) (.int .i64 t2) := by rw [hw]; exact BoxAt.fresh w7 _ _ _ _ _ _
  have hz8 : w8.heap.size = w7.heap.size + 1 := by rw [hw]; simp
  clear hw
  replace hb := bstep hb h8
  replace bW := bW.keep h8
  replace oW := oW.below h8 (by omega)
  replace oG := oG.below h8 (by omega)
  replace ox0 := own_keep ox0 h8
  replace ox1 := own_keep ox1 h8
  have s8 : w7.heap.size ≤ w8.heap.size := h8.size
  have bG := nb
  clear nb
  refine (c_eqGame_same AGf cGf AGs cGs AGr cGr AWf cWf AWs cWs AWr cWr F2 S2 R2 t2 t2 _ (RdT.of_own oG.f) (RdT.of_own oG.s) (RdI.of_own oG.r) (RdT.of_own oW.f) (RdT.of_own oW.s) (RdI.of_own oW.r) (by omega) (by omega) (by omega)).mono ?_
  rintro e w9 ⟨rfl, h9⟩
  replace hb := bstep hb h9
  replace bW := bW.keep h9
  replace bG := bG.keep h9
  replace oW := oW.below h9 (by omega)
  replace oG := oG.below h9 (by omega)
  replace ox0 := own_keep ox0 h9
  replace ox1 := own_keep ox1 h9
  have s9 : w8.heap.size ≤ w9.heap.size := h9.size
  have xW0 := bW.c0
  have xW1 := bW.c1
  have xW2 := bW.c2
  have xW3 := bW.c3
  have xW4 := bW.c4
  have nW := bW.lt
  have xG0 := bG.c0
  have xG1 := bG.c1
  have xG2 := bG.c2
  have xG3 := bG.c3
  have xG4 := bG.c4
  have nG := bG.lt
  go_wp2_with fail
  refine (c_toTileS A0 c0 F w9 (hF.below hb) (by omega)).mono ?_
  rintro e w10 ⟨rfl, no, h10⟩
  generalize hA : (some ⟨w9.heap.size, 0, none⟩ : Option Addr) = Ay0 at no ⊢
  clear hA
  have ly0 := no.lt
  clear xW0 xW1 xW2 xW3 xW4 nW xG0 xG1 xG2 xG3 xG4 nG
  replace hb := bstep hb h10
  replace bW := bW.keep h10
  replace bG := bG.keep h10
  replace oW := oW.below h10 (by omega)
  replace oG := oG.below h10 (by omega)
  replace ox0 := own_keep ox0 h10
  replace ox1 := own_keep ox1 h10
  have s10 : w9.heap.size ≤ w10.heap.size := h10.size
  have oy0 := no
  clear no
  have xW0 := bW.c0
  have xW1 := bW.c1
  have xW2 := bW.c2
  have xW3 := bW.c3
  have xW4 := bW.c4
  have nW := bW.lt
  have xG0 := bG.c0
  have xG1 := bG.c1
  have xG2 := bG.c2
  have xG3 := bG.c3
  have xG4 := bG.c4
  have nG := bG.lt
  go_wp2_with fail
  refine (c_eqTileS_same Ax0 Ay0 _ _ F _ (RdT.of_own ox0) (RdT.of_own oy0) (by omega)).mono ?_
  rintro e w11 ⟨rfl, h11⟩
  clear xW0 xW1 xW2 xW3 xW4 nW xG0 xG1 xG2 xG3 xG4 nG
  replace hb := bstep hb h11
  replace bW := bW.keep h11
  replace bG := bG.keep h11
  replace oW := oW.below h11 (by omega)
  replace oG := oG.below h11 (by omega)
  replace ox0 := own_keep ox0 h11
  replace ox1 := own_keep ox1 h11
  replace oy0 := own_keep oy0 h11
  have s11 : w10.heap.size ≤ w11.heap.size := h11.size
  clear oy0
  have xW0 := bW.c0
  have xW1 := bW.c1
  have xW2 := bW.c2
  have xW3 := bW.c3
  have xW4 := bW.c4
  have nW := bW.lt
  have xG0 := bG.c0
  have xG1 := bG.c1
  have xG2 := bG.c2
  have xG3 := bG.c3
  have xG4 := bG.c4
  have nG := bG.lt
  go_wp2_with fail
  refine (c_toTileS A1 c1 S w11 (hS.below hb) (by omega)).mono ?_
  rintro e w12 ⟨rfl, no, h12⟩
  generalize hA : (some ⟨w11.heap.size, 0, none⟩ : Option Addr) = Ay1 at no ⊢
  clear hA
  have ly1 := no.lt
  clear xW0 xW1 xW2 xW3 xW4 nW xG0 xG1 xG2 xG3 xG4 nG
  replace hb := bstep hb h12
  replace bW := bW.keep h12
  replace bG := bG.keep h12
  replace oW := oW.below h12 (by omega)
  replace oG := oG.below h12 (by omega)
  replace ox0 := own_keep ox0 h12
  replace ox1 := own_keep ox1 h12
  have s12 : w11.heap.size ≤ w12.heap.size := h12.size
  have oy1 := no
  clear no
  have xW0 := bW.c0
  have xW1 := bW.c1
  have xW2 := bW.c2
  have xW3 := bW.c3
  have xW4 := bW.c4
  have nW := bW.lt
  have xG0 := bG.c0
  have xG1 := bG.c1
  have xG2 := bG.c2
  have xG3 := bG.c3
  have xG4 := bG.c4
  have nG := bG.lt
  go_wp2_with fail
  refine (c_eqTileS_same Ax1 Ay1 _ _ S _ (RdT.of_own ox1) (RdT.of_own oy1) (by omega)).mono ?_
  rintro e w13 ⟨rfl, h13⟩
  clear xW0 xW1 xW2 xW3 xW4 nW xG0 xG1 xG2 xG3 xG4 nG
  replace hb := bstep hb h13
  replace bW := bW.keep h13
  replace bG := bG.keep h13
  replace oW := oW.below h13 (by omega)
  replace oG := oG.below h13 (by omega)
  replace ox0 := own_keep ox0 h13
  replace ox1 := own_keep ox1 h13
  replace oy1 := own_keep oy1 h13
  have s13 : w12.heap.size ≤ w13.heap.size := h13.size
  clear oy1
  have xW0 := bW.c0
  have xW1 := bW.c1
  have xW2 := bW.c2
  have xW3 := bW.c3
  have xW4 := bW.c4
  have nW := bW.lt
  have xG0 := bG.c0
  have xG1 := bG.c1
  have xG2 := bG.c2
  have xG3 := bG.c3
  have xG4 := bG.c4
  have nG := bG.lt
  go_wp2_with fail
  refine (c_markTileS Ax0 _ _ F (1) w13 ox0 (by omega) (by omega)).mono ?_
  rintro e w14 ⟨rfl, no, hg⟩
  clear xW0 xW1 xW2 xW3 xW4 nW xG0 xG1 xG2 xG3 xG4 nG
  have s14 : w13.heap.size ≤ w14.heap.size := hg.size
  replace hb := hb.trans (below_of_grown hg (by omega) (fun g h => by have := lx0 g h; omega))
  replace bW := bW.of_block (hg.block _ bW.lt (fun e => by have := lx0 _ e.symm; omega))
  replace bG := bG.of_block (hg.block _ bG.lt (fun e => by have := lx0 _ e.symm; omega))
  replace oW := oW.grown hg (fun g h => by have := lx0 g h; omega)
  replace oG := oG.grown hg (fun g h => by have := lx0 g h; omega)
  replace ox1 := ox1.kept hg (ApG.kept (fun g h1 h2 => by have := lx0 g h2; have := lx1 g h1; omega))
  clear no ox0 hg
  have xW0 := bW.c0
  have xW1 := bW.c1
  have xW2 := bW.c2
  have xW3 := bW.c3
  have xW4 := bW.c4
  have nW := bW.lt
  have xG0 := bG.c0
  have xG1 := bG.c1
  have xG2 := bG.c2
  have xG3 := bG.c3
  have xG4 := bG.c4
  have nG := bG.lt
  go_wp2_with fail
  refine (c_markTileS Ax1 _ _ S ((1) + 2 * (F.length : Int)) w14 ox1 (by omega) (by omega)).mono ?_
  rintro e w15 ⟨rfl, no, hg⟩
  clear xW0 xW1 xW2 xW3 xW4 nW xG0 xG1 xG2 xG3 xG4 nG
  have s15 : w14.heap.size ≤ w15.heap.size := hg.size
  replace hb := hb.trans (below_of_grown hg (by omega) (fun g h => by have := lx1 g h; omega))
  replace bW := bW.of_block (hg.block _ bW.lt (fun e => by have := lx1 _ e.symm; omega))
  replace bG := bG.of_block (hg.block _ bG.lt (fun e => by have := lx1 _ e.symm; omega))
  replace oW := oW.grown hg (fun g h => by have := lx1 g h; omega)
  replace oG := oG.grown hg (fun g h => by have := lx1 g h; omega)
  clear no ox1 hg
  have xW0 := bW.c0
  have xW1 := bW.c1
  have xW2 := bW.c2
  have xW3 := bW.c3
  have xW4 := bW.c4
  have nW := bW.lt
  have xG0 := bG.c0
  have xG1 := bG.c1
  have xG2 := bG.c2
  have xG3 := bG.c3
  have xG4 := bG.c4
  have nG := bG.lt
  go_wp2_with fail
  refine (c_eqGame_same AGf cGf AGs cGs AGr cGr AWf cWf AWs cWs AWr cWr F2 S2 R2 t2 t2 _ (RdT.of_own oG.f) (RdT.of_own oG.s) (RdI.of_own oG.r) (RdT.of_own oW.f) (RdT.of_own oW.s) (RdI.of_own oW.r) (by omega) (by omega) (by omega)).mono ?_
  rintro e w16 ⟨rfl, h16⟩
  clear xW0 xW1 xW2 xW3 xW4 nW xG0 xG1 xG2 xG3 xG4 nG
  replace hb := bstep hb h16
  replace bW := bW.keep h16
  replace bG := bG.keep h16
  replace oW := oW.below h16 (by omega)
  replace oG := oG.below h16 (by omega)
  have s16 : w15.heap.size ≤ w16.heap.size := h16.size
  have xW0 := bW.c0
  have xW1 := bW.c1
  have xW2 := bW.c2
  have xW3 := bW.c3
  have xW4 := bW.c4
  have nW := bW.lt
  have xG0 := bG.c0
  have xG1 := bG.c1
  have xG2 := bG.c2
  have xG3 := bG.c3
  have xG4 := bG.c4
  have nG := bG.lt
  go_wp2_with fail
  refine (c_markGame AGf cGf F2 AGs cGs S2 AGr cGr R2 t2 t2 w6.heap.size w7.heap.size (1) w16 oG (by omega) (by omega) (by omega) (by omega) (by omega)).mono ?_
  rintro e w17 ⟨rfl, no, h17, hx17⟩
  clear xW0 xW1 xW2 xW3 xW4 nW xG0 xG1 xG2 xG3 xG4 nG
  have s17 : w16.heap.size ≤ w17.heap.size := h17.size
  replace hb := hb.trans (h17.mono (by omega))
  replace bW := bW.of_block (hx17 _ (by omega) bW.lt)
  replace bG := bG.of_block (hx17 _ (by omega) bG.lt)
  replace oW := oW.below h17 (by omega)
  have oGm := no
  clear no oG h17 hx17
  have xW0 := bW.c0
  have xW1 := bW.c1
  have xW2 := bW.c2
  have xW3 := bW.c3
  have xW4 := bW.c4
  have nW := bW.lt
  have xG0 := bG.c0
  have xG1 := bG.c1
  have xG2 := bG.c2
  have xG3 := bG.c3
  have xG4 := bG.c4
  have nG := bG.lt
  go_wp2_with fail
  refine (c_heldGame AGf cGf F2.length AGs cGs S2.length AGr cGr R2.length t2 t2 1 _ (rdmarksT oGm.f) (rdmarksT oGm.s) (rdmarksI oGm.r) (by omega) (by omega) (by omega)).mono ?_
  rintro e w18 ⟨rfl, h18⟩
  clear xW0 xW1 xW2 xW3 xW4 nW xG0 xG1 xG2 xG3 xG4 nG
  replace hb := bstep hb h18
  replace bW := bW.keep h18
  replace bG := bG.keep h18
  replace oW := oW.below h18 (by omega)
  replace oGm := oGm.below h18 (by omega)
  have s18 : w17.heap.size ≤ w18.heap.size := h18.size
  have xW0 := bW.c0
  have xW1 := bW.c1
  have xW2 := bW.c2
  have xW3 := bW.c3
  have xW4 := bW.c4
  have nW := bW.lt
  have xG0 := bG.c0
  have xG1 := bG.c1
  have xG2 := bG.c2
  have xG3 := bG.c3
  have xG4 := bG.c4
  have nG := bG.lt
  go_wp2_with fail
  refine (c_toTileS A0 c0 F w18 (hF.below hb) (by omega)).mono ?_
  rintro e w19 ⟨rfl, no, h19⟩
  generalize hA : (some ⟨w18.heap.size, 0, none⟩ : Option Addr) = Ad0 at no ⊢
  clear hA
  have ld0 := no.lt
  clear xW0 xW1 xW2 xW3 xW4 nW xG0 xG1 xG2 xG3 xG4 nG
  replace hb := bstep hb h19
  replace bW := bW.keep h19
  replace bG := bG.keep h19
  replace oW := oW.below h19 (by omega)
  replace oGm := oGm.below h19 (by omega)
  have s19 : w18.heap.size ≤ w19.heap.size := h19.size
  have od0 := no
  clear no
  have xW0 := bW.c0
  have xW1 := bW.c1
  have xW2 := bW.c2
  have xW3 := bW.c3
  have xW4 := bW.c4
  have nW := bW.lt
  have xG0 := bG.c0
  have xG1 := bG.c1
  have xG2 := bG.c2
  have xG3 := bG.c3
  have xG4 := bG.c4
  have nG := bG.lt
  go_wp2_with fail
  refine (c_toTileS A1 c1 S w19 (hS.below hb) (by omega)).mono ?_
  rintro e w20 ⟨rfl, no, h20⟩
  generalize hA : (some ⟨w19.heap.size, 0, none⟩ : Option Addr) = Ad1 at no ⊢
  clear hA
  have ld1 := no.lt
  clear xW0 xW1 xW2 xW3 xW4 nW xG0 xG1 xG2 xG3 xG4 nG
  replace hb := bstep hb h20
  replace bW := bW.keep h20
  replace bG := bG.keep h20
  replace oW := oW.below h20 (by omega)
  replace od0 := own_keep od0 h20
  replace oGm := oGm.below h20 (by omega)
  have s20 : w19.heap.size ≤ w20.heap.size := h20.size
  have od1 := no
  clear no
  have xW0 := bW.c0
  have xW1 := bW.c1
  have xW2 := bW.c2
  have xW3 := bW.c3
  have xW4 := bW.c4
  have nW := bW.lt
  have xG0 := bG.c0
  have xG1 := bG.c1
  have xG2 := bG.c2
  have xG3 := bG.c3
  have xG4 := bG.c4
  have nG := bG.lt
  go_wp2_with fail
  refine (Ci.out Ad0 _ Ad1 _ w20 (RdT.of_own od0) (RdT.of_own od1)).mono ?_
  rintro e w21 ⟨AHf, cHf, AHs, cHs, AHr, cHr, rfl, no, h21⟩
  clear xW0 xW1 xW2 xW3 xW4 nW xG0 xG1 xG2 xG3 xG4 nG
  replace hb := bstep hb h21
  replace bW := bW.keep h21
  replace bG := bG.keep h21
  replace oW := oW.below h21 (by omega)
  replace od0 := own_keep od0 h21
  replace od1 := own_keep od1 h21
  replace oGm := oGm.below h21 (by omega)
  have s21 : w20.heap.size ≤ w21.heap.size := h21.size
  have oH := no
  clear no
  clear od0
  clear od1
  have xW0 := bW.c0
  have xW1 := bW.c1
  have xW2 := bW.c2
  have xW3 := bW.c3
  have xW4 := bW.c4
  have nW := bW.lt
  have xG0 := bG.c0
  have xG1 := bG.c1
  have xG2 := bG.c2
  have xG3 := bG.c3
  have xG4 := bG.c4
  have nG := bG.lt
  go_wp2_with fail
  clear xW0 xW1 xW2 xW3 xW4 nW xG0 xG1 xG2 xG3 xG4 nG
  obtain ⟨w22, hw⟩ : ∃ v, v = w21.alloc (.cells #[.slice AHf F2.length cHf, .slice AHs S2.length cHs, .slice AHr R2.length cHr, .int .i64 t2, .int .i64 t2] 30) := ⟨_, rfl⟩
  rw [← hw]
  have h22 : Below w21.heap.size w21 w22 := by rw [hw]; exact (Below.refl _ _).alloc (Nat.le_refl _) _
  have nb : BoxAt w22 w21.heap.size (.slice AHf F2.length cHf) (.slice AHs S2.length cHs) (.slice AHr R2.length cHr) (.int .i64 t2) (.int .i64 t2) := by rw [hw]; exact BoxAt.fresh w21 _ _ _ _ _ _
  have hz22 : w22.heap.size = w21.heap.size + 1 := by rw [hw]; simp
  clear hw
  replace hb := bstep hb h22
  replace bW := bW.keep h22
  replace bG := bG.keep h22
  replace oW := oW.below h22 (by omega)
  replace oH := oH.below h22 (by omega)
  replace oGm := oGm.below h22 (by omega)
  have s22 : w21.heap.size ≤ w22.heap.size := h22.size
  have bH := nb
  clear nb
  refine (c_eqGame_same AHf cHf AHs cHs AHr cHr AWf cWf AWs cWs AWr cWr F2 S2 R2 t2 t2 _ (RdT.of_own oH.f) (RdT.of_own oH.s) (RdI.of_own oH.r) (RdT.of_own oW.f) (RdT.of_own oW.s) (RdI.of_own oW.r) (by omega) (by omega) (by omega)).mono ?_
  rintro e w23 ⟨rfl, h23⟩
  replace hb := bstep hb h23
  replace bW := bW.keep h23
  replace bG := bG.keep h23
  replace bH := bH.keep h23
  replace oW := oW.below h23 (by omega)
  replace oH := oH.below h23 (by omega)
  replace oGm := oGm.below h23 (by omega)
  have s23 : w22.heap.size ≤ w23.heap.size := h23.size
  have xW0 := bW.c0
  have xW1 := bW.c1
  have xW2 := bW.c2
  have xW3 := bW.c3
  have xW4 := bW.c4
  have nW := bW.lt
  have xG0 := bG.c0
  have xG1 := bG.c1
  have xG2 := bG.c2
  have xG3 := bG.c3
  have xG4 := bG.c4
  have nG := bG.lt
  have xH0 := bH.c0
  have xH1 := bH.c1
  have xH2 := bH.c2
  have xH3 := bH.c3
  have xH4 := bH.c4
  have nH := bH.lt
  go_wp2_with fail
  refine (c_heldGame AGf cGf F2.length AGs cGs S2.length AGr cGr R2.length t2 t2 1 _ (rdmarksT oGm.f) (rdmarksT oGm.s) (rdmarksI oGm.r) (by omega) (by omega) (by omega)).mono ?_
  rintro e w24 ⟨rfl, h24⟩
  clear xW0 xW1 xW2 xW3 xW4 nW xG0 xG1 xG2 xG3 xG4 nG xH0 xH1 xH2 xH3 xH4 nH
  replace hb := bstep hb h24
  replace bW := bW.keep h24
  replace bG := bG.keep h24
  replace bH := bH.keep h24
  replace oW := oW.below h24 (by omega)
  replace oH := oH.below h24 (by omega)
  replace oGm := oGm.below h24 (by omega)
  have s24 : w23.heap.size ≤ w24.heap.size := h24.size
  go_wp2
  go_ret
  exact ⟨rfl, hb⟩

set_option maxRecDepth 100000 in
theorem lifted_FnExactGameOf (os : Os) (started : os.Started) (H : Type) (enc : TypeId × Value → H) :
    ReturnsInHanded {} Try.checked os 4 .any (Rows.fnExactGameOfSpec.pre6 enc Try.prog Try.f4 Rows.fnExactGameOfRow.domain false) (Rows.fnExactGameOfSpec.post enc Try.prog Try.f4 false true false false) := by
  refine returnsInHanded_of_change (C := Try.checked) Try.own_ started (by kernel_rfl) Try.func4
    (ChangeSpec.witness6 (enc := enc) (C := Try.checked) false ⟨#[], #[.slice none 0 0, .slice none 0 0], []⟩ 8 (by kernel_rfl) (by kernel_rfl) (by kernel_rfl) (by kernel_rfl)) ?_
  intro W base args ds gs before hval0 hW hcnd _
  have hval : ∀ (j : Nat) t v, Try.f4.params[j]? = some t → args[j]? = some v → Value.okWide Try.prog W .any base t v := hval0
  have hW' := hW
  obtain ⟨p, q, hA0, hV, rfl, hfz, hnd⟩ := hW
  have hA : DataW.TrodAll enc Try.prog W 0 (fun _ => true) true Try.f4.params.toList args.toList ds p := hA0
  rw [Try.params4] at hA hval
  obtain ⟨v0, vs0, d0, ds0, p0, q0, hargs0, rfl, rfl, h0, r0⟩ := trodAll_cons hA
  obtain ⟨v1, vs1, d1, ds1, p1, q1, rfl, rfl, rfl, h1, r1⟩ := trodAll_cons r0
  obtain ⟨rfl, rfl, rfl⟩ := trodAll_nil r1
  obtain rfl : args = #[v0, v1] := by cases args; simp_all
  obtain ⟨rfl, rfl⟩ := trodVars_none hV
  obtain ⟨A0, c0, ts0, rfl, hr0, hl0⟩ := open_tiles (hval 0 22 v0 rfl rfl) h0
  obtain ⟨A1, c1, ts1, rfl, hr1, hl1⟩ := open_tiles (hval 1 22 v1 rfl rfl) h1
  refine (w_FnExactGameOf A0 c0 ts0 A1 c1 ts1 W hr0 hl0 hr1 hl1).mono fun e W' ⟨he, hg⟩ => ?_
  subst he
  exact ⟨_, rfl, law_post rfl rfl (of_decide_eq_true (by kernel_rfl)) hW' rfl hg⟩

theorem fnExactGameOf_holds : Rows.FnExactGameOfSaid :=
  OpenClaim.holds_of_wide 4 Try.f4 rfl rfl rfl rfl rfl rfl rfl ⟨rfl, rfl, rfl, rfl, rfl⟩ rfl rfl rfl rfl rfl (by kernel_rfl) Try.func4 (by kernel_rfl)
    (of_decide_eq_true (by kernel_rfl)) (by unfold Func.isWrapper; first | (rw [if_pos (by decide +kernel)]; kernel_rfl) | (rw [if_neg (by decide +kernel)]; exact ⟨rfl, rfl⟩))
    (fun os started H enc _ => lifted_FnExactGameOf os started H enc)
#print axioms fnExactGameOf_holds

end Go.Proofs.Ytepedcdnaodhcaa

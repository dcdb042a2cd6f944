/- Moves made one after the other: both sides of PlayMoves. -/
import Derived.Test.YtgjdpiooocpmhabGreatDoorStrs
import Derived.Test.YtgjdpiooocpmhabGreatDoorFnd
import Derived.Test.YtgjdpiooocpmhabGreatDoorGameC
import Derived.Deep.Cut
import Derived.BigQuiet
namespace Go.Proofs.YtgjdpiooocpmhabGreatDoor
open Go.RowKit
set_option linter.unusedVariables false

abbrev Gm : Type := List (Int × Int) × List (Int × Int) × List Int × Int × Int
def stpG (g : Gm) (s : ByteArray) : Option Gm := (fndM g.1 g.2.1 g.2.2.1 g.2.2.2.1 g.2.2.2.2 s).map fun m => (behF g.1 g.2.2.2.1 m, behS g.2.1 g.2.2.2.1 m, behR g.2.2.1 m, 1 - g.2.2.2.1, behU g.2.2.2.2 m)
def plyG : Gm → List ByteArray → Option Gm
  | g, [] => some g
  | g, s :: r => (stpG g s).bind fun g' => plyG g' r
def plO (F S : List (Int × Int)) (R : List Int) (t u : Int) (xs : List ByteArray) : Option Gm := if xs.length ≤ 100 then plyG (F, S, R, t, u) xs else none
def plM (F S : List (Int × Int)) (R : List Int) (t u : Int) (xs : List ByteArray) : Gm := (plO F S R t u xs).getD ([], [], [], 0, 0)
def plB (F S : List (Int × Int)) (R : List Int) (t u : Int) (xs : List ByteArray) : Bool := gameB F S R t u && (plO F S R t u xs).isSome
def goodG (g : Gm) : Bool := gameB g.1 g.2.1 g.2.2.1 g.2.2.2.1 g.2.2.2.2
theorem stp_good {g g' : Gm} {s : ByteArray} (hg : goodG g = true) (h : stpG g s = some g') : goodG g' = true := by
  unfold stpG at h
  obtain ⟨m, hm, rfl⟩ := Option.map_eq_some_iff.1 h
  exact (behind_good hg (List.mem_of_find?_eq_some hm)).1
theorem ply_good : ∀ {xs : List ByteArray} {g g' : Gm}, goodG g = true → plyG g xs = some g' → goodG g' = true
  | [], g, g', hg, h => by cases h; exact hg
  | s :: r, g, g', hg, h => by
    obtain ⟨g2, h2, h3⟩ := Option.bind_eq_some_iff.1 h
    exact ply_good (stp_good hg h2) h3
theorem pl_len (F S : List (Int × Int)) (R : List Int) (t u : Int) (xs : List ByteArray) : (selT (plB F S R t u xs) (plM F S R t u xs).1).length + (selT (plB F S R t u xs) (plM F S R t u xs).2.1).length + (selI (plB F S R t u xs) (plM F S R t u xs).2.2.1).length ≤ 1048576 := by
  cases hb : plB F S R t u xs
  · simp [selT, selI]
  · unfold plB at hb
    rw [Bool.and_eq_true] at hb
    obtain ⟨g, hgs⟩ := Option.isSome_iff_exists.1 hb.2
    have e : plM F S R t u xs = g := by unfold plM; rw [hgs]; rfl
    have hg : goodG g = true := by
      unfold plO at hgs
      split at hgs
      · exact ply_good (g := (F, S, R, t, u)) hb.1 hgs
      · cases hgs
    rw [e]
    have h := game_len hg
    simp only [selT, selI, if_true]
    omega

set_option maxRecDepth 100000 in
set_option maxHeartbeats 2000000 in
theorem c_specPlayGood (AF : Option Addr) (cF : Nat) (F : List (Int × Int)) (AS : Option Addr) (cS : Nat) (S : List (Int × Int)) (AR : Option Addr) (cR : Nat) (R : List Int) (t u : Int) (A0 : Option Addr) (c0 : Nat) (xs : List ByteArray) (w : World) (hF : RdT w AF F) (hS : RdT w AS S) (hR : RdI w AR R) (hX : RdSt w A0 xs) (hg : gameB F S R t u = true) (kF : F.length ≤ cF) (kS : S.length ≤ cS) :
    Calls Tryz.prog 22 #[.agg #[.slice AF F.length cF, .slice AS S.length cS, .slice AR R.length cR, .int .i64 t, .int .i64 u], .slice A0 xs.length c0] w (RetGs w (plM F S R t u xs).1 (plM F S R t u xs).2.1 (plM F S R t u xs).2.2.1 (plM F S R t u xs).2.2.2.1 (plM F S R t u xs).2.2.2.2 (plO F S R t u xs).isSome) := by
  obtain ⟨lF, lS, lR, ht2⟩ := game_len hg
  have conG := fun W (hb : Below w.heap.size w W) => c_plGood AF cF F AS cS S AR cR R t u W (hF.below hb) (hS.below hb) (hR.below hb) (by omega) (by omega) (by omega) kF kS
  rw [hg] at conG
  have ConG := Lib.hid conG
  clear conG
  have conC := Lib.hid (fun W (hb : Below w.heap.size w W) => c_plOwn AF cF F AS cS S AR cR R t u W (hF.below hb) (hS.below hb) (hR.below hb) (by omega) (by omega) (by omega))
  have conF := Lib.hid (fun (AF2 : Option Addr) (cF2 : Nat) (F2 : List (Int × Int)) (AS2 : Option Addr) (cS2 : Nat) (S2 : List (Int × Int)) (AR2 : Option Addr) (cR2 : Nat) (R2 : List Int) (t2 u2 : Int) (s : ByteArray) W (rF : RdT W AF2 F2) (rS : RdT W AS2 S2) (rR : RdI W AR2 R2) (hg2 : gameB F2 S2 R2 t2 u2 = true) => c_plFind AF2 cF2 F2 AS2 cS2 S2 AR2 cR2 R2 t2 u2 s W rF rS rR hg2)
  have hg0 : goodG (F, S, R, t, u) = true := hg
  unfold plM
  by_cases h100 : 100 < xs.length
  · have eo : plO F S R t u xs = none := if_neg (by omega)
    rw [eo]
    clear eo hF hS hR hg hg0 conC conF
    go_enter Tryz.func22, Tryz.ntmps22
    go_wp2_with fail
    obtain ⟨w0, hw0⟩ : ∃ w0, w0 = (w.alloc (.cells #[.slice AF F.length cF, .slice AS S.length cS, .slice AR R.length cR, .int .i64 t, .int .i64 u] 32)).alloc (.cells #[.slice none 0 0, .slice none 0 0, .slice none 0 0, .int .i64 0, .int .i64 0] 32) := ⟨_, rfl⟩
    rw [← hw0]
    have ba0 : BoxAt w0 w.heap.size (.slice AF F.length cF) (.slice AS S.length cS) (.slice AR R.length cR) (.int .i64 t) (.int .i64 u) := by rw [hw0]; exact (BoxAt.fresh w _ _ _ _ _ _).more _
    have br0 : BoxAt w0 (w.heap.size + 1) (.slice none 0 0) (.slice none 0 0) (.slice none 0 0) (.int .i64 0) (.int .i64 0) := by
      have h := BoxAt.fresh (w.alloc (.cells #[.slice AF F.length cF, .slice AS S.length cS, .slice AR R.length cR, .int .i64 t, .int .i64 u] 32)) (.slice none 0 0) (.slice none 0 0) (.slice none 0 0) (.int .i64 0) (.int .i64 0) 32
      rw [World.size_alloc] at h
      rw [hw0]; exact h
    have hb0 : Below w.heap.size w w0 := by rw [hw0]; go_grown
    clear hw0
    refine (ConG.out w0 hb0).mono ?_
    rintro e w1 ⟨rfl, h1⟩
    have ba1 := ba0.keep h1
    have br1 := br0.keep h1
    have hb1 := bstep hb0 h1
    clear ba0 br0
    have br5 := br1
    have hb5 := hb1
    have hlr := br5.lt
    have r0 := br5.c0
    have r1 := br5.c1
    have r2 := br5.c2
    have r3 := br5.c3
    have r4 := br5.c4
    have z0 := br5.fz 0
    have z1 := br5.fz 1
    have z2 := br5.fz 2
    have z3 := br5.fz 3
    have z4 := br5.fz 4
    go_wp2
    refine bodyPost_ret (v := .tuple #[.agg #[.slice none 0 0, .slice none 0 0, .slice none 0 0, .int .i64 0, .int .i64 0], .bool false]) (by simp [results, Tryz.results22, go_sem, r0, r1, r2, r3, r4]) rfl (retGs_no (below_box (below_box (below_box (below_box (below_box hb5 (by omega)) (by omega)) (by omega)) (by omega)) (by omega)))
  have eo : plO F S R t u xs = plyG (F, S, R, t, u) xs := if_pos (by omega)
  obtain ⟨o, ho⟩ : ∃ o, o = plyG (F, S, R, t, u) xs := ⟨_, rfl⟩
  rw [eo, ← ho]
  have HO := Lib.hid ho
  clear ho eo hF hS hR
  have h100' : ¬ 100 < (xs.length : Int) := by omega
  go_enter Tryz.func22, Tryz.ntmps22
  go_wp2_with fail
  obtain ⟨w0, hw0⟩ : ∃ w0, w0 = (w.alloc (.cells #[.slice AF F.length cF, .slice AS S.length cS, .slice AR R.length cR, .int .i64 t, .int .i64 u] 32)).alloc (.cells #[.slice none 0 0, .slice none 0 0, .slice none 0 0, .int .i64 0, .int .i64 0] 32) := ⟨_, rfl⟩
  rw [← hw0]
  have ba0 : BoxAt w0 w.heap.size (.slice AF F.length cF) (.slice AS S.length cS) (.slice AR R.length cR) (.int .i64 t) (.int .i64 u) := by rw [hw0]; exact (BoxAt.fresh w _ _ _ _ _ _).more _
  have br0 : BoxAt w0 (w.heap.size + 1) (.slice none 0 0) (.slice none 0 0) (.slice none 0 0) (.int .i64 0) (.int .i64 0) := by
    have h := BoxAt.fresh (w.alloc (.cells #[.slice AF F.length cF, .slice AS S.length cS, .slice AR R.length cR, .int .i64 t, .int .i64 u] 32)) (.slice none 0 0) (.slice none 0 0) (.slice none 0 0) (.int .i64 0) (.int .i64 0) 32
    rw [World.size_alloc] at h
    rw [hw0]; exact h
  have hb0 : Below w.heap.size w w0 := by rw [hw0]; go_grown
  have hs0 : w0.heap.size = w.heap.size + 2 := by rw [hw0, World.size_alloc, World.size_alloc]
  clear hw0
  refine (ConG.out w0 hb0).mono ?_
  rintro e w1 ⟨rfl, h1⟩
  have ba1 := ba0.keep h1
  have br1 := br0.keep h1
  have hb1 := bstep hb0 h1
  clear ba0 br0
  have x0 := ba1.c0
  have x1 := ba1.c1
  have x2 := ba1.c2
  have x3 := ba1.c3
  have x4 := ba1.c4
  have hs1 := hb1.size
  have hsz1 : w.heap.size + 2 ≤ w1.heap.size := by have := h1.size; omega
  go_wp2_with fail
  refine (conC.out w1 hb1).mono ?_
  rintro e w2 ⟨AF1, cF1, AS1, cS1, AR1, cR1, rfl, o2, h2⟩
  have hb2 := bstep hb1 h2
  have br2 := br1.keep h2
  have hs2 := h2.size
  clear x0 x1 x2 x3 x4 conC
  go_upto_region 4 with (fail)
  obtain ⟨w3, hw3⟩ : ∃ w3, w3 = w2.alloc (.cells #[.slice AF1 F.length cF1, .slice AS1 S.length cS1, .slice AR1 R.length cR1, .int .i64 t, .int .i64 u] 32) := ⟨_, rfl⟩
  rw [← hw3]
  have bo3 : BoxAt w3 w2.heap.size (.slice AF1 F.length cF1) (.slice AS1 S.length cS1) (.slice AR1 R.length cR1) (.int .i64 t) (.int .i64 u) := by rw [hw3]; exact BoxAt.fresh w2 _ _ _ _ _ _
  have h3 : Below w2.heap.size w2 w3 := by rw [hw3]; exact (Below.refl _ _).alloc (Nat.le_refl _) _
  have hb3 := bstep hb2 h3
  have br3 := br2.keep h3
  have o3 := o2.below h3 (Nat.le_refl _)
  have hs3 := h3.size
  have hn3 := bo3.lt
  clear hw3 o2 br2
  obtain ⟨nb, hnb⟩ : ∃ nb, nb = w2.heap.size := ⟨_, rfl⟩
  rw [← hnb] at bo3 hn3 ⊢
  have Hnb := Lib.hid hnb
  clear hnb
  have hnr : w.heap.size + 1 < nb := by rw [Hnb.out]; omega
  go_wp2
  go_loopw [24] (fun i wr => ∃ (k : Nat) (AF2 : Option Addr) (cF2 : Nat) (F2 : List (Int × Int)) (AS2 : Option Addr) (cS2 : Nat) (S2 : List (Int × Int)) (AR2 : Option Addr) (cR2 : Nat) (R2 : List Int) (t2 u2 : Int) (lo hi : Nat), k ≤ xs.length ∧ i = .int .i64 k ∧ o = plyG (F2, S2, R2, t2, u2) (xs.drop k) ∧ gameB F2 S2 R2 t2 u2 = true ∧ BoxAt wr nb (.slice AF2 F2.length cF2) (.slice AS2 S2.length cS2) (.slice AR2 R2.length cR2) (.int .i64 t2) (.int .i64 u2) ∧ BoxAt wr (w.heap.size + 1) (.slice none 0 0) (.slice none 0 0) (.slice none 0 0) (.int .i64 0) (.int .i64 0) ∧
      OwnG wr lo hi (.slice AF2 F2.length cF2) F2.length F2 (.slice AS2 S2.length cS2) S2.length S2 (.slice AR2 R2.length cR2) R2.length R2 ∧ (hi ≤ nb ∨ nb < lo) ∧ w.heap.size + 2 ≤ lo ∧ hi ≤ wr.heap.size ∧ Below w.heap.size w wr) (fun i _ => xs.length - (intOf i).toNat)
  case atStart => exact ⟨0, AF1, cF1, F, AS1, cS1, S, AR1, cR1, R, t, u, w1.heap.size, w2.heap.size, Nat.zero_le _, rfl, HO.out, hg0, bo3, br3, o3, .inl (by rw [Hnb.out]; exact Nat.le_refl _), hsz1, hs3, hb3⟩
  case round =>
    clear bo3 br3 o3 hb3 h3 h2 hb2
    obtain ⟨k, AF2, cF2, F2, AS2, cS2, S2, AR2, cR2, R2, t2, u2, lo, hi, hk, rfl, hply, hgd, bo, br, og, hlh, hlo, hhi, hb⟩ := hrel
    have Hply := Lib.hid hply
    clear hply
    by_cases hlt : k < xs.length
    · obtain ⟨bs, os, rfl, hbs, hcs⟩ := hX.at_ hlt
      have g0 := keepc hb (hcs k hlt)
      have Hcons := Lib.hid (show xs.drop k = xs[k] :: xs.drop (k + 1) from List.drop_eq_getElem_cons hlt)
      generalize xs[k] = s at *
      have hno := bo.lt
      have hnr2 := br.lt
      have conF2' := conF.out AF2 cF2 F2 AS2 cS2 S2 AR2 cR2 R2 t2 u2 s wr (RdT.of_own og.f) (RdT.of_own og.s) (RdI.of_own og.r) hgd
      have x0 := bo.c0
      have x1 := bo.c1
      have x2 := bo.c2
      have x3 := bo.c3
      have x4 := bo.c4
      cases hfd : fndM F2 S2 R2 t2 u2 s with
      | none =>
        have conN : Calls Tryz.prog 46 #[.agg #[.slice AF2 F2.length cF2, .slice AS2 S2.length cS2, .slice AR2 R2.length cR2, .int .i64 t2, .int .i64 u2], .string s] wr (RetGB wr [] [] [] 0 0 false) := by
          rw [hfd] at conF2'
          exact conF2'
        have ConN := Lib.hid conN
        obtain rfl : o = none := by rw [Hply.out, Hcons.out]; show (stpG (F2, S2, R2, t2, u2) s).bind _ = none; unfold stpG; simp only [hfd]; rfl
        clear hcs conF2' conN Hply Hcons hfd conF
        unfold RetGB at ConN
        go_wp2_with fail
        refine ConN.out.mono ?_
        rintro e w4 ⟨A3, c3, A4, c4, A5, c5, rfl, o4, h4⟩
        simp only [List.length_nil]
        have br4 := br.keep h4
        have hb4 := bstep hb h4
        have br5 := br4.more (.cells #[.slice A3 0 c3, .slice A4 0 c4, .slice A5 0 c5, .int .i64 0, .int .i64 0] 32)
        have hb5 : Below w.heap.size w (w4.alloc (.cells #[.slice A3 0 c3, .slice A4 0 c4, .slice A5 0 c5, .int .i64 0, .int .i64 0] 32)) := hb4.alloc hb4.size _
        have hlr := br4.lt
        clear o4 x0 x1 x2 x3 x4 bo og
        go_upto_region 8 with (fail)
        obtain ⟨w5, hw5⟩ : ∃ w5, w5 = w4.alloc (.cells #[.slice A3 0 c3, .slice A4 0 c4, .slice A5 0 c5, .int .i64 0, .int .i64 0] 32) := ⟨_, rfl⟩
        rw [← hw5] at br5 hb5 ⊢
        clear hw5
        have r0 := br5.c0
        have r1 := br5.c1
        have r2 := br5.c2
        have r3 := br5.c3
        have r4 := br5.c4
        have z0 := br5.fz 0
        have z1 := br5.fz 1
        have z2 := br5.fz 2
        have z3 := br5.fz 3
        have z4 := br5.fz 4
        go_wp2
        refine bodyPost_ret (v := .tuple #[.agg #[.slice none 0 0, .slice none 0 0, .slice none 0 0, .int .i64 0, .int .i64 0], .bool false]) (by simp [results, Tryz.results22, go_sem, r0, r1, r2, r3, r4]) rfl (retGs_no (below_box (below_box (below_box (below_box (below_box hb5 (by omega)) (by omega)) (by omega)) (by omega)) (by omega)))
      | some m =>
        have hgm : gameB (behF F2 t2 m) (behS S2 t2 m) (behR R2 m) (1 - t2) (behU u2 m) = true := (behind_good hgd (List.mem_of_find?_eq_some hfd)).1
        have em : mkM F2 S2 R2 t2 u2 s = m := by unfold mkM; rw [hfd]; rfl
        have conN : Calls Tryz.prog 46 #[.agg #[.slice AF2 F2.length cF2, .slice AS2 S2.length cS2, .slice AR2 R2.length cR2, .int .i64 t2, .int .i64 u2], .string s] wr (RetGB wr (behF F2 t2 m) (behS S2 t2 m) (behR R2 m) (1 - t2) (behU u2 m) true) := by
          rw [em, hfd] at conF2'
          exact conF2'
        have hstep : o = plyG (behF F2 t2 m, behS S2 t2 m, behR R2 m, 1 - t2, behU u2 m) (xs.drop (k + 1)) := by
          rw [Hply.out, Hcons.out]
          show (stpG (F2, S2, R2, t2, u2) s).bind _ = _
          unfold stpG
          simp only [hfd]
          rfl
        have Hstep := Lib.hid hstep
        have Hgm := Lib.hid hgm
        have ConN := Lib.hid conN
        clear hcs conF2' conN hstep hgm em Hply Hcons hfd
        generalize behF F2 t2 m = F3 at *
        generalize behS S2 t2 m = S3 at *
        generalize behR R2 m = R3 at *
        generalize 1 - t2 = t3 at *
        generalize behU u2 m = u3 at *
        unfold RetGB at ConN
        go_wp2_with fail
        refine ConN.out.mono ?_
        rintro e w4 ⟨A3, c3, A4, c4, A5, c5, rfl, o4, h4⟩
        have br4 := br.keep h4
        have bo4 := bo.keep h4
        have hb4 := bstep hb h4
        have hs4 := h4.size
        clear x0 x1 x2 x3 x4 bo og br
        go_upto_region 8 with (fail)
        obtain ⟨w5, hw5⟩ : ∃ w5, w5 = w4.alloc (.cells #[.slice A3 F3.length c3, .slice A4 S3.length c4, .slice A5 R3.length c5, .int .i64 t3, .int .i64 u3] 32) := ⟨_, rfl⟩
        rw [← hw5]
        have bn5 : BoxAt w5 w4.heap.size (.slice A3 F3.length c3) (.slice A4 S3.length c4) (.slice A5 R3.length c5) (.int .i64 t3) (.int .i64 u3) := by rw [hw5]; exact BoxAt.fresh w4 _ _ _ _ _ _
        have h5 : Below w4.heap.size w4 w5 := by rw [hw5]; exact (Below.refl _ _).alloc (Nat.le_refl _) _
        clear hw5
        have br5 := br4.keep h5
        have bo5 := bo4.keep h5
        have hb5 := bstep hb4 h5
        have o5 := o4.below h5 (Nat.le_refl _)
        have hs5 := h5.size
        have hl5 := bo5.lt
        clear br4 bo4 o4
        have x0 := bn5.c0
        have x1 := bn5.c1
        have x2 := bn5.c2
        have x3 := bn5.c3
        have x4 := bn5.c4
        have y0 := bo5.c0
        have y1 := bo5.c1
        have y2 := bo5.c2
        have y3 := bo5.c3
        have y4 := bo5.c4
        have z0 := bo5.fz 0
        have z1 := bo5.fz 1
        have z2 := bo5.fz 2
        have z3 := bo5.fz 3
        have z4 := bo5.fz 4
        go_wp2
        go_roundw
        case rel =>
          refine ⟨k + 1, A3, c3, F3, A4, c4, S3, A5, c5, R3, t3, u3, wr.heap.size, w4.heap.size, by omega, by go_num, Hstep.out, Hgm.out, ((((bo5.set0 _).set1 _).set2 _).set3 _).set4 _, ((((br5.far _ (by omega)).far _ (by omega)).far _ (by omega)).far _ (by omega)).far _ (by omega), ((((o5.box (by omega)).box (by omega)).box (by omega)).box (by omega)).box (by omega), .inr hno, by omega, by first | (simp [World.setCell]; done) | (simp [World.setCell]; omega), below_box (below_box (below_box (below_box (below_box hb5 (by omega)) (by omega)) (by omega)) (by omega)) (by omega)⟩
        case measure => simp [intOf]; omega
    · have : k = xs.length := by omega
      subst this
      have hplz : o = some (F2, S2, R2, t2, u2) := by rw [Hply.out, List.drop_length]; rfl
      obtain rfl := hplz
      clear Hply conF
      have hlr := br.lt
      have hno := bo.lt
      have x0 := bo.c0
      have x1 := bo.c1
      have x2 := bo.c2
      have x3 := bo.c3
      have x4 := bo.c4
      have r0 := br.c0
      have r1 := br.c1
      have r2 := br.c2
      have r3 := br.c3
      have r4 := br.c4
      have z0 := br.fz 0
      have z1 := br.fz 1
      have z2 := br.fz 2
      have z3 := br.fz 3
      have z4 := br.fz 4
      go_wp2
      refine bodyPost_ret (v := .tuple #[.agg #[.slice AF2 F2.length cF2, .slice AS2 S2.length cS2, .slice AR2 R2.length cR2, .int .i64 t2, .int .i64 u2], .bool true]) (by simp [results, Tryz.results22, go_sem, r0, r1, r2, r3, r4]) rfl (retGs_yes (F := F2) (S := S2) (R := R2) (t := t2) (u := u2) ?_ (below_box (below_box (below_box (below_box (below_box hb (by omega)) (by omega)) (by omega)) (by omega)) (by omega)))
      exact ((((((og.box (by omega)).box (by omega)).box (by omega)).box (by omega)).box (by omega)).base (by omega)).top (by first | (simp [World.setCell]; done) | (simp [World.setCell]; omega))

set_option maxRecDepth 100000 in
set_option maxHeartbeats 2000000 in
theorem c_behindMoves (AF : Option Addr) (cF : Nat) (F : List (Int × Int)) (AS : Option Addr) (cS : Nat) (S : List (Int × Int)) (AR : Option Addr) (cR : Nat) (R : List Int) (t u : Int) (A0 : Option Addr) (c0 : Nat) (xs : List ByteArray) (w : World) (hF : RdT w AF F) (hS : RdT w AS S) (hR : RdI w AR R) (hX : RdSt w A0 xs) (hg : gameB F S R t u = true) :
    Calls Tryz.prog 52 #[.agg #[.slice AF F.length cF, .slice AS S.length cS, .slice AR R.length cR, .int .i64 t, .int .i64 u], .slice A0 xs.length c0, .int .i64 100] w (RetGs w (plM F S R t u xs).1 (plM F S R t u xs).2.1 (plM F S R t u xs).2.2.1 (plM F S R t u xs).2.2.2.1 (plM F S R t u xs).2.2.2.2 (plO F S R t u xs).isSome) := by
  obtain ⟨lF, lS, lR, ht2⟩ := game_len hg
  have conC := Lib.hid (fun W (hb : Below w.heap.size w W) => c_copied AF cF F AS cS S AR cR R t u W (hF.below hb) (hS.below hb) (hR.below hb) (by omega) (by omega) (by omega))
  have conF := Lib.hid (fun (AF2 : Option Addr) (cF2 : Nat) (F2 : List (Int × Int)) (AS2 : Option Addr) (cS2 : Nat) (S2 : List (Int × Int)) (AR2 : Option Addr) (cR2 : Nat) (R2 : List Int) (t2 u2 : Int) (s : ByteArray) W (rF : RdT W AF2 F2) (rS : RdT W AS2 S2) (rR : RdI W AR2 R2) (hg2 : gameB F2 S2 R2 t2 u2 = true) => (by have h := c_implMake AF2 cF2 F2 AS2 cS2 S2 AR2 cR2 R2 t2 u2 s W rF rS rR (by have := game_len hg2; omega) (by have := game_len hg2; omega); rw [show mkB F2 S2 R2 t2 u2 s = (fndM F2 S2 R2 t2 u2 s).isSome by unfold mkB; rw [hg2]; rfl] at h; exact h))
  have hg0 : goodG (F, S, R, t, u) = true := hg
  unfold plM
  by_cases h100 : 100 < xs.length
  · have eo : plO F S R t u xs = none := if_neg (by omega)
    rw [eo]
    clear eo hF hS hR hg hg0 conC conF
    go_enter Tryz.func52, Tryz.ntmps52
    go_wp2_with fail
    obtain ⟨w0, hw0⟩ : ∃ w0, w0 = (w.alloc (.cells #[.slice AF F.length cF, .slice AS S.length cS, .slice AR R.length cR, .int .i64 t, .int .i64 u] 32)).alloc (.cells #[.slice none 0 0, .slice none 0 0, .slice none 0 0, .int .i64 0, .int .i64 0] 32) := ⟨_, rfl⟩
    rw [← hw0]
    have ba0 : BoxAt w0 w.heap.size (.slice AF F.length cF) (.slice AS S.length cS) (.slice AR R.length cR) (.int .i64 t) (.int .i64 u) := by rw [hw0]; exact (BoxAt.fresh w _ _ _ _ _ _).more _
    have br0 : BoxAt w0 (w.heap.size + 1) (.slice none 0 0) (.slice none 0 0) (.slice none 0 0) (.int .i64 0) (.int .i64 0) := by
      have h := BoxAt.fresh (w.alloc (.cells #[.slice AF F.length cF, .slice AS S.length cS, .slice AR R.length cR, .int .i64 t, .int .i64 u] 32)) (.slice none 0 0) (.slice none 0 0) (.slice none 0 0) (.int .i64 0) (.int .i64 0) 32
      rw [World.size_alloc] at h
      rw [hw0]; exact h
    have hb0 : Below w.heap.size w w0 := by rw [hw0]; go_grown
    clear hw0
    have br5 := br0
    have hb5 := hb0
    have hlr := br5.lt
    have r0 := br5.c0
    have r1 := br5.c1
    have r2 := br5.c2
    have r3 := br5.c3
    have r4 := br5.c4
    have z0 := br5.fz 0
    have z1 := br5.fz 1
    have z2 := br5.fz 2
    have z3 := br5.fz 3
    have z4 := br5.fz 4
    go_wp2
    refine bodyPost_ret (v := .tuple #[.agg #[.slice none 0 0, .slice none 0 0, .slice none 0 0, .int .i64 0, .int .i64 0], .bool false]) (by simp [results, Tryz.results52, go_sem, r0, r1, r2, r3, r4]) rfl (retGs_no hb5)
  have eo : plO F S R t u xs = plyG (F, S, R, t, u) xs := if_pos (by omega)
  obtain ⟨o, ho⟩ : ∃ o, o = plyG (F, S, R, t, u) xs := ⟨_, rfl⟩
  rw [eo, ← ho]
  have HO := Lib.hid ho
  clear ho eo hF hS hR
  have h100' : ¬ 100 < (xs.length : Int) := by omega
  go_enter Tryz.func52, Tryz.ntmps52
  go_wp2_with fail
  obtain ⟨w0, hw0⟩ : ∃ w0, w0 = (w.alloc (.cells #[.slice AF F.length cF, .slice AS S.length cS, .slice AR R.length cR, .int .i64 t, .int .i64 u] 32)).alloc (.cells #[.slice none 0 0, .slice none 0 0, .slice none 0 0, .int .i64 0, .int .i64 0] 32) := ⟨_, rfl⟩
  rw [← hw0]
  have ba0 : BoxAt w0 w.heap.size (.slice AF F.length cF) (.slice AS S.length cS) (.slice AR R.length cR) (.int .i64 t) (.int .i64 u) := by rw [hw0]; exact (BoxAt.fresh w _ _ _ _ _ _).more _
  have br0 : BoxAt w0 (w.heap.size + 1) (.slice none 0 0) (.slice none 0 0) (.slice none 0 0) (.int .i64 0) (.int .i64 0) := by
    have h := BoxAt.fresh (w.alloc (.cells #[.slice AF F.length cF, .slice AS S.length cS, .slice AR R.length cR, .int .i64 t, .int .i64 u] 32)) (.slice none 0 0) (.slice none 0 0) (.slice none 0 0) (.int .i64 0) (.int .i64 0) 32
    rw [World.size_alloc] at h
    rw [hw0]; exact h
  have hb0 : Below w.heap.size w w0 := by rw [hw0]; go_grown
  have hs0 : w0.heap.size = w.heap.size + 2 := by rw [hw0, World.size_alloc, World.size_alloc]
  clear hw0
  have x0 := ba0.c0
  have x1 := ba0.c1
  have x2 := ba0.c2
  have x3 := ba0.c3
  have x4 := ba0.c4
  have hs1 := hb0.size
  have hsz1 : w.heap.size + 2 ≤ w0.heap.size := by omega
  skip
  refine (conC.out w0 hb0).mono ?_
  rintro e w2 ⟨AF1, cF1, AS1, cS1, AR1, cR1, rfl, o2, h2⟩
  have hb2 := bstep hb0 h2
  have br2 := br0.keep h2
  have hs2 := h2.size
  clear x0 x1 x2 x3 x4 conC
  go_upto_region 4 with (fail)
  obtain ⟨w3, hw3⟩ : ∃ w3, w3 = w2.alloc (.cells #[.slice AF1 F.length cF1, .slice AS1 S.length cS1, .slice AR1 R.length cR1, .int .i64 t, .int .i64 u] 32) := ⟨_, rfl⟩
  rw [← hw3]
  have bo3 : BoxAt w3 w2.heap.size (.slice AF1 F.length cF1) (.slice AS1 S.length cS1) (.slice AR1 R.length cR1) (.int .i64 t) (.int .i64 u) := by rw [hw3]; exact BoxAt.fresh w2 _ _ _ _ _ _
  have h3 : Below w2.heap.size w2 w3 := by rw [hw3]; exact (Below.refl _ _).alloc (Nat.le_refl _) _
  have hb3 := bstep hb2 h3
  have br3 := br2.keep h3
  have o3 := o2.below h3 (Nat.le_refl _)
  have hs3 := h3.size
  have hn3 := bo3.lt
  clear hw3 o2 br2
  obtain ⟨nb, hnb⟩ : ∃ nb, nb = w2.heap.size := ⟨_, rfl⟩
  rw [← hnb] at bo3 hn3 ⊢
  have Hnb := Lib.hid hnb
  clear hnb
  have hnr : w.heap.size + 1 < nb := by rw [Hnb.out]; omega
  go_wp2
  go_loopw [22] (fun i wr => ∃ (k : Nat) (AF2 : Option Addr) (cF2 : Nat) (F2 : List (Int × Int)) (AS2 : Option Addr) (cS2 : Nat) (S2 : List (Int × Int)) (AR2 : Option Addr) (cR2 : Nat) (R2 : List Int) (t2 u2 : Int) (lo hi : Nat), k ≤ xs.length ∧ i = .int .i64 k ∧ o = plyG (F2, S2, R2, t2, u2) (xs.drop k) ∧ gameB F2 S2 R2 t2 u2 = true ∧ BoxAt wr nb (.slice AF2 F2.length cF2) (.slice AS2 S2.length cS2) (.slice AR2 R2.length cR2) (.int .i64 t2) (.int .i64 u2) ∧ BoxAt wr (w.heap.size + 1) (.slice none 0 0) (.slice none 0 0) (.slice none 0 0) (.int .i64 0) (.int .i64 0) ∧
      OwnG wr lo hi (.slice AF2 F2.length cF2) F2.length F2 (.slice AS2 S2.length cS2) S2.length S2 (.slice AR2 R2.length cR2) R2.length R2 ∧ (hi ≤ nb ∨ nb < lo) ∧ w.heap.size + 2 ≤ lo ∧ hi ≤ wr.heap.size ∧ Below w.heap.size w wr) (fun i _ => xs.length - (intOf i).toNat)
  case atStart => exact ⟨0, AF1, cF1, F, AS1, cS1, S, AR1, cR1, R, t, u, w0.heap.size, w2.heap.size, Nat.zero_le _, rfl, HO.out, hg0, bo3, br3, o3, .inl (by rw [Hnb.out]; exact Nat.le_refl _), hsz1, hs3, hb3⟩
  case round =>
    clear bo3 br3 o3 hb3 h3 h2 hb2
    obtain ⟨k, AF2, cF2, F2, AS2, cS2, S2, AR2, cR2, R2, t2, u2, lo, hi, hk, rfl, hply, hgd, bo, br, og, hlh, hlo, hhi, hb⟩ := hrel
    have Hply := Lib.hid hply
    clear hply
    by_cases hlt : k < xs.length
    · obtain ⟨bs, os, rfl, hbs, hcs⟩ := hX.at_ hlt
      have g0 := keepc hb (hcs k hlt)
      have Hcons := Lib.hid (show xs.drop k = xs[k] :: xs.drop (k + 1) from List.drop_eq_getElem_cons hlt)
      generalize xs[k] = s at *
      have hno := bo.lt
      have hnr2 := br.lt
      have conF2' := conF.out AF2 cF2 F2 AS2 cS2 S2 AR2 cR2 R2 t2 u2 s wr (RdT.of_own og.f) (RdT.of_own og.s) (RdI.of_own og.r) hgd
      have x0 := bo.c0
      have x1 := bo.c1
      have x2 := bo.c2
      have x3 := bo.c3
      have x4 := bo.c4
      cases hfd : fndM F2 S2 R2 t2 u2 s with
      | none =>
        have conN : Calls Tryz.prog 19 #[.agg #[.slice AF2 F2.length cF2, .slice AS2 S2.length cS2, .slice AR2 R2.length cR2, .int .i64 t2, .int .i64 u2], .string s] wr (RetGB wr [] [] [] 0 0 false) := by
          rw [hfd] at conF2'
          exact conF2'
        have ConN := Lib.hid conN
        obtain rfl : o = none := by rw [Hply.out, Hcons.out]; show (stpG (F2, S2, R2, t2, u2) s).bind _ = none; unfold stpG; simp only [hfd]; rfl
        clear hcs conF2' conN Hply Hcons hfd conF
        unfold RetGB at ConN
        go_wp2_with fail
        refine ConN.out.mono ?_
        rintro e w4 ⟨A3, c3, A4, c4, A5, c5, rfl, o4, h4⟩
        simp only [List.length_nil]
        have br4 := br.keep h4
        have hb4 := bstep hb h4
        have br5 := br4.more (.cells #[.slice A3 0 c3, .slice A4 0 c4, .slice A5 0 c5, .int .i64 0, .int .i64 0] 32)
        have hb5 : Below w.heap.size w (w4.alloc (.cells #[.slice A3 0 c3, .slice A4 0 c4, .slice A5 0 c5, .int .i64 0, .int .i64 0] 32)) := hb4.alloc hb4.size _
        have hlr := br4.lt
        clear o4 x0 x1 x2 x3 x4 bo og
        go_upto_region 8 with (fail)
        obtain ⟨w5, hw5⟩ : ∃ w5, w5 = w4.alloc (.cells #[.slice A3 0 c3, .slice A4 0 c4, .slice A5 0 c5, .int .i64 0, .int .i64 0] 32) := ⟨_, rfl⟩
        rw [← hw5] at br5 hb5 ⊢
        clear hw5
        have r0 := br5.c0
        have r1 := br5.c1
        have r2 := br5.c2
        have r3 := br5.c3
        have r4 := br5.c4
        have z0 := br5.fz 0
        have z1 := br5.fz 1
        have z2 := br5.fz 2
        have z3 := br5.fz 3
        have z4 := br5.fz 4
        go_wp2
        refine bodyPost_ret (v := .tuple #[.agg #[.slice none 0 0, .slice none 0 0, .slice none 0 0, .int .i64 0, .int .i64 0], .bool false]) (by simp [results, Tryz.results52, go_sem, r0, r1, r2, r3, r4]) rfl (retGs_no (below_box (below_box (below_box (below_box (below_box hb5 (by omega)) (by omega)) (by omega)) (by omega)) (by omega)))
      | some m =>
        have hgm : gameB (behF F2 t2 m) (behS S2 t2 m) (behR R2 m) (1 - t2) (behU u2 m) = true := (behind_good hgd (List.mem_of_find?_eq_some hfd)).1
        have em : mkM F2 S2 R2 t2 u2 s = m := by unfold mkM; rw [hfd]; rfl
        have conN : Calls Tryz.prog 19 #[.agg #[.slice AF2 F2.length cF2, .slice AS2 S2.length cS2, .slice AR2 R2.length cR2, .int .i64 t2, .int .i64 u2], .string s] wr (RetGB wr (behF F2 t2 m) (behS S2 t2 m) (behR R2 m) (1 - t2) (behU u2 m) true) := by
          rw [em, hfd] at conF2'
          exact conF2'
        have hstep : o = plyG (behF F2 t2 m, behS S2 t2 m, behR R2 m, 1 - t2, behU u2 m) (xs.drop (k + 1)) := by
          rw [Hply.out, Hcons.out]
          show (stpG (F2, S2, R2, t2, u2) s).bind _ = _
          unfold stpG
          simp only [hfd]
          rfl
        have Hstep := Lib.hid hstep
        have Hgm := Lib.hid hgm
        have ConN := Lib.hid conN
        clear hcs conF2' conN hstep hgm em Hply Hcons hfd
        generalize behF F2 t2 m = F3 at *
        generalize behS S2 t2 m = S3 at *
        generalize behR R2 m = R3 at *
        generalize 1 - t2 = t3 at *
        generalize behU u2 m = u3 at *
        unfold RetGB at ConN
        go_wp2_with fail
        refine ConN.out.mono ?_
        rintro e w4 ⟨A3, c3, A4, c4, A5, c5, rfl, o4, h4⟩
        have br4 := br.keep h4
        have bo4 := bo.keep h4
        have hb4 := bstep hb h4
        have hs4 := h4.size
        clear x0 x1 x2 x3 x4 bo og br
        go_upto_region 8 with (fail)
        obtain ⟨w5, hw5⟩ : ∃ w5, w5 = w4.alloc (.cells #[.slice A3 F3.length c3, .slice A4 S3.length c4, .slice A5 R3.length c5, .int .i64 t3, .int .i64 u3] 32) := ⟨_, rfl⟩
        rw [← hw5]
        have bn5 : BoxAt w5 w4.heap.size (.slice A3 F3.length c3) (.slice A4 S3.length c4) (.slice A5 R3.length c5) (.int .i64 t3) (.int .i64 u3) := by rw [hw5]; exact BoxAt.fresh w4 _ _ _ _ _ _
        have h5 : Below w4.heap.size w4 w5 := by rw [hw5]; exact (Below.refl _ _).alloc (Nat.le_refl _) _
        clear hw5
        have br5 := br4.keep h5
        have bo5 := bo4.keep h5
        have hb5 := bstep hb4 h5
        have o5 := o4.below h5 (Nat.le_refl _)
        have hs5 := h5.size
        have hl5 := bo5.lt
        clear br4 bo4 o4
        have x0 := bn5.c0
        have x1 := bn5.c1
        have x2 := bn5.c2
        have x3 := bn5.c3
        have x4 := bn5.c4
        have y0 := bo5.c0
        have y1 := bo5.c1
        have y2 := bo5.c2
        have y3 := bo5.c3
        have y4 := bo5.c4
        have z0 := bo5.fz 0
        have z1 := bo5.fz 1
        have z2 := bo5.fz 2
        have z3 := bo5.fz 3
        have z4 := bo5.fz 4
        go_wp2
        go_roundw
        case rel =>
          refine ⟨k + 1, A3, c3, F3, A4, c4, S3, A5, c5, R3, t3, u3, wr.heap.size, w4.heap.size, by omega, by go_num, Hstep.out, Hgm.out, ((((bo5.set0 _).set1 _).set2 _).set3 _).set4 _, ((((br5.far _ (by omega)).far _ (by omega)).far _ (by omega)).far _ (by omega)).far _ (by omega), ((((o5.box (by omega)).box (by omega)).box (by omega)).box (by omega)).box (by omega), .inr hno, by omega, by first | (simp [World.setCell]; done) | (simp [World.setCell]; omega), below_box (below_box (below_box (below_box (below_box hb5 (by omega)) (by omega)) (by omega)) (by omega)) (by omega)⟩
        case measure => simp [intOf]; omega
    · have : k = xs.length := by omega
      subst this
      have hplz : o = some (F2, S2, R2, t2, u2) := by rw [Hply.out, List.drop_length]; rfl
      obtain rfl := hplz
      clear Hply conF
      have hlr := br.lt
      have hno := bo.lt
      have x0 := bo.c0
      have x1 := bo.c1
      have x2 := bo.c2
      have x3 := bo.c3
      have x4 := bo.c4
      have r0 := br.c0
      have r1 := br.c1
      have r2 := br.c2
      have r3 := br.c3
      have r4 := br.c4
      have z0 := br.fz 0
      have z1 := br.fz 1
      have z2 := br.fz 2
      have z3 := br.fz 3
      have z4 := br.fz 4
      go_wp2
      refine bodyPost_ret (v := .tuple #[.agg #[.slice AF2 F2.length cF2, .slice AS2 S2.length cS2, .slice AR2 R2.length cR2, .int .i64 t2, .int .i64 u2], .bool true]) (by simp [results, Tryz.results52, go_sem, r0, r1, r2, r3, r4]) rfl (retGs_yes (F := F2) (S := S2) (R := R2) (t := t2) (u := u2) ?_ (below_box (below_box (below_box (below_box (below_box hb (by omega)) (by omega)) (by omega)) (by omega)) (by omega)))
      exact ((((((og.box (by omega)).box (by omega)).box (by omega)).box (by omega)).box (by omega)).base (by omega)).top (by first | (simp [World.setCell]; done) | (simp [World.setCell]; omega))

set_option maxRecDepth 100000 in
set_option maxHeartbeats 2000000 in
theorem c_specPlay (AF : Option Addr) (cF : Nat) (F : List (Int × Int)) (AS : Option Addr) (cS : Nat) (S : List (Int × Int)) (AR : Option Addr) (cR : Nat) (R : List Int) (t u : Int) (A0 : Option Addr) (c0 : Nat) (xs : List ByteArray) (w : World) (hF : RdT w AF F) (hS : RdT w AS S) (hR : RdI w AR R) (hX : RdSt w A0 xs) (lF : F.length ≤ 1048576) (lS : S.length ≤ 1048576) (lR : R.length ≤ 1048576) (kF : F.length ≤ cF) (kS : S.length ≤ cS) :
    Calls Tryz.prog 22 #[.agg #[.slice AF F.length cF, .slice AS S.length cS, .slice AR R.length cR, .int .i64 t, .int .i64 u], .slice A0 xs.length c0] w (RetGs w (plM F S R t u xs).1 (plM F S R t u xs).2.1 (plM F S R t u xs).2.2.1 (plM F S R t u xs).2.2.2.1 (plM F S R t u xs).2.2.2.2 (plB F S R t u xs)) := by
  have con := fun W (hb : Below w.heap.size w W) => c_plGood AF cF F AS cS S AR cR R t u W (hF.below hb) (hS.below hb) (hR.below hb) (by omega) (by omega) (by omega) kF kS
  cases hg : gameB F S R t u
  · rw [hg] at con
    rw [show plB F S R t u xs = false by unfold plB; rw [hg]; rfl]
    have Con := Lib.hid con
    clear con hg hF hS hR
    go_enter Tryz.func22, Tryz.ntmps22
    go_wp2_with fail
    obtain ⟨w0, hw0⟩ : ∃ w0, w0 = (w.alloc (.cells #[.slice AF F.length cF, .slice AS S.length cS, .slice AR R.length cR, .int .i64 t, .int .i64 u] 32)).alloc (.cells #[.slice none 0 0, .slice none 0 0, .slice none 0 0, .int .i64 0, .int .i64 0] 32) := ⟨_, rfl⟩
    rw [← hw0]
    have ba0 : BoxAt w0 w.heap.size (.slice AF F.length cF) (.slice AS S.length cS) (.slice AR R.length cR) (.int .i64 t) (.int .i64 u) := by rw [hw0]; exact (BoxAt.fresh w _ _ _ _ _ _).more _
    have br0 : BoxAt w0 (w.heap.size + 1) (.slice none 0 0) (.slice none 0 0) (.slice none 0 0) (.int .i64 0) (.int .i64 0) := by
      have h := BoxAt.fresh (w.alloc (.cells #[.slice AF F.length cF, .slice AS S.length cS, .slice AR R.length cR, .int .i64 t, .int .i64 u] 32)) (.slice none 0 0) (.slice none 0 0) (.slice none 0 0) (.int .i64 0) (.int .i64 0) 32
      rw [World.size_alloc] at h
      rw [hw0]; exact h
    have hb0 : Below w.heap.size w w0 := by rw [hw0]; go_grown
    clear hw0
    refine (Con.out w0 hb0).mono ?_
    rintro e w1 ⟨rfl, h1⟩
    have br5 := br0.keep h1
    have hb5 := bstep hb0 h1
    have hlr := br5.lt
    clear br0
    have r0 := br5.c0
    have r1 := br5.c1
    have r2 := br5.c2
    have r3 := br5.c3
    have r4 := br5.c4
    have z0 := br5.fz 0
    have z1 := br5.fz 1
    have z2 := br5.fz 2
    have z3 := br5.fz 3
    have z4 := br5.fz 4
    go_wp2
    refine bodyPost_ret (v := .tuple #[.agg #[.slice none 0 0, .slice none 0 0, .slice none 0 0, .int .i64 0, .int .i64 0], .bool false]) (by simp [results, Tryz.results22, go_sem, r0, r1, r2, r3, r4]) rfl (retGs_no (below_box (below_box (below_box (below_box (below_box hb5 (by omega)) (by omega)) (by omega)) (by omega)) (by omega)))
  · rw [show plB F S R t u xs = (plO F S R t u xs).isSome by unfold plB; rw [hg]; rfl]
    exact c_specPlayGood AF cF F AS cS S AR cR R t u A0 c0 xs w hF hS hR hX hg kF kS

set_option maxRecDepth 100000 in
set_option maxHeartbeats 2000000 in
theorem c_implPlay (AF : Option Addr) (cF : Nat) (F : List (Int × Int)) (AS : Option Addr) (cS : Nat) (S : List (Int × Int)) (AR : Option Addr) (cR : Nat) (R : List Int) (t u : Int) (A0 : Option Addr) (c0 : Nat) (xs : List ByteArray) (w : World) (hF : RdT w AF F) (hS : RdT w AS S) (hR : RdI w AR R) (hX : RdSt w A0 xs) (lFS : F.length + S.length ≤ 1048576) (lR : R.length ≤ 1048576) :
    Calls Tryz.prog 24 #[.agg #[.slice AF F.length cF, .slice AS S.length cS, .slice AR R.length cR, .int .i64 t, .int .i64 u], .slice A0 xs.length c0] w (RetGs w (plM F S R t u xs).1 (plM F S R t u xs).2.1 (plM F S R t u xs).2.2.1 (plM F S R t u xs).2.2.2.1 (plM F S R t u xs).2.2.2.2 (plB F S R t u xs)) := by
  have con := fun W (hb : Below w.heap.size w W) => c_implIsGame AF cF F AS cS S AR cR R t u W (hF.below hb) (hS.below hb) (hR.below hb) lFS lR
  cases hg : gameB F S R t u
  · rw [hg] at con
    rw [show plB F S R t u xs = false by unfold plB; rw [hg]; rfl]
    have Con := Lib.hid con
    clear con hg hF hS hR
    go_enter Tryz.func24, Tryz.ntmps24
    go_wp2_with fail
    obtain ⟨w0, hw0⟩ : ∃ w0, w0 = (w.alloc (.cells #[.slice AF F.length cF, .slice AS S.length cS, .slice AR R.length cR, .int .i64 t, .int .i64 u] 32)).alloc (.cells #[.slice none 0 0, .slice none 0 0, .slice none 0 0, .int .i64 0, .int .i64 0] 32) := ⟨_, rfl⟩
    rw [← hw0]
    have ba0 : BoxAt w0 w.heap.size (.slice AF F.length cF) (.slice AS S.length cS) (.slice AR R.length cR) (.int .i64 t) (.int .i64 u) := by rw [hw0]; exact (BoxAt.fresh w _ _ _ _ _ _).more _
    have br0 : BoxAt w0 (w.heap.size + 1) (.slice none 0 0) (.slice none 0 0) (.slice none 0 0) (.int .i64 0) (.int .i64 0) := by
      have h := BoxAt.fresh (w.alloc (.cells #[.slice AF F.length cF, .slice AS S.length cS, .slice AR R.length cR, .int .i64 t, .int .i64 u] 32)) (.slice none 0 0) (.slice none 0 0) (.slice none 0 0) (.int .i64 0) (.int .i64 0) 32
      rw [World.size_alloc] at h
      rw [hw0]; exact h
    have hb0 : Below w.heap.size w w0 := by rw [hw0]; go_grown
    clear hw0
    refine (Con.out w0 hb0).mono ?_
    rintro e w1 ⟨rfl, h1⟩
    have br5 := br0.keep h1
    have hb5 := bstep hb0 h1
    have hlr := br5.lt
    clear br0
    have r0 := br5.c0
    have r1 := br5.c1
    have r2 := br5.c2
    have r3 := br5.c3
    have r4 := br5.c4
    have z0 := br5.fz 0
    have z1 := br5.fz 1
    have z2 := br5.fz 2
    have z3 := br5.fz 3
    have z4 := br5.fz 4
    go_wp2
    refine bodyPost_ret (v := .tuple #[.agg #[.slice none 0 0, .slice none 0 0, .slice none 0 0, .int .i64 0, .int .i64 0], .bool false]) (by simp [results, Tryz.results24, go_sem, r0, r1, r2, r3, r4]) rfl (retGs_no (below_box (below_box (below_box (below_box (below_box hb5 (by omega)) (by omega)) (by omega)) (by omega)) (by omega)))
  · rw [hg] at con
    have conF := Lib.hid (fun W (hb : Below w.heap.size w W) => c_behindMoves AF cF F AS cS S AR cR R t u A0 c0 xs W (hF.below hb) (hS.below hb) (hR.below hb) (hX.below hb) hg)
    rw [show plB F S R t u xs = (plO F S R t u xs).isSome by unfold plB; rw [hg]; rfl]
    have Con := Lib.hid con
    unfold RetGs RetGB at conF ⊢
    generalize (plO F S R t u xs).isSome = bg at *
    generalize selT bg (plM F S R t u xs).1 = F2 at *
    generalize selT bg (plM F S R t u xs).2.1 = S2 at *
    generalize selI bg (plM F S R t u xs).2.2.1 = R2 at *
    generalize selV bg (plM F S R t u xs).2.2.2.1 = t2 at *
    generalize selV bg (plM F S R t u xs).2.2.2.2 = u2 at *
    clear con hg hF hS hR
    go_enter Tryz.func24, Tryz.ntmps24
    go_wp2_with fail
    obtain ⟨w0, hw0⟩ : ∃ w0, w0 = (w.alloc (.cells #[.slice AF F.length cF, .slice AS S.length cS, .slice AR R.length cR, .int .i64 t, .int .i64 u] 32)).alloc (.cells #[.slice none 0 0, .slice none 0 0, .slice none 0 0, .int .i64 0, .int .i64 0] 32) := ⟨_, rfl⟩
    rw [← hw0]
    have ba0 : BoxAt w0 w.heap.size (.slice AF F.length cF) (.slice AS S.length cS) (.slice AR R.length cR) (.int .i64 t) (.int .i64 u) := by rw [hw0]; exact (BoxAt.fresh w _ _ _ _ _ _).more _
    have br0 : BoxAt w0 (w.heap.size + 1) (.slice none 0 0) (.slice none 0 0) (.slice none 0 0) (.int .i64 0) (.int .i64 0) := by
      have h := BoxAt.fresh (w.alloc (.cells #[.slice AF F.length cF, .slice AS S.length cS, .slice AR R.length cR, .int .i64 t, .int .i64 u] 32)) (.slice none 0 0) (.slice none 0 0) (.slice none 0 0) (.int .i64 0) (.int .i64 0) 32
      rw [World.size_alloc] at h
      rw [hw0]; exact h
    have hb0 : Below w.heap.size w w0 := by rw [hw0]; go_grown
    clear hw0
    refine (Con.out w0 hb0).mono ?_
    rintro e w1 ⟨rfl, h1⟩
    have ba1 := ba0.keep h1
    have br1 := br0.keep h1
    have hb1 := bstep hb0 h1
    clear ba0 br0
    have x0 := ba1.c0
    have x1 := ba1.c1
    have x2 := ba1.c2
    have x3 := ba1.c3
    have x4 := ba1.c4
    go_wp2_with fail
    refine (conF.out w1 hb1).mono ?_
    rintro e w5 ⟨A3, c3, A4, c4, A5, c5, rfl, o5, h5⟩
    have br5 := br1.keep h5
    have hb5 := bstep hb1 h5
    have q5 := hb1.size
    have q6 := h5.size
    have hlr := br1.lt
    clear ba1 br1 x0 x1 x2 x3 x4 conF
    have r0 := br5.c0
    have r1 := br5.c1
    have r2 := br5.c2
    have r3 := br5.c3
    have r4 := br5.c4
    have z0 := br5.fz 0
    have z1 := br5.fz 1
    have z2 := br5.fz 2
    have z3 := br5.fz 3
    have z4 := br5.fz 4
    go_wp2
    refine bodyPost_ret (v := .tuple #[.agg #[.slice A3 F2.length c3, .slice A4 S2.length c4, .slice A5 R2.length c5, .int .i64 t2, .int .i64 u2], .bool bg]) (by simp [results, Tryz.results24, go_sem, r0, r1, r2, r3, r4]) rfl ⟨A3, c3, A4, c4, A5, c5, rfl, ?_, below_box (below_box (below_box (below_box (below_box hb5 (by omega)) (by omega)) (by omega)) (by omega)) (by omega)⟩
    exact ((((((o5.box (by omega)).box (by omega)).box (by omega)).box (by omega)).box (by omega)).base (by omega)).top (by first | (simp [World.setCell]; done) | (simp [World.setCell]; omega))

end Go.Proofs.YtgjdpiooocpmhabGreatDoor

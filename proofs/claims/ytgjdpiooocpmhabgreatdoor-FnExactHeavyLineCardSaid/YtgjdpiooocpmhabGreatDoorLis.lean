/- BestLine: both sides. -/
import Derived.Test.YtgjdpiooocpmhabGreatDoorLin
import Derived.Deep.Cut
import Derived.BigQuiet
namespace Go.Proofs.YtgjdpiooocpmhabGreatDoor
open Go.RowKit
set_option linter.unusedVariables false

theorem line_num : ∀ {n : Nat} {F S : List (Int × Int)} {R : List Int} {t u : Int}, gameB F S R t u = true → sizG F S u < n → ∀ m ∈ lineN bmL n F S R t u, m.2.2 ≤ 2 ∧ (m.2.2 ≠ 0 → numB m.1 = true ∧ numB m.2.1 = true)
  | 0, F, S, R, t, u, hg, hz, m, hm => by cases hm
  | n + 1, F, S, R, t, u, hg, hz, m, hm => by
    cases ho : overB F.length S.length u
    · rw [lineN_step bmL n R t ho] at hm
      obtain ⟨r, hr⟩ := bmL_ne (n := n) (t := t) (R := R) hg ho
      have hmv := bmL_in (hd_mem hr)
      rcases List.mem_cons.1 hm with rfl | h
      · exact mov_num hg hmv
      · have hb := behind_good hg hmv
        exact line_num hb.1 (by omega) m h
    · rw [lineN_over bmL (n + 1) R t ho] at hm
      cases hm
def blT (F S : List (Int × Int)) (R : List Int) (t u : Int) : List ByteArray := (lineN bmL 27 F S R t u).map mvTx
theorem blT_len (F S : List (Int × Int)) (R : List Int) (t u : Int) (b : Bool) : (selW b (blT F S R t u)).length ≤ 1048576 := by
  have := lineN_len bmL 27 F S R t u
  unfold selW blT
  split
  · rw [List.length_map]; omega
  · simp

set_option maxRecDepth 100000 in
set_option maxHeartbeats 4000000 in
theorem c_askLine (AF : Option Addr) (cF : Nat) (F : List (Int × Int)) (AS : Option Addr) (cS : Nat) (S : List (Int × Int)) (AR : Option Addr) (cR : Nat) (R : List Int) (t u : Int) (w : World) (hF : RdT w AF F) (hS : RdT w AS S) (hR : RdI w AR R) (hg : gameB F S R t u = true) (hz : sizG F S u < 27) :
    Calls Tryz.prog 56 #[.agg #[.slice AF F.length cF, .slice AS S.length cS, .slice AR R.length cR, .int .i64 t, .int .i64 u], .iface 82 (.agg #[]), .func (.func 57) #[] #[]] w (RetSt w (blT F S R t u)) := by
  have ConC := Lib.hid (fun W (hb : Below w.heap.size w W) => c_lineBest 27 AF cF F AS cS S AR cR R t u W (hF.below hb) (hS.below hb) (hR.below hb) hg hz (by omega))
  have ml := lineN_len bmL 27 F S R t u
  have conX := Lib.hid (fun A c W hr => c_textsOf A c (lineN bmL 27 F S R t u) W hr (by omega) (line_num hg hz))
  unfold blT
  generalize lineN bmL 27 F S R t u = M at *
  generalize hX : M.map mvTx = X at *
  clear hg hF hS hR hX hz
  go_enter Tryz.func56, Tryz.ntmps56
  go_wp2_with fail
  obtain ⟨w0, hw0⟩ : ∃ w0, w0 = w.alloc (.cells #[.slice AF F.length cF, .slice AS S.length cS, .slice AR R.length cR, .int .i64 t, .int .i64 u] 32) := ⟨_, rfl⟩
  rw [← hw0]
  have ba0 : BoxAt w0 w.heap.size (.slice AF F.length cF) (.slice AS S.length cS) (.slice AR R.length cR) (.int .i64 t) (.int .i64 u) := by rw [hw0]; exact BoxAt.fresh w _ _ _ _ _ _
  have hb0 : Below w.heap.size w w0 := by rw [hw0]; go_grown
  clear hw0
  have x0 := ba0.c0
  have x1 := ba0.c1
  have x2 := ba0.c2
  have x3 := ba0.c3
  have x4 := ba0.c4
  go_wp2_with (go_at_call 57; refine (ConC.out w0 hb0).mono ?_; rintro e w2 ⟨A2, c2, rfl, o2, h2⟩; have hb2 := bstep hb0 h2; have r2 := RdE.of_own encI_len o2; clear o2; go_wp2_with fail; refine (conX.out A2 c2 w2 r2).mono ?_; rintro e w3 ⟨A3, c3, rfl, o3, h3⟩; have Ho := Lib.hid (own_base o3 hb2.size); have Hl := Lib.hid (bstep hb2 h3); clear o3)
  go_ret
  exact ⟨A3, c3, rfl, Ho.out, Hl.out⟩

set_option maxRecDepth 100000 in
set_option maxHeartbeats 4000000 in
theorem c_implBestLine (AF : Option Addr) (cF : Nat) (F : List (Int × Int)) (AS : Option Addr) (cS : Nat) (S : List (Int × Int)) (AR : Option Addr) (cR : Nat) (R : List Int) (t u : Int) (w : World) (hF : RdT w AF F) (hS : RdT w AS S) (hR : RdI w AR R) (lFS : F.length + S.length ≤ 1048576) (lR : R.length ≤ 1048576) :
    Calls Tryz.prog 30 #[.agg #[.slice AF F.length cF, .slice AS S.length cS, .slice AR R.length cR, .int .i64 t, .int .i64 u]] w (RetStB w (selW (smallB F S R t u) (blT F S R t u)) (smallB F S R t u)) := by
  have conG := fun W (hb : Below w.heap.size w W) => c_isHeld AF cF F AS cS S AR cR R t u W (hF.below hb) (hS.below hb) (hR.below hb) lFS lR
  cases hg : smallB F S R t u
  · simp only [hg] at conG
    have Con := Lib.hid conG
    clear conG hg hF hS hR
    go_enter Tryz.func30, Tryz.ntmps30
    go_wp2_with fail
    refine (Con.out _ ((Below.refl _ _).alloc (Nat.le_refl _) _)).mono ?_
    rintro e w1 ⟨rfl, h1⟩
    go_wp2
    go_ret2
    exact ⟨none, 0, rfl, World.ownsRow_nil _ _ _ _, bstep ((Below.refl _ _).alloc (Nat.le_refl _) _) h1⟩
  · simp only [hg] at conG
    have Con := Lib.hid conG
    obtain ⟨hG, hz⟩ := small_siz hg
    have conA := Lib.hid (fun W (hb : Below w.heap.size w W) => c_askLine AF cF F AS cS S AR cR R t u W (hF.below hb) (hS.below hb) (hR.below hb) hG hz)
    show Calls _ _ _ _ (RetStB w (blT F S R t u) true)
    generalize blT F S R t u = X at *
    clear conG hg hF hS hR hG hz
    go_enter Tryz.func30, Tryz.ntmps30
    go_wp2_with fail
    obtain ⟨w0, hw0⟩ : ∃ w0, w0 = w.alloc (.cells #[.slice AF F.length cF, .slice AS S.length cS, .slice AR R.length cR, .int .i64 t, .int .i64 u] 32) := ⟨_, rfl⟩
    rw [← hw0]
    have ba0 : BoxAt w0 w.heap.size (.slice AF F.length cF) (.slice AS S.length cS) (.slice AR R.length cR) (.int .i64 t) (.int .i64 u) := by rw [hw0]; exact BoxAt.fresh w _ _ _ _ _ _
    have hb0 : Below w.heap.size w w0 := by rw [hw0]; go_grown
    clear hw0
    refine (Con.out w0 hb0).mono ?_
    rintro e w1 ⟨rfl, h1⟩
    have hb1 := bstep hb0 h1
    have ba1 := ba0.keep h1
    clear ba0
    have x0 := ba1.c0
    have x1 := ba1.c1
    have x2 := ba1.c2
    have x3 := ba1.c3
    have x4 := ba1.c4
    go_wp2_with fail
    refine (conA.out w1 hb1).mono ?_
    rintro e w2 ⟨A2, c2, rfl, o2, h2⟩
    have Ho := Lib.hid (own_base o2 hb1.size)
    have Hl := Lib.hid (bstep hb1 h2)
    clear conA o2
    go_wp2
    go_ret2
    exact ⟨A2, c2, rfl, Ho.out, Hl.out⟩

set_option maxRecDepth 100000 in
set_option maxHeartbeats 4000000 in
theorem c_specBestLine (AF : Option Addr) (cF : Nat) (F : List (Int × Int)) (AS : Option Addr) (cS : Nat) (S : List (Int × Int)) (AR : Option Addr) (cR : Nat) (R : List Int) (t u : Int) (w : World) (hF : RdT w AF F) (hS : RdT w AS S) (hR : RdI w AR R) (lFS : F.length + S.length ≤ 1048576) (lR : R.length ≤ 1048576) (kF : F.length ≤ cF) (kS : S.length ≤ cS) :
    Calls Tryz.prog 29 #[.agg #[.slice AF F.length cF, .slice AS S.length cS, .slice AR R.length cR, .int .i64 t, .int .i64 u]] w (RetStB w (selW (smallB F S R t u) (blT F S R t u)) (smallB F S R t u)) := by
  have conG := fun W (hb : Below w.heap.size w W) => c_plSmall AF cF F AS cS S AR cR R t u W (hF.below hb) (hS.below hb) (hR.below hb) lFS lR kF kS
  cases hg : smallB F S R t u
  · simp only [hg] at conG
    have Con := Lib.hid conG
    clear conG hg hF hS hR
    go_enter Tryz.func29, Tryz.ntmps29
    go_wp2_with fail
    refine (Con.out _ ((Below.refl _ _).alloc (Nat.le_refl _) _)).mono ?_
    rintro e w1 ⟨rfl, h1⟩
    go_wp2
    go_ret2
    exact ⟨none, 0, rfl, World.ownsRow_nil _ _ _ _, bstep ((Below.refl _ _).alloc (Nat.le_refl _) _) h1⟩
  · simp only [hg] at conG
    have Con := Lib.hid conG
    obtain ⟨i0, hi, hz0, hz1, hz2⟩ := info_parts Tryz.info_text
    obtain ⟨hG, hz⟩ := small_siz hg
    have conB := Lib.hid (fun W (hb : Below w.heap.size w W) => c_plBest 27 AF cF F AS cS S AR cR R t u W (hF.below hb) (hS.below hb) (hR.below hb) hG hz (by omega))
    show Calls _ _ _ _ (RetStB w (blT F S R t u) true)
    unfold blT
    obtain ⟨T, hT⟩ : ∃ T, T = (lineN bmL 27 F S R t u).map mvTx := ⟨_, rfl⟩
    have lT : T.length ≤ 27 := by rw [hT, List.length_map]; exact lineN_len _ _ _ _ _ _ _
    rw [← hT]
    have HT := Lib.hid hT
    obtain ⟨best, hbest⟩ : ∃ best, best = bstN 27 F S R t u := ⟨_, rfl⟩
    rw [← hbest] at conB
    have HBest := Lib.hid hbest
    have RA := Lib.hid (fun W' (hb : Below w.heap.size w W') => RdG.arg (P := fun g => g = w.heap.size ∨ (Value.slice none 0 0).ownBlock = some g) hF hS hR hb (fun g h => by
      rcases h with h | h
      · omega
      · simp [Value.ownBlock] at h))
    clear hT hbest hF hS hR conG hg
    go_enter Tryz.func29, Tryz.ntmps29
    go_wp2_with fail
    obtain ⟨w0, hw0⟩ : ∃ w0, w0 = w.alloc (.cells #[.slice AF F.length cF, .slice AS S.length cS, .slice AR R.length cR, .int .i64 t, .int .i64 u] 32) := ⟨_, rfl⟩
    rw [← hw0]
    have ba0 : BoxAt w0 w.heap.size (.slice AF F.length cF) (.slice AS S.length cS) (.slice AR R.length cR) (.int .i64 t) (.int .i64 u) := by rw [hw0]; exact BoxAt.fresh w _ _ _ _ _ _
    have hb0 : Below w.heap.size w w0 := by rw [hw0]; go_grown
    clear hw0
    refine (Con.out w0 hb0).mono ?_
    rintro e w1 ⟨rfl, h1⟩
    have hb1 := bstep hb0 h1
    have ba1 := ba0.keep h1
    clear ba0
    have x0 := ba1.c0
    have x1 := ba1.c1
    have x2 := ba1.c2
    have x3 := ba1.c3
    have x4 := ba1.c4
    go_wp2_with fail
    refine (conB.out w1 hb1).mono ?_
    rintro e w2 ⟨rfl, h2⟩
    have hb2 := bstep hb1 h2
    have ba2 := ba1.keep h2
    clear ba1 x0 x1 x2 x3 x4 conB Con
    go_wp2
    go_loopw [4] (fun v wr => ∃ (n2 : Nat) (AF2 : Option Addr) (cF2 : Nat) (F2 : List (Int × Int)) (AS2 : Option Addr) (cS2 : Nat) (S2 : List (Int × Int)) (AR2 : Option Addr) (cR2 : Nat) (R2 : List Int) (t2 u2 : Int) (X : List ByteArray) (A' : Option Addr) (c' : Nat), v = .slice A' X.length c' ∧ X ++ (lineN bmL n2 F2 S2 R2 t2 u2).map mvTx = T ∧ bstN n2 F2 S2 R2 t2 u2 = best ∧ gameB F2 S2 R2 t2 u2 = true ∧ sizG F2 S2 u2 < n2 ∧ n2 ≤ 27 ∧ BoxAt wr w.heap.size (.slice AF2 F2.length cF2) (.slice AS2 S2.length cS2) (.slice AR2 R2.length cR2) (.int .i64 t2) (.int .i64 u2) ∧
        RdG wr (fun g => g = w.heap.size ∨ (Value.slice A' X.length c').ownBlock = some g) AF2 F2 AS2 S2 AR2 R2 ∧ wr.ownsRow (w.heap.size + 1) 9 1 (.slice A' X.length c') X.length (cellsE encW X) ∧ Below w.heap.size w wr) (fun v _ => T.length - lenV v)
    case atStart => exact ⟨27, AF, cF, F, AS, cS, S, AR, cR, R, t, u, [], none, 0, rfl, HT.out.symm, HBest.out.symm, hG, hz, Nat.le_refl _, ba2, RA.out w2 hb2, World.ownsRow_nil _ _ _ _, hb2⟩
    case round =>
      rename World => wo
      clear ba2 hb2 RA HT hG hz h2 hb1 h1 hb0 HBest
      obtain ⟨n2, AF2, cF2, F2, AS2, cS2, S2, AR2, cR2, R2, t2, u2, X, A', c', rfl, hL, hbst, hg2, hz2, hn2, ba, rg, hown, hb⟩ := hrel
      have conO := fun W => c_plOver AF2 F2.length cF2 AS2 S2.length cS2 AR2 R2.length cR2 t2 u2 W
      have x0 := ba.c0
      have x1 := ba.c1
      have x2 := ba.c2
      have x3 := ba.c3
      have x4 := ba.c4
      have hlw := ba.lt
      cases ho : overB F2.length S2.length u2
      · obtain ⟨n3, rfl⟩ : ∃ k, n2 = k + 1 := ⟨n2 - 1, by omega⟩
        rw [lineN_step bmL n3 R2 t2 ho, List.map_cons] at hL
        simp only [ho] at conO
        have ConO := Lib.hid conO
        obtain ⟨r, hr⟩ := bmL_ne (n := n3) (t := t2) (R := R2) hg2 ho
        obtain ⟨lF2, lS2, lR2, ht2⟩ := game_len hg2
        have gp := gameB_parts hg2
        have hC : (movesL F2 S2 R2 t2 u2).filter (fun m => decide (gB n3 F2 S2 R2 t2 u2 m = best)) = hdM (bmL n3 F2 S2 R2 t2 u2) :: r := by rw [← hbst]; exact hr
        have conM := Lib.hid (fun W (hb : Below wo.heap.size wo W) => c_plMoves AF2 cF2 F2 AS2 cS2 S2 AR2 cR2 R2 t2 u2 W (rg.keep hb).now.1 (rg.keep hb).now.2.1 (rg.keep hb).now.2.2 gp.2.2.1 gp.2.2.2.1 (by omega))
        have conK := Lib.hid (fun m (hm : m ∈ movesL F2 S2 R2 t2 u2) W (hb : Below wo.heap.size wo W) => makeP AF2 cF2 F2 AS2 cS2 S2 AR2 cR2 R2 t2 u2 m W (rg.keep hb).now.1 (rg.keep hb).now.2.1 (rg.keep hb).now.2.2 hg2 hm)
        have conI := Lib.hid (fun m (hm : m ∈ movesL F2 S2 R2 t2 u2) (A1 : Option Addr) (c1 : Nat) (A2 : Option Addr) (c2 : Nat) (A3 : Option Addr) (c3 : Nat) W (rF : RdT W A1 (behF F2 t2 m)) (rS : RdT W A2 (behS S2 t2 m)) (rR : RdI W A3 (behR R2 m)) => show Calls Tryz.prog 59 #[.agg #[.slice A1 (behF F2 t2 m).length c1, .slice A2 (behS S2 t2 m).length c2, .slice A3 (behR R2 m).length c3, .int .i64 (1 - t2), .int .i64 (behU u2 m)]] W (fun e w' => e = .returned (.int .i64 (gB n3 F2 S2 R2 t2 u2 m)) ∧ Below W.heap.size W w') from c_plBest n3 A1 c1 (behF F2 t2 m) A2 c2 (behS S2 t2 m) A3 c3 (behR R2 m) (1 - t2) (behU u2 m) W rF rS rR (behind_good hg2 hm).1 (by have := (behind_good hg2 hm).2; omega) (by omega))
        have conT := Lib.hid (fun m (hm : m ∈ movesL F2 S2 R2 t2 u2) W => c_plText m.1 m.2.1 m.2.2 (mov_num hg2 hm).1 (mov_num hg2 hm).2 W)
        have ml := movesL_len F2 S2 R2 t2 u2
        have Hgd := Lib.hid (fun m (hm : m ∈ movesL F2 S2 R2 t2 u2) => show gameB (behF F2 t2 m) (behS S2 t2 m) (behR R2 m) (1 - t2) (behU u2 m) = true ∧ sizG (behF F2 t2 m) (behS S2 t2 m) (behU u2 m) < n3 from ⟨(behind_good hg2 hm).1, by have := (behind_good hg2 hm).2; omega⟩)
        have HgB := Lib.hid (fun m => (show gB n3 F2 S2 R2 t2 u2 m = bstN n3 (behF F2 t2 m) (behS S2 t2 m) (behR R2 m) (1 - t2) (behU u2 m) from rfl))
        generalize hdM (bmL n3 F2 S2 R2 t2 u2) = m0 at *
        generalize gB n3 F2 S2 R2 t2 u2 = g at *
        generalize movesL F2 S2 R2 t2 u2 = M at *
        have hXl : X.length + 1 ≤ T.length := by rw [← hL]; simp
        have HL := Lib.hid hL
        have HC := Lib.hid hC
        clear hL hC hg2 hz2 conO ho hr hbst gp
        go_wp2_with fail
        refine (ConO.out _).mono ?_
        rintro e w3 ⟨rfl, h3⟩
        have ba3 := ba.keep h3
        clear x0 x1 x2 x3 x4 ConO
        have x0 := ba3.c0
        have x1 := ba3.c1
        have x2 := ba3.c2
        have x3 := ba3.c3
        have x4 := ba3.c4
        go_wp2_with fail
        refine (conM.out w3 h3).mono ?_
        rintro e w5 ⟨A5, c5, rfl, o5, h5⟩
        have r5 := RdE.of_own encS_len o5
        have ba5 := ba3.keep h5
        have hw5 := bstep h3 h5
        have ow5 := own_keep hown hw5
        have hb5 := bstep hb hw5
        have hN5 := fun g hg => (hown.lt g hg).2
        clear x0 x1 x2 x3 x4 o5 conM ba3 ba hb
        go_wp2
        go_loopw [4, 20] (fun v i wq => ∃ k : Nat, k ≤ M.length ∧ i = .int .i64 k ∧ v = .slice A' X.length c' ∧ (M.drop k).filter (fun m => decide (g m = best)) = m0 :: r ∧ Below w5.heap.size w5 wq) (fun _ i _ => M.length - (intOf i).toNat)
        case atStart => exact ⟨0, Nat.zero_le _, rfl, rfl, HC.out, Below.refl _ _⟩
        case round =>
          rename World => wq
          obtain ⟨k, hk, rfl, rfl, hfil, hbq⟩ := hrel
          by_cases hlt : k < M.length
          · obtain ⟨bm, om, rfl, hbm, hcm⟩ := r5.at_ hlt
            have g0 := keepc hbq (hcm k hlt 0 _ rfl)
            have g1 := keepc hbq (hcm k hlt 1 _ rfl)
            have g2 := keepc hbq (hcm k hlt 2 _ rfl)
            have g3 := keepc hbq (hcm k hlt 3 _ rfl)
            rw [Nat.add_zero] at g0
            have hmem : M[k] ∈ M := List.getElem_mem hlt
            rw [List.drop_eq_getElem_cons hlt, List.filter_cons] at hfil
            have conK2 := Lib.hid (conK.out _ hmem)
            have conI2 := Lib.hid (conI.out _ hmem)
            have conT2' := conT.out _ hmem
            have hgd := Hgd.out _ hmem
            have hgb := HgB.out M[k]
            generalize M[k] = m at *
            rw [show mvT m.1 m.2.1 m.2.2 = mvTx m from rfl] at conT2'
            have conT2 := Lib.hid conT2'
            generalize g m = y at *
            have bar := ba5.keep hbq
            have x0 := bar.c0
            have x1 := bar.c1
            have x2 := bar.c2
            have x3 := bar.c3
            have x4 := bar.c4
            have hlq := bar.lt
            have hwq := bstep hw5 hbq
            have hfil2 := Lib.hid hfil
            have Hg1 := Lib.hid hgd.1
            have Hg2 := Lib.hid hgd.2
            have Hgb := Lib.hid hgb
            generalize (m.2.2 == 1) = p1 at *
            generalize (m.2.2 == 0) = p0 at *
            clear hcm conK conI conT conT2' hfil Hgd HgB hgd hgb r5
            go_wp2_with fail
            refine (conK2.out _ (hwq.alloc hwq.size _)).mono ?_
            rintro e w6 ⟨A4, c4, A6, c6, A7, c7, rfl, o6, h6⟩
            have q0 : w6.cell? ⟨wq.heap.size, 0, none⟩ = some (.int .i64 m.1) := keepc h6 (by simp)
            have q1 : w6.cell? ⟨wq.heap.size, 1, none⟩ = some (.int .i64 m.2.1) := keepc h6 (by simp)
            have q2 : w6.cell? ⟨wq.heap.size, 2, none⟩ = some (.bool p1) := keepc h6 (by simp)
            have q3 : w6.cell? ⟨wq.heap.size, 3, none⟩ = some (.bool p0) := keepc h6 (by simp)
            have hb6 := bstep ((Below.refl wq.heap.size wq).alloc (Nat.le_refl _) (.cells #[.int .i64 m.1, .int .i64 m.2.1, .bool p1, .bool p0] 70)) h6
            have rg6 : RdG w6 (fun g => g = w.heap.size ∨ (Value.slice A' X.length c').ownBlock = some g) A4 (behF F2 t2 m) A6 (behS S2 t2 m) A7 (behR R2 m) := RdG.own o6 (fun g h => by
              rcases h with h | h
              · simp; omega
              · have := hN5 g h; have := hwq.size; simp; omega)
            have rr := rg6.now
            have ow6 := own_keep (own_keep ow5 hbq) hb6
            have bar6 := bar.keep hb6
            generalize hF3 : behF F2 t2 m = F3 at *
            generalize hS3 : behS S2 t2 m = S3 at *
            generalize hR3 : behR R2 m = R3 at *
            generalize 1 - t2 = t3 at *
            generalize hU3 : behU u2 m = u3 at *
            have HF3 := Lib.hid hF3
            have HS3 := Lib.hid hS3
            have HR3 := Lib.hid hR3
            have HU3 := Lib.hid hU3
            clear hF3 hS3 hR3 hU3
            have s6 := hb6.size
            clear x0 x1 x2 x3 x4 conK2 g0 g1 g2 g3 o6 bar h6
            go_upto_region 10 with (fail)
            obtain ⟨w7, hw7⟩ : ∃ w7, w7 = w6.alloc (.cells #[.slice A4 F3.length c4, .slice A6 S3.length c6, .slice A7 R3.length c7, .int .i64 t3, .int .i64 u3] 32) := ⟨_, rfl⟩
            rw [← hw7]
            have bn7 : BoxAt w7 w6.heap.size (.slice A4 F3.length c4) (.slice A6 S3.length c6) (.slice A7 R3.length c7) (.int .i64 t3) (.int .i64 u3) := by rw [hw7]; exact BoxAt.fresh w6 _ _ _ _ _ _
            have h7 : Below w6.heap.size w6 w7 := by rw [hw7]; exact (Below.refl _ _).alloc (Nat.le_refl _) _
            clear hw7
            have rg7 := rg6.keep h7
            have rr7 := rg7.now
            have x0 := bn7.c0
            have x1 := bn7.c1
            have x2 := bn7.c2
            have x3 := bn7.c3
            have x4 := bn7.c4
            go_wp2_with fail
            refine (conI2.out A4 c4 A6 c6 A7 c7 w7 rr7.1 rr7.2.1 rr7.2.2).mono ?_
            rintro e w8 ⟨rfl, h8⟩
            have h68 := bstep h7 h8
            have hq8 := bstep hb6 h68
            have bn8 := bn7.keep h8
            have ba8 := bar6.keep h68
            have rg8 := rg7.keep h8
            have k0 := keepc h68 q0
            have k1 := keepc h68 q1
            have k2 := keepc h68 q2
            have k3 := keepc h68 q3
            have Ho8 := Lib.hid (own_keep ow6 h68)
            have hs8 := h68.size
            clear x0 x1 x2 x3 x4 conI2 q0 q1 q2 q3 rr rr7 rg6 rg7 bn7 bar6 ow6 h7 h8
            by_cases hy : y = best
            · have hf := hfil2.out
              rw [if_pos (decide_eq_true hy)] at hf
              obtain ⟨rfl, -⟩ := List.cons.inj hf
              subst hy
              have Hgb2 := Lib.hid Hgb.out.symm
              have HB8 := Lib.hid (bstep (bstep hb5 hbq) hq8)
              have Rg8 := Lib.hid rg8
              have hN8 := fun g hg => Nat.lt_of_lt_of_le (hN5 g hg) (Nat.le_trans hwq.size s6)
              have hn8 := bn8.lt
              have hl8 := ba8.lt
              generalize mvTx m = T1 at *
              clear hf hfil2 Hgb rg8
              go_wp2_with fail
              refine (conT2.out _).mono ?_
              rintro e w9 ⟨rfl, h9⟩
              have bn9 := bn8.keep h9
              have ba9 := ba8.keep h9
              have Rg9 := Lib.hid (Rg8.out.keep h9)
              have Ho9 := Lib.hid (own_keep Ho8.out h9)
              have HB9 := Lib.hid (bstep HB8.out h9)
              have hs9 := h9.size
              have hs9b := HB9.out.size
              have ow9 := Lib.hid (Ho9.out.alloc (.cells #[.string T1] 9))
              clear bn8 ba8 Rg8 Ho8 HB8 k0 k1 k2 k3 conT2
              go_upto_region 12 with (first | (at_builtin; refine wp_append_E encW_len encW_one Tryz.underlying27 hi hz0 hz1 hz2 rfl (by decide) (by decide) rfl _ _ rfl (w.heap.size + 1) _ X rfl ow9.out T1 w9.heap.size rfl (fun j u hu => by cases j with | zero => cases hu; simp | succ j => cases hu) (by omega) (by (try simp); omega) ?_; intro A11 c11 w11 o11 gr11 h11))
              have bA : Below w9.heap.size w9 (w9.alloc (.cells #[.string T1] 9)) := (Below.refl _ _).alloc (Nat.le_refl _) _
              have HB11 := Lib.hid (Below.grown (HB9.out.alloc hs9b _) gr11 (by simp; omega) (fun g hg => by have := (Ho9.out.lt g hg).1; omega))
              have e6 := gr11.block w.heap.size (by simp; omega) (fun e => by have := (Ho9.out.lt _ e.symm).1; omega)
              have e7 := gr11.block w6.heap.size (by simp; omega) (fun e => by have := hN8 _ e.symm; omega)
              have ba11 := (ba9.more _).of_block e6
              have bn11 := (bn9.more _).of_block e7
              have Rg11 : Hid (RdG w11 (fun g => g = w.heap.size ∨ (Value.slice A11 (X ++ [T1]).length c11).ownBlock = some g) A4 F3 A6 S3 A7 R3) := Lib.hid (RdG.grown (Rg9.out.keep bA) gr11 (fun g h => .inr h) (fun g h => by
                rcases h with h | h
                · exact .inl (.inl h)
                · rcases h11 with h12 | h12
                  · exact .inl (.inr (h12 ▸ h))
                  · rw [h12] at h; exact .inr (Nat.le_of_eq (Option.some.inj h))))
              have HO11 := Lib.hid o11
              have hl11 := ba11.lt
              clear ba9 bn9 Rg9 Ho9 HB9 ow9 e6 e7 gr11 h11 o11 bA
              have x0 := bn11.c0
              have x1 := bn11.c1
              have x2 := bn11.c2
              have x3 := bn11.c3
              have x4 := bn11.c4
              have y0 := ba11.c0
              have y1 := ba11.c1
              have y2 := ba11.c2
              have y3 := ba11.c3
              have y4 := ba11.c4
              have z0 := ba11.fz 0
              have z1 := ba11.fz 1
              have z2 := ba11.fz 2
              have z3 := ba11.fz 3
              have z4 := ba11.fz 4
              go_wp2
              go_roundw
              case rel =>
                refine ⟨n3, A4, c4, F3, A6, c6, S3, A7, c7, R3, t3, u3, X ++ [T1], A11, c11, by first | rfl | simp, by rw [← HL.out, HF3.out, HS3.out, HR3.out, HU3.out]; simp, Hgb2.out, Hg1.out, Hg2.out, by omega, ((((ba11.set0 _).set1 _).set2 _).set3 _).set4 _, ((((Rg11.out.set (.inl rfl)).set (.inl rfl)).set (.inl rfl)).set (.inl rfl)).set (.inl rfl), own_box (own_box (own_box (own_box (own_box HO11.out (by omega)) (by omega)) (by omega)) (by omega)) (by omega), below_box (below_box (below_box (below_box (below_box HB11.out (by omega)) (by omega)) (by omega)) (by omega)) (by omega)⟩
              case measure => simp [lenV]; omega
            · have hf := hfil2.out
              rw [if_neg (by simpa using hy)] at hf
              have Hf := Lib.hid hf
              have Hq8 := Lib.hid (bstep hbq hq8)
              have ey : (y == best) = false := beq_eq_false_iff_ne.2 hy
              clear hf hfil2 Hgb rg8
              go_wp2
              go_roundw
              case rel => exact ⟨k + 1, by omega, by go_num, rfl, Hf.out, Hq8.out⟩
              case measure => simp [intOf]; omega
          · have : k = M.length := by omega
            subst this
            rw [List.drop_length] at hfil
            cases hfil
      · rw [lineN_over bmL n2 R2 t2 ho, List.map_nil, List.append_nil] at hL
        simp only [ho] at conO
        have ConO := Lib.hid conO
        subst hL
        rw [cellsSt_E] at hown
        have Ho := Lib.hid hown
        have Hb := Lib.hid hb
        clear conO rg hown hb ho
        go_wp2_with fail
        refine (ConO.out _).mono ?_
        rintro e w3 ⟨rfl, h3⟩
        have Ho1 := Lib.hid (own_base (own_keep Ho.out h3) (Nat.le_succ _))
        have Hb1 := Lib.hid (bstep Hb.out h3)
        go_wp2
        go_ret2
        exact ⟨A', c', rfl, Ho1.out, Hb1.out⟩

end Go.Proofs.YtgjdpiooocpmhabGreatDoor

/- Games: the program's IsGame, IsOver, PointsOf. -/
import Derived.Test.YtgjdpiooocpmhabGamS
import Derived.Test.YtgjdpiooocpmhabTilesC
import Derived.Test.YtgjdpiooocpmhabCatT
import Derived.Test.YtgjdpiooocpmhabMap
namespace Go.Proofs.Ytgjdpiooocpmhab
open Go.RowKit
set_option linter.unusedVariables false

theorem rows2 {w : World} {b : Nat} {A0 A1 : Option Addr} {c0 c1 : Nat} {F S : List (Int × Int)} (y0 : w.cell? ⟨b, 0 + 0, none⟩ = some (.slice A0 F.length c0)) (y1 : w.cell? ⟨b, 0 + 1, none⟩ = some (.slice A1 S.length c1)) (h0 : RdT w A0 F) (h1 : RdT w A1 S) : RowsAt w b 0 [F, S] := fun k hk => by
  match k, hk with
  | 0, _ => exact ⟨A0, c0, y0, h0⟩
  | 1, _ => exact ⟨A1, c1, y1, h1⟩
theorem rows3 {w : World} {b : Nat} {A0 A1 A2 : Option Addr} {c0 c1 c2 : Nat} {F S T : List (Int × Int)} (y0 : w.cell? ⟨b, 0 + 0, none⟩ = some (.slice A0 F.length c0)) (y1 : w.cell? ⟨b, 0 + 1, none⟩ = some (.slice A1 S.length c1)) (y2 : w.cell? ⟨b, 0 + 2, none⟩ = some (.slice A2 T.length c2)) (h0 : RdT w A0 F) (h1 : RdT w A1 S) (h2 : RdT w A2 T) : RowsAt w b 0 [F, S, T] := fun k hk => by
  match k, hk with
  | 0, _ => exact ⟨A0, c0, y0, h0⟩
  | 1, _ => exact ⟨A1, c1, y1, h1⟩
  | 2, _ => exact ⟨A2, c2, y2, h2⟩

set_option maxRecDepth 100000 in
set_option maxHeartbeats 1000000 in
theorem c_areApart (g off m : Nat) (tss : List (List (Int × Int))) (w : World) (hm : tss.length = m) (h : RowsAt w g off tss) (hlen : tss.flatten.length ≤ 2097152) (hn : m ≤ 100) (hpos : 0 < m) :
    Calls Try.prog 91 #[.slice (some ⟨g, off, none⟩) m m] w fun e w' => e = .returned (.bool (handB tss.flatten)) ∧ Below w.heap.size w w' := by
  have con := Lib.hid (c_concatT g off m tss w hm h hlen hn hpos)
  clear h hm hn hpos
  generalize tss.flatten = ts at *
  go_enter Try.func91, Try.ntmps91
  go_wp2_with fail
  refine con.out.mono ?_
  rintro e w1 ⟨A1, c1, rfl, ho1, hb1⟩
  go_wp2_with fail
  refine (c_implIsHand A1 c1 ts w1 (RdT.of_own ho1) (Nat.le_trans hlen (by omega))).mono ?_
  rintro e w2 ⟨rfl, hb2⟩
  go_wp2
  go_ret
  exact ⟨rfl, bstep hb1 hb2⟩

set_option maxRecDepth 100000 in
set_option maxHeartbeats 4000000 in
theorem c_implIsGame (AF : Option Addr) (cF : Nat) (F : List (Int × Int)) (AS : Option Addr) (cS : Nat) (S : List (Int × Int)) (AR : Option Addr) (cR : Nat) (R : List Int) (t u : Int) (w : World) (hF : RdT w AF F) (hS : RdT w AS S) (hR : RdI w AR R) (lFS : F.length + S.length ≤ 1048576) (lR : R.length ≤ 1048576) :
    Calls Try.prog 55 #[.agg #[.slice AF F.length cF, .slice AS S.length cS, .slice AR R.length cR, .int .i64 t, .int .i64 u]] w fun e w' => e = .returned (.bool (gameB F S R t u)) ∧ Below w.heap.size w w' := by
  by_cases t0 : t < 0
  · rw [show gameB F S R t u = false from by have : decide (0 ≤ t) = false := decide_eq_false (by omega); simp [gameB, turnB, this]]
    clear hF hS hR
    go_enter Try.func55, Try.ntmps55
    go_wp2
    go_ret
    exact ⟨rfl, by go_grown⟩
  by_cases t1 : 1 < t
  · rw [show gameB F S R t u = false from by have : decide (t ≤ 1) = false := decide_eq_false (by omega); simp [gameB, turnB, this]]
    clear hF hS hR
    go_enter Try.func55, Try.ntmps55
    go_wp2
    go_ret
    exact ⟨rfl, by go_grown⟩
  by_cases u0 : u < 0
  · rw [show gameB F S R t u = false from by have : decide (0 ≤ u) = false := decide_eq_false (by omega); simp [gameB, turnB, this]]
    clear hF hS hR
    go_enter Try.func55, Try.ntmps55
    go_wp2
    go_ret
    exact ⟨rfl, by go_grown⟩
  by_cases u1 : 2 < u
  · rw [show gameB F S R t u = false from by have : decide (u ≤ 2) = false := decide_eq_false (by omega); simp [gameB, turnB, this]]
    clear hF hS hR
    go_enter Try.func55, Try.ntmps55
    go_wp2
    go_ret
    exact ⟨rfl, by go_grown⟩
  have htu : turnB t u = true := by unfold turnB; simp only [Bool.and_eq_true, decide_eq_true_eq]; omega
  by_cases h0 : R.length = 0
  · have e0 : ((R.length : Int) == 0) = true := by simp [h0]
    have hg : gameB F S R t u = handB ([F, S].flatten) := by
      unfold gameB rowB rowT
      rw [htu, chain_empty h0, decide_eq_true h0]
      rfl
    rw [hg]
    have lf : ([F, S].flatten).length ≤ 2097152 := by simp; omega
    have con := Lib.hid (fun W g (h : RowsAt W g 0 [F, S]) => c_areApart g 0 2 [F, S] W rfl h lf (by omega) (by omega))
    clear hg htu h0 lf
    generalize handB ([F, S].flatten) = res at *
    go_enter Try.func55, Try.ntmps55
    go_wp2_with fail
    obtain ⟨w0, hw0⟩ : ∃ w0, w0 = (w.alloc (.cells #[.slice AF F.length cF, .slice AS S.length cS, .slice AR R.length cR, .int .i64 t, .int .i64 u] 31)).alloc (.cells #[.slice AF F.length cF, .slice AS S.length cS] 29) := ⟨_, rfl⟩
    rw [← hw0]
    have hb0 : Below w.heap.size w w0 := by rw [hw0]; go_grown
    have y0 : w0.cell? ⟨w.heap.size + 1, 0 + 0, none⟩ = some (.slice AF F.length cF) := by rw [hw0]; simp
    have y1 : w0.cell? ⟨w.heap.size + 1, 0 + 1, none⟩ = some (.slice AS S.length cS) := by rw [hw0]; simp
    clear hw0
    refine (con.out w0 _ (rows2 y0 y1 (hF.below hb0) (hS.below hb0))).mono ?_
    rintro e w1 ⟨rfl, h1⟩
    have hb1 := bstep hb0 h1
    clear y0 y1 con hF hS hR
    go_wp2
    go_ret
    exact ⟨rfl, hb1⟩
  have e0 : ((R.length : Int) == 0) = false := by rw [beq_eq_false_iff_ne]; omega
  have conC := fun W (hb : Below w.heap.size w W) => c_implTiles AR cR R W (hR.below hb) lR
  have hrow : rowB R = (chainB R && decide (2 ≤ R.length)) := by simp [rowB, h0]
  cases hc : chainB R
  · have hg : gameB F S R t u = false := by unfold gameB; rw [hrow, hc]; simp
    rw [hg]
    simp only [hc] at conC
    have ConC := Lib.hid conC
    clear conC hg hrow htu hc hF hS hR h0
    go_enter Try.func55, Try.ntmps55
    go_wp2_with fail
    obtain ⟨w0, hw0⟩ : ∃ w0, w0 = w.alloc (.cells #[.slice AF F.length cF, .slice AS S.length cS, .slice AR R.length cR, .int .i64 t, .int .i64 u] 31) := ⟨_, rfl⟩
    rw [← hw0]
    have ba0 : BoxAt w0 w.heap.size (.slice AF F.length cF) (.slice AS S.length cS) (.slice AR R.length cR) (.int .i64 t) (.int .i64 u) := by rw [hw0]; exact BoxAt.fresh w _ _ _ _ _ _
    have hb0 : Below w.heap.size w w0 := by rw [hw0]; go_grown
    clear hw0
    refine (ConC.out w0 hb0).mono ?_
    rintro e w1 ⟨A1, c1, rfl, o1, h1⟩
    have hb1 := bstep hb0 h1
    have ba1 := ba0.keep h1
    clear ba0
    have x0 := ba1.c0
    have x1 := ba1.c1
    have x2 := ba1.c2
    have x3 := ba1.c3
    have x4 := ba1.c4
    clear o1
    go_wp2
    go_ret
    exact ⟨rfl, hb1⟩
  have hW : tilesHL R = tilesC R := by simp [tilesHL, hc]
  have hn : (tilesC R).length = R.length - 1 := tilesC_len R
  have hc56 := (chain_len hc).2
  simp only [hc, hW] at conC
  by_cases h2 : 2 ≤ R.length
  · have hg : gameB F S R t u = handB ([F, S, tilesC R].flatten) := by
      unfold gameB rowT
      rw [htu, hrow, hc, decide_eq_true h2]
      simp
    have g2 : decide (0 < (tilesC R).length) = true := decide_eq_true (by omega)
    have lf : ([F, S, tilesC R].flatten).length ≤ 2097152 := by simp; omega
    have con := Lib.hid (fun W g (h : RowsAt W g 0 [F, S, tilesC R]) => c_areApart g 0 3 [F, S, tilesC R] W rfl h lf (by omega) (by omega))
    rw [hg]
    have ConC := Lib.hid conC
    clear conC hg hrow htu hc h0 hW hn lf h2 hc56 hR
    generalize handB ([F, S, tilesC R].flatten) = res at *
    generalize tilesC R = T at *
    go_enter Try.func55, Try.ntmps55
    go_wp2_with fail
    obtain ⟨w0, hw0⟩ : ∃ w0, w0 = w.alloc (.cells #[.slice AF F.length cF, .slice AS S.length cS, .slice AR R.length cR, .int .i64 t, .int .i64 u] 31) := ⟨_, rfl⟩
    rw [← hw0]
    have ba0 : BoxAt w0 w.heap.size (.slice AF F.length cF) (.slice AS S.length cS) (.slice AR R.length cR) (.int .i64 t) (.int .i64 u) := by rw [hw0]; exact BoxAt.fresh w _ _ _ _ _ _
    have hb0 : Below w.heap.size w w0 := by rw [hw0]; go_grown
    clear hw0
    refine (ConC.out w0 hb0).mono ?_
    rintro e w1 ⟨A1, c1, rfl, o1, h1⟩
    have hb1 := bstep hb0 h1
    have ba1 := ba0.keep h1
    clear ba0
    have x0 := ba1.c0
    have x1 := ba1.c1
    have x2 := ba1.c2
    have x3 := ba1.c3
    have x4 := ba1.c4
    have r1 := RdT.of_own o1
    clear o1
    go_wp2_with fail
    obtain ⟨w2, hw2⟩ : ∃ w2, w2 = w1.alloc (.cells #[.slice AF F.length cF, .slice AS S.length cS, .slice A1 T.length c1] 29) := ⟨_, rfl⟩
    rw [← hw2]
    have h2 : Below w1.heap.size w1 w2 := by rw [hw2]; go_grown
    have hb2 := bstep hb1 h2
    have y0 : w2.cell? ⟨w1.heap.size, 0 + 0, none⟩ = some (.slice AF F.length cF) := by rw [hw2]; simp
    have y1 : w2.cell? ⟨w1.heap.size, 0 + 1, none⟩ = some (.slice AS S.length cS) := by rw [hw2]; simp
    have y2 : w2.cell? ⟨w1.heap.size, 0 + 2, none⟩ = some (.slice A1 T.length c1) := by rw [hw2]; simp
    clear hw2 x0 x1 x2 x3 x4
    refine (con.out w2 _ (rows3 y0 y1 y2 (hF.below hb2) (hS.below hb2) (r1.below h2))).mono ?_
    rintro e w3 ⟨rfl, h3⟩
    have hb3 := bstep hb2 h3
    clear y0 y1 y2 con hF hS
    go_wp2
    go_ret
    exact ⟨rfl, hb3⟩
  · have hg : gameB F S R t u = false := by unfold gameB; rw [hrow, decide_eq_false h2]; simp
    have g2 : decide (0 < (tilesC R).length) = false := decide_eq_false (by omega)
    rw [hg]
    have ConC := Lib.hid conC
    clear conC hg hrow htu hc h0 hW hn h2 hc56 hR hF hS
    generalize tilesC R = T at *
    go_enter Try.func55, Try.ntmps55
    go_wp2_with fail
    obtain ⟨w0, hw0⟩ : ∃ w0, w0 = w.alloc (.cells #[.slice AF F.length cF, .slice AS S.length cS, .slice AR R.length cR, .int .i64 t, .int .i64 u] 31) := ⟨_, rfl⟩
    rw [← hw0]
    have ba0 : BoxAt w0 w.heap.size (.slice AF F.length cF) (.slice AS S.length cS) (.slice AR R.length cR) (.int .i64 t) (.int .i64 u) := by rw [hw0]; exact BoxAt.fresh w _ _ _ _ _ _
    have hb0 : Below w.heap.size w w0 := by rw [hw0]; go_grown
    clear hw0
    refine (ConC.out w0 hb0).mono ?_
    rintro e w1 ⟨A1, c1, rfl, o1, h1⟩
    have hb1 := bstep hb0 h1
    have ba1 := ba0.keep h1
    clear ba0
    have x0 := ba1.c0
    have x1 := ba1.c1
    have x2 := ba1.c2
    have x3 := ba1.c3
    have x4 := ba1.c4
    clear o1
    go_wp2
    go_ret
    exact ⟨rfl, hb1⟩

set_option maxRecDepth 100000 in
set_option maxHeartbeats 1000000 in
theorem c_isOver (AF : Option Addr) (nF cF : Nat) (AS : Option Addr) (nS cS : Nat) (AR : Option Addr) (nR cR : Nat) (t u : Int) (w : World) :
    Calls Try.prog 80 #[.agg #[.slice AF nF cF, .slice AS nS cS, .slice AR nR cR, .int .i64 t, .int .i64 u]] w fun e w' => e = .returned (.bool (overB nF nS u)) ∧ Below w.heap.size w w' := by
  unfold overB
  by_cases e1 : nF = 0
  · have d1 : ((nF : Int) == 0) = true := by simp [e1]
    rw [decide_eq_true e1, Bool.true_or]
    clear e1
    go_enter Try.func80, Try.ntmps80
    go_wp2
    go_ret
    exact ⟨rfl, by go_grown⟩
  have d1 : ((nF : Int) == 0) = false := by rw [beq_eq_false_iff_ne]; omega
  rw [decide_eq_false e1, Bool.false_or]
  clear e1
  by_cases e2 : nS = 0
  · have d2 : ((nS : Int) == 0) = true := by simp [e2]
    rw [decide_eq_true e2, Bool.true_or]
    clear e2
    go_enter Try.func80, Try.ntmps80
    go_wp2
    go_ret
    exact ⟨rfl, by go_grown⟩
  have d2 : ((nS : Int) == 0) = false := by rw [beq_eq_false_iff_ne]; omega
  rw [decide_eq_false e2, Bool.false_or]
  clear e2
  by_cases e3 : u = 2
  · subst e3
    rw [decide_eq_true rfl]
    go_enter Try.func80, Try.ntmps80
    go_wp2
    go_ret
    exact ⟨rfl, by go_grown⟩
  · have d3 : (u == 2) = false := by rw [beq_eq_false_iff_ne]; exact e3
    rw [decide_eq_false e3]
    clear e3
    go_enter Try.func80, Try.ntmps80
    go_wp2
    go_ret
    exact ⟨rfl, by go_grown⟩

end Go.Proofs.Ytgjdpiooocpmhab

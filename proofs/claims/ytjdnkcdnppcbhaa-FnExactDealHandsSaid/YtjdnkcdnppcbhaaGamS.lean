/- Games: the specification's IsGame, IsOver, PointsOf, GameOf, SwapGame. -/
import Derived.Test.YtjdnkcdnppcbhaaGamM
import Derived.Test.YtjdnkcdnppcbhaaGamL
import Derived.Test.YtjdnkcdnppcbhaaWhC
import Derived.Test.YtjdnkcdnppcbhaaCat
namespace Go.Proofs.Ytjdnkcdnppcbhaa
open Go.RowKit
set_option linter.unusedVariables false

def rowW (R : List Int) : List (Int × Int) := if R.length = 0 then [] else whTiles R

theorem rowW_len (R : List Int) : (rowW R).length ≤ 110 := by
  unfold rowW whTiles
  split
  · simp
  · split
    · rename_i h; rw [tilesC_len]; omega
    · simp

theorem rowW_eq {R : List Int} (h : rowB R = true) : rowW R = rowT R := by
  unfold rowW rowT
  by_cases h0 : R.length = 0
  · rw [if_pos h0, chain_empty h0]; rfl
  · rw [if_neg h0]
    unfold rowB at h
    simp only [Bool.or_eq_true, Bool.and_eq_true, decide_eq_true_eq, h0, false_or] at h
    rw [if_pos h.1]
    unfold whTiles
    exact if_pos ⟨(chain_len h.1).1, (chain_len h.1).2, chain_num h.1⟩

set_option maxRecDepth 100000 in
set_option maxHeartbeats 1000000 in
theorem c_plRow (AR : Option Addr) (cR : Nat) (R : List Int) (w : World) (hR : RdI w AR R) (lR : R.length ≤ 1048576) :
    Calls Try.prog 130 #[.slice AR R.length cR] w (RetT w (rowW R) (rowB R)) := by
  by_cases h0 : R.length = 0
  · have e1 : rowW R = [] := if_pos h0
    have e2 : rowB R = true := by simp [rowB, h0]
    have e0 : ((R.length : Int) == 0) = true := by simp [h0]
    rw [e1, e2]
    clear e1 e2 hR h0
    go_enter Try.func130, Try.ntmps130
    go_wp2
    go_ret2
    exact ⟨none, 0, rfl, World.ownsRow_nil _ _ _ _, Below.refl _ _⟩
  · have e1 : rowW R = whTiles R := if_neg h0
    have e0 : ((R.length : Int) == 0) = false := by rw [beq_eq_false_iff_ne]; omega
    have con := c_whChain AR cR R w hR lR
    have hl : (whTiles R).length ≤ 110 := by rw [← e1]; exact rowW_len R
    rw [e1]
    cases hc : chainB R
    · have e2 : rowB R = false := by simp [rowB, h0, hc]
      rw [hc] at con
      rw [e2]
      have Con := Lib.hid con
      clear con e1 e2 hR h0 hc
      go_enter Try.func130, Try.ntmps130
      go_wp2_with (go_at_call 153; refine Con.out.mono ?_; rintro e w1 ⟨A1, c1, rfl, ho1, hb1⟩)
      go_ret2
      exact ⟨A1, c1, rfl, ho1, hb1⟩
    · have hW : whTiles R = tilesC R := if_pos ⟨(chain_len hc).1, (chain_len hc).2, chain_num hc⟩
      have hn : (whTiles R).length = R.length - 1 := by rw [hW, tilesC_len]
      rw [hc] at con
      by_cases h2 : 2 ≤ R.length
      · have e2 : rowB R = true := by simp [rowB, hc, h2]
        have g2 : decide (0 < (whTiles R).length) = true := decide_eq_true (by omega)
        rw [e2]
        have Con := Lib.hid con
        clear con e1 e2 hR h0 hc hW hn h2
        generalize whTiles R = ts at *
        go_enter Try.func130, Try.ntmps130
        go_wp2_with (go_at_call 153; refine Con.out.mono ?_; rintro e w1 ⟨A1, c1, rfl, ho1, hb1⟩)
        go_ret2
        exact ⟨A1, c1, rfl, ho1, hb1⟩
      · have e2 : rowB R = false := by simp [rowB, h0, h2]
        have g2 : decide (0 < (whTiles R).length) = false := decide_eq_false (by omega)
        rw [e2]
        have Con := Lib.hid con
        clear con e1 e2 hR h0 hc hW hn h2
        generalize whTiles R = ts at *
        go_enter Try.func130, Try.ntmps130
        go_wp2_with (go_at_call 153; refine Con.out.mono ?_; rintro e w1 ⟨A1, c1, rfl, ho1, hb1⟩)
        go_ret2
        exact ⟨A1, c1, rfl, ho1, hb1⟩

set_option maxRecDepth 100000 in
set_option maxHeartbeats 4000000 in
theorem c_plGood (AF : Option Addr) (cF : Nat) (F : List (Int × Int)) (AS : Option Addr) (cS : Nat) (S : List (Int × Int)) (AR : Option Addr) (cR : Nat) (R : List Int) (t u : Int) (w : World) (hF : RdT w AF F) (hS : RdT w AS S) (hR : RdI w AR R) (lF : F.length ≤ 1048576) (lS : S.length ≤ 1048576) (lR : R.length ≤ 1048576) (kF : F.length ≤ cF) (kS : S.length ≤ cS) :
    Calls Try.prog 98 #[.agg #[.slice AF F.length cF, .slice AS S.length cS, .slice AR R.length cR, .int .i64 t, .int .i64 u]] w fun e w' => e = .returned (.bool (gameB F S R t u)) ∧ Below w.heap.size w w' := by
  have conR := fun W (hb : Below w.heap.size w W) => c_plRow AR cR R W (hR.below hb) lR
  have conF := fun W (hb : Below w.heap.size w W) => c_tiHand AF cF F W (hF.below hb) (by omega) kF
  have conS := fun W (hb : Below w.heap.size w W) => c_tiHand AS cS S W (hS.below hb) (by omega) kS
  have conT := fun W => c_l1In t 0 1 W
  have conU := fun W => c_l1In u 0 2 W
  have con1 := fun W (hb : Below w.heap.size w W) => c_tiThose AF cF F AS cS S true W (hF.below hb) lF (hS.below hb) lS
  have con2 := fun W A c (hb : Below w.heap.size w W) (h : RdT W A (rowW R)) => c_tiThose AF cF F A c (rowW R) true W (hF.below hb) lF h (by have := rowW_len R; omega)
  have con3 := fun W A c (hb : Below w.heap.size w W) (h : RdT W A (rowW R)) => c_tiThose AS cS S A c (rowW R) true W (hS.below hb) lS h (by have := rowW_len R; omega)
  have hspec := gameB_spec F S R t u
  have hlW := rowW_len R
  have hl1 := thoseL_len F S true
  have hl2 := thoseL_len F (rowW R) true
  have hl3 := thoseL_len S (rowW R) true
  obtain ⟨bt, ht⟩ : ∃ b, b = (decide (0 ≤ t) && decide (t ≤ 1)) := ⟨_, rfl⟩
  obtain ⟨bu, hu⟩ : ∃ b, b = (decide (0 ≤ u) && decide (u ≤ 2)) := ⟨_, rfl⟩
  have htu : turnB t u = (bt && bu) := by rw [ht, hu]; unfold turnB; rw [Bool.and_assoc]
  rw [htu] at hspec
  simp only [← ht] at conT
  simp only [← hu] at conU
  have weq := rowW_eq (R := R)
  rw [hspec]
  clear hspec htu ht hu hF hS hR
  cases eR : rowB R
  · simp only [eR] at conR
    rw [show (bt && bu && (false && (handB F && (handB S && (decide ((thoseL F S true).length = 0) && (decide ((thoseL F (rowT R) true).length = 0) && decide ((thoseL S (rowT R) true).length = 0))))))) = false from by simp]
    clear eR
    have ConR := Lib.hid conR
    have ConF := Lib.hid conF
    have ConS := Lib.hid conS
    have ConT := Lib.hid conT
    have ConU := Lib.hid conU
    have Con1 := Lib.hid con1
    have Con2 := Lib.hid con2
    have Con3 := Lib.hid con3
    clear conR conF conS conT conU con1 con2 con3
    clear weq lF lS lR kF kS
    go_enter Try.func98, Try.ntmps98
    go_wp2_with fail
    obtain ⟨w0, hw0⟩ : ∃ w0, w0 = w.alloc (.cells #[.slice AF F.length cF, .slice AS S.length cS, .slice AR R.length cR, .int .i64 t, .int .i64 u] 62) := ⟨_, rfl⟩
    rw [← hw0]
    have ba0 : BoxAt w0 w.heap.size (.slice AF F.length cF) (.slice AS S.length cS) (.slice AR R.length cR) (.int .i64 t) (.int .i64 u) := by rw [hw0]; exact BoxAt.fresh w _ _ _ _ _ _
    have hb0 : Below w.heap.size w w0 := by rw [hw0]; go_grown
    clear hw0
    refine (ConR.out w0 hb0).mono ?_
    rintro e w1 ⟨A1, c1, rfl, o1, h1⟩
    have hb1 := bstep hb0 h1
    have ba1 := ba0.keep h1
    clear ba0
    have x0 := ba1.c0
    have x1 := ba1.c1
    have x2 := ba1.c2
    have x3 := ba1.c3
    have x4 := ba1.c4
    have r1 := RdT.of_own o1
    clear o1
    go_wp2
    go_ret
    exact ⟨rfl, hb1⟩
  simp only [eR] at conR
  rw [weq eR] at hl2 hl3 hlW
  simp only [weq eR] at conR con2 con3
  clear eR weq
  have weq : True := trivial
  generalize rowT R = T at *
  cases eF : handB F
  · simp only [eF] at conF
    rw [show (bt && bu && (true && (false && (handB S && (decide ((thoseL F S true).length = 0) && (decide ((thoseL F T true).length = 0) && decide ((thoseL S T true).length = 0))))))) = false from by simp]
    clear eF
    have ConR := Lib.hid conR
    have ConF := Lib.hid conF
    have ConS := Lib.hid conS
    have ConT := Lib.hid conT
    have ConU := Lib.hid conU
    have Con1 := Lib.hid con1
    have Con2 := Lib.hid con2
    have Con3 := Lib.hid con3
    clear conR conF conS conT conU con1 con2 con3
    clear weq lF lS lR kF kS
    go_enter Try.func98, Try.ntmps98
    go_wp2_with fail
    obtain ⟨w0, hw0⟩ : ∃ w0, w0 = w.alloc (.cells #[.slice AF F.length cF, .slice AS S.length cS, .slice AR R.length cR, .int .i64 t, .int .i64 u] 62) := ⟨_, rfl⟩
    rw [← hw0]
    have ba0 : BoxAt w0 w.heap.size (.slice AF F.length cF) (.slice AS S.length cS) (.slice AR R.length cR) (.int .i64 t) (.int .i64 u) := by rw [hw0]; exact BoxAt.fresh w _ _ _ _ _ _
    have hb0 : Below w.heap.size w w0 := by rw [hw0]; go_grown
    clear hw0
    refine (ConR.out w0 hb0).mono ?_
    rintro e w1 ⟨A1, c1, rfl, o1, h1⟩
    have hb1 := bstep hb0 h1
    have ba1 := ba0.keep h1
    clear ba0
    have x0 := ba1.c0
    have x1 := ba1.c1
    have x2 := ba1.c2
    have x3 := ba1.c3
    have x4 := ba1.c4
    have r1 := RdT.of_own o1
    clear o1
    go_wp2_with fail
    refine (ConF.out w1 hb1).mono ?_
    rintro e w2 ⟨rfl, h2⟩
    have hb2 := bstep hb1 h2
    have ba2 := ba1.keep h2
    clear x0 x1 x2 x3 x4
    clear ba1
    have x0 := ba2.c0
    have x1 := ba2.c1
    have x2 := ba2.c2
    have x3 := ba2.c3
    have x4 := ba2.c4
    have r2 := r1.below h2
    clear r1
    go_wp2
    go_ret
    exact ⟨rfl, hb2⟩
  simp only [eF] at conF
  clear eF
  cases eS : handB S
  · simp only [eS] at conS
    rw [show (bt && bu && (true && (true && (false && (decide ((thoseL F S true).length = 0) && (decide ((thoseL F T true).length = 0) && decide ((thoseL S T true).length = 0))))))) = false from by simp]
    clear eS
    have ConR := Lib.hid conR
    have ConF := Lib.hid conF
    have ConS := Lib.hid conS
    have ConT := Lib.hid conT
    have ConU := Lib.hid conU
    have Con1 := Lib.hid con1
    have Con2 := Lib.hid con2
    have Con3 := Lib.hid con3
    clear conR conF conS conT conU con1 con2 con3
    clear weq lF lS lR kF kS
    go_enter Try.func98, Try.ntmps98
    go_wp2_with fail
    obtain ⟨w0, hw0⟩ : ∃ w0, w0 = w.alloc (.cells #[.slice AF F.length cF, .slice AS S.length cS, .slice AR R.length cR, .int .i64 t, .int .i64 u] 62) := ⟨_, rfl⟩
    rw [← hw0]
    have ba0 : BoxAt w0 w.heap.size (.slice AF F.length cF) (.slice AS S.length cS) (.slice AR R.length cR) (.int .i64 t) (.int .i64 u) := by rw [hw0]; exact BoxAt.fresh w _ _ _ _ _ _
    have hb0 : Below w.heap.size w w0 := by rw [hw0]; go_grown
    clear hw0
    refine (ConR.out w0 hb0).mono ?_
    rintro e w1 ⟨A1, c1, rfl, o1, h1⟩
    have hb1 := bstep hb0 h1
    have ba1 := ba0.keep h1
    clear ba0
    have x0 := ba1.c0
    have x1 := ba1.c1
    have x2 := ba1.c2
    have x3 := ba1.c3
    have x4 := ba1.c4
    have r1 := RdT.of_own o1
    clear o1
    go_wp2_with fail
    refine (ConF.out w1 hb1).mono ?_
    rintro e w2 ⟨rfl, h2⟩
    have hb2 := bstep hb1 h2
    have ba2 := ba1.keep h2
    clear x0 x1 x2 x3 x4
    clear ba1
    have x0 := ba2.c0
    have x1 := ba2.c1
    have x2 := ba2.c2
    have x3 := ba2.c3
    have x4 := ba2.c4
    have r2 := r1.below h2
    clear r1
    go_wp2_with fail
    refine (ConS.out w2 hb2).mono ?_
    rintro e w3 ⟨rfl, h3⟩
    have hb3 := bstep hb2 h3
    have ba3 := ba2.keep h3
    clear x0 x1 x2 x3 x4
    clear ba2
    have x0 := ba3.c0
    have x1 := ba3.c1
    have x2 := ba3.c2
    have x3 := ba3.c3
    have x4 := ba3.c4
    have r3 := r2.below h3
    clear r2
    go_wp2
    go_ret
    exact ⟨rfl, hb3⟩
  simp only [eS] at conS
  clear eS
  cases bt
  · rw [show (false && bu && (true && (true && (true && (decide ((thoseL F S true).length = 0) && (decide ((thoseL F T true).length = 0) && decide ((thoseL S T true).length = 0))))))) = false from by simp]
    have ConR := Lib.hid conR
    have ConF := Lib.hid conF
    have ConS := Lib.hid conS
    have ConT := Lib.hid conT
    have ConU := Lib.hid conU
    have Con1 := Lib.hid con1
    have Con2 := Lib.hid con2
    have Con3 := Lib.hid con3
    clear conR conF conS conT conU con1 con2 con3
    clear weq lF lS lR kF kS
    go_enter Try.func98, Try.ntmps98
    go_wp2_with fail
    obtain ⟨w0, hw0⟩ : ∃ w0, w0 = w.alloc (.cells #[.slice AF F.length cF, .slice AS S.length cS, .slice AR R.length cR, .int .i64 t, .int .i64 u] 62) := ⟨_, rfl⟩
    rw [← hw0]
    have ba0 : BoxAt w0 w.heap.size (.slice AF F.length cF) (.slice AS S.length cS) (.slice AR R.length cR) (.int .i64 t) (.int .i64 u) := by rw [hw0]; exact BoxAt.fresh w _ _ _ _ _ _
    have hb0 : Below w.heap.size w w0 := by rw [hw0]; go_grown
    clear hw0
    refine (ConR.out w0 hb0).mono ?_
    rintro e w1 ⟨A1, c1, rfl, o1, h1⟩
    have hb1 := bstep hb0 h1
    have ba1 := ba0.keep h1
    clear ba0
    have x0 := ba1.c0
    have x1 := ba1.c1
    have x2 := ba1.c2
    have x3 := ba1.c3
    have x4 := ba1.c4
    have r1 := RdT.of_own o1
    clear o1
    go_wp2_with fail
    refine (ConF.out w1 hb1).mono ?_
    rintro e w2 ⟨rfl, h2⟩
    have hb2 := bstep hb1 h2
    have ba2 := ba1.keep h2
    clear x0 x1 x2 x3 x4
    clear ba1
    have x0 := ba2.c0
    have x1 := ba2.c1
    have x2 := ba2.c2
    have x3 := ba2.c3
    have x4 := ba2.c4
    have r2 := r1.below h2
    clear r1
    go_wp2_with fail
    refine (ConS.out w2 hb2).mono ?_
    rintro e w3 ⟨rfl, h3⟩
    have hb3 := bstep hb2 h3
    have ba3 := ba2.keep h3
    clear x0 x1 x2 x3 x4
    clear ba2
    have x0 := ba3.c0
    have x1 := ba3.c1
    have x2 := ba3.c2
    have x3 := ba3.c3
    have x4 := ba3.c4
    have r3 := r2.below h3
    clear r2
    go_wp2_with fail
    refine (ConT.out w3).mono ?_
    rintro e w' ⟨rfl, rfl⟩
    go_wp2
    go_ret
    exact ⟨rfl, hb3⟩
  cases bu
  · rw [show (true && false && (true && (true && (true && (decide ((thoseL F S true).length = 0) && (decide ((thoseL F T true).length = 0) && decide ((thoseL S T true).length = 0))))))) = false from by simp]
    have ConR := Lib.hid conR
    have ConF := Lib.hid conF
    have ConS := Lib.hid conS
    have ConT := Lib.hid conT
    have ConU := Lib.hid conU
    have Con1 := Lib.hid con1
    have Con2 := Lib.hid con2
    have Con3 := Lib.hid con3
    clear conR conF conS conT conU con1 con2 con3
    clear weq lF lS lR kF kS
    go_enter Try.func98, Try.ntmps98
    go_wp2_with fail
    obtain ⟨w0, hw0⟩ : ∃ w0, w0 = w.alloc (.cells #[.slice AF F.length cF, .slice AS S.length cS, .slice AR R.length cR, .int .i64 t, .int .i64 u] 62) := ⟨_, rfl⟩
    rw [← hw0]
    have ba0 : BoxAt w0 w.heap.size (.slice AF F.length cF) (.slice AS S.length cS) (.slice AR R.length cR) (.int .i64 t) (.int .i64 u) := by rw [hw0]; exact BoxAt.fresh w _ _ _ _ _ _
    have hb0 : Below w.heap.size w w0 := by rw [hw0]; go_grown
    clear hw0
    refine (ConR.out w0 hb0).mono ?_
    rintro e w1 ⟨A1, c1, rfl, o1, h1⟩
    have hb1 := bstep hb0 h1
    have ba1 := ba0.keep h1
    clear ba0
    have x0 := ba1.c0
    have x1 := ba1.c1
    have x2 := ba1.c2
    have x3 := ba1.c3
    have x4 := ba1.c4
    have r1 := RdT.of_own o1
    clear o1
    go_wp2_with fail
    refine (ConF.out w1 hb1).mono ?_
    rintro e w2 ⟨rfl, h2⟩
    have hb2 := bstep hb1 h2
    have ba2 := ba1.keep h2
    clear x0 x1 x2 x3 x4
    clear ba1
    have x0 := ba2.c0
    have x1 := ba2.c1
    have x2 := ba2.c2
    have x3 := ba2.c3
    have x4 := ba2.c4
    have r2 := r1.below h2
    clear r1
    go_wp2_with fail
    refine (ConS.out w2 hb2).mono ?_
    rintro e w3 ⟨rfl, h3⟩
    have hb3 := bstep hb2 h3
    have ba3 := ba2.keep h3
    clear x0 x1 x2 x3 x4
    clear ba2
    have x0 := ba3.c0
    have x1 := ba3.c1
    have x2 := ba3.c2
    have x3 := ba3.c3
    have x4 := ba3.c4
    have r3 := r2.below h3
    clear r2
    go_wp2_with fail
    refine (ConT.out w3).mono ?_
    rintro e w' ⟨rfl, rfl⟩
    go_wp2_with fail
    refine (ConU.out w3).mono ?_
    rintro e w' ⟨rfl, rfl⟩
    go_wp2
    go_ret
    exact ⟨rfl, hb3⟩
  simp only [Bool.true_and]
  generalize thoseL F S true = L1 at *
  generalize thoseL F T true = L2 at *
  generalize thoseL S T true = L3 at *
  by_cases e1 : L1.length = 0
  · have d1 : ((L1.length : Int) == 0) = true := by simp [e1]
    rw [decide_eq_true e1]
    clear e1
    by_cases e2 : L2.length = 0
    · have d2 : ((L2.length : Int) == 0) = true := by simp [e2]
      rw [decide_eq_true e2]
      clear e2
      by_cases e3 : L3.length = 0
      · have d3 : ((L3.length : Int) == 0) = true := by simp [e3]
        rw [decide_eq_true e3]
        clear e3
        have ConR := Lib.hid conR
        have ConF := Lib.hid conF
        have ConS := Lib.hid conS
        have ConT := Lib.hid conT
        have ConU := Lib.hid conU
        have Con1 := Lib.hid con1
        have Con2 := Lib.hid con2
        have Con3 := Lib.hid con3
        clear conR conF conS conT conU con1 con2 con3
        clear weq lF lS lR kF kS
        go_enter Try.func98, Try.ntmps98
        go_wp2_with fail
        obtain ⟨w0, hw0⟩ : ∃ w0, w0 = w.alloc (.cells #[.slice AF F.length cF, .slice AS S.length cS, .slice AR R.length cR, .int .i64 t, .int .i64 u] 62) := ⟨_, rfl⟩
        rw [← hw0]
        have ba0 : BoxAt w0 w.heap.size (.slice AF F.length cF) (.slice AS S.length cS) (.slice AR R.length cR) (.int .i64 t) (.int .i64 u) := by rw [hw0]; exact BoxAt.fresh w _ _ _ _ _ _
        have hb0 : Below w.heap.size w w0 := by rw [hw0]; go_grown
        clear hw0
        refine (ConR.out w0 hb0).mono ?_
        rintro e w1 ⟨A1, c1, rfl, o1, h1⟩
        have hb1 := bstep hb0 h1
        have ba1 := ba0.keep h1
        clear ba0
        have x0 := ba1.c0
        have x1 := ba1.c1
        have x2 := ba1.c2
        have x3 := ba1.c3
        have x4 := ba1.c4
        have r1 := RdT.of_own o1
        clear o1
        go_wp2_with fail
        refine (ConF.out w1 hb1).mono ?_
        rintro e w2 ⟨rfl, h2⟩
        have hb2 := bstep hb1 h2
        have ba2 := ba1.keep h2
        clear x0 x1 x2 x3 x4
        clear ba1
        have x0 := ba2.c0
        have x1 := ba2.c1
        have x2 := ba2.c2
        have x3 := ba2.c3
        have x4 := ba2.c4
        have r2 := r1.below h2
        clear r1
        go_wp2_with fail
        refine (ConS.out w2 hb2).mono ?_
        rintro e w3 ⟨rfl, h3⟩
        have hb3 := bstep hb2 h3
        have ba3 := ba2.keep h3
        clear x0 x1 x2 x3 x4
        clear ba2
        have x0 := ba3.c0
        have x1 := ba3.c1
        have x2 := ba3.c2
        have x3 := ba3.c3
        have x4 := ba3.c4
        have r3 := r2.below h3
        clear r2
        go_wp2_with fail
        refine (ConT.out w3).mono ?_
        rintro e w' ⟨rfl, rfl⟩
        go_wp2_with fail
        refine (ConU.out w3).mono ?_
        rintro e w' ⟨rfl, rfl⟩
        go_wp2_with fail
        refine (Con1.out w3 hb3).mono ?_
        rintro e w4 ⟨A4, c4, rfl, o4, h4⟩
        have hb4 := bstep hb3 h4
        have ba4 := ba3.keep h4
        clear x0 x1 x2 x3 x4
        clear ba3
        have x0 := ba4.c0
        have x1 := ba4.c1
        have x2 := ba4.c2
        have x3 := ba4.c3
        have x4 := ba4.c4
        clear o4
        have r4 := r3.below h4
        clear r3
        go_wp2_with fail
        refine (Con2.out w4 A1 c1 hb4 r4).mono ?_
        rintro e w5 ⟨A5, c5, rfl, o5, h5⟩
        have hb5 := bstep hb4 h5
        have ba5 := ba4.keep h5
        clear x0 x1 x2 x3 x4
        clear ba4
        have x0 := ba5.c0
        have x1 := ba5.c1
        have x2 := ba5.c2
        have x3 := ba5.c3
        have x4 := ba5.c4
        clear o5
        have r5 := r4.below h5
        clear r4
        go_wp2_with fail
        refine (Con3.out w5 A1 c1 hb5 r5).mono ?_
        rintro e w6 ⟨A6, c6, rfl, o6, h6⟩
        have hb6 := bstep hb5 h6
        have ba6 := ba5.keep h6
        clear x0 x1 x2 x3 x4
        clear ba5
        have x0 := ba6.c0
        have x1 := ba6.c1
        have x2 := ba6.c2
        have x3 := ba6.c3
        have x4 := ba6.c4
        clear o6
        have r6 := r5.below h6
        clear r5
        go_wp2
        go_ret
        exact ⟨rfl, hb6⟩
      · have d3 : ((L3.length : Int) == 0) = false := by rw [beq_eq_false_iff_ne]; omega
        rw [decide_eq_false e3]
        clear e3
        have ConR := Lib.hid conR
        have ConF := Lib.hid conF
        have ConS := Lib.hid conS
        have ConT := Lib.hid conT
        have ConU := Lib.hid conU
        have Con1 := Lib.hid con1
        have Con2 := Lib.hid con2
        have Con3 := Lib.hid con3
        clear conR conF conS conT conU con1 con2 con3
        clear weq lF lS lR kF kS
        go_enter Try.func98, Try.ntmps98
        go_wp2_with fail
        obtain ⟨w0, hw0⟩ : ∃ w0, w0 = w.alloc (.cells #[.slice AF F.length cF, .slice AS S.length cS, .slice AR R.length cR, .int .i64 t, .int .i64 u] 62) := ⟨_, rfl⟩
        rw [← hw0]
        have ba0 : BoxAt w0 w.heap.size (.slice AF F.length cF) (.slice AS S.length cS) (.slice AR R.length cR) (.int .i64 t) (.int .i64 u) := by rw [hw0]; exact BoxAt.fresh w _ _ _ _ _ _
        have hb0 : Below w.heap.size w w0 := by rw [hw0]; go_grown
        clear hw0
        refine (ConR.out w0 hb0).mono ?_
        rintro e w1 ⟨A1, c1, rfl, o1, h1⟩
        have hb1 := bstep hb0 h1
        have ba1 := ba0.keep h1
        clear ba0
        have x0 := ba1.c0
        have x1 := ba1.c1
        have x2 := ba1.c2
        have x3 := ba1.c3
        have x4 := ba1.c4
        have r1 := RdT.of_own o1
        clear o1
        go_wp2_with fail
        refine (ConF.out w1 hb1).mono ?_
        rintro e w2 ⟨rfl, h2⟩
        have hb2 := bstep hb1 h2
        have ba2 := ba1.keep h2
        clear x0 x1 x2 x3 x4
        clear ba1
        have x0 := ba2.c0
        have x1 := ba2.c1
        have x2 := ba2.c2
        have x3 := ba2.c3
        have x4 := ba2.c4
        have r2 := r1.below h2
        clear r1
        go_wp2_with fail
        refine (ConS.out w2 hb2).mono ?_
        rintro e w3 ⟨rfl, h3⟩
        have hb3 := bstep hb2 h3
        have ba3 := ba2.keep h3
        clear x0 x1 x2 x3 x4
        clear ba2
        have x0 := ba3.c0
        have x1 := ba3.c1
        have x2 := ba3.c2
        have x3 := ba3.c3
        have x4 := ba3.c4
        have r3 := r2.below h3
        clear r2
        go_wp2_with fail
        refine (ConT.out w3).mono ?_
        rintro e w' ⟨rfl, rfl⟩
        go_wp2_with fail
        refine (ConU.out w3).mono ?_
        rintro e w' ⟨rfl, rfl⟩
        go_wp2_with fail
        refine (Con1.out w3 hb3).mono ?_
        rintro e w4 ⟨A4, c4, rfl, o4, h4⟩
        have hb4 := bstep hb3 h4
        have ba4 := ba3.keep h4
        clear x0 x1 x2 x3 x4
        clear ba3
        have x0 := ba4.c0
        have x1 := ba4.c1
        have x2 := ba4.c2
        have x3 := ba4.c3
        have x4 := ba4.c4
        clear o4
        have r4 := r3.below h4
        clear r3
        go_wp2_with fail
        refine (Con2.out w4 A1 c1 hb4 r4).mono ?_
        rintro e w5 ⟨A5, c5, rfl, o5, h5⟩
        have hb5 := bstep hb4 h5
        have ba5 := ba4.keep h5
        clear x0 x1 x2 x3 x4
        clear ba4
        have x0 := ba5.c0
        have x1 := ba5.c1
        have x2 := ba5.c2
        have x3 := ba5.c3
        have x4 := ba5.c4
        clear o5
        have r5 := r4.below h5
        clear r4
        go_wp2_with fail
        refine (Con3.out w5 A1 c1 hb5 r5).mono ?_
        rintro e w6 ⟨A6, c6, rfl, o6, h6⟩
        have hb6 := bstep hb5 h6
        have ba6 := ba5.keep h6
        clear x0 x1 x2 x3 x4
        clear ba5
        have x0 := ba6.c0
        have x1 := ba6.c1
        have x2 := ba6.c2
        have x3 := ba6.c3
        have x4 := ba6.c4
        clear o6
        have r6 := r5.below h6
        clear r5
        go_wp2
        go_ret
        exact ⟨rfl, hb6⟩
    · have d2 : ((L2.length : Int) == 0) = false := by rw [beq_eq_false_iff_ne]; omega
      rw [decide_eq_false e2, Bool.false_and, Bool.and_false]
      clear e2
      have ConR := Lib.hid conR
      have ConF := Lib.hid conF
      have ConS := Lib.hid conS
      have ConT := Lib.hid conT
      have ConU := Lib.hid conU
      have Con1 := Lib.hid con1
      have Con2 := Lib.hid con2
      have Con3 := Lib.hid con3
      clear conR conF conS conT conU con1 con2 con3
      clear weq lF lS lR kF kS
      go_enter Try.func98, Try.ntmps98
      go_wp2_with fail
      obtain ⟨w0, hw0⟩ : ∃ w0, w0 = w.alloc (.cells #[.slice AF F.length cF, .slice AS S.length cS, .slice AR R.length cR, .int .i64 t, .int .i64 u] 62) := ⟨_, rfl⟩
      rw [← hw0]
      have ba0 : BoxAt w0 w.heap.size (.slice AF F.length cF) (.slice AS S.length cS) (.slice AR R.length cR) (.int .i64 t) (.int .i64 u) := by rw [hw0]; exact BoxAt.fresh w _ _ _ _ _ _
      have hb0 : Below w.heap.size w w0 := by rw [hw0]; go_grown
      clear hw0
      refine (ConR.out w0 hb0).mono ?_
      rintro e w1 ⟨A1, c1, rfl, o1, h1⟩
      have hb1 := bstep hb0 h1
      have ba1 := ba0.keep h1
      clear ba0
      have x0 := ba1.c0
      have x1 := ba1.c1
      have x2 := ba1.c2
      have x3 := ba1.c3
      have x4 := ba1.c4
      have r1 := RdT.of_own o1
      clear o1
      go_wp2_with fail
      refine (ConF.out w1 hb1).mono ?_
      rintro e w2 ⟨rfl, h2⟩
      have hb2 := bstep hb1 h2
      have ba2 := ba1.keep h2
      clear x0 x1 x2 x3 x4
      clear ba1
      have x0 := ba2.c0
      have x1 := ba2.c1
      have x2 := ba2.c2
      have x3 := ba2.c3
      have x4 := ba2.c4
      have r2 := r1.below h2
      clear r1
      go_wp2_with fail
      refine (ConS.out w2 hb2).mono ?_
      rintro e w3 ⟨rfl, h3⟩
      have hb3 := bstep hb2 h3
      have ba3 := ba2.keep h3
      clear x0 x1 x2 x3 x4
      clear ba2
      have x0 := ba3.c0
      have x1 := ba3.c1
      have x2 := ba3.c2
      have x3 := ba3.c3
      have x4 := ba3.c4
      have r3 := r2.below h3
      clear r2
      go_wp2_with fail
      refine (ConT.out w3).mono ?_
      rintro e w' ⟨rfl, rfl⟩
      go_wp2_with fail
      refine (ConU.out w3).mono ?_
      rintro e w' ⟨rfl, rfl⟩
      go_wp2_with fail
      refine (Con1.out w3 hb3).mono ?_
      rintro e w4 ⟨A4, c4, rfl, o4, h4⟩
      have hb4 := bstep hb3 h4
      have ba4 := ba3.keep h4
      clear x0 x1 x2 x3 x4
      clear ba3
      have x0 := ba4.c0
      have x1 := ba4.c1
      have x2 := ba4.c2
      have x3 := ba4.c3
      have x4 := ba4.c4
      clear o4
      have r4 := r3.below h4
      clear r3
      go_wp2_with fail
      refine (Con2.out w4 A1 c1 hb4 r4).mono ?_
      rintro e w5 ⟨A5, c5, rfl, o5, h5⟩
      have hb5 := bstep hb4 h5
      have ba5 := ba4.keep h5
      clear x0 x1 x2 x3 x4
      clear ba4
      have x0 := ba5.c0
      have x1 := ba5.c1
      have x2 := ba5.c2
      have x3 := ba5.c3
      have x4 := ba5.c4
      clear o5
      have r5 := r4.below h5
      clear r4
      go_wp2
      go_ret
      exact ⟨rfl, hb5⟩
  · have d1 : ((L1.length : Int) == 0) = false := by rw [beq_eq_false_iff_ne]; omega
    rw [decide_eq_false e1, Bool.false_and]
    clear e1
    have ConR := Lib.hid conR
    have ConF := Lib.hid conF
    have ConS := Lib.hid conS
    have ConT := Lib.hid conT
    have ConU := Lib.hid conU
    have Con1 := Lib.hid con1
    have Con2 := Lib.hid con2
    have Con3 := Lib.hid con3
    clear conR conF conS conT conU con1 con2 con3
    clear weq lF lS lR kF kS
    go_enter Try.func98, Try.ntmps98
    go_wp2_with fail
    obtain ⟨w0, hw0⟩ : ∃ w0, w0 = w.alloc (.cells #[.slice AF F.length cF, .slice AS S.length cS, .slice AR R.length cR, .int .i64 t, .int .i64 u] 62) := ⟨_, rfl⟩
    rw [← hw0]
    have ba0 : BoxAt w0 w.heap.size (.slice AF F.length cF) (.slice AS S.length cS) (.slice AR R.length cR) (.int .i64 t) (.int .i64 u) := by rw [hw0]; exact BoxAt.fresh w _ _ _ _ _ _
    have hb0 : Below w.heap.size w w0 := by rw [hw0]; go_grown
    clear hw0
    refine (ConR.out w0 hb0).mono ?_
    rintro e w1 ⟨A1, c1, rfl, o1, h1⟩
    have hb1 := bstep hb0 h1
    have ba1 := ba0.keep h1
    clear ba0
    have x0 := ba1.c0
    have x1 := ba1.c1
    have x2 := ba1.c2
    have x3 := ba1.c3
    have x4 := ba1.c4
    have r1 := RdT.of_own o1
    clear o1
    go_wp2_with fail
    refine (ConF.out w1 hb1).mono ?_
    rintro e w2 ⟨rfl, h2⟩
    have hb2 := bstep hb1 h2
    have ba2 := ba1.keep h2
    clear x0 x1 x2 x3 x4
    clear ba1
    have x0 := ba2.c0
    have x1 := ba2.c1
    have x2 := ba2.c2
    have x3 := ba2.c3
    have x4 := ba2.c4
    have r2 := r1.below h2
    clear r1
    go_wp2_with fail
    refine (ConS.out w2 hb2).mono ?_
    rintro e w3 ⟨rfl, h3⟩
    have hb3 := bstep hb2 h3
    have ba3 := ba2.keep h3
    clear x0 x1 x2 x3 x4
    clear ba2
    have x0 := ba3.c0
    have x1 := ba3.c1
    have x2 := ba3.c2
    have x3 := ba3.c3
    have x4 := ba3.c4
    have r3 := r2.below h3
    clear r2
    go_wp2_with fail
    refine (ConT.out w3).mono ?_
    rintro e w' ⟨rfl, rfl⟩
    go_wp2_with fail
    refine (ConU.out w3).mono ?_
    rintro e w' ⟨rfl, rfl⟩
    go_wp2_with fail
    refine (Con1.out w3 hb3).mono ?_
    rintro e w4 ⟨A4, c4, rfl, o4, h4⟩
    have hb4 := bstep hb3 h4
    have ba4 := ba3.keep h4
    clear x0 x1 x2 x3 x4
    clear ba3
    have x0 := ba4.c0
    have x1 := ba4.c1
    have x2 := ba4.c2
    have x3 := ba4.c3
    have x4 := ba4.c4
    clear o4
    have r4 := r3.below h4
    clear r3
    go_wp2
    go_ret
    exact ⟨rfl, hb4⟩

def overB (nF nS : Nat) (u : Int) : Bool := decide (nF = 0) || (decide (nS = 0) || decide (u = 2))

end Go.Proofs.Ytjdnkcdnppcbhaa

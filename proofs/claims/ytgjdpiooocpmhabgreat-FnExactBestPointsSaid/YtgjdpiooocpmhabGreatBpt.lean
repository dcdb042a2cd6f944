/- BestPoints: both sides'. -/
import Derived.Test.YtgjdpiooocpmhabGreatBst
import Derived.Deep.Cut
import Derived.BigQuiet
namespace Go.Proofs.YtgjdpiooocpmhabGreat
open Go.RowKit
set_option linter.unusedVariables false

def smallB (F S : List (Int × Int)) (R : List Int) (t u : Int) : Bool := gameB F S R t u && decide (F.length + S.length ≤ 8)
theorem small_siz {F S : List (Int × Int)} {R : List Int} {t u : Int} (h : smallB F S R t u = true) : gameB F S R t u = true ∧ sizG F S u < 27 := by
  unfold smallB at h
  simp only [Bool.and_eq_true, decide_eq_true_eq] at h
  have h1 := (gameB_parts h.1).1
  unfold turnB at h1
  simp only [Bool.and_eq_true, decide_eq_true_eq] at h1
  refine ⟨h.1, ?_⟩
  unfold sizG
  omega
def bpV (F S : List (Int × Int)) (R : List Int) (t u : Int) : Int := if smallB F S R t u then bstN 27 F S R t u else 0

set_option maxRecDepth 100000 in
set_option maxHeartbeats 1000000 in
theorem c_isHeld (AF : Option Addr) (cF : Nat) (F : List (Int × Int)) (AS : Option Addr) (cS : Nat) (S : List (Int × Int)) (AR : Option Addr) (cR : Nat) (R : List Int) (t u : Int) (w : World) (hF : RdT w AF F) (hS : RdT w AS S) (hR : RdI w AR R) (lFS : F.length + S.length ≤ 1048576) (lR : R.length ≤ 1048576)  :
    Calls Tryz.prog 25 #[.agg #[.slice AF F.length cF, .slice AS S.length cS, .slice AR R.length cR, .int .i64 t, .int .i64 u]] w fun e w' => e = .returned (.bool (smallB F S R t u)) ∧ Below w.heap.size w w' := by
  have conG := fun W (hb : Below w.heap.size w W) => c_implIsGame AF cF F AS cS S AR cR R t u W (hF.below hb) (hS.below hb) (hR.below hb) lFS lR
  unfold smallB
  clear hF hS hR
  cases hg : gameB F S R t u
  · simp only [hg] at conG
    clear hg
    rw [Bool.false_and]
    go_enter Tryz.func25, Tryz.ntmps25
    go_wp2_with fail
    obtain ⟨w0, hw0⟩ : ∃ w0, w0 = w.alloc (.cells #[.slice AF F.length cF, .slice AS S.length cS, .slice AR R.length cR, .int .i64 t, .int .i64 u] 31) := ⟨_, rfl⟩
    rw [← hw0]
    have ba0 : BoxAt w0 w.heap.size (.slice AF F.length cF) (.slice AS S.length cS) (.slice AR R.length cR) (.int .i64 t) (.int .i64 u) := by rw [hw0]; exact BoxAt.fresh w _ _ _ _ _ _
    have hb0 : Below w.heap.size w w0 := by rw [hw0]; go_grown
    clear hw0
    refine (conG w0 hb0).mono ?_
    rintro e w1 ⟨rfl, h1⟩
    have hb1 := bstep hb0 h1
    have ba1 := ba0.keep h1
    clear ba0
    have x0 := ba1.c0
    have x1 := ba1.c1
    have x2 := ba1.c2
    have x3 := ba1.c3
    have x4 := ba1.c4
    clear conG
    go_wp2
    go_ret
    exact ⟨rfl, hb1⟩
  · simp only [hg] at conG
    clear hg
    rw [Bool.true_and]
    have ew : IntKind.i64.wrap ((F.length : Int) + (S.length : Int)) = (F.length : Int) + (S.length : Int) := IntWalk.i64_in _ (by omega)
    by_cases h8 : F.length + S.length ≤ 8
    · have e8 : ((F.length : Int) + (S.length : Int)) ≤ 8 := by omega
      have d8 : decide (((F.length : Int) + (S.length : Int)) ≤ 8) = true := decide_eq_true e8
      rw [decide_eq_true h8]
      go_enter Tryz.func25, Tryz.ntmps25
      go_wp2_with fail
      obtain ⟨w0, hw0⟩ : ∃ w0, w0 = w.alloc (.cells #[.slice AF F.length cF, .slice AS S.length cS, .slice AR R.length cR, .int .i64 t, .int .i64 u] 31) := ⟨_, rfl⟩
      rw [← hw0]
      have ba0 : BoxAt w0 w.heap.size (.slice AF F.length cF) (.slice AS S.length cS) (.slice AR R.length cR) (.int .i64 t) (.int .i64 u) := by rw [hw0]; exact BoxAt.fresh w _ _ _ _ _ _
      have hb0 : Below w.heap.size w w0 := by rw [hw0]; go_grown
      clear hw0
      refine (conG w0 hb0).mono ?_
      rintro e w1 ⟨rfl, h1⟩
      have hb1 := bstep hb0 h1
      have ba1 := ba0.keep h1
      clear ba0
      have x0 := ba1.c0
      have x1 := ba1.c1
      have x2 := ba1.c2
      have x3 := ba1.c3
      have x4 := ba1.c4
      clear conG h8
      go_wp2
      go_ret
      exact ⟨rfl, hb1⟩
    · have e8 : ¬ ((F.length : Int) + (S.length : Int)) ≤ 8 := by omega
      have d8 : decide (((F.length : Int) + (S.length : Int)) ≤ 8) = false := decide_eq_false e8
      rw [decide_eq_false h8]
      go_enter Tryz.func25, Tryz.ntmps25
      go_wp2_with fail
      obtain ⟨w0, hw0⟩ : ∃ w0, w0 = w.alloc (.cells #[.slice AF F.length cF, .slice AS S.length cS, .slice AR R.length cR, .int .i64 t, .int .i64 u] 31) := ⟨_, rfl⟩
      rw [← hw0]
      have ba0 : BoxAt w0 w.heap.size (.slice AF F.length cF) (.slice AS S.length cS) (.slice AR R.length cR) (.int .i64 t) (.int .i64 u) := by rw [hw0]; exact BoxAt.fresh w _ _ _ _ _ _
      have hb0 : Below w.heap.size w w0 := by rw [hw0]; go_grown
      clear hw0
      refine (conG w0 hb0).mono ?_
      rintro e w1 ⟨rfl, h1⟩
      have hb1 := bstep hb0 h1
      have ba1 := ba0.keep h1
      clear ba0
      have x0 := ba1.c0
      have x1 := ba1.c1
      have x2 := ba1.c2
      have x3 := ba1.c3
      have x4 := ba1.c4
      clear conG h8
      go_wp2
      go_ret
      exact ⟨rfl, hb1⟩

set_option maxRecDepth 100000 in
set_option maxHeartbeats 1000000 in
theorem c_plSmall (AF : Option Addr) (cF : Nat) (F : List (Int × Int)) (AS : Option Addr) (cS : Nat) (S : List (Int × Int)) (AR : Option Addr) (cR : Nat) (R : List Int) (t u : Int) (w : World) (hF : RdT w AF F) (hS : RdT w AS S) (hR : RdI w AR R) (lFS : F.length + S.length ≤ 1048576) (lR : R.length ≤ 1048576) (kF : F.length ≤ cF) (kS : S.length ≤ cS) :
    Calls Tryz.prog 11 #[.agg #[.slice AF F.length cF, .slice AS S.length cS, .slice AR R.length cR, .int .i64 t, .int .i64 u]] w fun e w' => e = .returned (.bool (smallB F S R t u)) ∧ Below w.heap.size w w' := by
  have conG := fun W (hb : Below w.heap.size w W) => c_plGood AF cF F AS cS S AR cR R t u W (hF.below hb) (hS.below hb) (hR.below hb) (by omega) (by omega) lR kF kS
  unfold smallB
  clear hF hS hR
  cases hg : gameB F S R t u
  · simp only [hg] at conG
    clear hg
    rw [Bool.false_and]
    go_enter Tryz.func11, Tryz.ntmps11
    go_wp2_with fail
    obtain ⟨w0, hw0⟩ : ∃ w0, w0 = w.alloc (.cells #[.slice AF F.length cF, .slice AS S.length cS, .slice AR R.length cR, .int .i64 t, .int .i64 u] 31) := ⟨_, rfl⟩
    rw [← hw0]
    have ba0 : BoxAt w0 w.heap.size (.slice AF F.length cF) (.slice AS S.length cS) (.slice AR R.length cR) (.int .i64 t) (.int .i64 u) := by rw [hw0]; exact BoxAt.fresh w _ _ _ _ _ _
    have hb0 : Below w.heap.size w w0 := by rw [hw0]; go_grown
    clear hw0
    refine (conG w0 hb0).mono ?_
    rintro e w1 ⟨rfl, h1⟩
    have hb1 := bstep hb0 h1
    have ba1 := ba0.keep h1
    clear ba0
    have x0 := ba1.c0
    have x1 := ba1.c1
    have x2 := ba1.c2
    have x3 := ba1.c3
    have x4 := ba1.c4
    clear conG
    go_wp2
    go_ret
    exact ⟨rfl, hb1⟩
  · simp only [hg] at conG
    clear hg
    rw [Bool.true_and]
    have ew : IntKind.i64.wrap ((F.length : Int) + (S.length : Int)) = (F.length : Int) + (S.length : Int) := IntWalk.i64_in _ (by omega)
    by_cases h8 : F.length + S.length ≤ 8
    · have e8 : ((F.length : Int) + (S.length : Int)) ≤ 8 := by omega
      have d8 : decide (((F.length : Int) + (S.length : Int)) ≤ 8) = true := decide_eq_true e8
      rw [decide_eq_true h8]
      go_enter Tryz.func11, Tryz.ntmps11
      go_wp2_with fail
      obtain ⟨w0, hw0⟩ : ∃ w0, w0 = w.alloc (.cells #[.slice AF F.length cF, .slice AS S.length cS, .slice AR R.length cR, .int .i64 t, .int .i64 u] 31) := ⟨_, rfl⟩
      rw [← hw0]
      have ba0 : BoxAt w0 w.heap.size (.slice AF F.length cF) (.slice AS S.length cS) (.slice AR R.length cR) (.int .i64 t) (.int .i64 u) := by rw [hw0]; exact BoxAt.fresh w _ _ _ _ _ _
      have hb0 : Below w.heap.size w w0 := by rw [hw0]; go_grown
      clear hw0
      refine (conG w0 hb0).mono ?_
      rintro e w1 ⟨rfl, h1⟩
      have hb1 := bstep hb0 h1
      have ba1 := ba0.keep h1
      clear ba0
      have x0 := ba1.c0
      have x1 := ba1.c1
      have x2 := ba1.c2
      have x3 := ba1.c3
      have x4 := ba1.c4
      clear conG h8
      go_wp2
      go_ret
      exact ⟨rfl, hb1⟩
    · have e8 : ¬ ((F.length : Int) + (S.length : Int)) ≤ 8 := by omega
      have d8 : decide (((F.length : Int) + (S.length : Int)) ≤ 8) = false := decide_eq_false e8
      rw [decide_eq_false h8]
      go_enter Tryz.func11, Tryz.ntmps11
      go_wp2_with fail
      obtain ⟨w0, hw0⟩ : ∃ w0, w0 = w.alloc (.cells #[.slice AF F.length cF, .slice AS S.length cS, .slice AR R.length cR, .int .i64 t, .int .i64 u] 31) := ⟨_, rfl⟩
      rw [← hw0]
      have ba0 : BoxAt w0 w.heap.size (.slice AF F.length cF) (.slice AS S.length cS) (.slice AR R.length cR) (.int .i64 t) (.int .i64 u) := by rw [hw0]; exact BoxAt.fresh w _ _ _ _ _ _
      have hb0 : Below w.heap.size w w0 := by rw [hw0]; go_grown
      clear hw0
      refine (conG w0 hb0).mono ?_
      rintro e w1 ⟨rfl, h1⟩
      have hb1 := bstep hb0 h1
      have ba1 := ba0.keep h1
      clear ba0
      have x0 := ba1.c0
      have x1 := ba1.c1
      have x2 := ba1.c2
      have x3 := ba1.c3
      have x4 := ba1.c4
      clear conG h8
      go_wp2
      go_ret
      exact ⟨rfl, hb1⟩

set_option maxRecDepth 100000 in
set_option maxHeartbeats 1000000 in
theorem c_specBestP (AF : Option Addr) (cF : Nat) (F : List (Int × Int)) (AS : Option Addr) (cS : Nat) (S : List (Int × Int)) (AR : Option Addr) (cR : Nat) (R : List Int) (t u : Int) (w : World) (hF : RdT w AF F) (hS : RdT w AS S) (hR : RdI w AR R) (lFS : F.length + S.length ≤ 1048576) (lR : R.length ≤ 1048576) (kF : F.length ≤ cF) (kS : S.length ≤ cS) :
    Calls Tryz.prog 5 #[.agg #[.slice AF F.length cF, .slice AS S.length cS, .slice AR R.length cR, .int .i64 t, .int .i64 u]] w fun e w' => e = .returned (.tuple #[.int .i64 (bpV F S R t u), .bool (smallB F S R t u)]) ∧ Below w.heap.size w w' := by
  have conG := fun W (hb : Below w.heap.size w W) => c_plSmall AF cF F AS cS S AR cR R t u W (hF.below hb) (hS.below hb) (hR.below hb) lFS lR kF kS
  have conC := fun (h : smallB F S R t u = true) W (hb : Below w.heap.size w W) => c_plBest 27 AF cF F AS cS S AR cR R t u W (hF.below hb) (hS.below hb) (hR.below hb) (small_siz h).1 (small_siz h).2 (by omega)
  clear hF hS hR
  unfold bpV
  cases hg : smallB F S R t u
  · simp only [hg] at conG
    rw [if_neg (by simp)]
    clear hg conC
    go_enter Tryz.func5, Tryz.ntmps5
    go_wp2_with fail
    obtain ⟨w0, hw0⟩ : ∃ w0, w0 = w.alloc (.cells #[.slice AF F.length cF, .slice AS S.length cS, .slice AR R.length cR, .int .i64 t, .int .i64 u] 31) := ⟨_, rfl⟩
    rw [← hw0]
    have ba0 : BoxAt w0 w.heap.size (.slice AF F.length cF) (.slice AS S.length cS) (.slice AR R.length cR) (.int .i64 t) (.int .i64 u) := by rw [hw0]; exact BoxAt.fresh w _ _ _ _ _ _
    have hb0 : Below w.heap.size w w0 := by rw [hw0]; go_grown
    clear hw0
    refine (conG w0 hb0).mono ?_
    rintro e w1 ⟨rfl, h1⟩
    have hb1 := bstep hb0 h1
    have ba1 := ba0.keep h1
    clear ba0
    have x0 := ba1.c0
    have x1 := ba1.c1
    have x2 := ba1.c2
    have x3 := ba1.c3
    have x4 := ba1.c4
    clear conG
    go_wp2
    go_ret2
    exact ⟨rfl, hb1⟩
  · simp only [hg] at conG
    rw [if_pos rfl]
    have ConC := Lib.hid (conC hg)
    clear hg conC
    go_enter Tryz.func5, Tryz.ntmps5
    go_wp2_with fail
    obtain ⟨w0, hw0⟩ : ∃ w0, w0 = w.alloc (.cells #[.slice AF F.length cF, .slice AS S.length cS, .slice AR R.length cR, .int .i64 t, .int .i64 u] 31) := ⟨_, rfl⟩
    rw [← hw0]
    have ba0 : BoxAt w0 w.heap.size (.slice AF F.length cF) (.slice AS S.length cS) (.slice AR R.length cR) (.int .i64 t) (.int .i64 u) := by rw [hw0]; exact BoxAt.fresh w _ _ _ _ _ _
    have hb0 : Below w.heap.size w w0 := by rw [hw0]; go_grown
    clear hw0
    refine (conG w0 hb0).mono ?_
    rintro e w1 ⟨rfl, h1⟩
    have hb1 := bstep hb0 h1
    have ba1 := ba0.keep h1
    clear ba0
    have x0 := ba1.c0
    have x1 := ba1.c1
    have x2 := ba1.c2
    have x3 := ba1.c3
    have x4 := ba1.c4
    clear conG
    go_wp2_with fail
    refine (ConC.out w1 hb1).mono ?_
    rintro e w2 ⟨rfl, h2⟩
    go_wp2
    go_ret2
    exact ⟨rfl, bstep hb1 h2⟩

theorem sid_sid {t x : Int} (ht : t = 0 ∨ t = 1) : sidV t * (sidV t * x) = x := by
  rcases ht with rfl | rfl
  · show 1 * (1 * x) = x; omega
  · show -1 * (-1 * x) = x; omega

set_option maxRecDepth 100000 in
set_option maxHeartbeats 1000000 in
theorem c_bestPoints (n : Nat) (AF : Option Addr) (cF : Nat) (F : List (Int × Int)) (AS : Option Addr) (cS : Nat) (S : List (Int × Int)) (AR : Option Addr) (cR : Nat) (R : List Int) (t u : Int) (w : World) (hF : RdT w AF F) (hS : RdT w AS S) (hR : RdI w AR R) (hg : gameB F S R t u = true) (hz : sizG F S u < n) (hn : n ≤ 1000000) :
    Calls Tryz.prog 16 #[.agg #[.slice AF F.length cF, .slice AS S.length cS, .slice AR R.length cR, .int .i64 t, .int .i64 u]] w fun e w' => e = .returned (.int .i64 (bstN n F S R t u)) ∧ Below w.heap.size w w' := by
  obtain ⟨_, _, _, ht2⟩ := game_len hg
  have conS := Lib.hid (fun W => c_side AF cF F AS cS S AR cR R t u W ht2)
  have conG := Lib.hid (fun W (hb : Below w.heap.size w W) => c_bestGain n AF cF F AS cS S AR cR R t u W (hF.below hb) (hS.below hb) (hR.below hb) hg hz hn)
  have hb := bstN_bd n hg
  have sm := sid_mul (x := bstN n F S R t u) ht2 hb.1 hb.2
  have sq := sid_sid (x := bstN n F S R t u) ht2
  have s2 := Lib.hid (sid_mul (x := sidV t * bstN n F S R t u) ht2 sm.2.1 sm.2.2)
  rw [← sq]
  generalize sidV t * bstN n F S R t u = y at *
  clear hF hS hR hg hz sm sq hb
  go_enter Tryz.func16, Tryz.ntmps16
  go_wp2_with fail
  obtain ⟨w0, hw0⟩ : ∃ w0, w0 = w.alloc (.cells #[.slice AF F.length cF, .slice AS S.length cS, .slice AR R.length cR, .int .i64 t, .int .i64 u] 31) := ⟨_, rfl⟩
  rw [← hw0]
  have ba0 : BoxAt w0 w.heap.size (.slice AF F.length cF) (.slice AS S.length cS) (.slice AR R.length cR) (.int .i64 t) (.int .i64 u) := by rw [hw0]; exact BoxAt.fresh w _ _ _ _ _ _
  have hb0 : Below w.heap.size w w0 := by rw [hw0]; go_grown
  clear hw0
  have x0 := ba0.c0
  have x1 := ba0.c1
  have x2 := ba0.c2
  have x3 := ba0.c3
  have x4 := ba0.c4
  have hbd := hb0.drew
  go_region_held3 (fun w' => w'.cell? ⟨w.heap.size, 0, none⟩ = some (.slice AF F.length cF) ∧ w'.cell? ⟨w.heap.size, 1, none⟩ = some (.slice AS S.length cS) ∧ w'.cell? ⟨w.heap.size, 2, none⟩ = some (.slice AR R.length cR) ∧ w'.cell? ⟨w.heap.size, 3, none⟩ = some (.int .i64 t) ∧ w'.cell? ⟨w.heap.size, 4, none⟩ = some (.int .i64 u)) (first | exact ⟨z0, z1, z2, z3, z4⟩ | exact ⟨y0, y1, y2, y3, y4⟩ | exact ⟨x0, x1, x2, x3, x4⟩ | go_keep) (first | (go_at_call 27; refine (conG.out _ hb2).mono ?_; rintro e w3 ⟨rfl, h3⟩; have z0 := keepc h3 y0; have z1 := keepc h3 y1; have z2 := keepc h3 y2; have z3 := keepc h3 y3; have z4 := keepc h3 y4; have hb3 := bstep hb2 h3) | (go_at_call 26; refine (conS.out _).mono ?_; rintro e w2 ⟨rfl, h2⟩; have y0 := keepc h2 (gdG _ x0); have y1 := keepc h2 (gdG _ x1); have y2 := keepc h2 (gdG _ x2); have y3 := keepc h2 (gdG _ x3); have y4 := keepc h2 (gdG _ x4); have hb2 := bstep hbd h2))
  go_wp2
  go_ret
  exact ⟨(by first | rfl | exact ret_i s2.out.1), hb3⟩

set_option maxRecDepth 100000 in
set_option maxHeartbeats 1000000 in
theorem c_implBestP_tell (AF : Option Addr) (cF : Nat) (F : List (Int × Int)) (AS : Option Addr) (cS : Nat) (S : List (Int × Int)) (AR : Option Addr) (cR : Nat) (R : List Int) (t u : Int) (w : World) (hF : RdT w AF F) (hS : RdT w AS S) (hR : RdI w AR R) (lFS : F.length + S.length ≤ 1048576) (lR : R.length ≤ 1048576) :
    Calls Tryz.prog 15 #[.agg #[.slice AF F.length cF, .slice AS S.length cS, .slice AR R.length cR, .int .i64 t, .int .i64 u], .func (.func 16) #[] #[]] w fun e w' => e = .returned (.tuple #[.int .i64 (bpV F S R t u), .bool (smallB F S R t u)]) ∧ Below w.heap.size w w' := by
  have conG := fun W (hb : Below w.heap.size w W) => c_isHeld AF cF F AS cS S AR cR R t u W (hF.below hb) (hS.below hb) (hR.below hb) lFS lR
  have conC := fun (h : smallB F S R t u = true) W (hb : Below w.heap.size w W) => c_bestPoints 27 AF cF F AS cS S AR cR R t u W (hF.below hb) (hS.below hb) (hR.below hb) (small_siz h).1 (small_siz h).2 (by omega)
  clear hF hS hR
  unfold bpV
  cases hg : smallB F S R t u
  · simp only [hg] at conG
    rw [if_neg (by simp)]
    clear hg conC
    go_enter Tryz.func15, Tryz.ntmps15
    go_wp2_with fail
    obtain ⟨w0, hw0⟩ : ∃ w0, w0 = w.alloc (.cells #[.slice AF F.length cF, .slice AS S.length cS, .slice AR R.length cR, .int .i64 t, .int .i64 u] 31) := ⟨_, rfl⟩
    rw [← hw0]
    have ba0 : BoxAt w0 w.heap.size (.slice AF F.length cF) (.slice AS S.length cS) (.slice AR R.length cR) (.int .i64 t) (.int .i64 u) := by rw [hw0]; exact BoxAt.fresh w _ _ _ _ _ _
    have hb0 : Below w.heap.size w w0 := by rw [hw0]; go_grown
    clear hw0
    refine (conG w0 hb0).mono ?_
    rintro e w1 ⟨rfl, h1⟩
    have hb1 := bstep hb0 h1
    have ba1 := ba0.keep h1
    clear ba0
    have x0 := ba1.c0
    have x1 := ba1.c1
    have x2 := ba1.c2
    have x3 := ba1.c3
    have x4 := ba1.c4
    clear conG
    go_wp2
    go_ret2
    exact ⟨rfl, hb1⟩
  · simp only [hg] at conG
    rw [if_pos rfl]
    have ConC := Lib.hid (conC hg)
    clear hg conC
    go_enter Tryz.func15, Tryz.ntmps15
    go_wp2_with fail
    obtain ⟨w0, hw0⟩ : ∃ w0, w0 = w.alloc (.cells #[.slice AF F.length cF, .slice AS S.length cS, .slice AR R.length cR, .int .i64 t, .int .i64 u] 31) := ⟨_, rfl⟩
    rw [← hw0]
    have ba0 : BoxAt w0 w.heap.size (.slice AF F.length cF) (.slice AS S.length cS) (.slice AR R.length cR) (.int .i64 t) (.int .i64 u) := by rw [hw0]; exact BoxAt.fresh w _ _ _ _ _ _
    have hb0 : Below w.heap.size w w0 := by rw [hw0]; go_grown
    clear hw0
    refine (conG w0 hb0).mono ?_
    rintro e w1 ⟨rfl, h1⟩
    have hb1 := bstep hb0 h1
    have ba1 := ba0.keep h1
    clear ba0
    have x0 := ba1.c0
    have x1 := ba1.c1
    have x2 := ba1.c2
    have x3 := ba1.c3
    have x4 := ba1.c4
    clear conG
    go_wp2_with (go_at_call 16; refine (ConC.out w1 hb1).mono ?_; rintro e w2 ⟨rfl, h2⟩)
    go_ret2
    exact ⟨rfl, bstep hb1 h2⟩

set_option maxRecDepth 100000 in
set_option maxHeartbeats 1000000 in
theorem c_implBestP (AF : Option Addr) (cF : Nat) (F : List (Int × Int)) (AS : Option Addr) (cS : Nat) (S : List (Int × Int)) (AR : Option Addr) (cR : Nat) (R : List Int) (t u : Int) (w : World) (hF : RdT w AF F) (hS : RdT w AS S) (hR : RdI w AR R) (lFS : F.length + S.length ≤ 1048576) (lR : R.length ≤ 1048576) :
    Calls Tryz.prog 7 #[.agg #[.slice AF F.length cF, .slice AS S.length cS, .slice AR R.length cR, .int .i64 t, .int .i64 u]] w fun e w' => e = .returned (.tuple #[.int .i64 (bpV F S R t u), .bool (smallB F S R t u)]) ∧ Below w.heap.size w w' := by
  have con := fun W (hb : Below w.heap.size w W) => c_implBestP_tell AF cF F AS cS S AR cR R t u W (hF.below hb) (hS.below hb) (hR.below hb) lFS lR
  clear hF hS hR
  generalize bpV F S R t u = v at *
  generalize smallB F S R t u = q at *
  go_enter Tryz.func7, Tryz.ntmps7
  go_wp2_with fail
  obtain ⟨w0, hw0⟩ : ∃ w0, w0 = w.alloc (.cells #[.slice AF F.length cF, .slice AS S.length cS, .slice AR R.length cR, .int .i64 t, .int .i64 u] 31) := ⟨_, rfl⟩
  rw [← hw0]
  have ba0 : BoxAt w0 w.heap.size (.slice AF F.length cF) (.slice AS S.length cS) (.slice AR R.length cR) (.int .i64 t) (.int .i64 u) := by rw [hw0]; exact BoxAt.fresh w _ _ _ _ _ _
  have hb0 : Below w.heap.size w w0 := by rw [hw0]; go_grown
  clear hw0
  refine (con w0 hb0).mono ?_
  rintro e w1 ⟨rfl, h1⟩
  go_wp2
  go_ret2
  exact ⟨rfl, bstep hb0 h1⟩

end Go.Proofs.YtgjdpiooocpmhabGreat

/- Games counted, the longest one: the program's. Games counted: the specification's. CountGames, LongestGame: both sides'. -/
import Derived.Test.YtgjdpiooocpmhabBehA
import Derived.Test.YtgjdpiooocpmhabMakeA
import Derived.Deep.Cut
import Derived.BigQuiet
import Derived.Test.YtgjdpiooocpmhabMovS
namespace Go.Proofs.Ytgjdpiooocpmhab
open Go.RowKit
set_option linter.unusedVariables false

theorem take_fold {α β : Type} (f : β → α → β) (x : β) (L : List α) (k : Nat) (h : k < L.length) : (L.take (k + 1)).foldl f x = f ((L.take k).foldl f x) L[k] := by
  rw [List.take_succ_eq_append_getElem h, List.foldl_append]
  rfl

set_option maxRecDepth 100000 in
set_option maxHeartbeats 2000000 in
theorem c_countGames : ∀ (n : Nat) (AF : Option Addr) (cF : Nat) (F : List (Int × Int)) (AS : Option Addr) (cS : Nat) (S : List (Int × Int)) (AR : Option Addr) (cR : Nat) (R : List Int) (t u : Int) (w : World) (hF : RdT w AF F) (hS : RdT w AS S) (hR : RdI w AR R) (hg : gameB F S R t u = true) (hz : sizG F S u < n) (hn : n ≤ 1000000),
    Calls Try.prog 40 #[.agg #[.slice AF F.length cF, .slice AS S.length cS, .slice AR R.length cR, .int .i64 t, .int .i64 u]] w fun e w' => e = .returned (.int .i64 (cntN n F S R t u)) ∧ Below w.heap.size w w'
  | 0, AF, cF, F, AS, cS, S, AR, cR, R, t, u, w, hF, hS, hR, hg, hz, hn => by omega
  | n + 1, AF, cF, F, AS, cS, S, AR, cR, R, t, u, w, hF, hS, hR, hg, hz, hn => by
    obtain ⟨lF, lS, lR, ht2⟩ := game_len hg
    have gp := gameB_parts hg
    have conO := fun W => c_isOver AF F.length cF AS S.length cS AR R.length cR t u W
    cases ho : overB F.length S.length u
    · have en : cntN (n + 1) F S R t u = (movesL F S R t u).foldl (fun c m => IntKind.i64.wrap (c + cntN n (behF F t m) (behS S t m) (behR R m) (1 - t) (behU u m))) 0 := by rw [cntN, ho]; rfl
      rw [en, ← List.take_length (l := movesL F S R t u)]
      simp only [ho] at conO
      have conM := Lib.hid (fun W (hb : Below w.heap.size w W) => c_gMoves AF cF F AS cS S AR cR R t u W (hF.below hb) (hS.below hb) (hR.below hb) gp.2.2.1 gp.2.2.2.1 (by omega) ht2)
      have conB := Lib.hid (fun m (hm : m ∈ movesL F S R t u) W (hb : Below w.heap.size w W) => c_behind AF cF F AS cS S AR cR R t u m W (hF.below hb) (hS.below hb) (hR.below hb) hg hm)
      have conI := Lib.hid (fun m (hm : m ∈ movesL F S R t u) (A1 : Option Addr) (c1 : Nat) (A2 : Option Addr) (c2 : Nat) (A3 : Option Addr) (c3 : Nat) W (rF : RdT W A1 (behF F t m)) (rS : RdT W A2 (behS S t m)) (rR : RdI W A3 (behR R m)) => c_countGames n A1 c1 (behF F t m) A2 c2 (behS S t m) A3 c3 (behR R m) (1 - t) (behU u m) W rF rS rR (behind_good hg hm).1 (by have := (behind_good hg hm).2; omega) (by omega))
      have ml := movesL_len F S R t u
      generalize hM : movesL F S R t u = M at *
      have Hst := Lib.hid (fun k (h : k < M.length) => take_fold (fun c m => IntKind.i64.wrap (c + cntN n (behF F t m) (behS S t m) (behR R m) (1 - t) (behU u m))) 0 M k h)
      obtain ⟨cnt, hcnt⟩ : ∃ cnt : Nat → Int, cnt = fun k => (M.take k).foldl (fun c m => IntKind.i64.wrap (c + cntN n (behF F t m) (behS S t m) (behR R m) (1 - t) (behU u m))) 0 := ⟨_, rfl⟩
      have hc0 : cnt 0 = 0 := by rw [hcnt]; rfl
      have hcl : (M.take M.length).foldl (fun c m => IntKind.i64.wrap (c + cntN n (behF F t m) (behS S t m) (behR R m) (1 - t) (behU u m))) 0 = cnt M.length := by rw [hcnt]
      have hcs : Hid (∀ k (h : k < M.length), cnt (k + 1) = (fun c m => IntKind.i64.wrap (c + cntN n (behF F t m) (behS S t m) (behR R m) (1 - t) (behU u m))) (cnt k) M[k]) := Lib.hid (fun k h => by rw [hcnt]; exact Hst.out k h)
      rw [hcl]
      clear hcnt hcl Hst hM en ho hF hS hR hg hz gp ht2
      go_enter Try.func40, Try.ntmps40
      go_wp2_with fail
      obtain ⟨w0, hw0⟩ : ∃ w0, w0 = w.alloc (.cells #[.slice AF F.length cF, .slice AS S.length cS, .slice AR R.length cR, .int .i64 t, .int .i64 u] 31) := ⟨_, rfl⟩
      rw [← hw0]
      have ba0 : BoxAt w0 w.heap.size (.slice AF F.length cF) (.slice AS S.length cS) (.slice AR R.length cR) (.int .i64 t) (.int .i64 u) := by rw [hw0]; exact BoxAt.fresh w _ _ _ _ _ _
      have hb0 : Below w.heap.size w w0 := by rw [hw0]; go_grown
      clear hw0
      refine (conO w0).mono ?_
      rintro e w1 ⟨rfl, h1⟩
      have hb1 := bstep hb0 h1
      have ba1 := ba0.keep h1
      clear ba0
      have x0 := ba1.c0
      have x1 := ba1.c1
      have x2 := ba1.c2
      have x3 := ba1.c3
      have x4 := ba1.c4
      go_wp2_with fail
      refine (conM.out w1 hb1).mono ?_
      rintro e w2 ⟨A2, c2, rfl, o2, h2⟩
      have hb2 := bstep hb1 h2
      have ba2 := ba1.keep h2
      have r2 := RdE.of_own encI_len o2
      clear x0 x1 x2 x3 x4 ba1 o2 conM conO
      go_wp2
      go_loopw [3, 11] (fun v i wr => ∃ k : Nat, k ≤ M.length ∧ i = .int .i64 k ∧ v = .int .i64 (cnt k) ∧ Below w2.heap.size w2 wr) (fun _ i _ => M.length - (intOf i).toNat)
      case atStart => exact ⟨0, Nat.zero_le _, rfl, by rw [hc0], Below.refl _ _⟩
      case round =>
        obtain ⟨k, hk, rfl, rfl, hb⟩ := hrel
        by_cases hlt : k < M.length
        · obtain ⟨bm, om, rfl, hbm, hcm⟩ := r2.at_ hlt
          have g0 := keepc hb (hcm k hlt 0 _ rfl)
          have g1 := keepc hb (hcm k hlt 1 _ rfl)
          have g2 := keepc hb (hcm k hlt 2 _ rfl)
          rw [Nat.add_zero] at g0
          have hst := hcs.out k hlt
          have hmem : M[k] ∈ M := List.getElem_mem hlt
          generalize M[k] = m at *
          have bar := ba2.keep hb
          have x0 := bar.c0
          have x1 := bar.c1
          have x2 := bar.c2
          have x3 := bar.c3
          have x4 := bar.c4
          have hlw := bar.lt
          have hbr := bstep hb2 hb
          have conB2 := Lib.hid (conB.out m hmem)
          have conI2 := Lib.hid (conI.out m hmem)
          have Hst := Lib.hid hst
          clear hcm conB conI hst
          go_wp2_with fail
          refine (conB2.out _ (hbr.alloc hbr.size _)).mono ?_
          rintro e w3 ⟨A3, c3, A4, c4, A5, c5, rfl, o3, h3⟩
          go_wp2_with fail
          refine (conI2.out A3 c3 A4 c4 A5 c5 w3 (RdT.of_own o3.f) (RdT.of_own o3.s) (RdI.of_own o3.r)).mono ?_
          rintro e w4 ⟨rfl, h4⟩
          have hb4 := bstep (bstep ((Below.refl _ _).alloc (Nat.le_refl _) _) h3) h4
          clear o3 conB2 conI2
          go_wp2
          skip
          go_roundw
          case rel => exact ⟨k + 1, by omega, by go_num, by rw [Hst.out]; first | rfl | (rw [IntWalk.i64_left]; done) | (simp [Int.add_comm, Int.max_def]; done), bstep hb hb4⟩
          case measure => simp [intOf]; omega
        · have : k = M.length := by omega
          subst this
          go_wp2
          go_ret
          exact ⟨rfl, bstep hb2 hb⟩
    · have en : cntN (n + 1) F S R t u = 1 := by rw [cntN, ho]; rfl
      rw [en]
      simp only [ho] at conO
      clear en ho hF hS hR hg hz gp ht2
      go_enter Try.func40, Try.ntmps40
      go_wp2_with fail
      obtain ⟨w0, hw0⟩ : ∃ w0, w0 = w.alloc (.cells #[.slice AF F.length cF, .slice AS S.length cS, .slice AR R.length cR, .int .i64 t, .int .i64 u] 31) := ⟨_, rfl⟩
      rw [← hw0]
      have ba0 : BoxAt w0 w.heap.size (.slice AF F.length cF) (.slice AS S.length cS) (.slice AR R.length cR) (.int .i64 t) (.int .i64 u) := by rw [hw0]; exact BoxAt.fresh w _ _ _ _ _ _
      have hb0 : Below w.heap.size w w0 := by rw [hw0]; go_grown
      clear hw0
      refine (conO w0).mono ?_
      rintro e w1 ⟨rfl, h1⟩
      have hb1 := bstep hb0 h1
      have ba1 := ba0.keep h1
      clear ba0
      have x0 := ba1.c0
      have x1 := ba1.c1
      have x2 := ba1.c2
      have x3 := ba1.c3
      have x4 := ba1.c4
      go_wp2
      go_ret
      exact ⟨rfl, hb1⟩

set_option maxRecDepth 100000 in
set_option maxHeartbeats 2000000 in
theorem c_longest : ∀ (n : Nat) (AF : Option Addr) (cF : Nat) (F : List (Int × Int)) (AS : Option Addr) (cS : Nat) (S : List (Int × Int)) (AR : Option Addr) (cR : Nat) (R : List Int) (t u : Int) (w : World) (hF : RdT w AF F) (hS : RdT w AS S) (hR : RdI w AR R) (hg : gameB F S R t u = true) (hz : sizG F S u < n) (hn : n ≤ 1000000),
    Calls Try.prog 42 #[.agg #[.slice AF F.length cF, .slice AS S.length cS, .slice AR R.length cR, .int .i64 t, .int .i64 u]] w fun e w' => e = .returned (.int .i64 (lngN n F S R t u)) ∧ Below w.heap.size w w'
  | 0, AF, cF, F, AS, cS, S, AR, cR, R, t, u, w, hF, hS, hR, hg, hz, hn => by omega
  | n + 1, AF, cF, F, AS, cS, S, AR, cR, R, t, u, w, hF, hS, hR, hg, hz, hn => by
    obtain ⟨lF, lS, lR, ht2⟩ := game_len hg
    have gp := gameB_parts hg
    have conO := fun W => c_isOver AF F.length cF AS S.length cS AR R.length cR t u W
    cases ho : overB F.length S.length u
    · have en : lngN (n + 1) F S R t u = (movesL F S R t u).foldl (fun c m => max c (lngN n (behF F t m) (behS S t m) (behR R m) (1 - t) (behU u m) + 1)) 0 := by rw [lngN, ho]; rfl
      rw [en, ← List.take_length (l := movesL F S R t u)]
      simp only [ho] at conO
      have conM := Lib.hid (fun W (hb : Below w.heap.size w W) => c_gMoves AF cF F AS cS S AR cR R t u W (hF.below hb) (hS.below hb) (hR.below hb) gp.2.2.1 gp.2.2.2.1 (by omega) ht2)
      have conB := Lib.hid (fun m (hm : m ∈ movesL F S R t u) W (hb : Below w.heap.size w W) => c_behind AF cF F AS cS S AR cR R t u m W (hF.below hb) (hS.below hb) (hR.below hb) hg hm)
      have conI := Lib.hid (fun m (hm : m ∈ movesL F S R t u) (A1 : Option Addr) (c1 : Nat) (A2 : Option Addr) (c2 : Nat) (A3 : Option Addr) (c3 : Nat) W (rF : RdT W A1 (behF F t m)) (rS : RdT W A2 (behS S t m)) (rR : RdI W A3 (behR R m)) => c_longest n A1 c1 (behF F t m) A2 c2 (behS S t m) A3 c3 (behR R m) (1 - t) (behU u m) W rF rS rR (behind_good hg hm).1 (by have := (behind_good hg hm).2; omega) (by omega))
      have ml := movesL_len F S R t u
      generalize hM : movesL F S R t u = M at *
      have Hst := Lib.hid (fun k (h : k < M.length) => take_fold (fun c m => max c (lngN n (behF F t m) (behS S t m) (behR R m) (1 - t) (behU u m) + 1)) 0 M k h)
      obtain ⟨cnt, hcnt⟩ : ∃ cnt : Nat → Int, cnt = fun k => (M.take k).foldl (fun c m => max c (lngN n (behF F t m) (behS S t m) (behR R m) (1 - t) (behU u m) + 1)) 0 := ⟨_, rfl⟩
      have hc0 : cnt 0 = 0 := by rw [hcnt]; rfl
      have hcl : (M.take M.length).foldl (fun c m => max c (lngN n (behF F t m) (behS S t m) (behR R m) (1 - t) (behU u m) + 1)) 0 = cnt M.length := by rw [hcnt]
      have hcs : Hid (∀ k (h : k < M.length), cnt (k + 1) = (fun c m => max c (lngN n (behF F t m) (behS S t m) (behR R m) (1 - t) (behU u m) + 1)) (cnt k) M[k]) := Lib.hid (fun k h => by rw [hcnt]; exact Hst.out k h)
      rw [hcl]
      clear hcnt hcl Hst hM en ho hF hS hR hg hz gp ht2
      go_enter Try.func42, Try.ntmps42
      go_wp2_with fail
      obtain ⟨w0, hw0⟩ : ∃ w0, w0 = w.alloc (.cells #[.slice AF F.length cF, .slice AS S.length cS, .slice AR R.length cR, .int .i64 t, .int .i64 u] 31) := ⟨_, rfl⟩
      rw [← hw0]
      have ba0 : BoxAt w0 w.heap.size (.slice AF F.length cF) (.slice AS S.length cS) (.slice AR R.length cR) (.int .i64 t) (.int .i64 u) := by rw [hw0]; exact BoxAt.fresh w _ _ _ _ _ _
      have hb0 : Below w.heap.size w w0 := by rw [hw0]; go_grown
      clear hw0
      refine (conO w0).mono ?_
      rintro e w1 ⟨rfl, h1⟩
      have hb1 := bstep hb0 h1
      have ba1 := ba0.keep h1
      clear ba0
      have x0 := ba1.c0
      have x1 := ba1.c1
      have x2 := ba1.c2
      have x3 := ba1.c3
      have x4 := ba1.c4
      go_wp2_with fail
      refine (conM.out w1 hb1).mono ?_
      rintro e w2 ⟨A2, c2, rfl, o2, h2⟩
      have hb2 := bstep hb1 h2
      have ba2 := ba1.keep h2
      have r2 := RdE.of_own encI_len o2
      clear x0 x1 x2 x3 x4 ba1 o2 conM conO
      go_wp2
      go_loopw [3, 11] (fun v i wr => ∃ k : Nat, k ≤ M.length ∧ i = .int .i64 k ∧ v = .int .i64 (cnt k) ∧ Below w2.heap.size w2 wr) (fun _ i _ => M.length - (intOf i).toNat)
      case atStart => exact ⟨0, Nat.zero_le _, rfl, by rw [hc0], Below.refl _ _⟩
      case round =>
        obtain ⟨k, hk, rfl, rfl, hb⟩ := hrel
        by_cases hlt : k < M.length
        · obtain ⟨bm, om, rfl, hbm, hcm⟩ := r2.at_ hlt
          have g0 := keepc hb (hcm k hlt 0 _ rfl)
          have g1 := keepc hb (hcm k hlt 1 _ rfl)
          have g2 := keepc hb (hcm k hlt 2 _ rfl)
          rw [Nat.add_zero] at g0
          have hst := hcs.out k hlt
          have hmem : M[k] ∈ M := List.getElem_mem hlt
          generalize M[k] = m at *
          have bar := ba2.keep hb
          have x0 := bar.c0
          have x1 := bar.c1
          have x2 := bar.c2
          have x3 := bar.c3
          have x4 := bar.c4
          have hlw := bar.lt
          have hbr := bstep hb2 hb
          have conB2 := Lib.hid (conB.out m hmem)
          have conI2 := Lib.hid (conI.out m hmem)
          have Hst := Lib.hid hst
          clear hcm conB conI hst
          have hy := lngN_nat n (behF F t m) (behS S t m) (behR R m) (1 - t) (behU u m)
          generalize lngN n (behF F t m) (behS S t m) (behR R m) (1 - t) (behU u m) = y at *
          have ey : IntKind.i64.wrap (1 + y) = 1 + y := by rw [IntWalk.i64_in _ (by omega)]
          go_wp2_with fail
          refine (conB2.out _ (hbr.alloc hbr.size _)).mono ?_
          rintro e w3 ⟨A3, c3, A4, c4, A5, c5, rfl, o3, h3⟩
          go_wp2_with fail
          refine (conI2.out A3 c3 A4 c4 A5 c5 w3 (RdT.of_own o3.f) (RdT.of_own o3.s) (RdI.of_own o3.r)).mono ?_
          rintro e w4 ⟨rfl, h4⟩
          have hb4 := bstep (bstep ((Below.refl _ _).alloc (Nat.le_refl _) _) h3) h4
          clear o3 conB2 conI2
          go_wp2
          skip
          go_roundw
          case rel => exact ⟨k + 1, by omega, by go_num, by rw [Hst.out]; first | rfl | (rw [IntWalk.i64_left]; done) | (simp [Int.add_comm, Int.max_def]; done), bstep hb hb4⟩
          case measure => simp [intOf]; omega
        · have : k = M.length := by omega
          subst this
          go_wp2
          go_ret
          exact ⟨rfl, bstep hb2 hb⟩
    · have en : lngN (n + 1) F S R t u = 0 := by rw [lngN, ho]; rfl
      rw [en]
      simp only [ho] at conO
      clear en ho hF hS hR hg hz gp ht2
      go_enter Try.func42, Try.ntmps42
      go_wp2_with fail
      obtain ⟨w0, hw0⟩ : ∃ w0, w0 = w.alloc (.cells #[.slice AF F.length cF, .slice AS S.length cS, .slice AR R.length cR, .int .i64 t, .int .i64 u] 31) := ⟨_, rfl⟩
      rw [← hw0]
      have ba0 : BoxAt w0 w.heap.size (.slice AF F.length cF) (.slice AS S.length cS) (.slice AR R.length cR) (.int .i64 t) (.int .i64 u) := by rw [hw0]; exact BoxAt.fresh w _ _ _ _ _ _
      have hb0 : Below w.heap.size w w0 := by rw [hw0]; go_grown
      clear hw0
      refine (conO w0).mono ?_
      rintro e w1 ⟨rfl, h1⟩
      have hb1 := bstep hb0 h1
      have ba1 := ba0.keep h1
      clear ba0
      have x0 := ba1.c0
      have x1 := ba1.c1
      have x2 := ba1.c2
      have x3 := ba1.c3
      have x4 := ba1.c4
      go_wp2
      go_ret
      exact ⟨rfl, hb1⟩

end Go.Proofs.Ytgjdpiooocpmhab

namespace Go.Proofs.Ytgjdpiooocpmhab
open Go.RowKit
set_option linter.unusedVariables false

set_option maxRecDepth 100000 in
set_option maxHeartbeats 2000000 in
theorem c_plCount (mk : MakeP) : ∀ (n : Nat) (AF : Option Addr) (cF : Nat) (F : List (Int × Int)) (AS : Option Addr) (cS : Nat) (S : List (Int × Int)) (AR : Option Addr) (cR : Nat) (R : List Int) (t u : Int) (w : World) (hF : RdT w AF F) (hS : RdT w AS S) (hR : RdI w AR R) (hg : gameB F S R t u = true) (hz : sizG F S u < n) (hn : n ≤ 1000000),
    Calls Try.prog 37 #[.agg #[.slice AF F.length cF, .slice AS S.length cS, .slice AR R.length cR, .int .i64 t, .int .i64 u]] w fun e w' => e = .returned (.tuple #[.int .i64 (cntN n F S R t u), .int .i64 (lngN n F S R t u)]) ∧ Below w.heap.size w w'
  | 0, AF, cF, F, AS, cS, S, AR, cR, R, t, u, w, hF, hS, hR, hg, hz, hn => by omega
  | n + 1, AF, cF, F, AS, cS, S, AR, cR, R, t, u, w, hF, hS, hR, hg, hz, hn => by
    obtain ⟨lF, lS, lR, ht2⟩ := game_len hg
    have gp := gameB_parts hg
    have conO := fun W => c_plOver AF F.length cF AS S.length cS AR R.length cR t u W
    cases ho : overB F.length S.length u
    · have en : cntN (n + 1) F S R t u = (movesL F S R t u).foldl (fun c m => IntKind.i64.wrap (c + cntN n (behF F t m) (behS S t m) (behR R m) (1 - t) (behU u m))) 0 := by rw [cntN, ho]; rfl
      have el : lngN (n + 1) F S R t u = (movesL F S R t u).foldl (fun c m => max c (lngN n (behF F t m) (behS S t m) (behR R m) (1 - t) (behU u m) + 1)) 0 := by rw [lngN, ho]; rfl
      rw [en, el, ← List.take_length (l := movesL F S R t u)]
      simp only [ho] at conO
      have conM := Lib.hid (fun W (hb : Below w.heap.size w W) => c_plMoves AF cF F AS cS S AR cR R t u W (hF.below hb) (hS.below hb) (hR.below hb) gp.2.2.1 gp.2.2.2.1 (by omega))
      have conB := Lib.hid (fun m (hm : m ∈ movesL F S R t u) W (hb : Below w.heap.size w W) => mk AF cF F AS cS S AR cR R t u m W (hF.below hb) (hS.below hb) (hR.below hb) hg hm)
      have conI := Lib.hid (fun m (hm : m ∈ movesL F S R t u) (A1 : Option Addr) (c1 : Nat) (A2 : Option Addr) (c2 : Nat) (A3 : Option Addr) (c3 : Nat) W (rF : RdT W A1 (behF F t m)) (rS : RdT W A2 (behS S t m)) (rR : RdI W A3 (behR R m)) => c_plCount mk n A1 c1 (behF F t m) A2 c2 (behS S t m) A3 c3 (behR R m) (1 - t) (behU u m) W rF rS rR (behind_good hg hm).1 (by have := (behind_good hg hm).2; omega) (by omega))
      have ml := movesL_len F S R t u
      generalize hM : movesL F S R t u = M at *
      rw [List.take_length] at *
      have Hs1 := Lib.hid (fun k (h : k < M.length) => take_fold (fun c m => IntKind.i64.wrap (c + cntN n (behF F t m) (behS S t m) (behR R m) (1 - t) (behU u m))) 0 M k h)
      have Hs2 := Lib.hid (fun k (h : k < M.length) => take_fold (fun c m => max c (lngN n (behF F t m) (behS S t m) (behR R m) (1 - t) (behU u m) + 1)) 0 M k h)
      obtain ⟨cnt, hcnt⟩ : ∃ cnt : Nat → Int, cnt = fun k => (M.take k).foldl (fun c m => IntKind.i64.wrap (c + cntN n (behF F t m) (behS S t m) (behR R m) (1 - t) (behU u m))) 0 := ⟨_, rfl⟩
      obtain ⟨lng, hlng⟩ : ∃ lng : Nat → Int, lng = fun k => (M.take k).foldl (fun c m => max c (lngN n (behF F t m) (behS S t m) (behR R m) (1 - t) (behU u m) + 1)) 0 := ⟨_, rfl⟩
      have hc0 : cnt 0 = 0 := by rw [hcnt]; rfl
      have hl0 : lng 0 = 0 := by rw [hlng]; rfl
      have hcl : M.foldl (fun c m => IntKind.i64.wrap (c + cntN n (behF F t m) (behS S t m) (behR R m) (1 - t) (behU u m))) 0 = cnt M.length := by rw [hcnt]; simp only [List.take_length]
      have hll : M.foldl (fun c m => max c (lngN n (behF F t m) (behS S t m) (behR R m) (1 - t) (behU u m) + 1)) 0 = lng M.length := by rw [hlng]; simp only [List.take_length]
      have hcs : Hid (∀ k (h : k < M.length), cnt (k + 1) = (fun c m => IntKind.i64.wrap (c + cntN n (behF F t m) (behS S t m) (behR R m) (1 - t) (behU u m))) (cnt k) M[k]) := Lib.hid (fun k h => by rw [hcnt]; exact Hs1.out k h)
      have hls : Hid (∀ k (h : k < M.length), lng (k + 1) = (fun c m => max c (lngN n (behF F t m) (behS S t m) (behR R m) (1 - t) (behU u m) + 1)) (lng k) M[k]) := Lib.hid (fun k h => by rw [hlng]; exact Hs2.out k h)
      rw [hcl, hll]
      clear hcnt hcl hlng hll Hs1 Hs2 hM en el ho hF hS hR hg hz gp ht2 mk
      go_enter Try.func37, Try.ntmps37
      go_wp2_with fail
      obtain ⟨w0, hw0⟩ : ∃ w0, w0 = w.alloc (.cells #[.slice AF F.length cF, .slice AS S.length cS, .slice AR R.length cR, .int .i64 t, .int .i64 u] 31) := ⟨_, rfl⟩
      rw [← hw0]
      have ba0 : BoxAt w0 w.heap.size (.slice AF F.length cF) (.slice AS S.length cS) (.slice AR R.length cR) (.int .i64 t) (.int .i64 u) := by rw [hw0]; exact BoxAt.fresh w _ _ _ _ _ _
      have hb0 : Below w.heap.size w w0 := by rw [hw0]; go_grown
      clear hw0
      refine (conO w0).mono ?_
      rintro e w1 ⟨rfl, h1⟩
      have hb1 := bstep hb0 h1
      have ba1 := ba0.keep h1
      clear ba0
      have x0 := ba1.c0
      have x1 := ba1.c1
      have x2 := ba1.c2
      have x3 := ba1.c3
      have x4 := ba1.c4
      go_wp2_with fail
      refine (conM.out w1 hb1).mono ?_
      rintro e w2 ⟨A2, c2, rfl, o2, h2⟩
      have hb2 := bstep hb1 h2
      have ba2 := ba1.keep h2
      have r2 := RdE.of_own encS_len o2
      clear x0 x1 x2 x3 x4 ba1 o2 conM conO
      go_wp2
      go_loopw [4, 5, 15] (fun v l i wr => ∃ k : Nat, k ≤ M.length ∧ i = .int .i64 k ∧ v = .int .i64 (cnt k) ∧ l = .int .i64 (lng k) ∧ Below w2.heap.size w2 wr) (fun _ _ i _ => M.length - (intOf i).toNat)
      case atStart => exact ⟨0, Nat.zero_le _, rfl, by rw [hc0], by rw [hl0], Below.refl _ _⟩
      case round =>
        obtain ⟨k, hk, rfl, rfl, rfl, hb⟩ := hrel
        by_cases hlt : k < M.length
        · obtain ⟨bm, om, rfl, hbm, hcm⟩ := r2.at_ hlt
          have g0 := keepc hb (hcm k hlt 0 _ rfl)
          have g1 := keepc hb (hcm k hlt 1 _ rfl)
          have g2 := keepc hb (hcm k hlt 2 _ rfl)
          have g3 := keepc hb (hcm k hlt 3 _ rfl)
          rw [Nat.add_zero] at g0
          have hst := hcs.out k hlt
          have hst2 := hls.out k hlt
          have hmem : M[k] ∈ M := List.getElem_mem hlt
          generalize M[k] = m at *
          have bar := ba2.keep hb
          have x0 := bar.c0
          have x1 := bar.c1
          have x2 := bar.c2
          have x3 := bar.c3
          have x4 := bar.c4
          have hlw := bar.lt
          have hbr := bstep hb2 hb
          have conB2 := Lib.hid (conB.out m hmem)
          have conI2 := Lib.hid (conI.out m hmem)
          have hy := lngN_nat n (behF F t m) (behS S t m) (behR R m) (1 - t) (behU u m)
          generalize lngN n (behF F t m) (behS S t m) (behR R m) (1 - t) (behU u m) = y at *
          generalize cntN n (behF F t m) (behS S t m) (behR R m) (1 - t) (behU u m) = z at *
          have ey : IntKind.i64.wrap (y + 1) = y + 1 := by rw [IntWalk.i64_in _ (by omega)]
          have Hst := Lib.hid hst
          have Hst2 := Lib.hid hst2
          clear hcm conB conI hst hst2
          generalize (m.2.2 == 1) = p1 at *
          generalize (m.2.2 == 0) = p0 at *
          go_wp2_with fail
          refine (conB2.out _ (hbr.alloc hbr.size _)).mono ?_
          rintro e w3 ⟨A3, c3, A4, c4, A5, c5, rfl, o3, h3⟩
          go_wp2_with fail
          refine (conI2.out A3 c3 A4 c4 A5 c5 w3 (RdT.of_own o3.f) (RdT.of_own o3.s) (RdI.of_own o3.r)).mono ?_
          rintro e w4 ⟨rfl, h4⟩
          have hb4 := bstep (bstep ((Below.refl _ _).alloc (Nat.le_refl _) _) h3) h4
          clear o3 conB2 conI2
          go_wp2_with (go_at_call 78; refine (c_l1Most _ _ _).mono ?_; rintro e w5 ⟨rfl, rfl⟩)
          go_roundw
          case rel => exact ⟨k + 1, by omega, by go_num, by rw [Hst.out]; first | rfl | (rw [IntWalk.i64_left]; done), by rw [Hst2.out], bstep hb hb4⟩
          case measure => simp [intOf]; omega
        · have : k = M.length := by omega
          subst this
          go_wp2
          go_ret2
          exact ⟨rfl, bstep hb2 hb⟩
    · have en : cntN (n + 1) F S R t u = 1 := by rw [cntN, ho]; rfl
      have el : lngN (n + 1) F S R t u = 0 := by rw [lngN, ho]; rfl
      rw [en, el]
      simp only [ho] at conO
      clear en el ho hF hS hR hg hz gp ht2 mk
      go_enter Try.func37, Try.ntmps37
      go_wp2_with fail
      obtain ⟨w0, hw0⟩ : ∃ w0, w0 = w.alloc (.cells #[.slice AF F.length cF, .slice AS S.length cS, .slice AR R.length cR, .int .i64 t, .int .i64 u] 31) := ⟨_, rfl⟩
      rw [← hw0]
      have ba0 : BoxAt w0 w.heap.size (.slice AF F.length cF) (.slice AS S.length cS) (.slice AR R.length cR) (.int .i64 t) (.int .i64 u) := by rw [hw0]; exact BoxAt.fresh w _ _ _ _ _ _
      have hb0 : Below w.heap.size w w0 := by rw [hw0]; go_grown
      clear hw0
      refine (conO w0).mono ?_
      rintro e w1 ⟨rfl, h1⟩
      have hb1 := bstep hb0 h1
      have ba1 := ba0.keep h1
      clear ba0
      have x0 := ba1.c0
      have x1 := ba1.c1
      have x2 := ba1.c2
      have x3 := ba1.c3
      have x4 := ba1.c4
      go_wp2
      go_ret2
      exact ⟨rfl, hb1⟩

end Go.Proofs.Ytgjdpiooocpmhab

namespace Go.Proofs.Ytgjdpiooocpmhab
open Go.RowKit
set_option linter.unusedVariables false

def smallB (F S : List (Int × Int)) (R : List Int) (t u : Int) : Bool := gameB F S R t u && decide (F.length + S.length ≤ 8)
theorem small_siz {F S : List (Int × Int)} {R : List Int} {t u : Int} (h : smallB F S R t u = true) : gameB F S R t u = true ∧ sizG F S u < 27 := by
  unfold smallB at h
  simp only [Bool.and_eq_true, decide_eq_true_eq] at h
  have h1 := (gameB_parts h.1).1
  unfold turnB at h1
  simp only [Bool.and_eq_true, decide_eq_true_eq] at h1
  refine ⟨h.1, ?_⟩
  unfold sizG
  omega
def cntV (F S : List (Int × Int)) (R : List Int) (t u : Int) : Int := if smallB F S R t u then cntN 27 F S R t u else 0
def lngV (F S : List (Int × Int)) (R : List Int) (t u : Int) : Int := if smallB F S R t u then lngN 27 F S R t u else 0

set_option maxRecDepth 100000 in
set_option maxHeartbeats 1000000 in
theorem c_isHeld (AF : Option Addr) (cF : Nat) (F : List (Int × Int)) (AS : Option Addr) (cS : Nat) (S : List (Int × Int)) (AR : Option Addr) (cR : Nat) (R : List Int) (t u : Int) (w : World) (hF : RdT w AF F) (hS : RdT w AS S) (hR : RdI w AR R) (lFS : F.length + S.length ≤ 1048576) (lR : R.length ≤ 1048576)  :
    Calls Try.prog 79 #[.agg #[.slice AF F.length cF, .slice AS S.length cS, .slice AR R.length cR, .int .i64 t, .int .i64 u]] w fun e w' => e = .returned (.bool (smallB F S R t u)) ∧ Below w.heap.size w w' := by
  have conG := fun W (hb : Below w.heap.size w W) => c_implIsGame AF cF F AS cS S AR cR R t u W (hF.below hb) (hS.below hb) (hR.below hb) lFS lR
  unfold smallB
  clear hF hS hR
  cases hg : gameB F S R t u
  · simp only [hg] at conG
    clear hg
    rw [Bool.false_and]
    go_enter Try.func79, Try.ntmps79
    go_wp2_with fail
    obtain ⟨w0, hw0⟩ : ∃ w0, w0 = w.alloc (.cells #[.slice AF F.length cF, .slice AS S.length cS, .slice AR R.length cR, .int .i64 t, .int .i64 u] 31) := ⟨_, rfl⟩
    rw [← hw0]
    have ba0 : BoxAt w0 w.heap.size (.slice AF F.length cF) (.slice AS S.length cS) (.slice AR R.length cR) (.int .i64 t) (.int .i64 u) := by rw [hw0]; exact BoxAt.fresh w _ _ _ _ _ _
    have hb0 : Below w.heap.size w w0 := by rw [hw0]; go_grown
    clear hw0
    refine (conG w0 hb0).mono ?_
    rintro e w1 ⟨rfl, h1⟩
    have hb1 := bstep hb0 h1
    have ba1 := ba0.keep h1
    clear ba0
    have x0 := ba1.c0
    have x1 := ba1.c1
    have x2 := ba1.c2
    have x3 := ba1.c3
    have x4 := ba1.c4
    clear conG
    go_wp2
    go_ret
    exact ⟨rfl, hb1⟩
  · simp only [hg] at conG
    clear hg
    rw [Bool.true_and]
    have ew : IntKind.i64.wrap ((F.length : Int) + (S.length : Int)) = (F.length : Int) + (S.length : Int) := IntWalk.i64_in _ (by omega)
    by_cases h8 : F.length + S.length ≤ 8
    · have e8 : ((F.length : Int) + (S.length : Int)) ≤ 8 := by omega
      have d8 : decide (((F.length : Int) + (S.length : Int)) ≤ 8) = true := decide_eq_true e8
      rw [decide_eq_true h8]
      go_enter Try.func79, Try.ntmps79
      go_wp2_with fail
      obtain ⟨w0, hw0⟩ : ∃ w0, w0 = w.alloc (.cells #[.slice AF F.length cF, .slice AS S.length cS, .slice AR R.length cR, .int .i64 t, .int .i64 u] 31) := ⟨_, rfl⟩
      rw [← hw0]
      have ba0 : BoxAt w0 w.heap.size (.slice AF F.length cF) (.slice AS S.length cS) (.slice AR R.length cR) (.int .i64 t) (.int .i64 u) := by rw [hw0]; exact BoxAt.fresh w _ _ _ _ _ _
      have hb0 : Below w.heap.size w w0 := by rw [hw0]; go_grown
      clear hw0
      refine (conG w0 hb0).mono ?_
      rintro e w1 ⟨rfl, h1⟩
      have hb1 := bstep hb0 h1
      have ba1 := ba0.keep h1
      clear ba0
      have x0 := ba1.c0
      have x1 := ba1.c1
      have x2 := ba1.c2
      have x3 := ba1.c3
      have x4 := ba1.c4
      clear conG h8
      go_wp2
      go_ret
      exact ⟨rfl, hb1⟩
    · have e8 : ¬ ((F.length : Int) + (S.length : Int)) ≤ 8 := by omega
      have d8 : decide (((F.length : Int) + (S.length : Int)) ≤ 8) = false := decide_eq_false e8
      rw [decide_eq_false h8]
      go_enter Try.func79, Try.ntmps79
      go_wp2_with fail
      obtain ⟨w0, hw0⟩ : ∃ w0, w0 = w.alloc (.cells #[.slice AF F.length cF, .slice AS S.length cS, .slice AR R.length cR, .int .i64 t, .int .i64 u] 31) := ⟨_, rfl⟩
      rw [← hw0]
      have ba0 : BoxAt w0 w.heap.size (.slice AF F.length cF) (.slice AS S.length cS) (.slice AR R.length cR) (.int .i64 t) (.int .i64 u) := by rw [hw0]; exact BoxAt.fresh w _ _ _ _ _ _
      have hb0 : Below w.heap.size w w0 := by rw [hw0]; go_grown
      clear hw0
      refine (conG w0 hb0).mono ?_
      rintro e w1 ⟨rfl, h1⟩
      have hb1 := bstep hb0 h1
      have ba1 := ba0.keep h1
      clear ba0
      have x0 := ba1.c0
      have x1 := ba1.c1
      have x2 := ba1.c2
      have x3 := ba1.c3
      have x4 := ba1.c4
      clear conG h8
      go_wp2
      go_ret
      exact ⟨rfl, hb1⟩

set_option maxRecDepth 100000 in
set_option maxHeartbeats 1000000 in
theorem c_plSmall (AF : Option Addr) (cF : Nat) (F : List (Int × Int)) (AS : Option Addr) (cS : Nat) (S : List (Int × Int)) (AR : Option Addr) (cR : Nat) (R : List Int) (t u : Int) (w : World) (hF : RdT w AF F) (hS : RdT w AS S) (hR : RdI w AR R) (lFS : F.length + S.length ≤ 1048576) (lR : R.length ≤ 1048576) (kF : F.length ≤ cF) (kS : S.length ≤ cS) :
    Calls Try.prog 36 #[.agg #[.slice AF F.length cF, .slice AS S.length cS, .slice AR R.length cR, .int .i64 t, .int .i64 u]] w fun e w' => e = .returned (.bool (smallB F S R t u)) ∧ Below w.heap.size w w' := by
  have conG := fun W (hb : Below w.heap.size w W) => c_plGood AF cF F AS cS S AR cR R t u W (hF.below hb) (hS.below hb) (hR.below hb) (by omega) (by omega) lR kF kS
  unfold smallB
  clear hF hS hR
  cases hg : gameB F S R t u
  · simp only [hg] at conG
    clear hg
    rw [Bool.false_and]
    go_enter Try.func36, Try.ntmps36
    go_wp2_with fail
    obtain ⟨w0, hw0⟩ : ∃ w0, w0 = w.alloc (.cells #[.slice AF F.length cF, .slice AS S.length cS, .slice AR R.length cR, .int .i64 t, .int .i64 u] 31) := ⟨_, rfl⟩
    rw [← hw0]
    have ba0 : BoxAt w0 w.heap.size (.slice AF F.length cF) (.slice AS S.length cS) (.slice AR R.length cR) (.int .i64 t) (.int .i64 u) := by rw [hw0]; exact BoxAt.fresh w _ _ _ _ _ _
    have hb0 : Below w.heap.size w w0 := by rw [hw0]; go_grown
    clear hw0
    refine (conG w0 hb0).mono ?_
    rintro e w1 ⟨rfl, h1⟩
    have hb1 := bstep hb0 h1
    have ba1 := ba0.keep h1
    clear ba0
    have x0 := ba1.c0
    have x1 := ba1.c1
    have x2 := ba1.c2
    have x3 := ba1.c3
    have x4 := ba1.c4
    clear conG
    go_wp2
    go_ret
    exact ⟨rfl, hb1⟩
  · simp only [hg] at conG
    clear hg
    rw [Bool.true_and]
    have ew : IntKind.i64.wrap ((F.length : Int) + (S.length : Int)) = (F.length : Int) + (S.length : Int) := IntWalk.i64_in _ (by omega)
    by_cases h8 : F.length + S.length ≤ 8
    · have e8 : ((F.length : Int) + (S.length : Int)) ≤ 8 := by omega
      have d8 : decide (((F.length : Int) + (S.length : Int)) ≤ 8) = true := decide_eq_true e8
      rw [decide_eq_true h8]
      go_enter Try.func36, Try.ntmps36
      go_wp2_with fail
      obtain ⟨w0, hw0⟩ : ∃ w0, w0 = w.alloc (.cells #[.slice AF F.length cF, .slice AS S.length cS, .slice AR R.length cR, .int .i64 t, .int .i64 u] 31) := ⟨_, rfl⟩
      rw [← hw0]
      have ba0 : BoxAt w0 w.heap.size (.slice AF F.length cF) (.slice AS S.length cS) (.slice AR R.length cR) (.int .i64 t) (.int .i64 u) := by rw [hw0]; exact BoxAt.fresh w _ _ _ _ _ _
      have hb0 : Below w.heap.size w w0 := by rw [hw0]; go_grown
      clear hw0
      refine (conG w0 hb0).mono ?_
      rintro e w1 ⟨rfl, h1⟩
      have hb1 := bstep hb0 h1
      have ba1 := ba0.keep h1
      clear ba0
      have x0 := ba1.c0
      have x1 := ba1.c1
      have x2 := ba1.c2
      have x3 := ba1.c3
      have x4 := ba1.c4
      clear conG h8
      go_wp2
      go_ret
      exact ⟨rfl, hb1⟩
    · have e8 : ¬ ((F.length : Int) + (S.length : Int)) ≤ 8 := by omega
      have d8 : decide (((F.length : Int) + (S.length : Int)) ≤ 8) = false := decide_eq_false e8
      rw [decide_eq_false h8]
      go_enter Try.func36, Try.ntmps36
      go_wp2_with fail
      obtain ⟨w0, hw0⟩ : ∃ w0, w0 = w.alloc (.cells #[.slice AF F.length cF, .slice AS S.length cS, .slice AR R.length cR, .int .i64 t, .int .i64 u] 31) := ⟨_, rfl⟩
      rw [← hw0]
      have ba0 : BoxAt w0 w.heap.size (.slice AF F.length cF) (.slice AS S.length cS) (.slice AR R.length cR) (.int .i64 t) (.int .i64 u) := by rw [hw0]; exact BoxAt.fresh w _ _ _ _ _ _
      have hb0 : Below w.heap.size w w0 := by rw [hw0]; go_grown
      clear hw0
      refine (conG w0 hb0).mono ?_
      rintro e w1 ⟨rfl, h1⟩
      have hb1 := bstep hb0 h1
      have ba1 := ba0.keep h1
      clear ba0
      have x0 := ba1.c0
      have x1 := ba1.c1
      have x2 := ba1.c2
      have x3 := ba1.c3
      have x4 := ba1.c4
      clear conG h8
      go_wp2
      go_ret
      exact ⟨rfl, hb1⟩

set_option maxRecDepth 100000 in
set_option maxHeartbeats 1000000 in
theorem c_specCount (mk : MakeP) (AF : Option Addr) (cF : Nat) (F : List (Int × Int)) (AS : Option Addr) (cS : Nat) (S : List (Int × Int)) (AR : Option Addr) (cR : Nat) (R : List Int) (t u : Int) (w : World) (hF : RdT w AF F) (hS : RdT w AS S) (hR : RdI w AR R) (lFS : F.length + S.length ≤ 1048576) (lR : R.length ≤ 1048576) (kF : F.length ≤ cF) (kS : S.length ≤ cS) :
    Calls Try.prog 10 #[.agg #[.slice AF F.length cF, .slice AS S.length cS, .slice AR R.length cR, .int .i64 t, .int .i64 u]] w fun e w' => e = .returned (.tuple #[.int .i64 (cntV F S R t u), .bool (smallB F S R t u)]) ∧ Below w.heap.size w w' := by
  have conG := fun W (hb : Below w.heap.size w W) => c_plSmall AF cF F AS cS S AR cR R t u W (hF.below hb) (hS.below hb) (hR.below hb) lFS lR kF kS
  have conC := fun (h : smallB F S R t u = true) W (hb : Below w.heap.size w W) => c_plCount mk 27 AF cF F AS cS S AR cR R t u W (hF.below hb) (hS.below hb) (hR.below hb) (small_siz h).1 (small_siz h).2 (by omega)
  clear hF hS hR mk
  unfold cntV
  cases hg : smallB F S R t u
  · simp only [hg] at conG
    rw [if_neg (by simp)]
    clear hg conC
    go_enter Try.func10, Try.ntmps10
    go_wp2_with fail
    obtain ⟨w0, hw0⟩ : ∃ w0, w0 = w.alloc (.cells #[.slice AF F.length cF, .slice AS S.length cS, .slice AR R.length cR, .int .i64 t, .int .i64 u] 31) := ⟨_, rfl⟩
    rw [← hw0]
    have ba0 : BoxAt w0 w.heap.size (.slice AF F.length cF) (.slice AS S.length cS) (.slice AR R.length cR) (.int .i64 t) (.int .i64 u) := by rw [hw0]; exact BoxAt.fresh w _ _ _ _ _ _
    have hb0 : Below w.heap.size w w0 := by rw [hw0]; go_grown
    clear hw0
    refine (conG w0 hb0).mono ?_
    rintro e w1 ⟨rfl, h1⟩
    have hb1 := bstep hb0 h1
    have ba1 := ba0.keep h1
    clear ba0
    have x0 := ba1.c0
    have x1 := ba1.c1
    have x2 := ba1.c2
    have x3 := ba1.c3
    have x4 := ba1.c4
    clear conG
    go_wp2
    go_ret2
    exact ⟨rfl, hb1⟩
  · simp only [hg] at conG
    rw [if_pos rfl]
    have ConC := Lib.hid (conC hg)
    clear hg conC
    go_enter Try.func10, Try.ntmps10
    go_wp2_with fail
    obtain ⟨w0, hw0⟩ : ∃ w0, w0 = w.alloc (.cells #[.slice AF F.length cF, .slice AS S.length cS, .slice AR R.length cR, .int .i64 t, .int .i64 u] 31) := ⟨_, rfl⟩
    rw [← hw0]
    have ba0 : BoxAt w0 w.heap.size (.slice AF F.length cF) (.slice AS S.length cS) (.slice AR R.length cR) (.int .i64 t) (.int .i64 u) := by rw [hw0]; exact BoxAt.fresh w _ _ _ _ _ _
    have hb0 : Below w.heap.size w w0 := by rw [hw0]; go_grown
    clear hw0
    refine (conG w0 hb0).mono ?_
    rintro e w1 ⟨rfl, h1⟩
    have hb1 := bstep hb0 h1
    have ba1 := ba0.keep h1
    clear ba0
    have x0 := ba1.c0
    have x1 := ba1.c1
    have x2 := ba1.c2
    have x3 := ba1.c3
    have x4 := ba1.c4
    clear conG
    go_wp2_with fail
    refine (ConC.out w1 hb1).mono ?_
    rintro e w2 ⟨rfl, h2⟩
    go_wp2
    go_ret2
    exact ⟨rfl, bstep hb1 h2⟩

set_option maxRecDepth 100000 in
set_option maxHeartbeats 1000000 in
theorem c_specLongest (mk : MakeP) (AF : Option Addr) (cF : Nat) (F : List (Int × Int)) (AS : Option Addr) (cS : Nat) (S : List (Int × Int)) (AR : Option Addr) (cR : Nat) (R : List Int) (t u : Int) (w : World) (hF : RdT w AF F) (hS : RdT w AS S) (hR : RdI w AR R) (lFS : F.length + S.length ≤ 1048576) (lR : R.length ≤ 1048576) (kF : F.length ≤ cF) (kS : S.length ≤ cS) :
    Calls Try.prog 14 #[.agg #[.slice AF F.length cF, .slice AS S.length cS, .slice AR R.length cR, .int .i64 t, .int .i64 u]] w fun e w' => e = .returned (.tuple #[.int .i64 (lngV F S R t u), .bool (smallB F S R t u)]) ∧ Below w.heap.size w w' := by
  have conG := fun W (hb : Below w.heap.size w W) => c_plSmall AF cF F AS cS S AR cR R t u W (hF.below hb) (hS.below hb) (hR.below hb) lFS lR kF kS
  have conC := fun (h : smallB F S R t u = true) W (hb : Below w.heap.size w W) => c_plCount mk 27 AF cF F AS cS S AR cR R t u W (hF.below hb) (hS.below hb) (hR.below hb) (small_siz h).1 (small_siz h).2 (by omega)
  clear hF hS hR mk
  unfold lngV
  cases hg : smallB F S R t u
  · simp only [hg] at conG
    rw [if_neg (by simp)]
    clear hg conC
    go_enter Try.func14, Try.ntmps14
    go_wp2_with fail
    obtain ⟨w0, hw0⟩ : ∃ w0, w0 = w.alloc (.cells #[.slice AF F.length cF, .slice AS S.length cS, .slice AR R.length cR, .int .i64 t, .int .i64 u] 31) := ⟨_, rfl⟩
    rw [← hw0]
    have ba0 : BoxAt w0 w.heap.size (.slice AF F.length cF) (.slice AS S.length cS) (.slice AR R.length cR) (.int .i64 t) (.int .i64 u) := by rw [hw0]; exact BoxAt.fresh w _ _ _ _ _ _
    have hb0 : Below w.heap.size w w0 := by rw [hw0]; go_grown
    clear hw0
    refine (conG w0 hb0).mono ?_
    rintro e w1 ⟨rfl, h1⟩
    have hb1 := bstep hb0 h1
    have ba1 := ba0.keep h1
    clear ba0
    have x0 := ba1.c0
    have x1 := ba1.c1
    have x2 := ba1.c2
    have x3 := ba1.c3
    have x4 := ba1.c4
    clear conG
    go_wp2
    go_ret2
    exact ⟨rfl, hb1⟩
  · simp only [hg] at conG
    rw [if_pos rfl]
    have ConC := Lib.hid (conC hg)
    clear hg conC
    go_enter Try.func14, Try.ntmps14
    go_wp2_with fail
    obtain ⟨w0, hw0⟩ : ∃ w0, w0 = w.alloc (.cells #[.slice AF F.length cF, .slice AS S.length cS, .slice AR R.length cR, .int .i64 t, .int .i64 u] 31) := ⟨_, rfl⟩
    rw [← hw0]
    have ba0 : BoxAt w0 w.heap.size (.slice AF F.length cF) (.slice AS S.length cS) (.slice AR R.length cR) (.int .i64 t) (.int .i64 u) := by rw [hw0]; exact BoxAt.fresh w _ _ _ _ _ _
    have hb0 : Below w.heap.size w w0 := by rw [hw0]; go_grown
    clear hw0
    refine (conG w0 hb0).mono ?_
    rintro e w1 ⟨rfl, h1⟩
    have hb1 := bstep hb0 h1
    have ba1 := ba0.keep h1
    clear ba0
    have x0 := ba1.c0
    have x1 := ba1.c1
    have x2 := ba1.c2
    have x3 := ba1.c3
    have x4 := ba1.c4
    clear conG
    go_wp2_with fail
    refine (ConC.out w1 hb1).mono ?_
    rintro e w2 ⟨rfl, h2⟩
    go_wp2
    go_ret2
    exact ⟨rfl, bstep hb1 h2⟩

set_option maxRecDepth 100000 in
set_option maxHeartbeats 1000000 in
theorem c_implCount_tell (AF : Option Addr) (cF : Nat) (F : List (Int × Int)) (AS : Option Addr) (cS : Nat) (S : List (Int × Int)) (AR : Option Addr) (cR : Nat) (R : List Int) (t u : Int) (w : World) (hF : RdT w AF F) (hS : RdT w AS S) (hR : RdI w AR R) (lFS : F.length + S.length ≤ 1048576) (lR : R.length ≤ 1048576) :
    Calls Try.prog 39 #[.agg #[.slice AF F.length cF, .slice AS S.length cS, .slice AR R.length cR, .int .i64 t, .int .i64 u], .func (.func 40) #[] #[]] w fun e w' => e = .returned (.tuple #[.int .i64 (cntV F S R t u), .bool (smallB F S R t u)]) ∧ Below w.heap.size w w' := by
  have conG := fun W (hb : Below w.heap.size w W) => c_isHeld AF cF F AS cS S AR cR R t u W (hF.below hb) (hS.below hb) (hR.below hb) lFS lR
  have conC := fun (h : smallB F S R t u = true) W (hb : Below w.heap.size w W) => c_countGames 27 AF cF F AS cS S AR cR R t u W (hF.below hb) (hS.below hb) (hR.below hb) (small_siz h).1 (small_siz h).2 (by omega)
  clear hF hS hR
  unfold cntV
  cases hg : smallB F S R t u
  · simp only [hg] at conG
    rw [if_neg (by simp)]
    clear hg conC
    go_enter Try.func39, Try.ntmps39
    go_wp2_with fail
    obtain ⟨w0, hw0⟩ : ∃ w0, w0 = w.alloc (.cells #[.slice AF F.length cF, .slice AS S.length cS, .slice AR R.length cR, .int .i64 t, .int .i64 u] 31) := ⟨_, rfl⟩
    rw [← hw0]
    have ba0 : BoxAt w0 w.heap.size (.slice AF F.length cF) (.slice AS S.length cS) (.slice AR R.length cR) (.int .i64 t) (.int .i64 u) := by rw [hw0]; exact BoxAt.fresh w _ _ _ _ _ _
    have hb0 : Below w.heap.size w w0 := by rw [hw0]; go_grown
    clear hw0
    refine (conG w0 hb0).mono ?_
    rintro e w1 ⟨rfl, h1⟩
    have hb1 := bstep hb0 h1
    have ba1 := ba0.keep h1
    clear ba0
    have x0 := ba1.c0
    have x1 := ba1.c1
    have x2 := ba1.c2
    have x3 := ba1.c3
    have x4 := ba1.c4
    clear conG
    go_wp2
    go_ret2
    exact ⟨rfl, hb1⟩
  · simp only [hg] at conG
    rw [if_pos rfl]
    have ConC := Lib.hid (conC hg)
    clear hg conC
    go_enter Try.func39, Try.ntmps39
    go_wp2_with fail
    obtain ⟨w0, hw0⟩ : ∃ w0, w0 = w.alloc (.cells #[.slice AF F.length cF, .slice AS S.length cS, .slice AR R.length cR, .int .i64 t, .int .i64 u] 31) := ⟨_, rfl⟩
    rw [← hw0]
    have ba0 : BoxAt w0 w.heap.size (.slice AF F.length cF) (.slice AS S.length cS) (.slice AR R.length cR) (.int .i64 t) (.int .i64 u) := by rw [hw0]; exact BoxAt.fresh w _ _ _ _ _ _
    have hb0 : Below w.heap.size w w0 := by rw [hw0]; go_grown
    clear hw0
    refine (conG w0 hb0).mono ?_
    rintro e w1 ⟨rfl, h1⟩
    have hb1 := bstep hb0 h1
    have ba1 := ba0.keep h1
    clear ba0
    have x0 := ba1.c0
    have x1 := ba1.c1
    have x2 := ba1.c2
    have x3 := ba1.c3
    have x4 := ba1.c4
    clear conG
    go_wp2_with (go_at_call 40; refine (ConC.out w1 hb1).mono ?_; rintro e w2 ⟨rfl, h2⟩)
    go_ret2
    exact ⟨rfl, bstep hb1 h2⟩

set_option maxRecDepth 100000 in
set_option maxHeartbeats 1000000 in
theorem c_implCount (AF : Option Addr) (cF : Nat) (F : List (Int × Int)) (AS : Option Addr) (cS : Nat) (S : List (Int × Int)) (AR : Option Addr) (cR : Nat) (R : List Int) (t u : Int) (w : World) (hF : RdT w AF F) (hS : RdT w AS S) (hR : RdI w AR R) (lFS : F.length + S.length ≤ 1048576) (lR : R.length ≤ 1048576) :
    Calls Try.prog 12 #[.agg #[.slice AF F.length cF, .slice AS S.length cS, .slice AR R.length cR, .int .i64 t, .int .i64 u]] w fun e w' => e = .returned (.tuple #[.int .i64 (cntV F S R t u), .bool (smallB F S R t u)]) ∧ Below w.heap.size w w' := by
  have con := fun W (hb : Below w.heap.size w W) => c_implCount_tell AF cF F AS cS S AR cR R t u W (hF.below hb) (hS.below hb) (hR.below hb) lFS lR
  clear hF hS hR
  generalize cntV F S R t u = v at *
  generalize smallB F S R t u = q at *
  go_enter Try.func12, Try.ntmps12
  go_wp2_with fail
  obtain ⟨w0, hw0⟩ : ∃ w0, w0 = w.alloc (.cells #[.slice AF F.length cF, .slice AS S.length cS, .slice AR R.length cR, .int .i64 t, .int .i64 u] 31) := ⟨_, rfl⟩
  rw [← hw0]
  have ba0 : BoxAt w0 w.heap.size (.slice AF F.length cF) (.slice AS S.length cS) (.slice AR R.length cR) (.int .i64 t) (.int .i64 u) := by rw [hw0]; exact BoxAt.fresh w _ _ _ _ _ _
  have hb0 : Below w.heap.size w w0 := by rw [hw0]; go_grown
  clear hw0
  refine (con w0 hb0).mono ?_
  rintro e w1 ⟨rfl, h1⟩
  go_wp2
  go_ret2
  exact ⟨rfl, bstep hb0 h1⟩

set_option maxRecDepth 100000 in
set_option maxHeartbeats 1000000 in
theorem c_implLongest_tell (AF : Option Addr) (cF : Nat) (F : List (Int × Int)) (AS : Option Addr) (cS : Nat) (S : List (Int × Int)) (AR : Option Addr) (cR : Nat) (R : List Int) (t u : Int) (w : World) (hF : RdT w AF F) (hS : RdT w AS S) (hR : RdI w AR R) (lFS : F.length + S.length ≤ 1048576) (lR : R.length ≤ 1048576) :
    Calls Try.prog 39 #[.agg #[.slice AF F.length cF, .slice AS S.length cS, .slice AR R.length cR, .int .i64 t, .int .i64 u], .func (.func 42) #[] #[]] w fun e w' => e = .returned (.tuple #[.int .i64 (lngV F S R t u), .bool (smallB F S R t u)]) ∧ Below w.heap.size w w' := by
  have conG := fun W (hb : Below w.heap.size w W) => c_isHeld AF cF F AS cS S AR cR R t u W (hF.below hb) (hS.below hb) (hR.below hb) lFS lR
  have conC := fun (h : smallB F S R t u = true) W (hb : Below w.heap.size w W) => c_longest 27 AF cF F AS cS S AR cR R t u W (hF.below hb) (hS.below hb) (hR.below hb) (small_siz h).1 (small_siz h).2 (by omega)
  clear hF hS hR
  unfold lngV
  cases hg : smallB F S R t u
  · simp only [hg] at conG
    rw [if_neg (by simp)]
    clear hg conC
    go_enter Try.func39, Try.ntmps39
    go_wp2_with fail
    obtain ⟨w0, hw0⟩ : ∃ w0, w0 = w.alloc (.cells #[.slice AF F.length cF, .slice AS S.length cS, .slice AR R.length cR, .int .i64 t, .int .i64 u] 31) := ⟨_, rfl⟩
    rw [← hw0]
    have ba0 : BoxAt w0 w.heap.size (.slice AF F.length cF) (.slice AS S.length cS) (.slice AR R.length cR) (.int .i64 t) (.int .i64 u) := by rw [hw0]; exact BoxAt.fresh w _ _ _ _ _ _
    have hb0 : Below w.heap.size w w0 := by rw [hw0]; go_grown
    clear hw0
    refine (conG w0 hb0).mono ?_
    rintro e w1 ⟨rfl, h1⟩
    have hb1 := bstep hb0 h1
    have ba1 := ba0.keep h1
    clear ba0
    have x0 := ba1.c0
    have x1 := ba1.c1
    have x2 := ba1.c2
    have x3 := ba1.c3
    have x4 := ba1.c4
    clear conG
    go_wp2
    go_ret2
    exact ⟨rfl, hb1⟩
  · simp only [hg] at conG
    rw [if_pos rfl]
    have ConC := Lib.hid (conC hg)
    clear hg conC
    go_enter Try.func39, Try.ntmps39
    go_wp2_with fail
    obtain ⟨w0, hw0⟩ : ∃ w0, w0 = w.alloc (.cells #[.slice AF F.length cF, .slice AS S.length cS, .slice AR R.length cR, .int .i64 t, .int .i64 u] 31) := ⟨_, rfl⟩
    rw [← hw0]
    have ba0 : BoxAt w0 w.heap.size (.slice AF F.length cF) (.slice AS S.length cS) (.slice AR R.length cR) (.int .i64 t) (.int .i64 u) := by rw [hw0]; exact BoxAt.fresh w _ _ _ _ _ _
    have hb0 : Below w.heap.size w w0 := by rw [hw0]; go_grown
    clear hw0
    refine (conG w0 hb0).mono ?_
    rintro e w1 ⟨rfl, h1⟩
    have hb1 := bstep hb0 h1
    have ba1 := ba0.keep h1
    clear ba0
    have x0 := ba1.c0
    have x1 := ba1.c1
    have x2 := ba1.c2
    have x3 := ba1.c3
    have x4 := ba1.c4
    clear conG
    go_wp2_with (go_at_call 42; refine (ConC.out w1 hb1).mono ?_; rintro e w2 ⟨rfl, h2⟩)
    go_ret2
    exact ⟨rfl, bstep hb1 h2⟩

set_option maxRecDepth 100000 in
set_option maxHeartbeats 1000000 in
theorem c_implLongest (AF : Option Addr) (cF : Nat) (F : List (Int × Int)) (AS : Option Addr) (cS : Nat) (S : List (Int × Int)) (AR : Option Addr) (cR : Nat) (R : List Int) (t u : Int) (w : World) (hF : RdT w AF F) (hS : RdT w AS S) (hR : RdI w AR R) (lFS : F.length + S.length ≤ 1048576) (lR : R.length ≤ 1048576) :
    Calls Try.prog 15 #[.agg #[.slice AF F.length cF, .slice AS S.length cS, .slice AR R.length cR, .int .i64 t, .int .i64 u]] w fun e w' => e = .returned (.tuple #[.int .i64 (lngV F S R t u), .bool (smallB F S R t u)]) ∧ Below w.heap.size w w' := by
  have con := fun W (hb : Below w.heap.size w W) => c_implLongest_tell AF cF F AS cS S AR cR R t u W (hF.below hb) (hS.below hb) (hR.below hb) lFS lR
  clear hF hS hR
  generalize lngV F S R t u = v at *
  generalize smallB F S R t u = q at *
  go_enter Try.func15, Try.ntmps15
  go_wp2_with fail
  obtain ⟨w0, hw0⟩ : ∃ w0, w0 = w.alloc (.cells #[.slice AF F.length cF, .slice AS S.length cS, .slice AR R.length cR, .int .i64 t, .int .i64 u] 31) := ⟨_, rfl⟩
  rw [← hw0]
  have ba0 : BoxAt w0 w.heap.size (.slice AF F.length cF) (.slice AS S.length cS) (.slice AR R.length cR) (.int .i64 t) (.int .i64 u) := by rw [hw0]; exact BoxAt.fresh w _ _ _ _ _ _
  have hb0 : Below w.heap.size w w0 := by rw [hw0]; go_grown
  clear hw0
  refine (con w0 hb0).mono ?_
  rintro e w1 ⟨rfl, h1⟩
  go_wp2
  go_ret2
  exact ⟨rfl, bstep hb0 h1⟩

end Go.Proofs.Ytgjdpiooocpmhab

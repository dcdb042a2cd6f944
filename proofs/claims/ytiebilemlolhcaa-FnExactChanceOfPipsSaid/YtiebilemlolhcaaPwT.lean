/- Hands counted by their pips: the specification's answers. -/
import Derived.Test.YtiebilemlolhcaaPwS
namespace Go.Proofs.Ytiebilemlolhcaa
open Go.RowKit Go.Maps Go.ChangeMaps
set_option linter.unusedVariables false

theorem withW_top {N K M : Nat} (hn : N ≤ 6) (hM : (M : Int) = psum (pipsAt (setL N)) (setL N).length) {p : Int} (hp : (M : Int) < p) : withW N K p = 0 := by
  unfold withW
  rcases Nat.eq_zero_or_pos (cw (pipsAt (setL N)) (setL N).length K p) with h | h
  · exact h
  · have := cw_in (setL N).length (fun j _ => ((setL_small hn).pips j).1) K p h
    omega

set_option maxRecDepth 100000 in
set_option maxHeartbeats 1000000 in
theorem c_specCountWith (n k s : Int) (w : World) (lo0 : -9223372036854775808 ≤ n) (hi0 : n ≤ 9223372036854775807) (lo1 : -9223372036854775808 ≤ k) (hi1 : k ≤ 9223372036854775807) (lo2 : -9223372036854775808 ≤ s) (hi2 : s ≤ 9223372036854775807) :
    Calls Try.prog 5 #[.int .i64 n, .int .i64 k, .int .i64 s] w fun e w' => e = .returned (.tuple #[.int .i64 (mWith n k s), .bool (gWith n k s)]) ∧ Below w.heap.size w w' := by
  have con := fun W => c_dcGood n k W
  have Con1 := Lib.hid (fun W => c_l1In s 0 1000 W)
  cases hg : goodD n k
  · have eg : gWith n k s = false := by unfold gWith; rw [hg]; rfl
    have em : mWith n k s = 0 := by unfold mWith; rw [eg]; rfl
    rw [em, eg]
    rw [hg] at con
    have Con := Lib.hid con
    clear con hg em eg
    go_enter Try.func5, Try.ntmps5
    go_wp2_with (first | (go_at_call 10; refine (Con.out _).mono ?_; rintro e w' ⟨rfl, rfl⟩) | (go_at_call 11; refine (Con1.out _).mono ?_; rintro e w' ⟨rfl, rfl⟩))
    go_ret2
    exact ⟨rfl, Below.refl _ _⟩
  · obtain ⟨N, K, rfl, rfl, hn, hk⟩ := goodD_nat hg
    rw [hg] at con
    have Con := Lib.hid con
    clear con
    by_cases hs : 0 ≤ s ∧ s ≤ 1000
    · have eg : gWith (N : Int) (K : Int) s = true := by unfold gWith; rw [hg]; simp [hs]
      have em : mWith (N : Int) (K : Int) s = (withW N K s : Int) := by unfold mWith; rw [eg, if_pos rfl, Int.toNat_natCast, Int.toNat_natCast]
      rw [em, eg]
      obtain ⟨p, rfl⟩ : ∃ p : Nat, s = (p : Int) := ⟨s.toNat, by omega⟩
      have q1 : (0 : Int) ≤ (p : Int) := by omega
      have q2 : (p : Int) ≤ 1000 := hs.2
      have ConP := Lib.hid (fun W => c_dcPips N K W hn hk)
      clear hg em eg hs
      go_enter Try.func5, Try.ntmps5
      go_wp2_with (first | (go_at_call 10; refine (Con.out _).mono ?_; rintro e w' ⟨rfl, rfl⟩) | (go_at_call 11; refine (Con1.out _).mono ?_; rintro e w' ⟨rfl, rfl⟩))
      refine (ConP.out _).mono ?_
      rintro e w1 ⟨b, M, rfl, hM, hM1, hc, hb⟩
      have HMx := Lib.hid hM
      have Hc := Lib.hid hc
      clear hM hc
      by_cases hlt : p < M + 1
      · have c0 := Hc.out p (by omega)
        go_wp2
        go_ret2
        exact ⟨rfl, hb⟩
      · have ez := withW_top (K := K) (p := (p : Int)) hn HMx.out (by omega)
        have Hz := Lib.hid ez
        clear ez
        go_wp2
        go_ret2
        rw [Hz.out]
        exact ⟨rfl, hb⟩
    · have eg : gWith (N : Int) (K : Int) s = false := by unfold gWith; rw [hg]; simp; omega
      have em : mWith (N : Int) (K : Int) s = 0 := by unfold mWith; rw [eg]; rfl
      rw [em, eg]
      have Con2 := Con1.out
      have ef : (decide ((0 : Int) ≤ s) && decide (s ≤ 1000)) = false := by simp; omega
      rw [ef] at Con2
      have Con3 := Lib.hid Con2
      clear hg em eg hs ef Con2 Con1
      go_enter Try.func5, Try.ntmps5
      go_wp2_with (first | (go_at_call 10; refine (Con.out _).mono ?_; rintro e w' ⟨rfl, rfl⟩) | (go_at_call 11; refine (Con3.out _).mono ?_; rintro e w' ⟨rfl, rfl⟩))
      go_ret2
      exact ⟨rfl, Below.refl _ _⟩

set_option maxRecDepth 100000 in
set_option maxHeartbeats 1000000 in
theorem c_specChanceOfP (n k s : Int) (w : World) (lo0 : -9223372036854775808 ≤ n) (hi0 : n ≤ 9223372036854775807) (lo1 : -9223372036854775808 ≤ k) (hi1 : k ≤ 9223372036854775807) (lo2 : -9223372036854775808 ≤ s) (hi2 : s ≤ 9223372036854775807) :
    Calls Try.prog 7 #[.int .i64 n, .int .i64 k, .int .i64 s] w fun e w' => e = .returned (.tuple #[.agg #[.int .i64 (mWithR n k s).1, .int .i64 (mWithR n k s).2], .bool (gWith n k s)]) ∧ Below w.heap.size w w' := by
  have con := fun W => c_specCountWith n k s W lo0 hi0 lo1 hi1 lo2 hi2
  cases hg : gWith n k s
  · have em : mWithR n k s = (0, 0) := by unfold mWithR; rw [hg]; rfl
    rw [em]
    rw [hg] at con
    have Con := Lib.hid con
    clear con hg em
    go_enter Try.func7, Try.ntmps7
    go_wp2_with fail
    obtain ⟨w0, hw0⟩ : ∃ w0, w0 = w.alloc (.cells #[.int .i64 0, .int .i64 0] 26) := ⟨_, rfl⟩
    rw [← hw0]
    have x0 : Bx2 w0 w.heap.size (.int .i64 0) (.int .i64 0) := by rw [hw0]; exact Bx2.fresh _ _ _ _
    have hb0 : Below w.heap.size w w0 := by rw [hw0]; go_grown
    clear hw0
    refine (Con.out w0).mono ?_
    rintro e w1 ⟨rfl, h1⟩
    have x1 := x0.keep h1
    have hb1 := bstep hb0 h1
    have y0 := x1.c0
    have y1 := x1.c1
    have z0 := x1.fz 0
    have z1 := x1.fz 1
    go_wp2
    refine bodyPost_ret (v := .tuple #[.agg #[.int .i64 0, .int .i64 0], .bool false]) (by simp [results, Try.results7, go_sem, x1.c0, x1.c1]) rfl ⟨rfl, Bx2.stored hb1⟩
  · have hg' : goodD n k = true := by unfold gWith at hg; simp only [Bool.and_eq_true] at hg; exact hg.1
    obtain ⟨N, K, rfl, rfl, hn, hk⟩ := goodD_nat hg'
    have hT := tilesN_bd hn
    have em : mWith (N : Int) (K : Int) s = (withW N K s : Int) := by unfold mWith; rw [hg, if_pos rfl, Int.toNat_natCast, Int.toNat_natCast]
    have em3 : mWithR (N : Int) (K : Int) s = rat (withW N K s) (chV (tilesN N) K) := by unfold mWithR; rw [hg, Int.toNat_natCast, Int.toNat_natCast]; unfold ratV; rw [if_pos rfl]
    rw [em3]
    rw [hg, em] at con
    have Con := Lib.hid con
    have ConT := Lib.hid (fun W => c_dcTiles N hn W)
    have ConC := Lib.hid (fun W => c_dcChoose (tilesN N) _ (K : Int) W rfl hT.2.1 (by omega) (by omega))
    have ConR := Lib.hid (fun W => c_dcRatio (withW N K s) (chV (tilesN N) K) _ _ W rfl rfl (chT hn hk) (Nat.le_trans (withW_bd hn K s) (by omega)) (chL hT.2.1 K))
    clear con hg hg' em em3
    go_enter Try.func7, Try.ntmps7
    go_wp2_with fail
    obtain ⟨w0, hw0⟩ : ∃ w0, w0 = w.alloc (.cells #[.int .i64 0, .int .i64 0] 26) := ⟨_, rfl⟩
    rw [← hw0]
    have x0 : Bx2 w0 w.heap.size (.int .i64 0) (.int .i64 0) := by rw [hw0]; exact Bx2.fresh _ _ _ _
    have hb0 : Below w.heap.size w w0 := by rw [hw0]; go_grown
    clear hw0
    refine (Con.out w0).mono ?_
    rintro e w1 ⟨rfl, h1⟩
    have x1 := x0.keep h1
    have hb1 := bstep hb0 h1
    have y0 := x1.c0
    have y1 := x1.c1
    have z0 := x1.fz 0
    have z1 := x1.fz 1
    clear x0 hb0
    go_wp2_with (first | (go_at_call 17; refine (ConT.out _).mono ?_; rintro e w' ⟨rfl, rfl⟩) | (go_at_call 16; refine (ConC.out _).mono ?_; rintro e w' ⟨rfl, rfl⟩) | (go_at_call 15; refine (ConR.out _).mono ?_; rintro e w3 ⟨rfl, h3⟩; have x3 := x1.keep h3; have hb3 := bstep hb1 h3; have y30 := x3.c0; have y31 := x3.c1; have z30 := x3.fz 0; have z31 := x3.fz 1))
    refine bodyPost_ret (v := .tuple #[.agg #[.int .i64 (rat (withW N K s) (chV (tilesN N) K)).1, .int .i64 (rat (withW N K s) (chV (tilesN N) K)).2], .bool true]) (by simp [results, Try.results7, go_sem, x3.c0, x3.c1]) rfl ⟨rfl, Bx2.stored hb3⟩

end Go.Proofs.Ytiebilemlolhcaa

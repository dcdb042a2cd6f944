/- Hands counted by their pips: the program's answers. -/
import Derived.Test.YtiebilemlolhcaaPwI
namespace Go.Proofs.Ytiebilemlolhcaa
open Go.RowKit Go.Maps Go.ChangeMaps
set_option linter.unusedVariables false

theorem setL_small_all : ((List.range 7).all fun n => (setL n).all fun t => decide ((0 ≤ t.1 ∧ t.1 ≤ 6) ∧ (0 ≤ t.2 ∧ t.2 ≤ 6))) = true := by decide +kernel
theorem setL_small {n : Nat} (h : n ≤ 6) : SmallT (setL n) := fun t ht =>
  of_decide_eq_true (List.all_eq_true.1 (List.all_eq_true.1 setL_small_all n (List.mem_range.2 (by omega))) t ht)
def gWith (n k s : Int) : Bool := goodD n k && (decide (0 ≤ s) && decide (s ≤ 1000))
/-- How many hands of k tiles of the set of n have the pips p. -/
def withW (N K : Nat) (p : Int) : Nat := cw (pipsAt (setL N)) (setL N).length K p
theorem withW_bd {N : Nat} (h : N ≤ 6) (K : Nat) (p : Int) : withW N K p ≤ 268435456 := by
  have h1 := setL_tiles h
  have h2 := tilesN_bd h
  exact Nat.le_trans (cw_le _ _ _ _) (two_bd (by omega))
def mWith (n k s : Int) : Int := if gWith n k s then (withW n.toNat k.toNat s : Int) else 0
def mWithR (n k s : Int) : Int × Int := ratV (gWith n k s) (rat (withW n.toNat k.toNat s) (chV (tilesN n.toNat) k))

set_option maxRecDepth 100000 in
theorem c_waysByPips (A : Option Addr) (c K N : Nat) (w : World) (hn : N ≤ 6) (hk : K ≤ tilesN N) (hr : RdT w A (setL N)) :
    Calls Try.prog 14 #[.agg #[.slice A (tilesN N) c, .int .i64 K]] w fun e w' => ∃ b, e = .returned (.map (some b)) ∧ MI w' b (2 ^ (setL N).length) (withW N K) ∧ Below w.heap.size w w' := by
  have hT := tilesN_bd hn
  have hl := setL_tiles hn
  have con := fun W (hb : Below w.heap.size w W) => c_waysOf A c K (setL N) W (hr.below hb) (by omega) (by omega) (setL_small hn)
  rw [hl] at con
  have Con := Lib.hid con
  have Hl := Lib.hid hl
  clear con hr hl
  go_enter Try.func14, Try.ntmps14
  go_wp2_with fail
  have b0 : Below w.heap.size w (w.alloc (.cells #[.slice A (tilesN N) c, .int .i64 K] 35)) := (Below.refl _ _).alloc (Nat.le_refl _) _
  refine (Con.out _ b0).mono ?_
  rintro e w1 ⟨b, rfl, hm, h1⟩
  have hb1 := bstep b0 h1
  go_wp2
  go_ret
  refine ⟨b, rfl, ?_, hb1⟩
  rw [Hl.out]
  unfold withW
  rw [Hl.out]
  exact hm

set_option maxRecDepth 100000 in
set_option maxHeartbeats 1000000 in
theorem c_implCountWith (n k s : Int) (w : World) (lo0 : -9223372036854775808 ≤ n) (hi0 : n ≤ 9223372036854775807) (lo1 : -9223372036854775808 ≤ k) (hi1 : k ≤ 9223372036854775807) (lo2 : -9223372036854775808 ≤ s) (hi2 : s ≤ 9223372036854775807) :
    Calls Try.prog 6 #[.int .i64 n, .int .i64 k, .int .i64 s] w fun e w' => e = .returned (.tuple #[.int .i64 (mWith n k s), .bool (gWith n k s)]) ∧ Below w.heap.size w w' := by
  cases hg : goodD n k
  · have eg : gWith n k s = false := by unfold gWith; rw [hg]; rfl
    have em : mWith n k s = 0 := by unfold mWith; rw [eg]; rfl
    rw [em, eg]
    have con := fun W => c_drawOfNot n k W hg
    have Con := Lib.hid con
    clear con hg em eg
    go_enter Try.func6, Try.ntmps6
    go_wp2_with fail
    refine (Con.out w).mono ?_
    rintro e w1 ⟨rfl, h1⟩
    go_upto_region 2 with (fail)
    obtain ⟨w2, hw2⟩ : ∃ w2, w2 = w1.alloc (.cells #[.slice none 0 0, .int .i64 0] 35) := ⟨_, rfl⟩
    rw [← hw2]
    have h2 : Below w1.heap.size w1 w2 := by rw [hw2]; exact (Below.refl _ _).alloc (Nat.le_refl _) _
    have hb2 := bstep h1 h2
    clear hw2
    go_wp2
    go_ret2
    exact ⟨rfl, hb2⟩
  · obtain ⟨N, K, rfl, rfl, hn, hk⟩ := goodD_nat hg
    have hT := tilesN_bd hn
    by_cases hs : 0 ≤ s ∧ s ≤ 1000
    · have eg : gWith (N : Int) (K : Int) s = true := by unfold gWith; rw [hg]; simp [hs]
      have em : mWith (N : Int) (K : Int) s = (withW N K s : Int) := by unfold mWith; rw [eg, if_pos rfl, Int.toNat_natCast, Int.toNat_natCast]
      rw [em, eg]
      obtain ⟨s0, s1⟩ := hs
      have q1 : ¬ s < 0 := by omega
      have q2 : ¬ 1000 < s := by omega
      clear hg em eg
      go_enter Try.func6, Try.ntmps6
      go_wp2_with fail
      refine (c_drawOf N K w hn hk).mono ?_
      rintro e w1 ⟨A, c, rfl, hr, h1⟩
      have Hr := Lib.hid hr
      clear hr
      go_upto_region 2 with (fail)
      obtain ⟨w2, hw2⟩ : ∃ w2, w2 = w1.alloc (.cells #[.slice A (tilesN N) c, .int .i64 K] 35) := ⟨_, rfl⟩
      rw [← hw2]
      have d2 : Bx2 w2 w1.heap.size (.slice A (tilesN N) c) (.int .i64 K) := by rw [hw2]; exact Bx2.fresh _ _ _ _
      have h2 : Below w1.heap.size w1 w2 := by rw [hw2]; exact (Below.refl _ _).alloc (Nat.le_refl _) _
      have hb2 := bstep h1 h2
      have Con := Lib.hid (c_waysByPips A c K N w2 hn hk (Hr.out.below h2))
      have d0 := d2.c0
      have d1 := d2.c1
      have hs1 := d2.lt
      clear hw2
      go_wp2_with fail
      refine Con.out.mono ?_
      rintro e w3 ⟨b, rfl, hm, h3⟩
      have Hm := Lib.hid hm
      have hb3 := bstep hb2 h3
      clear hm
      go_wp2_with (at_lookup; refine wp_mi_look rfl _ _ rfl b _ _ rfl Hm.out s rfl (WalkArith.wf_i64 (by omega)) ?_)
      go_ret2
      exact ⟨rfl, hb3⟩
    · have eg : gWith (N : Int) (K : Int) s = false := by unfold gWith; rw [hg]; simp; omega
      have em : mWith (N : Int) (K : Int) s = 0 := by unfold mWith; rw [eg]; rfl
      rw [em, eg]
      clear hg em eg
      have Hs := Lib.hid hs
      clear hs
      go_enter Try.func6, Try.ntmps6
      go_wp2_with fail
      refine (c_drawOf N K w hn hk).mono ?_
      rintro e w1 ⟨A, c, rfl, hr, h1⟩
      clear hr
      go_upto_region 2 with (fail)
      obtain ⟨w2, hw2⟩ : ∃ w2, w2 = w1.alloc (.cells #[.slice A (tilesN N) c, .int .i64 K] 35) := ⟨_, rfl⟩
      rw [← hw2]
      have h2 : Below w1.heap.size w1 w2 := by rw [hw2]; exact (Below.refl _ _).alloc (Nat.le_refl _) _
      have hb2 := bstep h1 h2
      clear hw2
      by_cases q1 : s < 0
      · go_wp2
        go_ret2
        exact ⟨rfl, hb2⟩
      · have q2 : 1000 < s := by have := Hs.out; omega
        go_wp2
        go_ret2
        exact ⟨rfl, hb2⟩

set_option maxRecDepth 100000 in
set_option maxHeartbeats 1000000 in
theorem c_implChanceOfP (n k s : Int) (w : World) (lo0 : -9223372036854775808 ≤ n) (hi0 : n ≤ 9223372036854775807) (lo1 : -9223372036854775808 ≤ k) (hi1 : k ≤ 9223372036854775807) (lo2 : -9223372036854775808 ≤ s) (hi2 : s ≤ 9223372036854775807) :
    Calls Try.prog 8 #[.int .i64 n, .int .i64 k, .int .i64 s] w fun e w' => e = .returned (.tuple #[.agg #[.int .i64 (mWithR n k s).1, .int .i64 (mWithR n k s).2], .bool (gWith n k s)]) ∧ Below w.heap.size w w' := by
  have con := fun W => c_implCountWith n k s W lo0 hi0 lo1 hi1 lo2 hi2
  have conH := fun W => c_implCountHands n k W lo0 hi0 lo1 hi1
  cases hg : gWith n k s
  · have em : mWithR n k s = (0, 0) := by unfold mWithR; rw [hg]; rfl
    rw [em]
    rw [hg] at con
    have Con := Lib.hid con
    clear con conH hg em
    go_enter Try.func8, Try.ntmps8
    go_wp2_with fail
    obtain ⟨w0, hw0⟩ : ∃ w0, w0 = w.alloc (.cells #[.int .i64 0, .int .i64 0] 26) := ⟨_, rfl⟩
    rw [← hw0]
    have x0 : Bx2 w0 w.heap.size (.int .i64 0) (.int .i64 0) := by rw [hw0]; exact Bx2.fresh _ _ _ _
    have hb0 : Below w.heap.size w w0 := by rw [hw0]; go_grown
    clear hw0
    refine (Con.out w0).mono ?_
    rintro e w1 ⟨rfl, h1⟩
    have x1 := x0.keep h1
    have hb1 := bstep hb0 h1
    have y0 := x1.c0
    have y1 := x1.c1
    have z0 := x1.fz 0
    have z1 := x1.fz 1
    go_wp2
    refine bodyPost_ret (v := .tuple #[.agg #[.int .i64 0, .int .i64 0], .bool false]) (by simp [results, Try.results8, go_sem, x1.c0, x1.c1]) rfl ⟨rfl, Bx2.stored hb1⟩
  · have hg' : goodD n k = true := by unfold gWith at hg; simp only [Bool.and_eq_true] at hg; exact hg.1
    obtain ⟨N, K, rfl, rfl, hn, hk⟩ := goodD_nat hg'
    have hT := tilesN_bd hn
    have em : mWith (N : Int) (K : Int) s = (withW N K s : Int) := by unfold mWith; rw [hg, if_pos rfl, Int.toNat_natCast, Int.toNat_natCast]
    have em2 : mCount (N : Int) (K : Int) = (chV (tilesN N) K : Int) := by unfold mCount; rw [hg']; rfl
    have em3 : mWithR (N : Int) (K : Int) s = rat (withW N K s) (chV (tilesN N) K) := by unfold mWithR; rw [hg, Int.toNat_natCast, Int.toNat_natCast]; unfold ratV; rw [if_pos rfl]
    rw [em3]
    rw [hg, em] at con
    rw [hg', em2] at conH
    have Con := Lib.hid con
    have ConH := Lib.hid conH
    have ConR := Lib.hid (fun W => c_ratioOf (withW N K s) (chV (tilesN N) K) _ _ W rfl rfl (chT hn hk) (Nat.le_trans (withW_bd hn K s) (by omega)) (chL hT.2.1 K))
    clear con conH hg hg' em em2 em3
    go_enter Try.func8, Try.ntmps8
    go_wp2_with fail
    obtain ⟨w0, hw0⟩ : ∃ w0, w0 = w.alloc (.cells #[.int .i64 0, .int .i64 0] 26) := ⟨_, rfl⟩
    rw [← hw0]
    have x0 : Bx2 w0 w.heap.size (.int .i64 0) (.int .i64 0) := by rw [hw0]; exact Bx2.fresh _ _ _ _
    have hb0 : Below w.heap.size w w0 := by rw [hw0]; go_grown
    clear hw0
    refine (Con.out w0).mono ?_
    rintro e w1 ⟨rfl, h1⟩
    have x1 := x0.keep h1
    have hb1 := bstep hb0 h1
    clear x0 hb0
    go_wp2_with fail
    refine (ConH.out w1).mono ?_
    rintro e w2 ⟨rfl, h2⟩
    have x2 := x1.keep h2
    have hb2 := bstep hb1 h2
    go_wp2_with fail
    refine (ConR.out w2).mono ?_
    rintro e w3 ⟨rfl, h3⟩
    have x3 := x2.keep h3
    have hb3 := bstep hb2 h3
    have y0 := x3.c0
    have y1 := x3.c1
    have z0 := x3.fz 0
    have z1 := x3.fz 1
    go_wp2
    refine bodyPost_ret (v := .tuple #[.agg #[.int .i64 (rat (withW N K s) (chV (tilesN N) K)).1, .int .i64 (rat (withW N K s) (chV (tilesN N) K)).2], .bool true]) (by simp [results, Try.results8, go_sem, x3.c0, x3.c1]) rfl ⟨rfl, Bx2.stored hb3⟩

end Go.Proofs.Ytiebilemlolhcaa

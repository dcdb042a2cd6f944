/- Chances of hands: both sides of what is reckoned by numbers of ways. -/
import Derived.Test.YtgjdpiooocpmhaaChI
import Derived.Deep.Cut
namespace Go.Proofs.Ytgjdpiooocpmhaa
open Go.RowKit
set_option linter.unusedVariables false

def mTile (n k : Int) : Int × Int := ratV (goodD n k) (rat k.toNat (tilesN n.toNat))
def mMean (n k : Int) : Int × Int := ratV (goodD n k) (rat (k.toNat * (n.toNat + 1)) (tilesN n.toNat))
def mPips (n k : Int) : Int × Int := ratV (goodD n k) (((k.toNat * n.toNat : Nat) : Int), 1)
def mOpen (n k : Int) : Int × Int := ratV (goodD n k) (rat (chV (tilesN n.toNat) k - chV (tilesN n.toNat - (n.toNat + 1)) k) (chV (tilesN n.toNat) k))
def mCount (n k : Int) : Int := if goodD n k then (chV (tilesN n.toNat) k : Int) else 0
def gTiles (n k m : Int) : Bool := goodD n k && (decide (0 ≤ m) && decide (m ≤ tilesN n.toNat))
def mTiles (n k m : Int) : Int × Int := ratV (gTiles n k m) (rat (chV (tilesN n.toNat - m.toNat) (k - m)) (chV (tilesN n.toNat) k))
def gJust (n k m : Int) : Bool := goodD n k && (decide (0 ≤ m) && decide (m ≤ n + 1))
def mJust (n k m : Int) : Int × Int := ratV (gJust n k m) (rat (chV (n.toNat + 1) m * chV (tilesN n.toNat - (n.toNat + 1)) (k - m)) (chV (tilesN n.toNat) k))
def othN (n m : Nat) : Nat := (n + 1 - m) * (n + 2 - m) / 2
def mWithout (n k m : Int) : Int × Int := ratV (gJust n k m) (rat (chV (othN n.toNat m.toNat) k) (chV (tilesN n.toNat) k))
def gBoth (n a b : Int) : Bool := goodD n a && (decide (0 ≤ b) && decide (b ≤ (tilesN n.toNat : Int) - a))
def mBoth (n a b : Int) : Int × Int := ratV (gBoth n a b) (rat (chV (tilesN n.toNat - (n.toNat + 1)) (a + b)) (chV (tilesN n.toNat) (a + b)))
theorem oth_div {n m : Nat} (hn : n ≤ 6) (hm : m ≤ n + 1) : wrap64 ((wrap64 (((n : Int) + 1 - m) * ((n : Int) + 2 - m))).tdiv 2) = othN n m := by
  have h9 : n = 0 ∨ n = 1 ∨ n = 2 ∨ n = 3 ∨ n = 4 ∨ n = 5 ∨ n = 6 := by omega
  have h8 : m = 0 ∨ m = 1 ∨ m = 2 ∨ m = 3 ∨ m = 4 ∨ m = 5 ∨ m = 6 ∨ m = 7 := by omega
  rcases h9 with rfl | rfl | rfl | rfl | rfl | rfl | rfl <;> rcases h8 with rfl | rfl | rfl | rfl | rfl | rfl | rfl | rfl <;> first | (exfalso; omega) | decide +kernel
theorem oth_div2 {n m : Nat} (hn : n ≤ 6) (hm : m ≤ n + 1) : IntKind.i64.wrap ((tilesN n : Int) - wrap64 ((wrap64 (((n : Int) + 1 - m) * ((n : Int) + 1 - m + 1))).tdiv 2)) = (tilesN n - othN n m : Nat) := by
  have h9 : n = 0 ∨ n = 1 ∨ n = 2 ∨ n = 3 ∨ n = 4 ∨ n = 5 ∨ n = 6 := by omega
  have h8 : m = 0 ∨ m = 1 ∨ m = 2 ∨ m = 3 ∨ m = 4 ∨ m = 5 ∨ m = 6 ∨ m = 7 := by omega
  rcases h9 with rfl | rfl | rfl | rfl | rfl | rfl | rfl <;> rcases h8 with rfl | rfl | rfl | rfl | rfl | rfl | rfl | rfl <;> first | (exfalso; omega) | decide +kernel
theorem chT {n k : Nat} (hn : n ≤ 6) (hk : k ≤ tilesN n) : 1 ≤ chV (tilesN n) (k : Int) := chV_pos (tilesN_bd hn).2.1 hk
theorem chL {m : Nat} (hm : m ≤ 28) (k : Int) : chV m k ≤ 4611686018427387904 := Nat.le_trans (chV_bd hm k) (by omega)
theorem othN_bd {n m : Nat} (hn : n ≤ 6) (hm : m ≤ n + 1) : othN n m ≤ tilesN n := by
  have h9 : n = 0 ∨ n = 1 ∨ n = 2 ∨ n = 3 ∨ n = 4 ∨ n = 5 ∨ n = 6 := by omega
  have h8 : m = 0 ∨ m = 1 ∨ m = 2 ∨ m = 3 ∨ m = 4 ∨ m = 5 ∨ m = 6 ∨ m = 7 := by omega
  rcases h9 with rfl | rfl | rfl | rfl | rfl | rfl | rfl <;> rcases h8 with rfl | rfl | rfl | rfl | rfl | rfl | rfl | rfl <;> first | decide | omega

set_option maxRecDepth 100000 in
set_option maxHeartbeats 1000000 in
theorem c_specCountHands (n k : Int) (w : World) (lo0 : -9223372036854775808 ≤ n) (hi0 : n ≤ 9223372036854775807) (lo1 : -9223372036854775808 ≤ k) (hi1 : k ≤ 9223372036854775807) : Calls Try.prog 16 #[.int .i64 n, .int .i64 k] w fun e w' => e = .returned (.tuple #[.int .i64 (mCount n k), .bool (goodD n k)]) ∧ Below w.heap.size w w' := by
  cases hg : goodD n k
  · have em : mCount n k = 0 := by unfold mCount; rw [hg]; rfl
    rw [em]
    have con := fun W => c_dcGood n k W
    rw [hg] at con
    have Con := Lib.hid con
    clear con hg em
    go_enter Try.func16, Try.ntmps16
    go_wp2_with fail
    refine (Con.out w).mono ?_
    rintro e w' ⟨rfl, rfl⟩
    go_wp2
    go_ret2
    exact ⟨rfl, Below.refl _ _⟩
  · obtain ⟨N, K, rfl, rfl, hn, hk⟩ := goodD_nat hg
    have hT := tilesN_bd hn
    have con := fun W => c_dcGood (N : Int) (K : Int) W
    rw [hg] at con
    have Con := Lib.hid con
    have em : mCount (N : Int) (K : Int) = (chV (tilesN N) K : Int) := by unfold mCount; rw [hg]; rfl
    rw [em]
    clear con hg em
    go_enter Try.func16, Try.ntmps16
    go_wp2_with fail
    refine (Con.out w).mono ?_
    rintro e w' ⟨rfl, rfl⟩
    go_wp2_with fail
    refine (c_dcTiles N hn w).mono ?_
    rintro e w' ⟨rfl, rfl⟩
    go_wp2_with fail
    refine (c_dcChoose (tilesN N) _ _ w rfl hT.2.1 (by omega) (by omega)).mono ?_
    rintro e w' ⟨rfl, rfl⟩
    go_wp2
    go_ret2
    exact ⟨rfl, Below.refl _ _⟩

set_option maxRecDepth 100000 in
set_option maxHeartbeats 1000000 in
theorem c_specTile (n k : Int) (w : World) (lo0 : -9223372036854775808 ≤ n) (hi0 : n ≤ 9223372036854775807) (lo1 : -9223372036854775808 ≤ k) (hi1 : k ≤ 9223372036854775807) : Calls Try.prog 18 #[.int .i64 n, .int .i64 k] w fun e w' => e = .returned (.tuple #[.agg #[.int .i64 (mTile n k).1, .int .i64 (mTile n k).2], .bool (goodD n k)]) ∧ Below w.heap.size w w' := by
  cases hg : goodD n k
  · have em : mTile n k = (0, 0) := by unfold mTile; rw [hg]; rfl
    rw [em]
    have con := fun W => c_dcGood n k W
    rw [hg] at con
    have Con := Lib.hid con
    clear con hg em
    go_enter Try.func18, Try.ntmps18
    go_wp2_with fail
    obtain ⟨w0, hw0⟩ : ∃ w0, w0 = w.alloc (.cells #[.int .i64 0, .int .i64 0] 26) := ⟨_, rfl⟩
    rw [← hw0]
    have x0 : Bx2 w0 w.heap.size (.int .i64 0) (.int .i64 0) := by rw [hw0]; exact Bx2.fresh _ _ _ _
    have hb0 : Below w.heap.size w w0 := by rw [hw0]; go_grown
    clear hw0
    refine (Con.out w0).mono ?_
    rintro e w' ⟨rfl, rfl⟩
    have y0 := x0.c0
    have y1 := x0.c1
    have z0 := x0.fz 0
    have z1 := x0.fz 1
    go_wp2
    refine bodyPost_ret (v := .tuple #[.agg #[.int .i64 ((0, 0) : Int × Int).1, .int .i64 ((0, 0) : Int × Int).2], .bool false]) (by simp [results, Try.results18, go_sem, x0.c0, x0.c1]) rfl ⟨rfl, Bx2.stored hb0⟩
  · obtain ⟨N, K, rfl, rfl, hn, hk⟩ := goodD_nat hg
    have hT := tilesN_bd hn
    have con := fun W => c_dcGood (N : Int) (K : Int) W
    rw [hg] at con
    have Con := Lib.hid con
    have em : mTile (N : Int) (K : Int) = (rat K (tilesN N)) := by unfold mTile; rw [hg]; rfl
    rw [em]
    clear con hg em
    go_enter Try.func18, Try.ntmps18
    go_wp2_with fail
    obtain ⟨w0, hw0⟩ : ∃ w0, w0 = w.alloc (.cells #[.int .i64 0, .int .i64 0] 26) := ⟨_, rfl⟩
    rw [← hw0]
    have x0 : Bx2 w0 w.heap.size (.int .i64 0) (.int .i64 0) := by rw [hw0]; exact Bx2.fresh _ _ _ _
    have hb0 : Below w.heap.size w w0 := by rw [hw0]; go_grown
    clear hw0
    refine (Con.out w0).mono ?_
    rintro e w' ⟨rfl, rfl⟩
    go_wp2_with fail
    refine (c_dcTiles N hn w0).mono ?_
    rintro e w' ⟨rfl, rfl⟩
    go_wp2_with fail
    refine (c_dcRatio (K) (tilesN N) _ _ w0 rfl rfl hT.1 (by omega) (by omega)).mono ?_
    rintro e w1 ⟨rfl, h1⟩
    have x1 := x0.keep h1
    have hb1 := bstep hb0 h1
    have y0 := x1.c0
    have y1 := x1.c1
    have z0 := x1.fz 0
    have z1 := x1.fz 1
    go_wp2
    refine bodyPost_ret (v := .tuple #[.agg #[.int .i64 (rat K (tilesN N)).1, .int .i64 (rat K (tilesN N)).2], .bool true]) (by simp [results, Try.results18, go_sem, x1.c0, x1.c1]) rfl ⟨rfl, Bx2.stored hb1⟩

set_option maxRecDepth 100000 in
set_option maxHeartbeats 1000000 in
theorem c_specMean (n k : Int) (w : World) (lo0 : -9223372036854775808 ≤ n) (hi0 : n ≤ 9223372036854775807) (lo1 : -9223372036854775808 ≤ k) (hi1 : k ≤ 9223372036854775807) : Calls Try.prog 25 #[.int .i64 n, .int .i64 k] w fun e w' => e = .returned (.tuple #[.agg #[.int .i64 (mMean n k).1, .int .i64 (mMean n k).2], .bool (goodD n k)]) ∧ Below w.heap.size w w' := by
  cases hg : goodD n k
  · have em : mMean n k = (0, 0) := by unfold mMean; rw [hg]; rfl
    rw [em]
    have con := fun W => c_dcGood n k W
    rw [hg] at con
    have Con := Lib.hid con
    clear con hg em
    go_enter Try.func25, Try.ntmps25
    go_wp2_with fail
    obtain ⟨w0, hw0⟩ : ∃ w0, w0 = w.alloc (.cells #[.int .i64 0, .int .i64 0] 26) := ⟨_, rfl⟩
    rw [← hw0]
    have x0 : Bx2 w0 w.heap.size (.int .i64 0) (.int .i64 0) := by rw [hw0]; exact Bx2.fresh _ _ _ _
    have hb0 : Below w.heap.size w w0 := by rw [hw0]; go_grown
    clear hw0
    refine (Con.out w0).mono ?_
    rintro e w' ⟨rfl, rfl⟩
    have y0 := x0.c0
    have y1 := x0.c1
    have z0 := x0.fz 0
    have z1 := x0.fz 1
    go_wp2
    refine bodyPost_ret (v := .tuple #[.agg #[.int .i64 ((0, 0) : Int × Int).1, .int .i64 ((0, 0) : Int × Int).2], .bool false]) (by simp [results, Try.results25, go_sem, x0.c0, x0.c1]) rfl ⟨rfl, Bx2.stored hb0⟩
  · obtain ⟨N, K, rfl, rfl, hn, hk⟩ := goodD_nat hg
    have hT := tilesN_bd hn
    have con := fun W => c_dcGood (N : Int) (K : Int) W
    rw [hg] at con
    have Con := Lib.hid con
    have em : mMean (N : Int) (K : Int) = (rat (K * (N + 1)) (tilesN N)) := by unfold mMean; rw [hg]; rfl
    rw [em]
    clear con hg em
    have iw := wrapm (x := (K : Int)) (y := (N : Int) + 1) (a := K) (b := N + 1) rfl (by omega) (by omega) (by omega)
    go_enter Try.func25, Try.ntmps25
    go_wp2_with fail
    obtain ⟨w0, hw0⟩ : ∃ w0, w0 = w.alloc (.cells #[.int .i64 0, .int .i64 0] 26) := ⟨_, rfl⟩
    rw [← hw0]
    have x0 : Bx2 w0 w.heap.size (.int .i64 0) (.int .i64 0) := by rw [hw0]; exact Bx2.fresh _ _ _ _
    have hb0 : Below w.heap.size w w0 := by rw [hw0]; go_grown
    clear hw0
    refine (Con.out w0).mono ?_
    rintro e w' ⟨rfl, rfl⟩
    go_wp2_with fail
    refine (c_dcTiles N hn w0).mono ?_
    rintro e w' ⟨rfl, rfl⟩
    go_wp2_with fail
    refine (c_dcRatio (K * (N + 1)) (tilesN N) _ _ w0 (by first | exact wrapm (a := K) (b := N + 1) rfl (by omega) (by omega) (by omega) | (push_cast; rfl)) rfl hT.1 (Nat.le_trans (Nat.mul_le_mul (show K ≤ 28 by omega) (show N + 1 ≤ 28 by omega)) (by omega)) (by omega)).mono ?_
    rintro e w1 ⟨rfl, h1⟩
    have x1 := x0.keep h1
    have hb1 := bstep hb0 h1
    have y0 := x1.c0
    have y1 := x1.c1
    have z0 := x1.fz 0
    have z1 := x1.fz 1
    go_wp2
    refine bodyPost_ret (v := .tuple #[.agg #[.int .i64 (rat (K * (N + 1)) (tilesN N)).1, .int .i64 (rat (K * (N + 1)) (tilesN N)).2], .bool true]) (by simp [results, Try.results25, go_sem, x1.c0, x1.c1]) rfl ⟨rfl, Bx2.stored hb1⟩

set_option maxRecDepth 100000 in
set_option maxHeartbeats 1000000 in
theorem c_specPipsMean (n k : Int) (w : World) (lo0 : -9223372036854775808 ≤ n) (hi0 : n ≤ 9223372036854775807) (lo1 : -9223372036854775808 ≤ k) (hi1 : k ≤ 9223372036854775807) : Calls Try.prog 31 #[.int .i64 n, .int .i64 k] w fun e w' => e = .returned (.tuple #[.agg #[.int .i64 (mPips n k).1, .int .i64 (mPips n k).2], .bool (goodD n k)]) ∧ Below w.heap.size w w' := by
  cases hg : goodD n k
  · have em : mPips n k = (0, 0) := by unfold mPips; rw [hg]; rfl
    rw [em]
    have con := fun W => c_dcGood n k W
    rw [hg] at con
    have Con := Lib.hid con
    clear con hg em
    go_enter Try.func31, Try.ntmps31
    go_wp2_with fail
    obtain ⟨w0, hw0⟩ : ∃ w0, w0 = w.alloc (.cells #[.int .i64 0, .int .i64 0] 26) := ⟨_, rfl⟩
    rw [← hw0]
    have x0 : Bx2 w0 w.heap.size (.int .i64 0) (.int .i64 0) := by rw [hw0]; exact Bx2.fresh _ _ _ _
    have hb0 : Below w.heap.size w w0 := by rw [hw0]; go_grown
    clear hw0
    refine (Con.out w0).mono ?_
    rintro e w' ⟨rfl, rfl⟩
    have y0 := x0.c0
    have y1 := x0.c1
    have z0 := x0.fz 0
    have z1 := x0.fz 1
    go_wp2
    refine bodyPost_ret (v := .tuple #[.agg #[.int .i64 ((0, 0) : Int × Int).1, .int .i64 ((0, 0) : Int × Int).2], .bool false]) (by simp [results, Try.results31, go_sem, x0.c0, x0.c1]) rfl ⟨rfl, Bx2.stored hb0⟩
  · obtain ⟨N, K, rfl, rfl, hn, hk⟩ := goodD_nat hg
    have hT := tilesN_bd hn
    have con := fun W => c_dcGood (N : Int) (K : Int) W
    rw [hg] at con
    have Con := Lib.hid con
    have em : mPips (N : Int) (K : Int) = (((K * N : Nat) : Int), 1) := by unfold mPips; rw [hg]; rfl
    have ew : IntKind.i64.wrap ((K : Int) * (N : Int)) = ((K * N : Nat) : Int) := wrapm rfl rfl (by omega) (by omega)
    rw [em]
    clear con hg em
    go_enter Try.func31, Try.ntmps31
    go_wp2_with fail
    obtain ⟨w0, hw0⟩ : ∃ w0, w0 = w.alloc (.cells #[.int .i64 0, .int .i64 0] 26) := ⟨_, rfl⟩
    rw [← hw0]
    have x0 : Bx2 w0 w.heap.size (.int .i64 0) (.int .i64 0) := by rw [hw0]; exact Bx2.fresh _ _ _ _
    have hb0 : Below w.heap.size w w0 := by rw [hw0]; go_grown
    clear hw0
    refine (Con.out w0).mono ?_
    rintro e w' ⟨rfl, rfl⟩
    have y0 := x0.c0
    have y1 := x0.c1
    have z0 := x0.fz 0
    have z1 := x0.fz 1
    go_wp2
    refine bodyPost_ret (v := .tuple #[.agg #[.int .i64 ((((K * N : Nat) : Int), 1) : Int × Int).1, .int .i64 ((((K * N : Nat) : Int), 1) : Int × Int).2], .bool true]) (by simp [results, Try.results31, go_sem, x0.c0, x0.c1]) rfl ⟨rfl, Bx2.stored hb0⟩

set_option maxRecDepth 100000 in
set_option maxHeartbeats 1000000 in
theorem c_specOpen (n k : Int) (w : World) (lo0 : -9223372036854775808 ≤ n) (hi0 : n ≤ 9223372036854775807) (lo1 : -9223372036854775808 ≤ k) (hi1 : k ≤ 9223372036854775807) : Calls Try.prog 35 #[.int .i64 n, .int .i64 k] w fun e w' => e = .returned (.tuple #[.agg #[.int .i64 (mOpen n k).1, .int .i64 (mOpen n k).2], .bool (goodD n k)]) ∧ Below w.heap.size w w' := by
  cases hg : goodD n k
  · have em : mOpen n k = (0, 0) := by unfold mOpen; rw [hg]; rfl
    rw [em]
    have con := fun W => c_dcGood n k W
    rw [hg] at con
    have Con := Lib.hid con
    clear con hg em
    go_enter Try.func35, Try.ntmps35
    go_wp2_with fail
    obtain ⟨w0, hw0⟩ : ∃ w0, w0 = w.alloc (.cells #[.int .i64 0, .int .i64 0] 26) := ⟨_, rfl⟩
    rw [← hw0]
    have x0 : Bx2 w0 w.heap.size (.int .i64 0) (.int .i64 0) := by rw [hw0]; exact Bx2.fresh _ _ _ _
    have hb0 : Below w.heap.size w w0 := by rw [hw0]; go_grown
    clear hw0
    refine (Con.out w0).mono ?_
    rintro e w' ⟨rfl, rfl⟩
    have y0 := x0.c0
    have y1 := x0.c1
    have z0 := x0.fz 0
    have z1 := x0.fz 1
    go_wp2
    refine bodyPost_ret (v := .tuple #[.agg #[.int .i64 ((0, 0) : Int × Int).1, .int .i64 ((0, 0) : Int × Int).2], .bool false]) (by simp [results, Try.results35, go_sem, x0.c0, x0.c1]) rfl ⟨rfl, Bx2.stored hb0⟩
  · obtain ⟨N, K, rfl, rfl, hn, hk⟩ := goodD_nat hg
    have hT := tilesN_bd hn
    have con := fun W => c_dcGood (N : Int) (K : Int) W
    rw [hg] at con
    have Con := Lib.hid con
    have em : mOpen (N : Int) (K : Int) = (rat (chV (tilesN N) K - chV (tilesN N - (N + 1)) K) (chV (tilesN N) K)) := by unfold mOpen; rw [hg]; rfl
    rw [em]
    clear con hg em
    go_enter Try.func35, Try.ntmps35
    go_wp2_with fail
    obtain ⟨w0, hw0⟩ : ∃ w0, w0 = w.alloc (.cells #[.int .i64 0, .int .i64 0] 26) := ⟨_, rfl⟩
    rw [← hw0]
    have x0 : Bx2 w0 w.heap.size (.int .i64 0) (.int .i64 0) := by rw [hw0]; exact Bx2.fresh _ _ _ _
    have hb0 : Below w.heap.size w w0 := by rw [hw0]; go_grown
    clear hw0
    refine (Con.out w0).mono ?_
    rintro e w' ⟨rfl, rfl⟩
    go_wp2_with fail
    refine (c_dcTiles N hn w0).mono ?_
    rintro e w' ⟨rfl, rfl⟩
    go_wp2_with fail
    refine (c_dcChoose (tilesN N) _ _ w0 rfl hT.2.1 (by omega) (by omega)).mono ?_
    rintro e w' ⟨rfl, rfl⟩
    go_wp2_with fail
    refine (c_dcTiles N hn w0).mono ?_
    rintro e w' ⟨rfl, rfl⟩
    go_wp2_with fail
    refine (c_dcChoose (tilesN N - (N + 1)) _ _ w0 (by omega) (by omega) (by omega) (by omega)).mono ?_
    rintro e w' ⟨rfl, rfl⟩
    have ole := open_le hn hk
    rw [chV_zero, Nat.one_mul] at ole
    have ob := chV_bd hT.2.1 (K : Int)
    go_wp2_with fail
    refine (c_dcRatio (chV (tilesN N) K - chV (tilesN N - (N + 1)) K) (chV (tilesN N) K) _ _ w0 (by first | omega | (rw [IntWalk.i64_in _ (by omega)]; omega)) rfl (chT hn hk) (by omega) (by omega)).mono ?_
    rintro e w1 ⟨rfl, h1⟩
    have x1 := x0.keep h1
    have hb1 := bstep hb0 h1
    have y0 := x1.c0
    have y1 := x1.c1
    have z0 := x1.fz 0
    have z1 := x1.fz 1
    go_wp2
    refine bodyPost_ret (v := .tuple #[.agg #[.int .i64 (rat (chV (tilesN N) K - chV (tilesN N - (N + 1)) K) (chV (tilesN N) K)).1, .int .i64 (rat (chV (tilesN N) K - chV (tilesN N - (N + 1)) K) (chV (tilesN N) K)).2], .bool true]) (by simp [results, Try.results35, go_sem, x1.c0, x1.c1]) rfl ⟨rfl, Bx2.stored hb1⟩

set_option maxRecDepth 100000 in
set_option maxHeartbeats 1000000 in
theorem c_specTiles (n k m : Int) (w : World) (lo0 : -9223372036854775808 ≤ n) (hi0 : n ≤ 9223372036854775807) (lo1 : -9223372036854775808 ≤ k) (hi1 : k ≤ 9223372036854775807) (lo2 : -9223372036854775808 ≤ m) (hi2 : m ≤ 9223372036854775807) : Calls Try.prog 21 #[.int .i64 n, .int .i64 k, .int .i64 m] w fun e w' => e = .returned (.tuple #[.agg #[.int .i64 (mTiles n k m).1, .int .i64 (mTiles n k m).2], .bool (gTiles n k m)]) ∧ Below w.heap.size w w' := by
  cases hg : gTiles n k m
  · have em : mTiles n k m = (0, 0) := by unfold mTiles; rw [hg]; rfl
    rw [em]
    cases hd : goodD n k
    · have con := fun W => c_dcGood n k W
      rw [hd] at con
      have Con := Lib.hid con
      clear con hd hg em
      go_enter Try.func21, Try.ntmps21
      go_wp2_with fail
      obtain ⟨w0, hw0⟩ : ∃ w0, w0 = w.alloc (.cells #[.int .i64 0, .int .i64 0] 26) := ⟨_, rfl⟩
      rw [← hw0]
      have x0 : Bx2 w0 w.heap.size (.int .i64 0) (.int .i64 0) := by rw [hw0]; exact Bx2.fresh _ _ _ _
      have hb0 : Below w.heap.size w w0 := by rw [hw0]; go_grown
      clear hw0
      refine (Con.out w0).mono ?_
      rintro e w' ⟨rfl, rfl⟩
      have y0 := x0.c0
      have y1 := x0.c1
      have z0 := x0.fz 0
      have z1 := x0.fz 1
      go_wp2
      refine bodyPost_ret (v := .tuple #[.agg #[.int .i64 ((0, 0) : Int × Int).1, .int .i64 ((0, 0) : Int × Int).2], .bool false]) (by simp [results, Try.results21, go_sem, x0.c0, x0.c1]) rfl ⟨rfl, Bx2.stored hb0⟩
    have hm : (decide (0 ≤ m) && decide (m ≤ (tilesN n.toNat))) = false := by
      unfold gTiles at hg
      rw [hd, Bool.true_and] at hg
      exact hg
    obtain ⟨N, K, rfl, rfl, hn, hk⟩ := goodD_nat hd
    rw [Int.toNat_natCast] at hm
    have hT := tilesN_bd hn
    have con := fun W => c_dcGood (N : Int) (K : Int) W
    rw [hd] at con
    have Con := Lib.hid con
    have conL := fun W => c_l1In m 0 (tilesN N) W
    rw [hm] at conL
    have ConL := Lib.hid conL
    clear con conL hd hg em hm
    go_enter Try.func21, Try.ntmps21
    go_wp2_with fail
    obtain ⟨w0, hw0⟩ : ∃ w0, w0 = w.alloc (.cells #[.int .i64 0, .int .i64 0] 26) := ⟨_, rfl⟩
    rw [← hw0]
    have x0 : Bx2 w0 w.heap.size (.int .i64 0) (.int .i64 0) := by rw [hw0]; exact Bx2.fresh _ _ _ _
    have hb0 : Below w.heap.size w w0 := by rw [hw0]; go_grown
    clear hw0
    refine (Con.out w0).mono ?_
    rintro e w' ⟨rfl, rfl⟩
    go_wp2_with fail
    refine (c_dcTiles N hn w0).mono ?_
    rintro e w' ⟨rfl, rfl⟩
    go_wp2_with fail
    refine (ConL.out w0).mono ?_
    rintro e w' ⟨rfl, rfl⟩
    have y0 := x0.c0
    have y1 := x0.c1
    have z0 := x0.fz 0
    have z1 := x0.fz 1
    go_wp2
    refine bodyPost_ret (v := .tuple #[.agg #[.int .i64 ((0, 0) : Int × Int).1, .int .i64 ((0, 0) : Int × Int).2], .bool false]) (by simp [results, Try.results21, go_sem, x0.c0, x0.c1]) rfl ⟨rfl, Bx2.stored hb0⟩
  · have hg0 := hg
    unfold gTiles at hg
    rw [Bool.and_eq_true] at hg
    obtain ⟨hd, hm⟩ := hg
    obtain ⟨N, K, rfl, rfl, hn, hk⟩ := goodD_nat hd
    obtain ⟨M, rfl⟩ : ∃ M : Nat, m = M := ⟨m.toNat, by simp only [Bool.and_eq_true, decide_eq_true_eq] at hm; omega⟩
    rw [Int.toNat_natCast] at hm
    have hm2 : M ≤ (tilesN N) := by simp only [Bool.and_eq_true, decide_eq_true_eq] at hm; omega
    have hT := tilesN_bd hn
    have em : mTiles (N : Int) (K : Int) (M : Int) = (rat (chV (tilesN N - M) ((K : Int) - M)) (chV (tilesN N) K)) := by unfold mTiles; rw [hg0]; rfl
    rw [em]
    have con := fun W => c_dcGood (N : Int) (K : Int) W
    rw [hd] at con
    have Con := Lib.hid con
    have conL := fun W => c_l1In (M : Int) 0 (tilesN N) W
    rw [hm] at conL
    have ConL := Lib.hid conL
    clear con conL hd hg0 em hm
    go_enter Try.func21, Try.ntmps21
    go_wp2_with fail
    obtain ⟨w0, hw0⟩ : ∃ w0, w0 = w.alloc (.cells #[.int .i64 0, .int .i64 0] 26) := ⟨_, rfl⟩
    rw [← hw0]
    have x0 : Bx2 w0 w.heap.size (.int .i64 0) (.int .i64 0) := by rw [hw0]; exact Bx2.fresh _ _ _ _
    have hb0 : Below w.heap.size w w0 := by rw [hw0]; go_grown
    clear hw0
    refine (Con.out w0).mono ?_
    rintro e w' ⟨rfl, rfl⟩
    go_wp2_with fail
    refine (c_dcTiles N hn w0).mono ?_
    rintro e w' ⟨rfl, rfl⟩
    go_wp2_with fail
    refine (ConL.out w0).mono ?_
    rintro e w' ⟨rfl, rfl⟩
    go_wp2_with fail
    refine (c_dcTiles N hn w0).mono ?_
    rintro e w' ⟨rfl, rfl⟩
    go_wp2_with fail
    refine (c_dcChoose (tilesN N - M) _ _ w0 (by omega) (by omega) (by omega) (by omega)).mono ?_
    rintro e w' ⟨rfl, rfl⟩
    go_wp2_with fail
    refine (c_dcTiles N hn w0).mono ?_
    rintro e w' ⟨rfl, rfl⟩
    go_wp2_with fail
    refine (c_dcChoose (tilesN N) _ _ w0 rfl hT.2.1 (by omega) (by omega)).mono ?_
    rintro e w' ⟨rfl, rfl⟩
    go_wp2_with fail
    refine (c_dcRatio (chV (tilesN N - M) ((K : Int) - M)) (chV (tilesN N) K) _ _ w0 rfl rfl (chT hn hk) (chL (by omega) _) (chL hT.2.1 _)).mono ?_
    rintro e w1 ⟨rfl, h1⟩
    have x1 := x0.keep h1
    have hb1 := bstep hb0 h1
    have y0 := x1.c0
    have y1 := x1.c1
    have z0 := x1.fz 0
    have z1 := x1.fz 1
    go_wp2
    refine bodyPost_ret (v := .tuple #[.agg #[.int .i64 (rat (chV (tilesN N - M) ((K : Int) - M)) (chV (tilesN N) K)).1, .int .i64 (rat (chV (tilesN N - M) ((K : Int) - M)) (chV (tilesN N) K)).2], .bool true]) (by simp [results, Try.results21, go_sem, x1.c0, x1.c1]) rfl ⟨rfl, Bx2.stored hb1⟩

set_option maxRecDepth 100000 in
set_option maxHeartbeats 1000000 in
theorem c_specDoublesC (n k m : Int) (w : World) (lo0 : -9223372036854775808 ≤ n) (hi0 : n ≤ 9223372036854775807) (lo1 : -9223372036854775808 ≤ k) (hi1 : k ≤ 9223372036854775807) (lo2 : -9223372036854775808 ≤ m) (hi2 : m ≤ 9223372036854775807) : Calls Try.prog 23 #[.int .i64 n, .int .i64 k, .int .i64 m] w fun e w' => e = .returned (.tuple #[.agg #[.int .i64 (mJust n k m).1, .int .i64 (mJust n k m).2], .bool (gJust n k m)]) ∧ Below w.heap.size w w' := by
  cases hg : gJust n k m
  · have em : mJust n k m = (0, 0) := by unfold mJust; rw [hg]; rfl
    rw [em]
    cases hd : goodD n k
    · have con := fun W => c_dcGood n k W
      rw [hd] at con
      have Con := Lib.hid con
      clear con hd hg em
      go_enter Try.func23, Try.ntmps23
      go_wp2_with fail
      obtain ⟨w0, hw0⟩ : ∃ w0, w0 = w.alloc (.cells #[.int .i64 0, .int .i64 0] 26) := ⟨_, rfl⟩
      rw [← hw0]
      have x0 : Bx2 w0 w.heap.size (.int .i64 0) (.int .i64 0) := by rw [hw0]; exact Bx2.fresh _ _ _ _
      have hb0 : Below w.heap.size w w0 := by rw [hw0]; go_grown
      clear hw0
      refine (Con.out w0).mono ?_
      rintro e w' ⟨rfl, rfl⟩
      have y0 := x0.c0
      have y1 := x0.c1
      have z0 := x0.fz 0
      have z1 := x0.fz 1
      go_wp2
      refine bodyPost_ret (v := .tuple #[.agg #[.int .i64 ((0, 0) : Int × Int).1, .int .i64 ((0, 0) : Int × Int).2], .bool false]) (by simp [results, Try.results23, go_sem, x0.c0, x0.c1]) rfl ⟨rfl, Bx2.stored hb0⟩
    have hm : (decide (0 ≤ m) && decide (m ≤ (n + 1))) = false := by
      unfold gJust at hg
      rw [hd, Bool.true_and] at hg
      exact hg
    obtain ⟨N, K, rfl, rfl, hn, hk⟩ := goodD_nat hd
    have hT := tilesN_bd hn
    have con := fun W => c_dcGood (N : Int) (K : Int) W
    rw [hd] at con
    have Con := Lib.hid con
    have conL := fun W => c_l1In m 0 ((N : Int) + 1) W
    rw [hm] at conL
    have ConL := Lib.hid conL
    clear con conL hd hg em hm
    go_enter Try.func23, Try.ntmps23
    go_wp2_with fail
    obtain ⟨w0, hw0⟩ : ∃ w0, w0 = w.alloc (.cells #[.int .i64 0, .int .i64 0] 26) := ⟨_, rfl⟩
    rw [← hw0]
    have x0 : Bx2 w0 w.heap.size (.int .i64 0) (.int .i64 0) := by rw [hw0]; exact Bx2.fresh _ _ _ _
    have hb0 : Below w.heap.size w w0 := by rw [hw0]; go_grown
    clear hw0
    refine (Con.out w0).mono ?_
    rintro e w' ⟨rfl, rfl⟩
    go_wp2_with fail
    refine (ConL.out w0).mono ?_
    rintro e w' ⟨rfl, rfl⟩
    have y0 := x0.c0
    have y1 := x0.c1
    have z0 := x0.fz 0
    have z1 := x0.fz 1
    go_wp2
    refine bodyPost_ret (v := .tuple #[.agg #[.int .i64 ((0, 0) : Int × Int).1, .int .i64 ((0, 0) : Int × Int).2], .bool false]) (by simp [results, Try.results23, go_sem, x0.c0, x0.c1]) rfl ⟨rfl, Bx2.stored hb0⟩
  · have hg0 := hg
    unfold gJust at hg
    rw [Bool.and_eq_true] at hg
    obtain ⟨hd, hm⟩ := hg
    obtain ⟨N, K, rfl, rfl, hn, hk⟩ := goodD_nat hd
    obtain ⟨M, rfl⟩ : ∃ M : Nat, m = M := ⟨m.toNat, by simp only [Bool.and_eq_true, decide_eq_true_eq] at hm; omega⟩
    have hm2 : M ≤ (N + 1) := by simp only [Bool.and_eq_true, decide_eq_true_eq] at hm; omega
    have hT := tilesN_bd hn
    have em : mJust (N : Int) (K : Int) (M : Int) = (rat (chV (N + 1) M * chV (tilesN N - (N + 1)) ((K : Int) - M)) (chV (tilesN N) K)) := by unfold mJust; rw [hg0]; rfl
    rw [em]
    have con := fun W => c_dcGood (N : Int) (K : Int) W
    rw [hd] at con
    have Con := Lib.hid con
    have conL := fun W => c_l1In (M : Int) 0 ((N : Int) + 1) W
    rw [hm] at conL
    have ConL := Lib.hid conL
    clear con conL hd hg0 em hm
    go_enter Try.func23, Try.ntmps23
    go_wp2_with fail
    obtain ⟨w0, hw0⟩ : ∃ w0, w0 = w.alloc (.cells #[.int .i64 0, .int .i64 0] 26) := ⟨_, rfl⟩
    rw [← hw0]
    have x0 : Bx2 w0 w.heap.size (.int .i64 0) (.int .i64 0) := by rw [hw0]; exact Bx2.fresh _ _ _ _
    have hb0 : Below w.heap.size w w0 := by rw [hw0]; go_grown
    clear hw0
    refine (Con.out w0).mono ?_
    rintro e w' ⟨rfl, rfl⟩
    go_wp2_with fail
    refine (ConL.out w0).mono ?_
    rintro e w' ⟨rfl, rfl⟩
    go_wp2_with fail
    refine (c_dcJust N K (N + 1) M _ w0 rfl hn hk hT.2.2 (by omega)).mono ?_
    rintro e w1 ⟨rfl, h1⟩
    have x1 := x0.keep h1
    have hb1 := bstep hb0 h1
    have y0 := x1.c0
    have y1 := x1.c1
    have z0 := x1.fz 0
    have z1 := x1.fz 1
    go_wp2
    refine bodyPost_ret (v := .tuple #[.agg #[.int .i64 (rat (chV (N + 1) M * chV (tilesN N - (N + 1)) ((K : Int) - M)) (chV (tilesN N) K)).1, .int .i64 (rat (chV (N + 1) M * chV (tilesN N - (N + 1)) ((K : Int) - M)) (chV (tilesN N) K)).2], .bool true]) (by simp [results, Try.results23, go_sem, x1.c0, x1.c1]) rfl ⟨rfl, Bx2.stored hb1⟩

set_option maxRecDepth 100000 in
set_option maxHeartbeats 1000000 in
theorem c_specTimesC (n k m : Int) (w : World) (lo0 : -9223372036854775808 ≤ n) (hi0 : n ≤ 9223372036854775807) (lo1 : -9223372036854775808 ≤ k) (hi1 : k ≤ 9223372036854775807) (lo2 : -9223372036854775808 ≤ m) (hi2 : m ≤ 9223372036854775807) : Calls Try.prog 29 #[.int .i64 n, .int .i64 k, .int .i64 m] w fun e w' => e = .returned (.tuple #[.agg #[.int .i64 (mJust n k m).1, .int .i64 (mJust n k m).2], .bool (gJust n k m)]) ∧ Below w.heap.size w w' := by
  cases hg : gJust n k m
  · have em : mJust n k m = (0, 0) := by unfold mJust; rw [hg]; rfl
    rw [em]
    cases hd : goodD n k
    · have con := fun W => c_dcGood n k W
      rw [hd] at con
      have Con := Lib.hid con
      clear con hd hg em
      go_enter Try.func29, Try.ntmps29
      go_wp2_with fail
      obtain ⟨w0, hw0⟩ : ∃ w0, w0 = w.alloc (.cells #[.int .i64 0, .int .i64 0] 26) := ⟨_, rfl⟩
      rw [← hw0]
      have x0 : Bx2 w0 w.heap.size (.int .i64 0) (.int .i64 0) := by rw [hw0]; exact Bx2.fresh _ _ _ _
      have hb0 : Below w.heap.size w w0 := by rw [hw0]; go_grown
      clear hw0
      refine (Con.out w0).mono ?_
      rintro e w' ⟨rfl, rfl⟩
      have y0 := x0.c0
      have y1 := x0.c1
      have z0 := x0.fz 0
      have z1 := x0.fz 1
      go_wp2
      refine bodyPost_ret (v := .tuple #[.agg #[.int .i64 ((0, 0) : Int × Int).1, .int .i64 ((0, 0) : Int × Int).2], .bool false]) (by simp [results, Try.results29, go_sem, x0.c0, x0.c1]) rfl ⟨rfl, Bx2.stored hb0⟩
    have hm : (decide (0 ≤ m) && decide (m ≤ (n + 1))) = false := by
      unfold gJust at hg
      rw [hd, Bool.true_and] at hg
      exact hg
    obtain ⟨N, K, rfl, rfl, hn, hk⟩ := goodD_nat hd
    have hT := tilesN_bd hn
    have con := fun W => c_dcGood (N : Int) (K : Int) W
    rw [hd] at con
    have Con := Lib.hid con
    have conL := fun W => c_l1In m 0 ((N : Int) + 1) W
    rw [hm] at conL
    have ConL := Lib.hid conL
    clear con conL hd hg em hm
    go_enter Try.func29, Try.ntmps29
    go_wp2_with fail
    obtain ⟨w0, hw0⟩ : ∃ w0, w0 = w.alloc (.cells #[.int .i64 0, .int .i64 0] 26) := ⟨_, rfl⟩
    rw [← hw0]
    have x0 : Bx2 w0 w.heap.size (.int .i64 0) (.int .i64 0) := by rw [hw0]; exact Bx2.fresh _ _ _ _
    have hb0 : Below w.heap.size w w0 := by rw [hw0]; go_grown
    clear hw0
    refine (Con.out w0).mono ?_
    rintro e w' ⟨rfl, rfl⟩
    go_wp2_with fail
    refine (ConL.out w0).mono ?_
    rintro e w' ⟨rfl, rfl⟩
    have y0 := x0.c0
    have y1 := x0.c1
    have z0 := x0.fz 0
    have z1 := x0.fz 1
    go_wp2
    refine bodyPost_ret (v := .tuple #[.agg #[.int .i64 ((0, 0) : Int × Int).1, .int .i64 ((0, 0) : Int × Int).2], .bool false]) (by simp [results, Try.results29, go_sem, x0.c0, x0.c1]) rfl ⟨rfl, Bx2.stored hb0⟩
  · have hg0 := hg
    unfold gJust at hg
    rw [Bool.and_eq_true] at hg
    obtain ⟨hd, hm⟩ := hg
    obtain ⟨N, K, rfl, rfl, hn, hk⟩ := goodD_nat hd
    obtain ⟨M, rfl⟩ : ∃ M : Nat, m = M := ⟨m.toNat, by simp only [Bool.and_eq_true, decide_eq_true_eq] at hm; omega⟩
    have hm2 : M ≤ (N + 1) := by simp only [Bool.and_eq_true, decide_eq_true_eq] at hm; omega
    have hT := tilesN_bd hn
    have em : mJust (N : Int) (K : Int) (M : Int) = (rat (chV (N + 1) M * chV (tilesN N - (N + 1)) ((K : Int) - M)) (chV (tilesN N) K)) := by unfold mJust; rw [hg0]; rfl
    rw [em]
    have con := fun W => c_dcGood (N : Int) (K : Int) W
    rw [hd] at con
    have Con := Lib.hid con
    have conL := fun W => c_l1In (M : Int) 0 ((N : Int) + 1) W
    rw [hm] at conL
    have ConL := Lib.hid conL
    clear con conL hd hg0 em hm
    go_enter Try.func29, Try.ntmps29
    go_wp2_with fail
    obtain ⟨w0, hw0⟩ : ∃ w0, w0 = w.alloc (.cells #[.int .i64 0, .int .i64 0] 26) := ⟨_, rfl⟩
    rw [← hw0]
    have x0 : Bx2 w0 w.heap.size (.int .i64 0) (.int .i64 0) := by rw [hw0]; exact Bx2.fresh _ _ _ _
    have hb0 : Below w.heap.size w w0 := by rw [hw0]; go_grown
    clear hw0
    refine (Con.out w0).mono ?_
    rintro e w' ⟨rfl, rfl⟩
    go_wp2_with fail
    refine (ConL.out w0).mono ?_
    rintro e w' ⟨rfl, rfl⟩
    go_wp2_with fail
    refine (c_dcJust N K (N + 1) M _ w0 rfl hn hk hT.2.2 (by omega)).mono ?_
    rintro e w1 ⟨rfl, h1⟩
    have x1 := x0.keep h1
    have hb1 := bstep hb0 h1
    have y0 := x1.c0
    have y1 := x1.c1
    have z0 := x1.fz 0
    have z1 := x1.fz 1
    go_wp2
    refine bodyPost_ret (v := .tuple #[.agg #[.int .i64 (rat (chV (N + 1) M * chV (tilesN N - (N + 1)) ((K : Int) - M)) (chV (tilesN N) K)).1, .int .i64 (rat (chV (N + 1) M * chV (tilesN N - (N + 1)) ((K : Int) - M)) (chV (tilesN N) K)).2], .bool true]) (by simp [results, Try.results29, go_sem, x1.c0, x1.c1]) rfl ⟨rfl, Bx2.stored hb1⟩

set_option maxRecDepth 100000 in
set_option maxHeartbeats 1000000 in
theorem c_specWithout (n k m : Int) (w : World) (lo0 : -9223372036854775808 ≤ n) (hi0 : n ≤ 9223372036854775807) (lo1 : -9223372036854775808 ≤ k) (hi1 : k ≤ 9223372036854775807) (lo2 : -9223372036854775808 ≤ m) (hi2 : m ≤ 9223372036854775807) : Calls Try.prog 27 #[.int .i64 n, .int .i64 k, .int .i64 m] w fun e w' => e = .returned (.tuple #[.agg #[.int .i64 (mWithout n k m).1, .int .i64 (mWithout n k m).2], .bool (gJust n k m)]) ∧ Below w.heap.size w w' := by
  cases hg : gJust n k m
  · have em : mWithout n k m = (0, 0) := by unfold mWithout; rw [hg]; rfl
    rw [em]
    cases hd : goodD n k
    · have con := fun W => c_dcGood n k W
      rw [hd] at con
      have Con := Lib.hid con
      clear con hd hg em
      go_enter Try.func27, Try.ntmps27
      go_wp2_with fail
      obtain ⟨w0, hw0⟩ : ∃ w0, w0 = w.alloc (.cells #[.int .i64 0, .int .i64 0] 26) := ⟨_, rfl⟩
      rw [← hw0]
      have x0 : Bx2 w0 w.heap.size (.int .i64 0) (.int .i64 0) := by rw [hw0]; exact Bx2.fresh _ _ _ _
      have hb0 : Below w.heap.size w w0 := by rw [hw0]; go_grown
      clear hw0
      refine (Con.out w0).mono ?_
      rintro e w' ⟨rfl, rfl⟩
      have y0 := x0.c0
      have y1 := x0.c1
      have z0 := x0.fz 0
      have z1 := x0.fz 1
      go_wp2
      refine bodyPost_ret (v := .tuple #[.agg #[.int .i64 ((0, 0) : Int × Int).1, .int .i64 ((0, 0) : Int × Int).2], .bool false]) (by simp [results, Try.results27, go_sem, x0.c0, x0.c1]) rfl ⟨rfl, Bx2.stored hb0⟩
    have hm : (decide (0 ≤ m) && decide (m ≤ (n + 1))) = false := by
      unfold gJust at hg
      rw [hd, Bool.true_and] at hg
      exact hg
    obtain ⟨N, K, rfl, rfl, hn, hk⟩ := goodD_nat hd
    have hT := tilesN_bd hn
    have con := fun W => c_dcGood (N : Int) (K : Int) W
    rw [hd] at con
    have Con := Lib.hid con
    have conL := fun W => c_l1In m 0 ((N : Int) + 1) W
    rw [hm] at conL
    have ConL := Lib.hid conL
    clear con conL hd hg em hm
    go_enter Try.func27, Try.ntmps27
    go_wp2_with fail
    obtain ⟨w0, hw0⟩ : ∃ w0, w0 = w.alloc (.cells #[.int .i64 0, .int .i64 0] 26) := ⟨_, rfl⟩
    rw [← hw0]
    have x0 : Bx2 w0 w.heap.size (.int .i64 0) (.int .i64 0) := by rw [hw0]; exact Bx2.fresh _ _ _ _
    have hb0 : Below w.heap.size w w0 := by rw [hw0]; go_grown
    clear hw0
    refine (Con.out w0).mono ?_
    rintro e w' ⟨rfl, rfl⟩
    go_wp2_with fail
    refine (ConL.out w0).mono ?_
    rintro e w' ⟨rfl, rfl⟩
    have y0 := x0.c0
    have y1 := x0.c1
    have z0 := x0.fz 0
    have z1 := x0.fz 1
    go_wp2
    refine bodyPost_ret (v := .tuple #[.agg #[.int .i64 ((0, 0) : Int × Int).1, .int .i64 ((0, 0) : Int × Int).2], .bool false]) (by simp [results, Try.results27, go_sem, x0.c0, x0.c1]) rfl ⟨rfl, Bx2.stored hb0⟩
  · have hg0 := hg
    unfold gJust at hg
    rw [Bool.and_eq_true] at hg
    obtain ⟨hd, hm⟩ := hg
    obtain ⟨N, K, rfl, rfl, hn, hk⟩ := goodD_nat hd
    obtain ⟨M, rfl⟩ : ∃ M : Nat, m = M := ⟨m.toNat, by simp only [Bool.and_eq_true, decide_eq_true_eq] at hm; omega⟩
    have hm2 : M ≤ (N + 1) := by simp only [Bool.and_eq_true, decide_eq_true_eq] at hm; omega
    have hT := tilesN_bd hn
    have em : mWithout (N : Int) (K : Int) (M : Int) = (rat (chV (othN N M) K) (chV (tilesN N) K)) := by unfold mWithout; rw [hg0]; rfl
    rw [em]
    have con := fun W => c_dcGood (N : Int) (K : Int) W
    rw [hd] at con
    have Con := Lib.hid con
    have conL := fun W => c_l1In (M : Int) 0 ((N : Int) + 1) W
    rw [hm] at conL
    have ConL := Lib.hid conL
    clear con conL hd hg0 em hm
    go_enter Try.func27, Try.ntmps27
    go_wp2_with fail
    obtain ⟨w0, hw0⟩ : ∃ w0, w0 = w.alloc (.cells #[.int .i64 0, .int .i64 0] 26) := ⟨_, rfl⟩
    rw [← hw0]
    have x0 : Bx2 w0 w.heap.size (.int .i64 0) (.int .i64 0) := by rw [hw0]; exact Bx2.fresh _ _ _ _
    have hb0 : Below w.heap.size w w0 := by rw [hw0]; go_grown
    clear hw0
    refine (Con.out w0).mono ?_
    rintro e w' ⟨rfl, rfl⟩
    go_wp2_with fail
    refine (ConL.out w0).mono ?_
    rintro e w' ⟨rfl, rfl⟩
    go_wp2_with fail
    refine (c_dcChoose (othN N M) _ _ w0 (by exact oth_div hn hm2) (Nat.le_trans (othN_bd hn hm2) hT.2.1) (by omega) (by omega)).mono ?_
    rintro e w' ⟨rfl, rfl⟩
    go_wp2_with fail
    refine (c_dcTiles N hn w0).mono ?_
    rintro e w' ⟨rfl, rfl⟩
    go_wp2_with fail
    refine (c_dcChoose (tilesN N) _ _ w0 rfl hT.2.1 (by omega) (by omega)).mono ?_
    rintro e w' ⟨rfl, rfl⟩
    go_wp2_with fail
    refine (c_dcRatio (chV (othN N M) K) (chV (tilesN N) K) _ _ w0 rfl rfl (chT hn hk) (chL (Nat.le_trans (othN_bd hn hm2) hT.2.1) _) (chL hT.2.1 _)).mono ?_
    rintro e w1 ⟨rfl, h1⟩
    have x1 := x0.keep h1
    have hb1 := bstep hb0 h1
    have y0 := x1.c0
    have y1 := x1.c1
    have z0 := x1.fz 0
    have z1 := x1.fz 1
    go_wp2
    refine bodyPost_ret (v := .tuple #[.agg #[.int .i64 (rat (chV (othN N M) K) (chV (tilesN N) K)).1, .int .i64 (rat (chV (othN N M) K) (chV (tilesN N) K)).2], .bool true]) (by simp [results, Try.results27, go_sem, x1.c0, x1.c1]) rfl ⟨rfl, Bx2.stored hb1⟩

set_option maxRecDepth 100000 in
set_option maxHeartbeats 1000000 in
theorem c_implCountHands (n k : Int) (w : World) (lo0 : -9223372036854775808 ≤ n) (hi0 : n ≤ 9223372036854775807) (lo1 : -9223372036854775808 ≤ k) (hi1 : k ≤ 9223372036854775807) : Calls Try.prog 17 #[.int .i64 n, .int .i64 k] w fun e w' => e = .returned (.tuple #[.int .i64 (mCount n k), .bool (goodD n k)]) ∧ Below w.heap.size w w' := by
  cases hg : goodD n k
  · have em : mCount n k = 0 := by unfold mCount; rw [hg]; rfl
    rw [em]
    have con := fun W => c_drawOfNot n k W hg
    have Con := Lib.hid con
    clear con hg em
    go_enter Try.func17, Try.ntmps17
    go_wp2_with fail
    refine (Con.out w).mono ?_
    rintro e w1 ⟨rfl, h1⟩
    go_upto_region 2 with (fail)
    obtain ⟨w2, hw2⟩ : ∃ w2, w2 = w1.alloc (.cells #[.slice none 0 0, .int .i64 0] 41) := ⟨_, rfl⟩
    rw [← hw2]
    have h2 : Below w1.heap.size w1 w2 := by rw [hw2]; exact (Below.refl _ _).alloc (Nat.le_refl _) _
    have hb2 := bstep h1 h2
    clear hw2
    go_wp2
    go_ret2
    exact ⟨rfl, hb2⟩
  · obtain ⟨N, K, rfl, rfl, hn, hk⟩ := goodD_nat hg
    have hT := tilesN_bd hn
    have em : mCount (N : Int) (K : Int) = (chV (tilesN N) K : Int) := by unfold mCount; rw [hg]; rfl
    rw [em]
    clear hg em
    go_enter Try.func17, Try.ntmps17
    go_wp2_with fail
    refine (c_drawOf N K w hn hk).mono ?_
    rintro e w1 ⟨A, c, rfl, _, h1⟩
    have hb1 := h1
    go_upto_region 2 with (fail)
    obtain ⟨w2, hw2⟩ : ∃ w2, w2 = w1.alloc (.cells #[.slice A (tilesN N) c, .int .i64 K] 41) := ⟨_, rfl⟩
    rw [← hw2]
    have d2 : Bx2 w2 w1.heap.size (.slice A (tilesN N) c) (.int .i64 K) := by rw [hw2]; exact Bx2.fresh _ _ _ _
    have h2 : Below w1.heap.size w1 w2 := by rw [hw2]; exact (Below.refl _ _).alloc (Nat.le_refl _) _
    have hb2 := bstep hb1 h2
    have d0 := d2.c0
    have d1 := d2.c1
    have hs1 := d2.lt
    clear hw2
    go_wp2_with fail
    refine (c_hands A (tilesN N) c K w2 hT.2.1 (by omega)).mono ?_
    rintro e w3 ⟨rfl, h3⟩
    have hb3 := bstep hb2 h3
    go_wp2
    go_ret2
    exact ⟨rfl, hb3⟩

set_option maxRecDepth 100000 in
set_option maxHeartbeats 1000000 in
theorem c_implTiles (n k m : Int) (w : World) (lo0 : -9223372036854775808 ≤ n) (hi0 : n ≤ 9223372036854775807) (lo1 : -9223372036854775808 ≤ k) (hi1 : k ≤ 9223372036854775807) (lo2 : -9223372036854775808 ≤ m) (hi2 : m ≤ 9223372036854775807) : Calls Try.prog 22 #[.int .i64 n, .int .i64 k, .int .i64 m] w fun e w' => e = .returned (.tuple #[.agg #[.int .i64 (mTiles n k m).1, .int .i64 (mTiles n k m).2], .bool (gTiles n k m)]) ∧ Below w.heap.size w w' := by
  cases hg : gTiles n k m
  · have em : mTiles n k m = (0, 0) := by unfold mTiles; rw [hg]; rfl
    rw [em]
    cases hd : goodD n k
    · have con := fun W => c_drawOfNot n k W hd
      have Con := Lib.hid con
      clear con hg hd em
      go_enter Try.func22, Try.ntmps22
      go_wp2_with fail
      obtain ⟨w0, hw0⟩ : ∃ w0, w0 = w.alloc (.cells #[.int .i64 0, .int .i64 0] 26) := ⟨_, rfl⟩
      rw [← hw0]
      have x0 : Bx2 w0 w.heap.size (.int .i64 0) (.int .i64 0) := by rw [hw0]; exact Bx2.fresh _ _ _ _
      have hb0 : Below w.heap.size w w0 := by rw [hw0]; go_grown
      clear hw0
      refine (Con.out w0).mono ?_
      rintro e w1 ⟨rfl, h1⟩
      have x1 := x0.keep h1
      have hb1 := bstep hb0 h1
      go_upto_region 2 with (fail)
      obtain ⟨w2, hw2⟩ : ∃ w2, w2 = w1.alloc (.cells #[.slice none 0 0, .int .i64 0] 41) := ⟨_, rfl⟩
      rw [← hw2]
      have h2 : Below w1.heap.size w1 w2 := by rw [hw2]; exact (Below.refl _ _).alloc (Nat.le_refl _) _
      have x2 := x1.keep h2
      have hb2 := bstep hb1 h2
      clear hw2
      have y0 := x2.c0
      have y1 := x2.c1
      have z0 := x2.fz 0
      have z1 := x2.fz 1
      go_wp2
      refine bodyPost_ret (v := .tuple #[.agg #[.int .i64 ((0, 0) : Int × Int).1, .int .i64 ((0, 0) : Int × Int).2], .bool false]) (by simp [results, Try.results22, go_sem, x2.c0, x2.c1]) rfl ⟨rfl, Bx2.stored hb2⟩
    obtain ⟨N, K, rfl, rfl, hn, hk⟩ := goodD_nat hd
    have hm : m < 0 ∨ (tilesN N : Int) < m := by
      have h : (decide (0 ≤ m) && decide (m ≤ (tilesN N : Int))) = false := by
        unfold gTiles at hg
        rw [hd, Bool.true_and] at hg
        exact hg
      by_cases h0 : m < 0
      · exact .inl h0
      · right
        by_cases h1 : (tilesN N : Int) < m
        · exact h1
        · exfalso
          rw [decide_eq_true (by omega), decide_eq_true (by omega)] at h
          cases h
    have hT := tilesN_bd hn
    clear hg hd em
    rcases hm with hm | hm
    all_goals
      go_enter Try.func22, Try.ntmps22
      go_wp2_with fail
      obtain ⟨w0, hw0⟩ : ∃ w0, w0 = w.alloc (.cells #[.int .i64 0, .int .i64 0] 26) := ⟨_, rfl⟩
      rw [← hw0]
      have x0 : Bx2 w0 w.heap.size (.int .i64 0) (.int .i64 0) := by rw [hw0]; exact Bx2.fresh _ _ _ _
      have hb0 : Below w.heap.size w w0 := by rw [hw0]; go_grown
      clear hw0
      refine (c_drawOf N K w0 hn hk).mono ?_
      rintro e w1 ⟨A, c, rfl, _, h1⟩
      have x1 := x0.keep h1
      have hb1 := bstep hb0 h1
      have hs0 := x1.lt
      go_upto_region 2 with (fail)
      obtain ⟨w2, hw2⟩ : ∃ w2, w2 = w1.alloc (.cells #[.slice A (tilesN N) c, .int .i64 K] 41) := ⟨_, rfl⟩
      rw [← hw2]
      have d2 : Bx2 w2 w1.heap.size (.slice A (tilesN N) c) (.int .i64 K) := by rw [hw2]; exact Bx2.fresh _ _ _ _
      have h2 : Below w1.heap.size w1 w2 := by rw [hw2]; exact (Below.refl _ _).alloc (Nat.le_refl _) _
      have x2 := x1.keep h2
      have hb2 := bstep hb1 h2
      have d0 := d2.c0
      have d1 := d2.c1
      have hs1 := d2.lt
      clear hw2
      have y0 := x2.c0
      have y1 := x2.c1
      have z0 := x2.fz 0
      have z1 := x2.fz 1
      go_wp2
      refine bodyPost_ret (v := .tuple #[.agg #[.int .i64 ((0, 0) : Int × Int).1, .int .i64 ((0, 0) : Int × Int).2], .bool false]) (by simp [results, Try.results22, go_sem, x2.c0, x2.c1]) rfl ⟨rfl, Bx2.stored hb2⟩
  · obtain ⟨N, K, M, rfl, rfl, rfl, hn, hk, hm2⟩ : ∃ N K M : Nat, n = N ∧ k = K ∧ m = M ∧ N ≤ 6 ∧ K ≤ tilesN N ∧ (M : Int) ≤ (tilesN N : Int) := by
      have hg0 := hg
      unfold gTiles at hg0
      rw [Bool.and_eq_true] at hg0
      obtain ⟨hd, hm⟩ := hg0
      obtain ⟨N, K, rfl, rfl, hn, hk⟩ := goodD_nat hd
      simp only [Bool.and_eq_true, decide_eq_true_eq, Int.toNat_natCast] at hm
      exact ⟨N, K, m.toNat, rfl, rfl, by omega, hn, hk, by omega⟩
    have hT := tilesN_bd hn
    have em : mTiles (N : Int) (K : Int) (M : Int) = (rat (chV (tilesN N - M) ((K : Int) - M)) (chV (tilesN N) K)) := by unfold mTiles; rw [hg]; rfl
    rw [em]
    clear hg em
    go_enter Try.func22, Try.ntmps22
    go_wp2_with fail
    obtain ⟨w0, hw0⟩ : ∃ w0, w0 = w.alloc (.cells #[.int .i64 0, .int .i64 0] 26) := ⟨_, rfl⟩
    rw [← hw0]
    have x0 : Bx2 w0 w.heap.size (.int .i64 0) (.int .i64 0) := by rw [hw0]; exact Bx2.fresh _ _ _ _
    have hb0 : Below w.heap.size w w0 := by rw [hw0]; go_grown
    clear hw0
    refine (c_drawOf N K w0 hn hk).mono ?_
    rintro e w1 ⟨A, c, rfl, _, h1⟩
    have x1 := x0.keep h1
    have hb1 := bstep hb0 h1
    have hs0 := x1.lt
    go_upto_region 2 with (fail)
    obtain ⟨w2, hw2⟩ : ∃ w2, w2 = w1.alloc (.cells #[.slice A (tilesN N) c, .int .i64 K] 41) := ⟨_, rfl⟩
    rw [← hw2]
    have d2 : Bx2 w2 w1.heap.size (.slice A (tilesN N) c) (.int .i64 K) := by rw [hw2]; exact Bx2.fresh _ _ _ _
    have h2 : Below w1.heap.size w1 w2 := by rw [hw2]; exact (Below.refl _ _).alloc (Nat.le_refl _) _
    have x2 := x1.keep h2
    have hb2 := bstep hb1 h2
    have d0 := d2.c0
    have d1 := d2.c1
    have hs1 := d2.lt
    clear hw2
    have e1 := Lib.hid (chV_self (m := M) (by omega))
    go_upto_region 4 with (fail)
    go_region_held3 (fun w' => w'.cell? ⟨w1.heap.size, 0, none⟩ = some (.slice A (tilesN N) c) ∧ w'.cell? ⟨w1.heap.size, 1, none⟩ = some (.int .i64 K)) (first | exact ⟨y40, y41⟩ | exact ⟨y30, y31⟩ | exact ⟨d0, d1⟩ | exact ⟨far2 (by omega) y40, far2 (by omega) y41⟩ | go_keep) (first | (go_at_call 51; refine (c_chance A (tilesN N) c K (chV M M * chV (tilesN N - M) ((K : Int) - M)) _ _ hT.2.1 hk rfl (by have := Nat.mul_le_mul (chV_bd (m := M) (by omega) (M : Int)) (chV_bd (m := tilesN N - M) (by omega) ((K : Int) - M)); omega)).mono ?_; rintro e w4 ⟨rfl, h4⟩; have y40 := keepc h4 y30; have y41 := keepc h4 y31; have x4 := x3.keep h4; have hb4 := bstep hb3 h4; have q0 := x4.c0; have q1 := x4.c1; have q2 := x4.fz 0; have q3 := x4.fz 1) | (go_at_call 52; refine (c_handsWith A (tilesN N) c K (M) _ _ _ hT.2.1 (by omega) rfl (by omega) (by omega) (by omega)).mono ?_; rintro e w3 ⟨rfl, h3⟩; have y30 := keepc h3 (cell_drew _ d0); have y31 := keepc h3 (cell_drew _ d1); have x3 := x2.drew.keep h3; have hb3 := bstep hb2.drew h3))
    rw [e1.out, Nat.one_mul]
    have y0 := x4.c0
    have y1 := x4.c1
    have z0 := x4.fz 0
    have z1 := x4.fz 1
    go_wp2
    refine bodyPost_ret (v := .tuple #[.agg #[.int .i64 (rat (chV (tilesN N - M) ((K : Int) - M)) (chV (tilesN N) K)).1, .int .i64 (rat (chV (tilesN N - M) ((K : Int) - M)) (chV (tilesN N) K)).2], .bool true]) (by simp [results, Try.results22, go_sem, x4.c0, x4.c1]) rfl ⟨rfl, Bx2.stored hb4⟩

set_option maxRecDepth 100000 in
set_option maxHeartbeats 1000000 in
theorem c_asMany (n k m : Int) (w : World) (lo0 : -9223372036854775808 ≤ n) (hi0 : n ≤ 9223372036854775807) (lo1 : -9223372036854775808 ≤ k) (hi1 : k ≤ 9223372036854775807) (lo2 : -9223372036854775808 ≤ m) (hi2 : m ≤ 9223372036854775807) : Calls Try.prog 54 #[.int .i64 n, .int .i64 k, .int .i64 m] w fun e w' => e = .returned (.tuple #[.agg #[.int .i64 (mJust n k m).1, .int .i64 (mJust n k m).2], .bool (gJust n k m)]) ∧ Below w.heap.size w w' := by
  cases hg : gJust n k m
  · have em : mJust n k m = (0, 0) := by unfold mJust; rw [hg]; rfl
    rw [em]
    cases hd : goodD n k
    · have con := fun W => c_drawOfNot n k W hd
      have Con := Lib.hid con
      clear con hg hd em
      go_enter Try.func54, Try.ntmps54
      go_wp2_with fail
      obtain ⟨w0, hw0⟩ : ∃ w0, w0 = w.alloc (.cells #[.int .i64 0, .int .i64 0] 26) := ⟨_, rfl⟩
      rw [← hw0]
      have x0 : Bx2 w0 w.heap.size (.int .i64 0) (.int .i64 0) := by rw [hw0]; exact Bx2.fresh _ _ _ _
      have hb0 : Below w.heap.size w w0 := by rw [hw0]; go_grown
      clear hw0
      refine (Con.out w0).mono ?_
      rintro e w1 ⟨rfl, h1⟩
      have x1 := x0.keep h1
      have hb1 := bstep hb0 h1
      go_upto_region 2 with (fail)
      obtain ⟨w2, hw2⟩ : ∃ w2, w2 = w1.alloc (.cells #[.slice none 0 0, .int .i64 0] 41) := ⟨_, rfl⟩
      rw [← hw2]
      have h2 : Below w1.heap.size w1 w2 := by rw [hw2]; exact (Below.refl _ _).alloc (Nat.le_refl _) _
      have x2 := x1.keep h2
      have hb2 := bstep hb1 h2
      clear hw2
      have y0 := x2.c0
      have y1 := x2.c1
      have z0 := x2.fz 0
      have z1 := x2.fz 1
      go_wp2
      refine bodyPost_ret (v := .tuple #[.agg #[.int .i64 ((0, 0) : Int × Int).1, .int .i64 ((0, 0) : Int × Int).2], .bool false]) (by simp [results, Try.results54, go_sem, x2.c0, x2.c1]) rfl ⟨rfl, Bx2.stored hb2⟩
    obtain ⟨N, K, rfl, rfl, hn, hk⟩ := goodD_nat hd
    have hm : m < 0 ∨ ((N : Int) + 1) < m := by
      have h : (decide (0 ≤ m) && decide (m ≤ ((N : Int) + 1))) = false := by
        unfold gJust at hg
        rw [hd, Bool.true_and] at hg
        exact hg
      by_cases h0 : m < 0
      · exact .inl h0
      · right
        by_cases h1 : ((N : Int) + 1) < m
        · exact h1
        · exfalso
          rw [decide_eq_true (by omega), decide_eq_true (by omega)] at h
          cases h
    have hT := tilesN_bd hn
    clear hg hd em
    rcases hm with hm | hm
    all_goals
      go_enter Try.func54, Try.ntmps54
      go_wp2_with fail
      obtain ⟨w0, hw0⟩ : ∃ w0, w0 = w.alloc (.cells #[.int .i64 0, .int .i64 0] 26) := ⟨_, rfl⟩
      rw [← hw0]
      have x0 : Bx2 w0 w.heap.size (.int .i64 0) (.int .i64 0) := by rw [hw0]; exact Bx2.fresh _ _ _ _
      have hb0 : Below w.heap.size w w0 := by rw [hw0]; go_grown
      clear hw0
      refine (c_drawOf N K w0 hn hk).mono ?_
      rintro e w1 ⟨A, c, rfl, _, h1⟩
      have x1 := x0.keep h1
      have hb1 := bstep hb0 h1
      have hs0 := x1.lt
      go_upto_region 2 with (fail)
      obtain ⟨w2, hw2⟩ : ∃ w2, w2 = w1.alloc (.cells #[.slice A (tilesN N) c, .int .i64 K] 41) := ⟨_, rfl⟩
      rw [← hw2]
      have d2 : Bx2 w2 w1.heap.size (.slice A (tilesN N) c) (.int .i64 K) := by rw [hw2]; exact Bx2.fresh _ _ _ _
      have h2 : Below w1.heap.size w1 w2 := by rw [hw2]; exact (Below.refl _ _).alloc (Nat.le_refl _) _
      have x2 := x1.keep h2
      have hb2 := bstep hb1 h2
      have d0 := d2.c0
      have d1 := d2.c1
      have hs1 := d2.lt
      clear hw2
      have y0 := x2.c0
      have y1 := x2.c1
      have z0 := x2.fz 0
      have z1 := x2.fz 1
      go_wp2
      refine bodyPost_ret (v := .tuple #[.agg #[.int .i64 ((0, 0) : Int × Int).1, .int .i64 ((0, 0) : Int × Int).2], .bool false]) (by simp [results, Try.results54, go_sem, x2.c0, x2.c1]) rfl ⟨rfl, Bx2.stored hb2⟩
  · obtain ⟨N, K, M, rfl, rfl, rfl, hn, hk, hm2⟩ : ∃ N K M : Nat, n = N ∧ k = K ∧ m = M ∧ N ≤ 6 ∧ K ≤ tilesN N ∧ (M : Int) ≤ ((N : Int) + 1) := by
      have hg0 := hg
      unfold gJust at hg0
      rw [Bool.and_eq_true] at hg0
      obtain ⟨hd, hm⟩ := hg0
      obtain ⟨N, K, rfl, rfl, hn, hk⟩ := goodD_nat hd
      simp only [Bool.and_eq_true, decide_eq_true_eq] at hm
      exact ⟨N, K, m.toNat, rfl, rfl, by omega, hn, hk, by omega⟩
    have hT := tilesN_bd hn
    have em : mJust (N : Int) (K : Int) (M : Int) = (rat (chV (N + 1) M * chV (tilesN N - (N + 1)) ((K : Int) - M)) (chV (tilesN N) K)) := by unfold mJust; rw [hg]; rfl
    rw [em]
    clear hg em
    go_enter Try.func54, Try.ntmps54
    go_wp2_with fail
    obtain ⟨w0, hw0⟩ : ∃ w0, w0 = w.alloc (.cells #[.int .i64 0, .int .i64 0] 26) := ⟨_, rfl⟩
    rw [← hw0]
    have x0 : Bx2 w0 w.heap.size (.int .i64 0) (.int .i64 0) := by rw [hw0]; exact Bx2.fresh _ _ _ _
    have hb0 : Below w.heap.size w w0 := by rw [hw0]; go_grown
    clear hw0
    refine (c_drawOf N K w0 hn hk).mono ?_
    rintro e w1 ⟨A, c, rfl, _, h1⟩
    have x1 := x0.keep h1
    have hb1 := bstep hb0 h1
    have hs0 := x1.lt
    go_upto_region 2 with (fail)
    obtain ⟨w2, hw2⟩ : ∃ w2, w2 = w1.alloc (.cells #[.slice A (tilesN N) c, .int .i64 K] 41) := ⟨_, rfl⟩
    rw [← hw2]
    have d2 : Bx2 w2 w1.heap.size (.slice A (tilesN N) c) (.int .i64 K) := by rw [hw2]; exact Bx2.fresh _ _ _ _
    have h2 : Below w1.heap.size w1 w2 := by rw [hw2]; exact (Below.refl _ _).alloc (Nat.le_refl _) _
    have x2 := x1.keep h2
    have hb2 := bstep hb1 h2
    have d0 := d2.c0
    have d1 := d2.c1
    have hs1 := d2.lt
    clear hw2
    have en : IntKind.i64.wrap ((N : Int) + 1) = ((N + 1 : Nat) : Int) := by rw [IntWalk.i64_in _ (by omega)]; omega
    go_upto_region 4 with (fail)
    go_region_held3 (fun w' => w'.cell? ⟨w1.heap.size, 0, none⟩ = some (.slice A (tilesN N) c) ∧ w'.cell? ⟨w1.heap.size, 1, none⟩ = some (.int .i64 K)) (first | exact ⟨y40, y41⟩ | exact ⟨y30, y31⟩ | exact ⟨d0, d1⟩ | exact ⟨far2 (by omega) y40, far2 (by omega) y41⟩ | go_keep) (first | (go_at_call 51; refine (c_chance A (tilesN N) c K (chV (N + 1) M * chV (tilesN N - (N + 1)) ((K : Int) - M)) _ _ hT.2.1 hk rfl (by have := Nat.mul_le_mul (chV_bd (m := N + 1) (by omega) (M : Int)) (chV_bd (m := tilesN N - (N + 1)) (by omega) ((K : Int) - M)); omega)).mono ?_; rintro e w4 ⟨rfl, h4⟩; have y40 := keepc h4 y30; have y41 := keepc h4 y31; have x4 := x3.keep h4; have hb4 := bstep hb3 h4; have q0 := x4.c0; have q1 := x4.c1; have q2 := x4.fz 0; have q3 := x4.fz 1) | (go_at_call 52; refine (c_handsWith A (tilesN N) c K (N + 1) _ _ _ hT.2.1 (by omega) (by first | rfl | omega) hT.2.2 (by omega) (by omega)).mono ?_; rintro e w3 ⟨rfl, h3⟩; have y30 := keepc h3 (cell_drew _ d0); have y31 := keepc h3 (cell_drew _ d1); have x3 := x2.drew.keep h3; have hb3 := bstep hb2.drew h3))
    have y0 := x4.c0
    have y1 := x4.c1
    have z0 := x4.fz 0
    have z1 := x4.fz 1
    go_wp2
    refine bodyPost_ret (v := .tuple #[.agg #[.int .i64 (rat (chV (N + 1) M * chV (tilesN N - (N + 1)) ((K : Int) - M)) (chV (tilesN N) K)).1, .int .i64 (rat (chV (N + 1) M * chV (tilesN N - (N + 1)) ((K : Int) - M)) (chV (tilesN N) K)).2], .bool true]) (by simp [results, Try.results54, go_sem, x4.c0, x4.c1]) rfl ⟨rfl, Bx2.stored hb4⟩

set_option maxRecDepth 100000 in
set_option maxHeartbeats 1000000 in
theorem c_implWithout (n k m : Int) (w : World) (lo0 : -9223372036854775808 ≤ n) (hi0 : n ≤ 9223372036854775807) (lo1 : -9223372036854775808 ≤ k) (hi1 : k ≤ 9223372036854775807) (lo2 : -9223372036854775808 ≤ m) (hi2 : m ≤ 9223372036854775807) : Calls Try.prog 28 #[.int .i64 n, .int .i64 k, .int .i64 m] w fun e w' => e = .returned (.tuple #[.agg #[.int .i64 (mWithout n k m).1, .int .i64 (mWithout n k m).2], .bool (gJust n k m)]) ∧ Below w.heap.size w w' := by
  cases hg : gJust n k m
  · have em : mWithout n k m = (0, 0) := by unfold mWithout; rw [hg]; rfl
    rw [em]
    cases hd : goodD n k
    · have con := fun W => c_drawOfNot n k W hd
      have Con := Lib.hid con
      clear con hg hd em
      go_enter Try.func28, Try.ntmps28
      go_wp2_with fail
      obtain ⟨w0, hw0⟩ : ∃ w0, w0 = w.alloc (.cells #[.int .i64 0, .int .i64 0] 26) := ⟨_, rfl⟩
      rw [← hw0]
      have x0 : Bx2 w0 w.heap.size (.int .i64 0) (.int .i64 0) := by rw [hw0]; exact Bx2.fresh _ _ _ _
      have hb0 : Below w.heap.size w w0 := by rw [hw0]; go_grown
      clear hw0
      refine (Con.out w0).mono ?_
      rintro e w1 ⟨rfl, h1⟩
      have x1 := x0.keep h1
      have hb1 := bstep hb0 h1
      go_upto_region 2 with (fail)
      obtain ⟨w2, hw2⟩ : ∃ w2, w2 = w1.alloc (.cells #[.slice none 0 0, .int .i64 0] 41) := ⟨_, rfl⟩
      rw [← hw2]
      have h2 : Below w1.heap.size w1 w2 := by rw [hw2]; exact (Below.refl _ _).alloc (Nat.le_refl _) _
      have x2 := x1.keep h2
      have hb2 := bstep hb1 h2
      clear hw2
      have y0 := x2.c0
      have y1 := x2.c1
      have z0 := x2.fz 0
      have z1 := x2.fz 1
      go_wp2
      refine bodyPost_ret (v := .tuple #[.agg #[.int .i64 ((0, 0) : Int × Int).1, .int .i64 ((0, 0) : Int × Int).2], .bool false]) (by simp [results, Try.results28, go_sem, x2.c0, x2.c1]) rfl ⟨rfl, Bx2.stored hb2⟩
    obtain ⟨N, K, rfl, rfl, hn, hk⟩ := goodD_nat hd
    have hm : m < 0 ∨ ((N : Int) + 1) < m := by
      have h : (decide (0 ≤ m) && decide (m ≤ ((N : Int) + 1))) = false := by
        unfold gJust at hg
        rw [hd, Bool.true_and] at hg
        exact hg
      by_cases h0 : m < 0
      · exact .inl h0
      · right
        by_cases h1 : ((N : Int) + 1) < m
        · exact h1
        · exfalso
          rw [decide_eq_true (by omega), decide_eq_true (by omega)] at h
          cases h
    have hT := tilesN_bd hn
    clear hg hd em
    rcases hm with hm | hm
    all_goals
      go_enter Try.func28, Try.ntmps28
      go_wp2_with fail
      obtain ⟨w0, hw0⟩ : ∃ w0, w0 = w.alloc (.cells #[.int .i64 0, .int .i64 0] 26) := ⟨_, rfl⟩
      rw [← hw0]
      have x0 : Bx2 w0 w.heap.size (.int .i64 0) (.int .i64 0) := by rw [hw0]; exact Bx2.fresh _ _ _ _
      have hb0 : Below w.heap.size w w0 := by rw [hw0]; go_grown
      clear hw0
      refine (c_drawOf N K w0 hn hk).mono ?_
      rintro e w1 ⟨A, c, rfl, _, h1⟩
      have x1 := x0.keep h1
      have hb1 := bstep hb0 h1
      have hs0 := x1.lt
      go_upto_region 2 with (fail)
      obtain ⟨w2, hw2⟩ : ∃ w2, w2 = w1.alloc (.cells #[.slice A (tilesN N) c, .int .i64 K] 41) := ⟨_, rfl⟩
      rw [← hw2]
      have d2 : Bx2 w2 w1.heap.size (.slice A (tilesN N) c) (.int .i64 K) := by rw [hw2]; exact Bx2.fresh _ _ _ _
      have h2 : Below w1.heap.size w1 w2 := by rw [hw2]; exact (Below.refl _ _).alloc (Nat.le_refl _) _
      have x2 := x1.keep h2
      have hb2 := bstep hb1 h2
      have d0 := d2.c0
      have d1 := d2.c1
      have hs1 := d2.lt
      clear hw2
      have y0 := x2.c0
      have y1 := x2.c1
      have z0 := x2.fz 0
      have z1 := x2.fz 1
      go_wp2
      refine bodyPost_ret (v := .tuple #[.agg #[.int .i64 ((0, 0) : Int × Int).1, .int .i64 ((0, 0) : Int × Int).2], .bool false]) (by simp [results, Try.results28, go_sem, x2.c0, x2.c1]) rfl ⟨rfl, Bx2.stored hb2⟩
  · obtain ⟨N, K, M, rfl, rfl, rfl, hn, hk, hm2⟩ : ∃ N K M : Nat, n = N ∧ k = K ∧ m = M ∧ N ≤ 6 ∧ K ≤ tilesN N ∧ (M : Int) ≤ ((N : Int) + 1) := by
      have hg0 := hg
      unfold gJust at hg0
      rw [Bool.and_eq_true] at hg0
      obtain ⟨hd, hm⟩ := hg0
      obtain ⟨N, K, rfl, rfl, hn, hk⟩ := goodD_nat hd
      simp only [Bool.and_eq_true, decide_eq_true_eq] at hm
      exact ⟨N, K, m.toNat, rfl, rfl, by omega, hn, hk, by omega⟩
    have hT := tilesN_bd hn
    have em : mWithout (N : Int) (K : Int) (M : Int) = (rat (chV (othN N M) K) (chV (tilesN N) K)) := by unfold mWithout; rw [hg]; rfl
    rw [em]
    clear hg em
    go_enter Try.func28, Try.ntmps28
    go_wp2_with fail
    obtain ⟨w0, hw0⟩ : ∃ w0, w0 = w.alloc (.cells #[.int .i64 0, .int .i64 0] 26) := ⟨_, rfl⟩
    rw [← hw0]
    have x0 : Bx2 w0 w.heap.size (.int .i64 0) (.int .i64 0) := by rw [hw0]; exact Bx2.fresh _ _ _ _
    have hb0 : Below w.heap.size w w0 := by rw [hw0]; go_grown
    clear hw0
    refine (c_drawOf N K w0 hn hk).mono ?_
    rintro e w1 ⟨A, c, rfl, _, h1⟩
    have x1 := x0.keep h1
    have hb1 := bstep hb0 h1
    have hs0 := x1.lt
    go_upto_region 2 with (fail)
    obtain ⟨w2, hw2⟩ : ∃ w2, w2 = w1.alloc (.cells #[.slice A (tilesN N) c, .int .i64 K] 41) := ⟨_, rfl⟩
    rw [← hw2]
    have d2 : Bx2 w2 w1.heap.size (.slice A (tilesN N) c) (.int .i64 K) := by rw [hw2]; exact Bx2.fresh _ _ _ _
    have h2 : Below w1.heap.size w1 w2 := by rw [hw2]; exact (Below.refl _ _).alloc (Nat.le_refl _) _
    have x2 := x1.keep h2
    have hb2 := bstep hb1 h2
    have d0 := d2.c0
    have d1 := d2.c1
    have hs1 := d2.lt
    clear hw2
    have ob := othN_bd hn (show M ≤ N + 1 by omega)
    go_upto_region 6 with (fail)
    go_region_held3 (fun w' => w'.cell? ⟨w1.heap.size, 0, none⟩ = some (.slice A (tilesN N) c) ∧ w'.cell? ⟨w1.heap.size, 1, none⟩ = some (.int .i64 K)) (first | exact ⟨y40, y41⟩ | exact ⟨y30, y31⟩ | exact ⟨d0, d1⟩ | exact ⟨far2 (by omega) y40, far2 (by omega) y41⟩ | go_keep) (first | (go_at_call 51; refine (c_chance A (tilesN N) c K (chV (tilesN N - (tilesN N - othN N M)) K) _ _ hT.2.1 hk rfl (chL (by omega) _)).mono ?_; rintro e w4 ⟨rfl, h4⟩; have y40 := keepc h4 y30; have y41 := keepc h4 y31; have x4 := x3.keep h4; have hb4 := bstep hb3 h4; have q0 := x4.c0; have q1 := x4.c1; have q2 := x4.fz 0; have q3 := x4.fz 1) | (go_at_call 52; refine (c_handsNone A (tilesN N) c K (tilesN N - othN N M) _ _ hT.2.1 (by omega) (by exact oth_div2 hn (by omega)) (by omega)).mono ?_; rintro e w3 ⟨rfl, h3⟩; have y30 := keepc h3 (cell_drew _ d0); have y31 := keepc h3 (cell_drew _ d1); have x3 := x2.drew.keep h3; have hb3 := bstep hb2.drew h3))
    rw [Nat.sub_sub_self ob]
    have y0 := x4.c0
    have y1 := x4.c1
    have z0 := x4.fz 0
    have z1 := x4.fz 1
    go_wp2
    refine bodyPost_ret (v := .tuple #[.agg #[.int .i64 (rat (chV (othN N M) K) (chV (tilesN N) K)).1, .int .i64 (rat (chV (othN N M) K) (chV (tilesN N) K)).2], .bool true]) (by simp [results, Try.results28, go_sem, x4.c0, x4.c1]) rfl ⟨rfl, Bx2.stored hb4⟩

set_option maxRecDepth 100000 in
set_option maxHeartbeats 1000000 in
theorem c_implDoublesC (n k m : Int) (w : World) (lo0 : -9223372036854775808 ≤ n) (hi0 : n ≤ 9223372036854775807) (lo1 : -9223372036854775808 ≤ k) (hi1 : k ≤ 9223372036854775807) (lo2 : -9223372036854775808 ≤ m) (hi2 : m ≤ 9223372036854775807) : Calls Try.prog 24 #[.int .i64 n, .int .i64 k, .int .i64 m] w fun e w' => e = .returned (.tuple #[.agg #[.int .i64 (mJust n k m).1, .int .i64 (mJust n k m).2], .bool (gJust n k m)]) ∧ Below w.heap.size w w' := by
  have con := fun W => c_asMany n k m W lo0 hi0 lo1 hi1 lo2 hi2
  have Con := Lib.hid con
  clear con
  go_enter Try.func24, Try.ntmps24
  go_wp2_with fail
  obtain ⟨w0, hw0⟩ : ∃ w0, w0 = w.alloc (.cells #[.int .i64 0, .int .i64 0] 26) := ⟨_, rfl⟩
  rw [← hw0]
  have x0 : Bx2 w0 w.heap.size (.int .i64 0) (.int .i64 0) := by rw [hw0]; exact Bx2.fresh _ _ _ _
  have hb0 : Below w.heap.size w w0 := by rw [hw0]; go_grown
  clear hw0
  refine (Con.out w0).mono ?_
  rintro e w1 ⟨rfl, h1⟩
  have x1 := x0.keep h1
  have hb1 := bstep hb0 h1
  have y0 := x1.c0
  have y1 := x1.c1
  have z0 := x1.fz 0
  have z1 := x1.fz 1
  go_wp2
  refine bodyPost_ret (v := .tuple #[.agg #[.int .i64 (mJust n k m).1, .int .i64 (mJust n k m).2], .bool (gJust n k m)]) (by simp [results, Try.results24, go_sem, x1.c0, x1.c1]) rfl ⟨rfl, Bx2.stored hb1⟩

set_option maxRecDepth 100000 in
set_option maxHeartbeats 1000000 in
theorem c_implTimesC (n k m : Int) (w : World) (lo0 : -9223372036854775808 ≤ n) (hi0 : n ≤ 9223372036854775807) (lo1 : -9223372036854775808 ≤ k) (hi1 : k ≤ 9223372036854775807) (lo2 : -9223372036854775808 ≤ m) (hi2 : m ≤ 9223372036854775807) : Calls Try.prog 30 #[.int .i64 n, .int .i64 k, .int .i64 m] w fun e w' => e = .returned (.tuple #[.agg #[.int .i64 (mJust n k m).1, .int .i64 (mJust n k m).2], .bool (gJust n k m)]) ∧ Below w.heap.size w w' := by
  have con := fun W => c_asMany n k m W lo0 hi0 lo1 hi1 lo2 hi2
  have Con := Lib.hid con
  clear con
  go_enter Try.func30, Try.ntmps30
  go_wp2_with fail
  obtain ⟨w0, hw0⟩ : ∃ w0, w0 = w.alloc (.cells #[.int .i64 0, .int .i64 0] 26) := ⟨_, rfl⟩
  rw [← hw0]
  have x0 : Bx2 w0 w.heap.size (.int .i64 0) (.int .i64 0) := by rw [hw0]; exact Bx2.fresh _ _ _ _
  have hb0 : Below w.heap.size w w0 := by rw [hw0]; go_grown
  clear hw0
  refine (Con.out w0).mono ?_
  rintro e w1 ⟨rfl, h1⟩
  have x1 := x0.keep h1
  have hb1 := bstep hb0 h1
  have y0 := x1.c0
  have y1 := x1.c1
  have z0 := x1.fz 0
  have z1 := x1.fz 1
  go_wp2
  refine bodyPost_ret (v := .tuple #[.agg #[.int .i64 (mJust n k m).1, .int .i64 (mJust n k m).2], .bool (gJust n k m)]) (by simp [results, Try.results30, go_sem, x1.c0, x1.c1]) rfl ⟨rfl, Bx2.stored hb1⟩

theorem tile_one (n k : Int) : mTiles n k 1 = mTile n k ∧ gTiles n k 1 = goodD n k := by
  have eg : gTiles n k 1 = goodD n k := by
    unfold gTiles
    cases hd : goodD n k
    · rfl
    · obtain ⟨N, K, rfl, rfl, hn, hk⟩ := goodD_nat hd
      have hT := tilesN_bd hn
      rw [Int.toNat_natCast, decide_eq_true (by omega), decide_eq_true (by omega)]
      rfl
  refine ⟨?_, eg⟩
  unfold mTiles mTile
  rw [eg]
  cases hd : goodD n k
  · rfl
  · obtain ⟨N, K, rfl, rfl, hn, hk⟩ := goodD_nat hd
    have h := one_tile hn hk
    rw [show chV 1 1 = 1 from by decide, Nat.one_mul] at h
    exact h

set_option maxRecDepth 100000 in
set_option maxHeartbeats 1000000 in
theorem c_implTile (n k : Int) (w : World) (lo0 : -9223372036854775808 ≤ n) (hi0 : n ≤ 9223372036854775807) (lo1 : -9223372036854775808 ≤ k) (hi1 : k ≤ 9223372036854775807) : Calls Try.prog 19 #[.int .i64 n, .int .i64 k] w fun e w' => e = .returned (.tuple #[.agg #[.int .i64 (mTile n k).1, .int .i64 (mTile n k).2], .bool (goodD n k)]) ∧ Below w.heap.size w w' := by
  have con := fun W => (by have h := c_implTiles n k 1 W lo0 hi0 lo1 hi1 (by omega) (by omega); rw [(tile_one n k).1, (tile_one n k).2] at h; exact h)
  have Con := Lib.hid con
  clear con
  go_enter Try.func19, Try.ntmps19
  go_wp2_with fail
  obtain ⟨w0, hw0⟩ : ∃ w0, w0 = w.alloc (.cells #[.int .i64 0, .int .i64 0] 26) := ⟨_, rfl⟩
  rw [← hw0]
  have x0 : Bx2 w0 w.heap.size (.int .i64 0) (.int .i64 0) := by rw [hw0]; exact Bx2.fresh _ _ _ _
  have hb0 : Below w.heap.size w w0 := by rw [hw0]; go_grown
  clear hw0
  refine (Con.out w0).mono ?_
  rintro e w1 ⟨rfl, h1⟩
  have x1 := x0.keep h1
  have hb1 := bstep hb0 h1
  have y0 := x1.c0
  have y1 := x1.c1
  have z0 := x1.fz 0
  have z1 := x1.fz 1
  go_wp2
  refine bodyPost_ret (v := .tuple #[.agg #[.int .i64 (mTile n k).1, .int .i64 (mTile n k).2], .bool (goodD n k)]) (by simp [results, Try.results19, go_sem, x1.c0, x1.c1]) rfl ⟨rfl, Bx2.stored hb1⟩

set_option maxRecDepth 100000 in
set_option maxHeartbeats 1000000 in
theorem c_implMean (n k : Int) (w : World) (lo0 : -9223372036854775808 ≤ n) (hi0 : n ≤ 9223372036854775807) (lo1 : -9223372036854775808 ≤ k) (hi1 : k ≤ 9223372036854775807) : Calls Try.prog 26 #[.int .i64 n, .int .i64 k] w fun e w' => e = .returned (.tuple #[.agg #[.int .i64 (mMean n k).1, .int .i64 (mMean n k).2], .bool (goodD n k)]) ∧ Below w.heap.size w w' := by
  cases hg : goodD n k
  · have em : mMean n k = (0, 0) := by unfold mMean; rw [hg]; rfl
    rw [em]
    have con := fun W => c_drawOfNot n k W hg
    have Con := Lib.hid con
    clear con hg em
    go_enter Try.func26, Try.ntmps26
    go_wp2_with fail
    obtain ⟨w0, hw0⟩ : ∃ w0, w0 = w.alloc (.cells #[.int .i64 0, .int .i64 0] 26) := ⟨_, rfl⟩
    rw [← hw0]
    have x0 : Bx2 w0 w.heap.size (.int .i64 0) (.int .i64 0) := by rw [hw0]; exact Bx2.fresh _ _ _ _
    have hb0 : Below w.heap.size w w0 := by rw [hw0]; go_grown
    clear hw0
    refine (Con.out w0).mono ?_
    rintro e w1 ⟨rfl, h1⟩
    have x1 := x0.keep h1
    have hb1 := bstep hb0 h1
    go_upto_region 2 with (fail)
    obtain ⟨w2, hw2⟩ : ∃ w2, w2 = w1.alloc (.cells #[.slice none 0 0, .int .i64 0] 41) := ⟨_, rfl⟩
    rw [← hw2]
    have h2 : Below w1.heap.size w1 w2 := by rw [hw2]; exact (Below.refl _ _).alloc (Nat.le_refl _) _
    have x2 := x1.keep h2
    have hb2 := bstep hb1 h2
    clear hw2
    have y0 := x2.c0
    have y1 := x2.c1
    have z0 := x2.fz 0
    have z1 := x2.fz 1
    go_wp2
    refine bodyPost_ret (v := .tuple #[.agg #[.int .i64 ((0, 0) : Int × Int).1, .int .i64 ((0, 0) : Int × Int).2], .bool false]) (by simp [results, Try.results26, go_sem, x2.c0, x2.c1]) rfl ⟨rfl, Bx2.stored hb2⟩
  · obtain ⟨N, K, rfl, rfl, hn, hk⟩ := goodD_nat hg
    have hT := tilesN_bd hn
    have em : mMean (N : Int) (K : Int) = (rat (K * (N + 1)) (tilesN N)) := by unfold mMean; rw [hg]; rfl
    rw [em]
    clear hg em
    go_enter Try.func26, Try.ntmps26
    go_wp2_with fail
    obtain ⟨w0, hw0⟩ : ∃ w0, w0 = w.alloc (.cells #[.int .i64 0, .int .i64 0] 26) := ⟨_, rfl⟩
    rw [← hw0]
    have x0 : Bx2 w0 w.heap.size (.int .i64 0) (.int .i64 0) := by rw [hw0]; exact Bx2.fresh _ _ _ _
    have hb0 : Below w.heap.size w w0 := by rw [hw0]; go_grown
    clear hw0
    refine (c_drawOf N K w0 hn hk).mono ?_
    rintro e w1 ⟨A, c, rfl, _, h1⟩
    have x1 := x0.keep h1
    have hb1 := bstep hb0 h1
    have hs0 := x1.lt
    go_upto_region 2 with (fail)
    obtain ⟨w2, hw2⟩ : ∃ w2, w2 = w1.alloc (.cells #[.slice A (tilesN N) c, .int .i64 K] 41) := ⟨_, rfl⟩
    rw [← hw2]
    have d2 : Bx2 w2 w1.heap.size (.slice A (tilesN N) c) (.int .i64 K) := by rw [hw2]; exact Bx2.fresh _ _ _ _
    have h2 : Below w1.heap.size w1 w2 := by rw [hw2]; exact (Below.refl _ _).alloc (Nat.le_refl _) _
    have x2 := x1.keep h2
    have hb2 := bstep hb1 h2
    have d0 := d2.c0
    have d1 := d2.c1
    have hs1 := d2.lt
    clear hw2
    have iw := wrapm (x := (K : Int)) (y := (N : Int) + 1) (a := K) (b := N + 1) rfl (by omega) (by omega) (by omega)
    go_wp2_with fail
    refine (c_ratioOf (K * (N + 1)) (tilesN N) _ _ w2 (by first | exact iw | (push_cast; rfl)) rfl hT.1 (Nat.le_trans (Nat.mul_le_mul (show K ≤ 28 by omega) (show N + 1 ≤ 28 by omega)) (by omega)) (by omega)).mono ?_
    rintro e w3 ⟨rfl, h3⟩
    have x3 := x2.keep h3
    have hb3 := bstep hb2 h3
    have y0 := x3.c0
    have y1 := x3.c1
    have z0 := x3.fz 0
    have z1 := x3.fz 1
    go_wp2
    refine bodyPost_ret (v := .tuple #[.agg #[.int .i64 (rat (K * (N + 1)) (tilesN N)).1, .int .i64 (rat (K * (N + 1)) (tilesN N)).2], .bool true]) (by simp [results, Try.results26, go_sem, x3.c0, x3.c1]) rfl ⟨rfl, Bx2.stored hb3⟩

set_option maxRecDepth 100000 in
set_option maxHeartbeats 1000000 in
theorem c_implPipsMean (n k : Int) (w : World) (lo0 : -9223372036854775808 ≤ n) (hi0 : n ≤ 9223372036854775807) (lo1 : -9223372036854775808 ≤ k) (hi1 : k ≤ 9223372036854775807) : Calls Try.prog 32 #[.int .i64 n, .int .i64 k] w fun e w' => e = .returned (.tuple #[.agg #[.int .i64 (mPips n k).1, .int .i64 (mPips n k).2], .bool (goodD n k)]) ∧ Below w.heap.size w w' := by
  cases hg : goodD n k
  · have em : mPips n k = (0, 0) := by unfold mPips; rw [hg]; rfl
    rw [em]
    have con := fun W => c_drawOfNot n k W hg
    have Con := Lib.hid con
    clear con hg em
    go_enter Try.func32, Try.ntmps32
    go_wp2_with fail
    obtain ⟨w0, hw0⟩ : ∃ w0, w0 = w.alloc (.cells #[.int .i64 0, .int .i64 0] 26) := ⟨_, rfl⟩
    rw [← hw0]
    have x0 : Bx2 w0 w.heap.size (.int .i64 0) (.int .i64 0) := by rw [hw0]; exact Bx2.fresh _ _ _ _
    have hb0 : Below w.heap.size w w0 := by rw [hw0]; go_grown
    clear hw0
    refine (Con.out w0).mono ?_
    rintro e w1 ⟨rfl, h1⟩
    have x1 := x0.keep h1
    have hb1 := bstep hb0 h1
    go_upto_region 2 with (fail)
    obtain ⟨w2, hw2⟩ : ∃ w2, w2 = w1.alloc (.cells #[.slice none 0 0, .int .i64 0] 41) := ⟨_, rfl⟩
    rw [← hw2]
    have h2 : Below w1.heap.size w1 w2 := by rw [hw2]; exact (Below.refl _ _).alloc (Nat.le_refl _) _
    have x2 := x1.keep h2
    have hb2 := bstep hb1 h2
    clear hw2
    have y0 := x2.c0
    have y1 := x2.c1
    have z0 := x2.fz 0
    have z1 := x2.fz 1
    go_wp2
    refine bodyPost_ret (v := .tuple #[.agg #[.int .i64 ((0, 0) : Int × Int).1, .int .i64 ((0, 0) : Int × Int).2], .bool false]) (by simp [results, Try.results32, go_sem, x2.c0, x2.c1]) rfl ⟨rfl, Bx2.stored hb2⟩
  · obtain ⟨N, K, rfl, rfl, hn, hk⟩ := goodD_nat hg
    have hT := tilesN_bd hn
    have em : mPips (N : Int) (K : Int) = ((((K * N : Nat) : Int), 1) : Int × Int) := by unfold mPips; rw [hg]; rfl
    rw [em]
    clear hg em
    go_enter Try.func32, Try.ntmps32
    go_wp2_with fail
    obtain ⟨w0, hw0⟩ : ∃ w0, w0 = w.alloc (.cells #[.int .i64 0, .int .i64 0] 26) := ⟨_, rfl⟩
    rw [← hw0]
    have x0 : Bx2 w0 w.heap.size (.int .i64 0) (.int .i64 0) := by rw [hw0]; exact Bx2.fresh _ _ _ _
    have hb0 : Below w.heap.size w w0 := by rw [hw0]; go_grown
    clear hw0
    refine (c_drawOf N K w0 hn hk).mono ?_
    rintro e w1 ⟨A, c, rfl, _, h1⟩
    have x1 := x0.keep h1
    have hb1 := bstep hb0 h1
    have hs0 := x1.lt
    go_upto_region 2 with (fail)
    obtain ⟨w2, hw2⟩ : ∃ w2, w2 = w1.alloc (.cells #[.slice A (tilesN N) c, .int .i64 K] 41) := ⟨_, rfl⟩
    rw [← hw2]
    have d2 : Bx2 w2 w1.heap.size (.slice A (tilesN N) c) (.int .i64 K) := by rw [hw2]; exact Bx2.fresh _ _ _ _
    have h2 : Below w1.heap.size w1 w2 := by rw [hw2]; exact (Below.refl _ _).alloc (Nat.le_refl _) _
    have x2 := x1.keep h2
    have hb2 := bstep hb1 h2
    have d0 := d2.c0
    have d1 := d2.c1
    have hs1 := d2.lt
    clear hw2
    have ew : IntKind.i64.wrap ((K : Int) * (N : Int)) = ((K * N : Nat) : Int) := wrapm rfl rfl (by omega) (by omega)
    have y0 := x2.c0
    have y1 := x2.c1
    have z0 := x2.fz 0
    have z1 := x2.fz 1
    go_wp2
    refine bodyPost_ret (v := .tuple #[.agg #[.int .i64 ((((K * N : Nat) : Int), 1) : Int × Int).1, .int .i64 ((((K * N : Nat) : Int), 1) : Int × Int).2], .bool true]) (by simp [results, Try.results32, go_sem, x2.c0, x2.c1]) rfl ⟨rfl, Bx2.stored hb2⟩

set_option maxRecDepth 100000 in
set_option maxHeartbeats 1000000 in
theorem c_implOpen (n k : Int) (w : World) (lo0 : -9223372036854775808 ≤ n) (hi0 : n ≤ 9223372036854775807) (lo1 : -9223372036854775808 ≤ k) (hi1 : k ≤ 9223372036854775807) : Calls Try.prog 36 #[.int .i64 n, .int .i64 k] w fun e w' => e = .returned (.tuple #[.agg #[.int .i64 (mOpen n k).1, .int .i64 (mOpen n k).2], .bool (goodD n k)]) ∧ Below w.heap.size w w' := by
  cases hg : goodD n k
  · have em : mOpen n k = (0, 0) := by unfold mOpen; rw [hg]; rfl
    rw [em]
    have con := fun W => c_drawOfNot n k W hg
    have Con := Lib.hid con
    clear con hg em
    go_enter Try.func36, Try.ntmps36
    go_wp2_with fail
    obtain ⟨w0, hw0⟩ : ∃ w0, w0 = w.alloc (.cells #[.int .i64 0, .int .i64 0] 26) := ⟨_, rfl⟩
    rw [← hw0]
    have x0 : Bx2 w0 w.heap.size (.int .i64 0) (.int .i64 0) := by rw [hw0]; exact Bx2.fresh _ _ _ _
    have hb0 : Below w.heap.size w w0 := by rw [hw0]; go_grown
    clear hw0
    refine (Con.out w0).mono ?_
    rintro e w1 ⟨rfl, h1⟩
    have x1 := x0.keep h1
    have hb1 := bstep hb0 h1
    go_upto_region 2 with (fail)
    obtain ⟨w2, hw2⟩ : ∃ w2, w2 = w1.alloc (.cells #[.slice none 0 0, .int .i64 0] 41) := ⟨_, rfl⟩
    rw [← hw2]
    have h2 : Below w1.heap.size w1 w2 := by rw [hw2]; exact (Below.refl _ _).alloc (Nat.le_refl _) _
    have x2 := x1.keep h2
    have hb2 := bstep hb1 h2
    clear hw2
    have y0 := x2.c0
    have y1 := x2.c1
    have z0 := x2.fz 0
    have z1 := x2.fz 1
    go_wp2
    refine bodyPost_ret (v := .tuple #[.agg #[.int .i64 ((0, 0) : Int × Int).1, .int .i64 ((0, 0) : Int × Int).2], .bool false]) (by simp [results, Try.results36, go_sem, x2.c0, x2.c1]) rfl ⟨rfl, Bx2.stored hb2⟩
  · obtain ⟨N, K, rfl, rfl, hn, hk⟩ := goodD_nat hg
    have hT := tilesN_bd hn
    have em : mOpen (N : Int) (K : Int) = (rat (chV (tilesN N) K - chV (tilesN N - (N + 1)) K) (chV (tilesN N) K)) := by unfold mOpen; rw [hg]; rfl
    rw [em]
    clear hg em
    go_enter Try.func36, Try.ntmps36
    go_wp2_with fail
    obtain ⟨w0, hw0⟩ : ∃ w0, w0 = w.alloc (.cells #[.int .i64 0, .int .i64 0] 26) := ⟨_, rfl⟩
    rw [← hw0]
    have x0 : Bx2 w0 w.heap.size (.int .i64 0) (.int .i64 0) := by rw [hw0]; exact Bx2.fresh _ _ _ _
    have hb0 : Below w.heap.size w w0 := by rw [hw0]; go_grown
    clear hw0
    refine (c_drawOf N K w0 hn hk).mono ?_
    rintro e w1 ⟨A, c, rfl, _, h1⟩
    have x1 := x0.keep h1
    have hb1 := bstep hb0 h1
    have hs0 := x1.lt
    go_upto_region 2 with (fail)
    obtain ⟨w2, hw2⟩ : ∃ w2, w2 = w1.alloc (.cells #[.slice A (tilesN N) c, .int .i64 K] 41) := ⟨_, rfl⟩
    rw [← hw2]
    have d2 : Bx2 w2 w1.heap.size (.slice A (tilesN N) c) (.int .i64 K) := by rw [hw2]; exact Bx2.fresh _ _ _ _
    have h2 : Below w1.heap.size w1 w2 := by rw [hw2]; exact (Below.refl _ _).alloc (Nat.le_refl _) _
    have x2 := x1.keep h2
    have hb2 := bstep hb1 h2
    have d0 := d2.c0
    have d1 := d2.c1
    have hs1 := d2.lt
    clear hw2
    have ole := open_le hn hk
    rw [chV_zero, Nat.one_mul] at ole
    have ob := chV_bd hT.2.1 (K : Int)
    have en : IntKind.i64.wrap ((N : Int) + 1) = ((N + 1 : Nat) : Int) := by rw [IntWalk.i64_in _ (by omega)]; omega
    have ew : IntKind.i64.wrap ((chV (tilesN N) K : Int) - (chV (tilesN N - (N + 1)) K : Int)) = ((chV (tilesN N) K - chV (tilesN N - (N + 1)) K : Nat) : Int) := by rw [IntWalk.i64_in _ (by omega)]; omega
    go_upto_region 4 with (fail)
    go_region_held3 (fun w' => w'.cell? ⟨w1.heap.size, 0, none⟩ = some (.slice A (tilesN N) c) ∧ w'.cell? ⟨w1.heap.size, 1, none⟩ = some (.int .i64 K)) (first | exact ⟨y50, y51⟩ | exact ⟨y40, y41⟩ | exact ⟨y30, y31⟩ | exact ⟨d0, d1⟩ | exact ⟨far2 (by omega) y50, far2 (by omega) y51⟩ | go_keep) (first | (go_at_call 51; refine (c_chance A (tilesN N) c K (chV (tilesN N) K - chV (tilesN N - (N + 1)) K) _ _ hT.2.1 hk (by first | rfl | omega) (by omega)).mono ?_; rintro e w5 ⟨rfl, h5⟩; have y50 := keepc h5 y40; have y51 := keepc h5 y41; have x5 := x4.keep h5; have hb5 := bstep hb4 h5; have q0 := x5.c0; have q1 := x5.c1; have q2 := x5.fz 0; have q3 := x5.fz 1) | (go_at_call 52; refine (c_handsNone A (tilesN N) c K (N + 1) _ _ hT.2.1 (by omega) (by first | rfl | omega) hT.2.2).mono ?_; rintro e w4 ⟨rfl, h4⟩; have y40 := keepc h4 y30; have y41 := keepc h4 y31; have x4 := x3.keep h4; have hb4 := bstep hb3 h4) | (go_at_call 48; refine (c_hands A (tilesN N) c K _ hT.2.1 (by omega)).mono ?_; rintro e w3 ⟨rfl, h3⟩; have y30 := keepc h3 (cell_drew _ d0); have y31 := keepc h3 (cell_drew _ d1); have x3 := x2.drew.keep h3; have hb3 := bstep hb2.drew h3))
    have y0 := x5.c0
    have y1 := x5.c1
    have z0 := x5.fz 0
    have z1 := x5.fz 1
    go_wp2
    refine bodyPost_ret (v := .tuple #[.agg #[.int .i64 (rat (chV (tilesN N) K - chV (tilesN N - (N + 1)) K) (chV (tilesN N) K)).1, .int .i64 (rat (chV (tilesN N) K - chV (tilesN N - (N + 1)) K) (chV (tilesN N) K)).2], .bool true]) (by simp [results, Try.results36, go_sem, x5.c0, x5.c1]) rfl ⟨rfl, Bx2.stored hb5⟩

set_option maxRecDepth 100000 in
set_option maxHeartbeats 1000000 in
theorem c_specBoth (n a b : Int) (w : World) (lo0 : -9223372036854775808 ≤ n) (hi0 : n ≤ 9223372036854775807) (lo1 : -9223372036854775808 ≤ a) (hi1 : a ≤ 9223372036854775807) (lo2 : -9223372036854775808 ≤ b) (hi2 : b ≤ 9223372036854775807) : Calls Try.prog 33 #[.int .i64 n, .int .i64 a, .int .i64 b] w fun e w' => e = .returned (.tuple #[.agg #[.int .i64 (mBoth n a b).1, .int .i64 (mBoth n a b).2], .bool (gBoth n a b)]) ∧ Below w.heap.size w w' := by
  cases h1 : (decide (0 ≤ n) && decide (n ≤ 6))
  · have hg : gBoth n a b = false := by unfold gBoth goodD; rw [h1, Bool.false_and, Bool.false_and]
    have em : mBoth n a b = (0, 0) := by unfold mBoth; rw [hg]; rfl
    rw [em, hg]
    have L10 := fun W => c_l1In n 0 6 W
    rw [h1] at L10
    have L1 := Lib.hid L10
    clear L10
    clear hg em h1
    go_enter Try.func33, Try.ntmps33
    go_wp2_with fail
    obtain ⟨w0, hw0⟩ : ∃ w0, w0 = w.alloc (.cells #[.int .i64 0, .int .i64 0] 26) := ⟨_, rfl⟩
    rw [← hw0]
    have x0 : Bx2 w0 w.heap.size (.int .i64 0) (.int .i64 0) := by rw [hw0]; exact Bx2.fresh _ _ _ _
    have hb0 : Below w.heap.size w w0 := by rw [hw0]; go_grown
    clear hw0
    refine (L1.out w0).mono ?_
    rintro e w' ⟨rfl, rfl⟩
    have y0 := x0.c0
    have y1 := x0.c1
    have z0 := x0.fz 0
    have z1 := x0.fz 1
    go_wp2
    refine bodyPost_ret (v := .tuple #[.agg #[.int .i64 ((0, 0) : Int × Int).1, .int .i64 ((0, 0) : Int × Int).2], .bool false]) (by simp [results, Try.results33, go_sem, x0.c0, x0.c1]) rfl ⟨rfl, Bx2.stored hb0⟩
  obtain ⟨N, rfl, hn⟩ : ∃ N : Nat, n = N ∧ N ≤ 6 := ⟨n.toNat, by simp only [Bool.and_eq_true, decide_eq_true_eq] at h1; omega, by simp only [Bool.and_eq_true, decide_eq_true_eq] at h1; omega⟩
  have hT := tilesN_bd hn
  have L10 := fun W => c_l1In (N : Int) 0 6 W
  rw [h1] at L10
  have L1 := Lib.hid L10
  clear L10
  cases h2 : (decide (0 ≤ a) && decide (a ≤ tilesN N))
  · have hg : gBoth N a b = false := by unfold gBoth goodD; rw [Int.toNat_natCast, h2, Bool.and_false, Bool.false_and]
    have em : mBoth N a b = (0, 0) := by unfold mBoth; rw [hg]; rfl
    rw [em, hg]
    have L20 := fun W => c_l1In a 0 (tilesN N) W
    rw [h2] at L20
    have L2 := Lib.hid L20
    clear L20
    clear hg em h1 h2
    go_enter Try.func33, Try.ntmps33
    go_wp2_with fail
    obtain ⟨w0, hw0⟩ : ∃ w0, w0 = w.alloc (.cells #[.int .i64 0, .int .i64 0] 26) := ⟨_, rfl⟩
    rw [← hw0]
    have x0 : Bx2 w0 w.heap.size (.int .i64 0) (.int .i64 0) := by rw [hw0]; exact Bx2.fresh _ _ _ _
    have hb0 : Below w.heap.size w w0 := by rw [hw0]; go_grown
    clear hw0
    refine (L1.out w0).mono ?_
    rintro e w' ⟨rfl, rfl⟩
    go_wp2_with fail
    refine (c_dcTiles N hn w0).mono ?_
    rintro e w' ⟨rfl, rfl⟩
    go_wp2_with fail
    refine (L2.out w0).mono ?_
    rintro e w' ⟨rfl, rfl⟩
    have y0 := x0.c0
    have y1 := x0.c1
    have z0 := x0.fz 0
    have z1 := x0.fz 1
    go_wp2
    refine bodyPost_ret (v := .tuple #[.agg #[.int .i64 ((0, 0) : Int × Int).1, .int .i64 ((0, 0) : Int × Int).2], .bool false]) (by simp [results, Try.results33, go_sem, x0.c0, x0.c1]) rfl ⟨rfl, Bx2.stored hb0⟩
  obtain ⟨K, rfl, hk⟩ : ∃ K : Nat, a = K ∧ K ≤ tilesN N := ⟨a.toNat, by simp only [Bool.and_eq_true, decide_eq_true_eq] at h2; omega, by simp only [Bool.and_eq_true, decide_eq_true_eq] at h2; omega⟩
  have hd : goodD (N : Int) (K : Int) = true := goodD_of hn hk
  have L20 := fun W => c_l1In (K : Int) 0 (tilesN N) W
  rw [h2] at L20
  have L2 := Lib.hid L20
  clear L20
  cases h3 : (decide (0 ≤ b) && decide (b ≤ (tilesN N : Int) - (K : Int)))
  · have hg : gBoth N K b = false := by unfold gBoth; rw [Int.toNat_natCast, h3, Bool.and_false]
    have em : mBoth N K b = (0, 0) := by unfold mBoth; rw [hg]; rfl
    rw [em, hg]
    have L30 := fun W => c_l1In b 0 ((tilesN N : Int) - (K : Int)) W
    rw [h3] at L30
    have L3 := Lib.hid L30
    clear L30
    clear hg em h1 h2 h3 hd
    go_enter Try.func33, Try.ntmps33
    go_wp2_with fail
    obtain ⟨w0, hw0⟩ : ∃ w0, w0 = w.alloc (.cells #[.int .i64 0, .int .i64 0] 26) := ⟨_, rfl⟩
    rw [← hw0]
    have x0 : Bx2 w0 w.heap.size (.int .i64 0) (.int .i64 0) := by rw [hw0]; exact Bx2.fresh _ _ _ _
    have hb0 : Below w.heap.size w w0 := by rw [hw0]; go_grown
    clear hw0
    refine (L1.out w0).mono ?_
    rintro e w' ⟨rfl, rfl⟩
    go_wp2_with fail
    refine (c_dcTiles N hn w0).mono ?_
    rintro e w' ⟨rfl, rfl⟩
    go_wp2_with fail
    refine (L2.out w0).mono ?_
    rintro e w' ⟨rfl, rfl⟩
    go_wp2_with fail
    refine (c_dcTiles N hn w0).mono ?_
    rintro e w' ⟨rfl, rfl⟩
    go_wp2_with fail
    refine (L3.out w0).mono ?_
    rintro e w' ⟨rfl, rfl⟩
    have y0 := x0.c0
    have y1 := x0.c1
    have z0 := x0.fz 0
    have z1 := x0.fz 1
    go_wp2
    refine bodyPost_ret (v := .tuple #[.agg #[.int .i64 ((0, 0) : Int × Int).1, .int .i64 ((0, 0) : Int × Int).2], .bool false]) (by simp [results, Try.results33, go_sem, x0.c0, x0.c1]) rfl ⟨rfl, Bx2.stored hb0⟩
  have hg : gBoth N K b = true := by unfold gBoth; rw [Int.toNat_natCast, h3, hd]; rfl
  obtain ⟨M, rfl, hm⟩ : ∃ M : Nat, b = M ∧ K + M ≤ tilesN N := ⟨b.toNat, by simp only [Bool.and_eq_true, decide_eq_true_eq] at h3; omega, by simp only [Bool.and_eq_true, decide_eq_true_eq] at h3; omega⟩
  have em : mBoth (N : Int) (K : Int) (M : Int) = (rat (chV (tilesN N - (N + 1)) ((K : Int) + (M : Int))) (chV (tilesN N) ((K : Int) + (M : Int)))) := by unfold mBoth; rw [hg]; rfl
  rw [em, hg]
  have p1 : 1 ≤ chV (tilesN N) ((K : Int) + (M : Int)) := by rw [← Int.natCast_add]; exact chT hn hm
  have L30 := fun W => c_l1In (M : Int) 0 ((tilesN N : Int) - (K : Int)) W
  rw [h3] at L30
  have L3 := Lib.hid L30
  clear L30
  clear hg em h1 h2 h3 hd
  go_enter Try.func33, Try.ntmps33
  go_wp2_with fail
  obtain ⟨w0, hw0⟩ : ∃ w0, w0 = w.alloc (.cells #[.int .i64 0, .int .i64 0] 26) := ⟨_, rfl⟩
  rw [← hw0]
  have x0 : Bx2 w0 w.heap.size (.int .i64 0) (.int .i64 0) := by rw [hw0]; exact Bx2.fresh _ _ _ _
  have hb0 : Below w.heap.size w w0 := by rw [hw0]; go_grown
  clear hw0
  refine (L1.out w0).mono ?_
  rintro e w' ⟨rfl, rfl⟩
  go_wp2_with fail
  refine (c_dcTiles N hn w0).mono ?_
  rintro e w' ⟨rfl, rfl⟩
  go_wp2_with fail
  refine (L2.out w0).mono ?_
  rintro e w' ⟨rfl, rfl⟩
  go_wp2_with fail
  refine (c_dcTiles N hn w0).mono ?_
  rintro e w' ⟨rfl, rfl⟩
  go_wp2_with fail
  refine (L3.out w0).mono ?_
  rintro e w' ⟨rfl, rfl⟩
  go_wp2_with fail
  refine (c_dcTiles N hn w0).mono ?_
  rintro e w' ⟨rfl, rfl⟩
  go_wp2_with fail
  refine (c_dcChoose (tilesN N - (N + 1)) _ ((K : Int) + (M : Int)) w0 (by omega) (by omega) (by omega) (by omega)).mono ?_
  rintro e w' ⟨rfl, rfl⟩
  go_wp2_with fail
  refine (c_dcTiles N hn w0).mono ?_
  rintro e w' ⟨rfl, rfl⟩
  go_wp2_with fail
  refine (c_dcChoose (tilesN N) _ ((K : Int) + (M : Int)) w0 rfl hT.2.1 (by omega) (by omega)).mono ?_
  rintro e w' ⟨rfl, rfl⟩
  go_wp2_with fail
  refine (c_dcRatio (chV (tilesN N - (N + 1)) ((K : Int) + (M : Int))) (chV (tilesN N) ((K : Int) + (M : Int))) _ _ w0 rfl rfl p1 (chL (by omega) _) (chL hT.2.1 _)).mono ?_
  rintro e w1 ⟨rfl, h1⟩
  have x1 := x0.keep h1
  have hb1 := bstep hb0 h1
  have y0 := x1.c0
  have y1 := x1.c1
  have z0 := x1.fz 0
  have z1 := x1.fz 1
  go_wp2
  refine bodyPost_ret (v := .tuple #[.agg #[.int .i64 (rat (chV (tilesN N - (N + 1)) ((K : Int) + (M : Int))) (chV (tilesN N) ((K : Int) + (M : Int)))).1, .int .i64 (rat (chV (tilesN N - (N + 1)) ((K : Int) + (M : Int))) (chV (tilesN N) ((K : Int) + (M : Int)))).2], .bool true]) (by simp [results, Try.results33, go_sem, x1.c0, x1.c1]) rfl ⟨rfl, Bx2.stored hb1⟩

set_option maxRecDepth 100000 in
set_option maxHeartbeats 1000000 in
theorem c_implBoth (n a b : Int) (w : World) (lo0 : -9223372036854775808 ≤ n) (hi0 : n ≤ 9223372036854775807) (lo1 : -9223372036854775808 ≤ a) (hi1 : a ≤ 9223372036854775807) (lo2 : -9223372036854775808 ≤ b) (hi2 : b ≤ 9223372036854775807) : Calls Try.prog 34 #[.int .i64 n, .int .i64 a, .int .i64 b] w fun e w' => e = .returned (.tuple #[.agg #[.int .i64 (mBoth n a b).1, .int .i64 (mBoth n a b).2], .bool (gBoth n a b)]) ∧ Below w.heap.size w w' := by
  cases hd : goodD n a
  · have hg : gBoth n a b = false := by unfold gBoth; rw [hd, Bool.false_and]
    have em : mBoth n a b = (0, 0) := by unfold mBoth; rw [hg]; rfl
    rw [em, hg]
    have con := fun W => c_drawOfNot n a W hd
    have Con := Lib.hid con
    clear con hg hd em
    go_enter Try.func34, Try.ntmps34
    go_wp2_with fail
    obtain ⟨w0, hw0⟩ : ∃ w0, w0 = w.alloc (.cells #[.int .i64 0, .int .i64 0] 26) := ⟨_, rfl⟩
    rw [← hw0]
    have x0 : Bx2 w0 w.heap.size (.int .i64 0) (.int .i64 0) := by rw [hw0]; exact Bx2.fresh _ _ _ _
    have hb0 : Below w.heap.size w w0 := by rw [hw0]; go_grown
    clear hw0
    refine (Con.out w0).mono ?_
    rintro e w1 ⟨rfl, h1⟩
    have x1 := x0.keep h1
    have hb1 := bstep hb0 h1
    go_upto_region 2 with (fail)
    obtain ⟨w2, hw2⟩ : ∃ w2, w2 = w1.alloc (.cells #[.slice none 0 0, .int .i64 0] 41) := ⟨_, rfl⟩
    rw [← hw2]
    have h2 : Below w1.heap.size w1 w2 := by rw [hw2]; exact (Below.refl _ _).alloc (Nat.le_refl _) _
    have x2 := x1.keep h2
    have hb2 := bstep hb1 h2
    clear hw2
    have y0 := x2.c0
    have y1 := x2.c1
    have z0 := x2.fz 0
    have z1 := x2.fz 1
    go_wp2
    refine bodyPost_ret (v := .tuple #[.agg #[.int .i64 ((0, 0) : Int × Int).1, .int .i64 ((0, 0) : Int × Int).2], .bool false]) (by simp [results, Try.results34, go_sem, x2.c0, x2.c1]) rfl ⟨rfl, Bx2.stored hb2⟩
  obtain ⟨N, K, rfl, rfl, hn, hk⟩ := goodD_nat hd
  have hT := tilesN_bd hn
  cases h3 : (decide (0 ≤ b) && decide (b ≤ (tilesN N : Int) - (K : Int)))
  · have hg : gBoth N K b = false := by unfold gBoth; rw [Int.toNat_natCast, h3, Bool.and_false]
    have em : mBoth N K b = (0, 0) := by unfold mBoth; rw [hg]; rfl
    rw [em, hg]
    have hm : b < 0 ∨ (tilesN N : Int) - (K : Int) < b := by
      by_cases h0 : b < 0
      · exact .inl h0
      · right
        by_cases h4 : (tilesN N : Int) - (K : Int) < b
        · exact h4
        · exfalso
          rw [decide_eq_true (by omega), decide_eq_true (by omega)] at h3
          cases h3
    clear hg hd em h3
    rcases hm with hm | hm
    all_goals
      go_enter Try.func34, Try.ntmps34
      go_wp2_with fail
      obtain ⟨w0, hw0⟩ : ∃ w0, w0 = w.alloc (.cells #[.int .i64 0, .int .i64 0] 26) := ⟨_, rfl⟩
      rw [← hw0]
      have x0 : Bx2 w0 w.heap.size (.int .i64 0) (.int .i64 0) := by rw [hw0]; exact Bx2.fresh _ _ _ _
      have hb0 : Below w.heap.size w w0 := by rw [hw0]; go_grown
      clear hw0
      refine (c_drawOf N K w0 hn hk).mono ?_
      rintro e w1 ⟨A, c, rfl, _, h1⟩
      have x1 := x0.keep h1
      have hb1 := bstep hb0 h1
      have hs0 := x1.lt
      go_upto_region 2 with (fail)
      obtain ⟨w2, hw2⟩ : ∃ w2, w2 = w1.alloc (.cells #[.slice A (tilesN N) c, .int .i64 K] 41) := ⟨_, rfl⟩
      rw [← hw2]
      have d2 : Bx2 w2 w1.heap.size (.slice A (tilesN N) c) (.int .i64 K) := by rw [hw2]; exact Bx2.fresh _ _ _ _
      have h2 : Below w1.heap.size w1 w2 := by rw [hw2]; exact (Below.refl _ _).alloc (Nat.le_refl _) _
      have x2 := x1.keep h2
      have hb2 := bstep hb1 h2
      have d0 := d2.c0
      have d1 := d2.c1
      have hs1 := d2.lt
      clear hw2
      have y0 := x2.c0
      have y1 := x2.c1
      have z0 := x2.fz 0
      have z1 := x2.fz 1
      go_wp2
      refine bodyPost_ret (v := .tuple #[.agg #[.int .i64 ((0, 0) : Int × Int).1, .int .i64 ((0, 0) : Int × Int).2], .bool false]) (by simp [results, Try.results34, go_sem, x2.c0, x2.c1]) rfl ⟨rfl, Bx2.stored hb2⟩
  have hg : gBoth N K b = true := by unfold gBoth; rw [Int.toNat_natCast, h3, hd]; rfl
  obtain ⟨M, rfl, hm⟩ : ∃ M : Nat, b = M ∧ K + M ≤ tilesN N := ⟨b.toNat, by simp only [Bool.and_eq_true, decide_eq_true_eq] at h3; omega, by simp only [Bool.and_eq_true, decide_eq_true_eq] at h3; omega⟩
  have em : mBoth (N : Int) (K : Int) (M : Int) = (rat (chV (tilesN N - (N + 1)) ((K : Int) + (M : Int))) (chV (tilesN N) ((K : Int) + (M : Int)))) := by unfold mBoth; rw [hg]; rfl
  have gj : gJust (N : Int) ((K : Int) + (M : Int)) 0 = true := by unfold gJust; rw [← Int.natCast_add, goodD_of hn hm, decide_eq_true (by omega), decide_eq_true (by omega)]; rfl
  have ej : mJust (N : Int) ((K : Int) + (M : Int)) 0 = (rat (chV (tilesN N - (N + 1)) ((K : Int) + (M : Int))) (chV (tilesN N) ((K : Int) + (M : Int)))) := by
    unfold mJust; rw [gj, Int.toNat_natCast, chV_zero, Nat.one_mul, Int.sub_zero]; rfl
  rw [em, hg]
  have con := fun W => c_implDoublesC (N : Int) ((K : Int) + (M : Int)) 0 W (by omega) (by omega) (by omega) (by omega) (by omega) (by omega)
  rw [ej, gj] at con
  have Con := Lib.hid con
  clear hg em h3 hd con ej gj
  go_enter Try.func34, Try.ntmps34
  go_wp2_with fail
  obtain ⟨w0, hw0⟩ : ∃ w0, w0 = w.alloc (.cells #[.int .i64 0, .int .i64 0] 26) := ⟨_, rfl⟩
  rw [← hw0]
  have x0 : Bx2 w0 w.heap.size (.int .i64 0) (.int .i64 0) := by rw [hw0]; exact Bx2.fresh _ _ _ _
  have hb0 : Below w.heap.size w w0 := by rw [hw0]; go_grown
  clear hw0
  refine (c_drawOf N K w0 hn hk).mono ?_
  rintro e w1 ⟨A, c, rfl, _, h1⟩
  have x1 := x0.keep h1
  have hb1 := bstep hb0 h1
  have hs0 := x1.lt
  go_upto_region 2 with (fail)
  obtain ⟨w2, hw2⟩ : ∃ w2, w2 = w1.alloc (.cells #[.slice A (tilesN N) c, .int .i64 K] 41) := ⟨_, rfl⟩
  rw [← hw2]
  have d2 : Bx2 w2 w1.heap.size (.slice A (tilesN N) c) (.int .i64 K) := by rw [hw2]; exact Bx2.fresh _ _ _ _
  have h2 : Below w1.heap.size w1 w2 := by rw [hw2]; exact (Below.refl _ _).alloc (Nat.le_refl _) _
  have x2 := x1.keep h2
  have hb2 := bstep hb1 h2
  have d0 := d2.c0
  have d1 := d2.c1
  have hs1 := d2.lt
  clear hw2
  go_wp2_with fail
  refine (Con.out w2).mono ?_
  rintro e w3 ⟨rfl, h3⟩
  have x3 := x2.keep h3
  have hb3 := bstep hb2 h3
  have y0 := x3.c0
  have y1 := x3.c1
  have z0 := x3.fz 0
  have z1 := x3.fz 1
  go_wp2
  refine bodyPost_ret (v := .tuple #[.agg #[.int .i64 (rat (chV (tilesN N - (N + 1)) ((K : Int) + (M : Int))) (chV (tilesN N) ((K : Int) + (M : Int)))).1, .int .i64 (rat (chV (tilesN N - (N + 1)) ((K : Int) + (M : Int))) (chV (tilesN N) ((K : Int) + (M : Int)))).2], .bool true]) (by simp [results, Try.results34, go_sem, x3.c0, x3.c1]) rfl ⟨rfl, Bx2.stored hb3⟩

end Go.Proofs.Ytgjdpiooocpmhaa

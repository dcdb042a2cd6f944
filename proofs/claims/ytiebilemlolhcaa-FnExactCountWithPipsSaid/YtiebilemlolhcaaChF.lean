/- Chances of hands: both sides of what is reckoned by numbers of ways. -/
import Derived.Test.YtiebilemlolhcaaChI
import Derived.Deep.Cut
namespace Go.Proofs.Ytiebilemlolhcaa
open Go.RowKit
set_option linter.unusedVariables false

def mTile (n k : Int) : Int × Int := ratV (goodD n k) (rat k.toNat (tilesN n.toNat))
def mMean (n k : Int) : Int × Int := ratV (goodD n k) (rat (k.toNat * (n.toNat + 1)) (tilesN n.toNat))
def mPips (n k : Int) : Int × Int := ratV (goodD n k) (((k.toNat * n.toNat : Nat) : Int), 1)
def mOpen (n k : Int) : Int × Int := ratV (goodD n k) (rat (chV (tilesN n.toNat) k - chV (tilesN n.toNat - (n.toNat + 1)) k) (chV (tilesN n.toNat) k))
def mCount (n k : Int) : Int := if goodD n k then (chV (tilesN n.toNat) k : Int) else 0
def gTiles (n k m : Int) : Bool := goodD n k && (decide (0 ≤ m) && decide (m ≤ tilesN n.toNat))
def mTiles (n k m : Int) : Int × Int := ratV (gTiles n k m) (rat (chV (tilesN n.toNat - m.toNat) (k - m)) (chV (tilesN n.toNat) k))
def gJust (n k m : Int) : Bool := goodD n k && (decide (0 ≤ m) && decide (m ≤ n + 1))
def mJust (n k m : Int) : Int × Int := ratV (gJust n k m) (rat (chV (n.toNat + 1) m * chV (tilesN n.toNat - (n.toNat + 1)) (k - m)) (chV (tilesN n.toNat) k))
def othN (n m : Nat) : Nat := (n + 1 - m) * (n + 2 - m) / 2
def mWithout (n k m : Int) : Int × Int := ratV (gJust n k m) (rat (chV (othN n.toNat m.toNat) k) (chV (tilesN n.toNat) k))
def gBoth (n a b : Int) : Bool := goodD n a && (decide (0 ≤ b) && decide (b ≤ (tilesN n.toNat : Int) - a))
def mBoth (n a b : Int) : Int × Int := ratV (gBoth n a b) (rat (chV (tilesN n.toNat - (n.toNat + 1)) (a + b)) (chV (tilesN n.toNat) (a + b)))
theorem oth_div {n m : Nat} (hn : n ≤ 6) (hm : m ≤ n + 1) : wrap64 ((wrap64 (((n : Int) + 1 - m) * ((n : Int) + 2 - m))).tdiv 2) = othN n m := by
  have h9 : n = 0 ∨ n = 1 ∨ n = 2 ∨ n = 3 ∨ n = 4 ∨ n = 5 ∨ n = 6 := by omega
  have h8 : m = 0 ∨ m = 1 ∨ m = 2 ∨ m = 3 ∨ m = 4 ∨ m = 5 ∨ m = 6 ∨ m = 7 := by omega
  rcases h9 with rfl | rfl | rfl | rfl | rfl | rfl | rfl <;> rcases h8 with rfl | rfl | rfl | rfl | rfl | rfl | rfl | rfl <;> first | (exfalso; omega) | decide +kernel
theorem oth_div2 {n m : Nat} (hn : n ≤ 6) (hm : m ≤ n + 1) : IntKind.i64.wrap ((tilesN n : Int) - wrap64 ((wrap64 (((n : Int) + 1 - m) * ((n : Int) + 1 - m + 1))).tdiv 2)) = (tilesN n - othN n m : Nat) := by
  have h9 : n = 0 ∨ n = 1 ∨ n = 2 ∨ n = 3 ∨ n = 4 ∨ n = 5 ∨ n = 6 := by omega
  have h8 : m = 0 ∨ m = 1 ∨ m = 2 ∨ m = 3 ∨ m = 4 ∨ m = 5 ∨ m = 6 ∨ m = 7 := by omega
  rcases h9 with rfl | rfl | rfl | rfl | rfl | rfl | rfl <;> rcases h8 with rfl | rfl | rfl | rfl | rfl | rfl | rfl | rfl <;> first | (exfalso; omega) | decide +kernel
theorem chT {n k : Nat} (hn : n ≤ 6) (hk : k ≤ tilesN n) : 1 ≤ chV (tilesN n) (k : Int) := chV_pos (tilesN_bd hn).2.1 hk
theorem chL {m : Nat} (hm : m ≤ 28) (k : Int) : chV m k ≤ 4611686018427387904 := Nat.le_trans (chV_bd hm k) (by omega)
theorem othN_bd {n m : Nat} (hn : n ≤ 6) (hm : m ≤ n + 1) : othN n m ≤ tilesN n := by
  have h9 : n = 0 ∨ n = 1 ∨ n = 2 ∨ n = 3 ∨ n = 4 ∨ n = 5 ∨ n = 6 := by omega
  have h8 : m = 0 ∨ m = 1 ∨ m = 2 ∨ m = 3 ∨ m = 4 ∨ m = 5 ∨ m = 6 ∨ m = 7 := by omega
  rcases h9 with rfl | rfl | rfl | rfl | rfl | rfl | rfl <;> rcases h8 with rfl | rfl | rfl | rfl | rfl | rfl | rfl | rfl <;> first | decide | omega

set_option maxRecDepth 100000 in
set_option maxHeartbeats 1000000 in
theorem c_implCountHands (n k : Int) (w : World) (lo0 : -9223372036854775808 ≤ n) (hi0 : n ≤ 9223372036854775807) (lo1 : -9223372036854775808 ≤ k) (hi1 : k ≤ 9223372036854775807) : Calls Try.prog 18 #[.int .i64 n, .int .i64 k] w fun e w' => e = .returned (.tuple #[.int .i64 (mCount n k), .bool (goodD n k)]) ∧ Below w.heap.size w w' := by
  cases hg : goodD n k
  · have em : mCount n k = 0 := by unfold mCount; rw [hg]; rfl
    rw [em]
    have con := fun W => c_drawOfNot n k W hg
    have Con := Lib.hid con
    clear con hg em
    go_enter Try.func18, Try.ntmps18
    go_wp2_with fail
    refine (Con.out w).mono ?_
    rintro e w1 ⟨rfl, h1⟩
    go_upto_region 2 with (fail)
    obtain ⟨w2, hw2⟩ : ∃ w2, w2 = w1.alloc (.cells #[.slice none 0 0, .int .i64 0] 35) := ⟨_, rfl⟩
    rw [← hw2]
    have h2 : Below w1.heap.size w1 w2 := by rw [hw2]; exact (Below.refl _ _).alloc (Nat.le_refl _) _
    have hb2 := bstep h1 h2
    clear hw2
    go_wp2
    go_ret2
    exact ⟨rfl, hb2⟩
  · obtain ⟨N, K, rfl, rfl, hn, hk⟩ := goodD_nat hg
    have hT := tilesN_bd hn
    have em : mCount (N : Int) (K : Int) = (chV (tilesN N) K : Int) := by unfold mCount; rw [hg]; rfl
    rw [em]
    clear hg em
    go_enter Try.func18, Try.ntmps18
    go_wp2_with fail
    refine (c_drawOf N K w hn hk).mono ?_
    rintro e w1 ⟨A, c, rfl, _, h1⟩
    have hb1 := h1
    go_upto_region 2 with (fail)
    obtain ⟨w2, hw2⟩ : ∃ w2, w2 = w1.alloc (.cells #[.slice A (tilesN N) c, .int .i64 K] 35) := ⟨_, rfl⟩
    rw [← hw2]
    have d2 : Bx2 w2 w1.heap.size (.slice A (tilesN N) c) (.int .i64 K) := by rw [hw2]; exact Bx2.fresh _ _ _ _
    have h2 : Below w1.heap.size w1 w2 := by rw [hw2]; exact (Below.refl _ _).alloc (Nat.le_refl _) _
    have hb2 := bstep hb1 h2
    have d0 := d2.c0
    have d1 := d2.c1
    have hs1 := d2.lt
    clear hw2
    go_wp2_with fail
    refine (c_hands A (tilesN N) c K w2 hT.2.1 (by omega)).mono ?_
    rintro e w3 ⟨rfl, h3⟩
    have hb3 := bstep hb2 h3
    go_wp2
    go_ret2
    exact ⟨rfl, hb3⟩

theorem tile_one (n k : Int) : mTiles n k 1 = mTile n k ∧ gTiles n k 1 = goodD n k := by
  have eg : gTiles n k 1 = goodD n k := by
    unfold gTiles
    cases hd : goodD n k
    · rfl
    · obtain ⟨N, K, rfl, rfl, hn, hk⟩ := goodD_nat hd
      have hT := tilesN_bd hn
      rw [Int.toNat_natCast, decide_eq_true (by omega), decide_eq_true (by omega)]
      rfl
  refine ⟨?_, eg⟩
  unfold mTiles mTile
  rw [eg]
  cases hd : goodD n k
  · rfl
  · obtain ⟨N, K, rfl, rfl, hn, hk⟩ := goodD_nat hd
    have h := one_tile hn hk
    rw [show chV 1 1 = 1 from by decide, Nat.one_mul] at h
    exact h

end Go.Proofs.Ytiebilemlolhcaa

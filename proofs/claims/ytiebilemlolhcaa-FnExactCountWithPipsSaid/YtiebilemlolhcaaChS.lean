/- Chances of hands: the specification's small functions. -/
import Derived.Test.YtiebilemlolhcaaChM
import Derived.Test.YtiebilemlolhcaaBx2
import Derived.BigQuiet
import Derived.WalkSmall
namespace Go.Proofs.Ytiebilemlolhcaa
open Go.RowKit
set_option linter.unusedVariables false

set_option maxRecDepth 100000 in
set_option maxHeartbeats 1000000 in
theorem c_dcTiles (n : Nat) (h : n ≤ 6) (w : World) : Calls Try.prog 17 #[.int .i64 n] w fun e w' => e = .returned (.int .i64 (tilesN n)) ∧ w = w' := by
  have h9 : n = 0 ∨ n = 1 ∨ n = 2 ∨ n = 3 ∨ n = 4 ∨ n = 5 ∨ n = 6 := by omega
  clear h
  rcases h9 with rfl | rfl | rfl | rfl | rfl | rfl | rfl
  all_goals
    go_enter Try.func17, Try.ntmps17
    go_wp2
    go_ret
    exact ⟨rfl, rfl⟩

set_option maxRecDepth 100000 in
set_option maxHeartbeats 1000000 in
theorem c_dcChoose (m : Nat) (mi k : Int) (w : World) (em : mi = m) (hm : m ≤ 28) (h1 : -9223372036854775808 ≤ k) (h2 : k ≤ 9223372036854775807) : Calls Try.prog 16 #[.int .i64 mi, .int .i64 k] w fun e w' => e = .returned (.int .i64 (chV m k)) ∧ w = w' := by
  subst em
  by_cases h0 : k < 0
  · rw [chV_none (by omega)]
    go_enter Try.func16, Try.ntmps16
    go_wp2
    go_ret
    exact ⟨rfl, rfl⟩
  by_cases hk : (m : Int) < k
  · rw [chV_none (by omega)]
    go_enter Try.func16, Try.ntmps16
    go_wp2
    go_ret
    exact ⟨rfl, rfl⟩
  obtain ⟨n, rfl⟩ : ∃ n : Nat, k = n := ⟨k.toNat, by omega⟩
  have hn : n ≤ m := by omega
  rw [chV_nat hn]
  have hB := Lib.hid (fun i (hi : i ≤ m) => chF_bd hm hi)
  go_enter Try.func16, Try.ntmps16
  go_wp2
  go_loop [5, 6] (fun o i => ∃ j : Nat, j ≤ n ∧ o = .int .i64 (chF m j) ∧ i = .int .i64 j) (fun _ i => n - (intOf i).toNat)
  case atStart => exact ⟨0, Nat.zero_le _, rfl, rfl⟩
  case round =>
    obtain ⟨j, hj, rfl, rfl⟩ := hrel
    by_cases hlt : j < n
    · have b1 := hB.out j (by omega)
      have b2 := ch_step (a := 0) b1 (show m - j ≤ 28 by omega) (show j ≤ m by omega)
      have b3 := chF_int (m := m) (j := j) (by omega)
      go_wp2
      go_round
      case rel => exact ⟨j + 1, by omega, by go_num, by go_num⟩
      case measure => simp [intOf]; omega
    · have : j = n := by omega
      subst this
      go_wp2
      go_ret
      exact ⟨rfl, rfl⟩

set_option maxRecDepth 100000 in
set_option maxHeartbeats 1000000 in
theorem c_dcRatio (a b : Nat) (ai bi : Int) (w : World) (ea : ai = a) (eb : bi = b) (hb : 1 ≤ b) (la : a ≤ 4611686018427387904) (lb : b ≤ 4611686018427387904) : Calls Try.prog 15 #[.int .i64 ai, .int .i64 bi] w fun e w' => e = .returned (.agg #[.int .i64 (rat a b).1, .int .i64 (rat a b).2]) ∧ Below w.heap.size w w' := by
  subst ea eb
  have hg := gcd_pos_r (a := a) hb
  have hl : Nat.gcd a b ≤ b := Nat.gcd_le_right a hb
  unfold rat
  generalize hG : Nat.gcd a b = g at *
  have HG := Lib.hid hG
  clear hG
  go_enter Try.func15, Try.ntmps15
  go_wp2
  obtain ⟨w0, hw0⟩ : ∃ w0, w0 = w.alloc (.cells #[.int .i64 0, .int .i64 0] 26) := ⟨_, rfl⟩
  rw [← hw0]
  have x0 : Bx2 w0 w.heap.size (.int .i64 0) (.int .i64 0) := by rw [hw0]; exact Bx2.fresh _ _ _ _
  have hb0 : Below w.heap.size w w0 := by rw [hw0]; go_grown
  clear hw0
  go_loopw [5, 6] (fun x y wr => ∃ p q : Nat, x = .int .i64 p ∧ y = .int .i64 q ∧ Nat.gcd p q = g ∧ p ≤ 4611686018427387904 ∧ q ≤ 4611686018427387904 ∧ Bx2 wr w.heap.size (.int .i64 0) (.int .i64 0) ∧ Below w.heap.size w wr) (fun _ y _ => (intOf y).toNat)
  case atStart => exact ⟨a, b, rfl, rfl, HG.out, la, lb, x0, hb0⟩
  case round =>
    clear x0 hb0
    obtain ⟨p, q, rfl, rfl, hpq, lp, lq, x0, hb0⟩ := hrel
    by_cases hq : 0 < q
    · have hpq := Lib.hid hpq
      have hb1 := Lib.hid hb0
      have x1 := Lib.hid x0
      clear hb0 x0
      go_wp2
      go_quiet (fail)
      go_wp2
      go_roundw
      case rel => exact ⟨q, p % q, rfl, by go_num, by rw [← hpq.out, Nat.gcd_comm p q, Nat.gcd_rec q p, Nat.gcd_comm], lq, Nat.le_trans (Nat.le_of_lt (Nat.mod_lt _ hq)) lq, ⟨x1.out.c0, x1.out.c1, x1.out.fz⟩, below_drewN hb1.out _⟩
      case measure => simp [intOf]; exact Nat.mod_lt _ hq
    · have : q = 0 := by omega
      subst this
      rw [Nat.gcd_zero_right] at hpq
      subst hpq
      have y0 := x0.c0
      have y1 := x0.c1
      have z0 := x0.fz 0
      have z1 := x0.fz 1
      have e1 := Lib.hid (wrap_div (p := p) la)
      have e2 := Lib.hid (wrap_div (p := p) lb)
      go_wp2
      go_region
      go_wp2
      refine bodyPost_ret (v := .agg #[.int .i64 ((a / p : Nat) : Int), .int .i64 ((b / p : Nat) : Int)]) (by simp [e1.out, e2.out, results, Try.results15, go_sem, y0, y1]) rfl ⟨rfl, (Bx2.stored hb0).drew⟩

theorem wrapm {x y : Int} {a b : Nat} (hx : x = a) (hy : y = b) (ha : a ≤ 1000000000) (hb : b ≤ 1000000000) : IntKind.i64.wrap (x * y) = ((a * b : Nat) : Int) := by
  subst hx hy
  have h := Nat.mul_le_mul ha hb
  rw [← Int.natCast_mul]
  exact IntWalk.i64_in _ (by omega)

set_option maxRecDepth 100000 in
set_option maxHeartbeats 1000000 in
theorem c_dcGood (n k : Int) (w : World) : Calls Try.prog 10 #[.int .i64 n, .int .i64 k] w fun e w' => e = .returned (.bool (goodD n k)) ∧ w = w' := by
  unfold goodD
  cases h : (decide (0 ≤ n) && decide (n ≤ 6))
  · rw [Bool.false_and]
    have con := fun W => c_l1In n 0 6 W
    rw [h] at con
    have Con := Lib.hid con
    clear con h
    go_enter Try.func10, Try.ntmps10
    go_wp2_with fail
    refine (Con.out w).mono ?_
    rintro e w' ⟨rfl, rfl⟩
    go_wp2
    go_ret
    exact ⟨rfl, rfl⟩
  · rw [Bool.true_and]
    have con := fun W => c_l1In n 0 6 W
    rw [h] at con
    have Con := Lib.hid con
    simp only [Bool.and_eq_true, decide_eq_true_eq] at h
    obtain ⟨m, rfl⟩ : ∃ m : Nat, n = m := ⟨n.toNat, by omega⟩
    rw [Int.toNat_natCast]
    have hm : m ≤ 6 := by omega
    clear con h
    go_enter Try.func10, Try.ntmps10
    go_wp2_with fail
    refine (Con.out w).mono ?_
    rintro e w' ⟨rfl, rfl⟩
    go_wp2_with fail
    refine (c_dcTiles m hm w).mono ?_
    rintro e w' ⟨rfl, rfl⟩
    go_wp2_with fail
    refine (c_l1In k 0 (tilesN m) w).mono ?_
    rintro e w' ⟨rfl, rfl⟩
    go_wp2
    go_ret
    exact ⟨rfl, rfl⟩

end Go.Proofs.Ytiebilemlolhcaa

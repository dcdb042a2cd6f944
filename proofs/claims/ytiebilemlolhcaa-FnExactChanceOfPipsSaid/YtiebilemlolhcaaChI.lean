/- Chances of hands: the program's small functions. -/
import Derived.Test.YtiebilemlolhcaaChS
namespace Go.Proofs.Ytiebilemlolhcaa
open Go.RowKit
set_option linter.unusedVariables false

set_option maxRecDepth 100000 in
set_option maxHeartbeats 1000000 in
theorem c_choose (m : Nat) (mi k : Int) (w : World) (em : mi = m) (hm : m ≤ 28) (h1 : -9223372036854775808 ≤ k) (h2 : k ≤ 9223372036854775807) : Calls Try.prog 28 #[.int .i64 mi, .int .i64 k] w fun e w' => e = .returned (.int .i64 (chV m k)) ∧ w = w' := by
  subst em
  by_cases h0 : k < 0
  · rw [chV_none (by omega)]
    go_enter Try.func28, Try.ntmps28
    go_wp2
    go_ret
    exact ⟨rfl, rfl⟩
  by_cases hk : (m : Int) < k
  · rw [chV_none (by omega)]
    go_enter Try.func28, Try.ntmps28
    go_wp2
    go_ret
    exact ⟨rfl, rfl⟩
  obtain ⟨n, rfl⟩ : ∃ n : Nat, k = n := ⟨k.toNat, by omega⟩
  have hn : n ≤ m := by omega
  rw [chV_nat hn]
  have hB := Lib.hid (fun i (hi : i ≤ m) => chF_bd hm hi)
  go_enter Try.func28, Try.ntmps28
  go_wp2
  go_loop [5, 15] (fun o i => ∃ j : Nat, j ≤ n ∧ o = .int .i64 (chF m j) ∧ i = .int .i64 j) (fun _ i => n - (intOf i).toNat)
  case atStart => exact ⟨0, Nat.zero_le _, rfl, rfl⟩
  case round =>
    obtain ⟨j, hj, rfl, rfl⟩ := hrel
    by_cases hlt : j < n
    · have b1 := hB.out j (by omega)
      have b2 := ch_step (a := 0) b1 (show m - j ≤ 28 by omega) (show j ≤ m by omega)
      have b3 := chF_int (m := m) (j := j) (by omega)
      go_wp2
      go_round
      case rel => exact ⟨j + 1, by omega, by go_num, by go_num⟩
      case measure => simp [intOf]; omega
    · have : j = n := by omega
      subst this
      go_wp2
      go_ret
      exact ⟨rfl, rfl⟩

set_option maxRecDepth 100000 in
set_option maxHeartbeats 1000000 in
theorem c_divisor (a b : Nat) (ai bi : Int) (w : World) (ea : ai = a) (eb : bi = b) (la : a ≤ 4611686018427387904) (lb : b ≤ 4611686018427387904) : Calls Try.prog 25 #[.int .i64 ai, .int .i64 bi] w fun e w' => e = .returned (.int .i64 (Nat.gcd a b)) ∧ Below w.heap.size w w' := by
  subst ea eb
  go_enter Try.func25, Try.ntmps25
  go_wp2
  go_loopw [0, 1] (fun x y wr => ∃ p q : Nat, x = .int .i64 p ∧ y = .int .i64 q ∧ Nat.gcd p q = Nat.gcd a b ∧ p ≤ 4611686018427387904 ∧ q ≤ 4611686018427387904 ∧ Below w.heap.size w wr) (fun _ y _ => (intOf y).toNat)
  case atStart => exact ⟨a, b, rfl, rfl, rfl, la, lb, Below.refl _ _⟩
  case round =>
    obtain ⟨p, q, rfl, rfl, hpq, lp, lq, hb0⟩ := hrel
    by_cases hq : 0 < q
    · have hpq := Lib.hid hpq
      go_wp2
      go_quiet (fail)
      go_wp2
      go_roundw
      case rel => exact ⟨q, p % q, rfl, by go_num, by rw [← hpq.out, Nat.gcd_comm p q, Nat.gcd_rec q p, Nat.gcd_comm], lq, Nat.le_trans (Nat.le_of_lt (Nat.mod_lt _ hq)) lq, below_drewN hb0 _⟩
      case measure => simp [intOf]; exact Nat.mod_lt _ hq
    · have : q = 0 := by omega
      subst this
      rw [Nat.gcd_zero_right] at hpq
      subst hpq
      go_wp2
      go_ret
      exact ⟨rfl, hb0⟩

set_option maxRecDepth 100000 in
set_option maxHeartbeats 1000000 in
theorem c_ratioOf (a b : Nat) (ai bi : Int) (w : World) (ea : ai = a) (eb : bi = b) (hb : 1 ≤ b) (la : a ≤ 4611686018427387904) (lb : b ≤ 4611686018427387904) : Calls Try.prog 19 #[.int .i64 ai, .int .i64 bi] w fun e w' => e = .returned (.agg #[.int .i64 (rat a b).1, .int .i64 (rat a b).2]) ∧ Below w.heap.size w w' := by
  have hg := gcd_pos_r (a := a) hb
  have hl : Nat.gcd a b ≤ b := Nat.gcd_le_right a hb
  unfold rat
  have con := fun W => c_divisor a b ai bi W ea eb la lb
  subst ea eb
  generalize Nat.gcd a b = g at *
  have Con := Lib.hid con
  clear con
  go_enter Try.func19, Try.ntmps19
  go_wp2_with fail
  obtain ⟨w0, hw0⟩ : ∃ w0, w0 = w.alloc (.cells #[.int .i64 0, .int .i64 0] 26) := ⟨_, rfl⟩
  rw [← hw0]
  have x0 : Bx2 w0 w.heap.size (.int .i64 0) (.int .i64 0) := by rw [hw0]; exact Bx2.fresh _ _ _ _
  have hb0 : Below w.heap.size w w0 := by rw [hw0]; go_grown
  clear hw0
  refine (Con.out _).mono ?_
  rintro e w1 ⟨rfl, h1⟩
  have x1 := x0.keep h1
  have hb1 := bstep hb0 h1
  have y0 := x1.c0
  have y1 := x1.c1
  have z0 := x1.fz 0
  have z1 := x1.fz 1
  have e1 := Lib.hid (wrap_div (p := g) la)
  have e2 := Lib.hid (wrap_div (p := g) lb)
  go_wp2
  go_region
  go_wp2
  refine bodyPost_ret (v := .agg #[.int .i64 ((a / g : Nat) : Int), .int .i64 ((b / g : Nat) : Int)]) (by simp [e1.out, e2.out, results, Try.results19, go_sem, y0, y1]) rfl ⟨rfl, (Bx2.stored hb1).drew⟩

set_option maxRecDepth 100000 in
set_option maxHeartbeats 1000000 in
theorem c_hands (A : Option Addr) (L c K : Nat) (w : World) (hl : L ≤ 28) (hk : K ≤ 28) : Calls Try.prog 24 #[.agg #[.slice A L c, .int .i64 K]] w fun e w' => e = .returned (.int .i64 (chV L K)) ∧ Below w.heap.size w w' := by
  go_enter Try.func24, Try.ntmps24
  go_wp2_with (go_at_call 28; refine (c_choose L _ _ _ rfl hl (by omega) (by omega)).mono ?_; rintro e w' ⟨rfl, rfl⟩)
  go_ret
  exact ⟨rfl, by go_grown⟩

set_option maxRecDepth 100000 in
set_option maxHeartbeats 1000000 in
theorem c_drawOf (N K : Nat) (w : World) (hn : N ≤ 6) (hk : K ≤ tilesN N) : Calls Try.prog 13 #[.int .i64 N, .int .i64 K] w fun e w' => ∃ A c, e = .returned (.tuple #[.agg #[.slice A (tilesN N) c, .int .i64 K], .bool true]) ∧ RdT w' A (setL N) ∧ Below w.heap.size w w' := by
  rw [← setL_tiles hn] at hk ⊢
  have hb : numB (N : Int) = true := by simp [numB]; omega
  have es : setOfL (N : Int) = setL N := by simp [setOfL, hb]
  have con := fun W => c_implSetOf (N : Int) W
  rw [es, hb] at con
  have Con := Lib.hid con
  clear con es hb
  go_enter Try.func13, Try.ntmps13
  go_wp2_with fail
  obtain ⟨w0, hw0⟩ : ∃ w0, w0 = w.alloc (.cells #[.slice none 0 0, .int .i64 0] 35) := ⟨_, rfl⟩
  rw [← hw0]
  have x0 : Bx2 w0 w.heap.size (.slice none 0 0) (.int .i64 0) := by rw [hw0]; exact Bx2.fresh _ _ _ _
  have hb0 : Below w.heap.size w w0 := by rw [hw0]; go_grown
  clear hw0
  refine (Con.out w0).mono ?_
  rintro e w1 ⟨A, c, rfl, ho, h1⟩
  have x1 := x0.keep h1
  have hb1 := bstep hb0 h1
  have x1l := x0.lt
  have rd := Lib.hid (RdT.of_own ho)
  have Ho := Lib.hid ho
  clear ho
  have y0 := x1.c0
  have y1 := x1.c1
  have z0 := x1.fz 0
  have z1 := x1.fz 1
  go_wp2
  refine bodyPost_ret (v := .tuple #[.agg #[.slice A (setL N).length c, .int .i64 K], .bool true]) (by simp [results, Try.results13, go_sem, x1.c0, x1.c1]) rfl ⟨A, c, rfl, ?_, Bx2.stored hb1⟩
  have o1 := own_off2 (j := 0) (u := .slice A (setL N).length c) Ho.out (nb := w.heap.size) (fun g hg => by have := (Ho.out.lt g hg).1; omega)
  exact RdT.of_own (own_off2 (j := 1) (u := .int .i64 K) o1 (nb := w.heap.size) (fun g hg => by have := (Ho.out.lt g hg).1; omega))

set_option maxRecDepth 100000 in
set_option maxHeartbeats 1000000 in
theorem c_drawOfNot (n k : Int) (w : World) (hg : goodD n k = false) : Calls Try.prog 13 #[.int .i64 n, .int .i64 k] w fun e w' => e = .returned (.tuple #[.agg #[.slice none 0 0, .int .i64 0], .bool false]) ∧ Below w.heap.size w w' := by
  by_cases h6 : 6 < n
  · clear hg
    go_enter Try.func13, Try.ntmps13
    go_wp2
    go_returns
    exact ⟨rfl, by go_grown⟩
  cases hb : numB n
  · have con := fun W => c_implSetOf n W
    have es : setOfL n = [] := by simp [setOfL, hb]
    rw [es, hb] at con
    have Con := Lib.hid con
    clear con es hb hg
    go_enter Try.func13, Try.ntmps13
    go_wp2_with fail
    obtain ⟨w0, hw0⟩ : ∃ w0, w0 = w.alloc (.cells #[.slice none 0 0, .int .i64 0] 35) := ⟨_, rfl⟩
    rw [← hw0]
    have x0 : Bx2 w0 w.heap.size (.slice none 0 0) (.int .i64 0) := by rw [hw0]; exact Bx2.fresh _ _ _ _
    have hb0 : Below w.heap.size w w0 := by rw [hw0]; go_grown
    clear hw0
    refine (Con.out w0).mono ?_
    rintro e w1 ⟨A, c, rfl, ho, h1⟩
    have x1 := x0.keep h1
    have hb1 := bstep hb0 h1
    clear ho
    have y0 := x1.c0
    have y1 := x1.c1
    have z0 := x1.fz 0
    have z1 := x1.fz 1
    go_wp2
    refine bodyPost_ret (v := .tuple #[.agg #[.slice none 0 0, .int .i64 0], .bool false]) (by simp [results, Try.results13, go_sem, x1.c0, x1.c1]) rfl ⟨rfl, Bx2.stored hb1⟩
  obtain ⟨m, hm, rfl⟩ := numB_nat hb
  have hm6 : m ≤ 6 := by omega
  have con := fun W => c_implSetOf (m : Int) W
  have es : setOfL (m : Int) = setL m := by simp [setOfL, hb]
  rw [es, hb] at con
  have hk : ¬ (0 ≤ k ∧ k ≤ (setL m).length) := by
    rw [setL_tiles hm6]
    intro h
    have e : goodD (m : Int) k = true := by simp only [goodD, Bool.and_eq_true, decide_eq_true_eq, Int.toNat_natCast]; omega
    rw [hg] at e
    cases e
  have Con := Lib.hid con
  clear con es hb hg
  by_cases k0 : k < 0
  all_goals
    first | (have kk : (setL m).length < k := by omega) | skip
    clear hk
    go_enter Try.func13, Try.ntmps13
    go_wp2_with fail
    obtain ⟨w0, hw0⟩ : ∃ w0, w0 = w.alloc (.cells #[.slice none 0 0, .int .i64 0] 35) := ⟨_, rfl⟩
    rw [← hw0]
    have x0 : Bx2 w0 w.heap.size (.slice none 0 0) (.int .i64 0) := by rw [hw0]; exact Bx2.fresh _ _ _ _
    have hb0 : Below w.heap.size w w0 := by rw [hw0]; go_grown
    clear hw0
    refine (Con.out w0).mono ?_
    rintro e w1 ⟨A, c, rfl, ho, h1⟩
    have x1 := x0.keep h1
    have hb1 := bstep hb0 h1
    clear ho
    have y0 := x1.c0
    have y1 := x1.c1
    have z0 := x1.fz 0
    have z1 := x1.fz 1
    go_wp2
    refine bodyPost_ret (v := .tuple #[.agg #[.slice none 0 0, .int .i64 0], .bool false]) (by simp [results, Try.results13, go_sem, x1.c0, x1.c1]) rfl ⟨rfl, Bx2.stored hb1⟩

end Go.Proofs.Ytiebilemlolhcaa

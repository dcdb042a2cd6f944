/- Windows: the specification's own answers. -/
import Derived.Test.YtjbdflkbclhonaaWinT
namespace Go.Proofs.Ytjbdflkbclhonaa
open Go.RowKit
set_option linter.unusedVariables false

set_option maxRecDepth 100000 in
set_option maxHeartbeats 2000000 in
theorem c_wiLess (A B : Option Addr) (c d : Nat) (xs ys : List Int) (w : World) (hx : RdI w A xs) (hy : RdI w B ys) (lx : xs.length = 8) (ly : ys.length = 8) :
    Calls Try.prog 86 #[.slice A 8 c, .slice B 8 d] w fun e w' => e = .returned (.bool (lessL xs ys)) ∧ Below w.heap.size w w' := by
  obtain ⟨bk, off, rfl, hbk, hc⟩ := hx.cellD lx (by omega)
  obtain ⟨bj, oj, rfl, hbj, hd⟩ := hy.cellD ly (by omega)
  have HA := Lib.hid (fun k (hk : k < 8) hs hne => lessL_at k xs ys (by omega) (by omega) hs hne)
  have HS := Lib.hid (fun (hs : ∀ j, j < xs.length → xs.getD j 0 = ys.getD j 0) => (show lessL xs ys = false from by rw [same_getD (lx.trans ly.symm) hs]; exact lessL_same _))
  have Lx := Lib.hid lx
  clear hx hy lx ly
  go_enter Try.func86, Try.ntmps86
  go_wp2
  go_loopw [8] (fun i wr => ∃ k : Nat, k ≤ 8 ∧ i = .int .i64 k ∧ (∀ j, j < k → xs.getD j 0 = ys.getD j 0) ∧ Below w.heap.size w wr) (fun i _ => 8 - (intOf i).toNat)
  case atStart => exact ⟨0, by omega, rfl, by omega, Below.refl _ _⟩
  case round =>
    obtain ⟨k, hk, rfl, hs, hb⟩ := hrel
    by_cases hlt : k < 8
    · have g1 := (hb.cell (p := ⟨bk, _, none⟩) hbk).trans (hc k hlt)
      have g2 := (hb.cell (p := ⟨bj, _, none⟩) hbj).trans (hd k hlt)
      have i0 : (0 : Int) ≤ (k : Int) := by omega
      have i1 : (k : Int) < 8 := by omega
      have Hb := Lib.hid hb
      have Hs := Lib.hid hs
      have Hat := Lib.hid (HA.out k hlt hs)
      clear hc hd hb hs
      by_cases he : xs.getD k 0 = ys.getD k 0
      · have q0 : (xs.getD k 0 != ys.getD k 0) = false := bne_eq_false_iff_eq.2 he
        have Hs2 := Lib.hid (show ∀ j, j < k + 1 → xs.getD j 0 = ys.getD j 0 from fun j hj => by
          rcases Nat.lt_succ_iff_lt_or_eq.1 hj with h | rfl
          · exact Hs.out j h
          · exact he)
        clear he
        generalize xs.getD k 0 = p at *
        generalize ys.getD k 0 = q at *
        go_wp2
        go_quiet (fail)
        go_wp2
        go_roundw
        case rel => exact ⟨k + 1, by omega, by go_num, Hs2.out, (by first | exact Hb.out.drew | exact belowN Hb.out _)⟩
        case measure => simp [intOf]; omega
      · have q0 : (xs.getD k 0 != ys.getD k 0) = true := bne_iff_ne.2 he
        have Hat2 := Lib.hid (Hat.out he)
        clear he Hat
        generalize xs.getD k 0 = p at *
        generalize ys.getD k 0 = q at *
        go_wp2
        go_quiet (fail)
        go_wp2
        go_quiet (fail)
        go_wp2
        go_ret
        exact ⟨ret_b Hat2.out.symm, (by have hb := Hb.out; first | exact hb.drew.drew | exact belowN (belowN hb _) _)⟩
    · obtain rfl : k = 8 := by omega
      have Hf := Lib.hid (HS.out (fun j hj => hs j (by have := Lx.out; omega)))
      clear hs hc hd
      go_wp2
      go_ret
      exact ⟨ret_b Hf.out.symm, hb⟩

set_option maxRecDepth 100000 in
set_option maxHeartbeats 2000000 in
theorem c_wiLeast (A : Option Addr) (c : Nat) (xs : List Int) (w : World) (hr : RdI w A xs) (h8 : xs.length = 8) (hcap : 8 ≤ c) :
    Calls Try.prog 64 #[.slice A 8 c] w (Ret8 w (bestL xs 4)) := by
  have conO := Lib.hid (show Calls Try.prog 84 #[.slice A 8 c] w (Ret8 w xs) from by
    have := c_l1Own A c xs w hr (by omega)
    rw [h8] at this
    exact this.mono fun e w' h => ret8 h8 h)
  have conS := Lib.hid (fun W k (hb : Below w.heap.size w W) hk => c_wiSpin A c xs k W (hr.below hb) h8 hk hcap)
  have conL := Lib.hid (fun W A' c' A2 c2 k b1 b2 (ho : W.ownsRow b1 3 1 (.slice A' 8 c') 8 (cellsI (spinL xs k))) (ho2 : W.ownsRow b2 3 1 (.slice A2 8 c2) 8 (cellsI (bestL xs k))) => c_wiLess A' A2 c' c2 (spinL xs k) (bestL xs k) W (rd8 (by rw [spinL_len, h8]) ho) (rd8 (by rw [bestL_len, h8]) ho2) (by rw [spinL_len, h8]) (by rw [bestL_len, h8]))
  have Hone := Lib.hid (bestL_one xs)
  have Hyes := Lib.hid (fun k (h : lessL (spinL xs k) (bestL xs k) = true) => (show bestL xs (k + 1) = spinL xs k from by rw [bestL, if_pos h]))
  have Hno := Lib.hid (fun k (h : lessL (spinL xs k) (bestL xs k) = false) => (show bestL xs (k + 1) = bestL xs k from by rw [bestL, if_neg (by rw [h]; simp)]))
  clear hr h8
  go_enter Try.func64, Try.ntmps64
  go_wp2_with (go_at_call 84; refine conO.out.mono ?_; rintro e w1 ⟨A1, c1, rfl, ho1, hb1⟩)
  go_loopw [3, 4] (fun v i wr => ∃ (k : Nat) (A' : Option Addr) (c' : Nat), 1 ≤ k ∧ k ≤ 4 ∧ i = .int .i64 k ∧ v = .slice A' 8 c' ∧ wr.ownsRow w.heap.size 3 1 (.slice A' 8 c') 8 (cellsI (bestL xs k)) ∧ Below w.heap.size w wr) (fun _ i _ => 4 - (intOf i).toNat)
  case atStart => exact ⟨1, A1, c1, by omega, by omega, rfl, rfl, by rw [Hone.out]; exact ho1, hb1⟩
  case round =>
    clear ho1 hb1
    obtain ⟨k, A', c', h1, hk, rfl, rfl, hown, hb⟩ := hrel
    by_cases hlt : k < 4
    · have Ho := Lib.hid hown
      have Hb := Lib.hid hb
      have conS2 := Lib.hid (fun W hb => conS.out W k hb hlt)
      have conL2 := Lib.hid (fun W A1 c1 A2 c2 b1 b2 h1 h2 => conL.out W A1 c1 A2 c2 k b1 b2 h1 h2)
      have Hyes2 := Lib.hid (Hyes.out k)
      have Hno2 := Lib.hid (Hno.out k)
      clear hown hb conS conL Hyes Hno
      cases hl : lessL (spinL xs k) (bestL xs k)
      all_goals
        rw [hl] at conL2
        have Hl := Lib.hid hl
        clear hl
        go_wp2_with (first | (go_at_call 60; refine (conS2.out _ Hb.out).mono ?_; rintro e w2 ⟨A2, c2, rfl, ho2, hb2⟩) | (go_at_call 86; refine (conL2.out _ _ _ _ _ _ _ ho2 (own_keep Ho.out hb2)).mono ?_; rintro e w3 ⟨rfl, hb3⟩))
        go_roundw
      · exact ⟨k + 1, A', c', by omega, by omega, by go_num, rfl, by rw [Hno2.out Hl.out]; exact own_keep (own_keep Ho.out hb2) hb3, bstep (bstep Hb.out hb2) hb3⟩
      · simp [intOf]; omega
      · exact ⟨k + 1, A2, c2, by omega, by omega, by go_num, rfl, by rw [Hyes2.out Hl.out]; exact own_base (own_keep ho2 hb3) Hb.out.size, bstep (bstep Hb.out hb2) hb3⟩
      · simp [intOf]; omega
    · obtain rfl : k = 4 := by omega
      go_wp2
      go_ret
      exact ⟨A', c', rfl, hown, hb⟩

theorem winL_len {xs ys : List Int} (h : ys.length ≤ 110) : (winL xs ys).length ≤ 110 := by
  unfold winL
  split
  · exact h
  · simp

set_option maxRecDepth 100000 in
set_option maxHeartbeats 2000000 in
theorem c_specSides (A : Option Addr) (c : Nat) (xs : List Int) (w : World) (hr : RdI w A xs) (hl : xs.length ≤ 1048576) :
    Calls Try.prog 25 #[.slice A xs.length c] w (RetI w (winL xs (sidesTo xs 4)) (winB xs)) := by
  have con := Lib.hid (c_wiGood A c xs w hr (by omega))
  cases hw : winB xs
  · rw [winL_no hw]
    rw [hw] at con
    clear hr hw
    go_enter Try.func25, Try.ntmps25
    go_wp2_with (go_at_call 50; refine con.out.mono ?_; rintro e w1 ⟨rfl, hb1⟩)
    go_ret2
    exact ⟨none, 0, rfl, World.ownsRow_nil _ _ _ _, hb1⟩
  · rw [winL_yes hw]
    rw [hw] at con
    have h8 := win_len hw
    have conS := Lib.hid (fun W (hb : Below w.heap.size w W) => c_wiSides A c xs W (hr.below hb) h8 (win_numD hw))
    rw [h8] at con ⊢
    clear hr hw h8 hl
    generalize sidesTo xs 4 = S at *
    go_enter Try.func25, Try.ntmps25
    go_wp2_with (first | (go_at_call 50; refine con.out.mono ?_; rintro e w1 ⟨rfl, hb1⟩) | (go_at_call 55; refine (conS.out _ hb1).mono ?_; rintro e w2 ⟨A2, c2, rfl, ho2, hb2⟩))
    go_ret2
    exact ⟨A2, c2, rfl, own_base ho2 hb1.size, bstep hb1 hb2⟩

def fairW (xs : List Int) : Bool := winB xs && fairB xs

set_option maxRecDepth 100000 in
set_option maxHeartbeats 2000000 in
theorem c_specFair (A : Option Addr) (c : Nat) (xs : List Int) (w : World) (hr : RdI w A xs) (hl : xs.length ≤ 9223372036854775807) :
    Calls Try.prog 28 #[.slice A xs.length c] w fun e w' => e = .returned (.tuple #[.bool (fairW xs), .bool (winB xs)]) ∧ Below w.heap.size w w' := by
  have con := Lib.hid (c_wiGood A c xs w hr hl)
  unfold fairW
  cases hw : winB xs
  · rw [hw] at con
    rw [Bool.false_and]
    clear hr hw
    go_enter Try.func28, Try.ntmps28
    go_wp2_with (go_at_call 50; refine con.out.mono ?_; rintro e w1 ⟨rfl, hb1⟩)
    go_ret2
    exact ⟨rfl, hb1⟩
  · rw [hw] at con
    rw [Bool.true_and]
    have h8 := win_len hw
    have conS := Lib.hid (fun W (hb : Below w.heap.size w W) => c_wiFair A c xs W (hr.below hb) h8 (win_numD hw))
    rw [h8] at con ⊢
    clear hr hw h8 hl
    generalize fairB xs = S at *
    go_enter Try.func28, Try.ntmps28
    go_wp2_with (first | (go_at_call 50; refine con.out.mono ?_; rintro e w1 ⟨rfl, hb1⟩) | (go_at_call 57; refine (conS.out _ hb1).mono ?_; rintro e w2 ⟨rfl, hb2⟩))
    go_ret2
    exact ⟨rfl, bstep hb1 hb2⟩

def spinWB (xs : List Int) (k : Int) : Bool := winB xs && (decide (0 ≤ k) && decide (k ≤ 3))

def spinWL (xs : List Int) (k : Int) : List Int := if spinWB xs k then spinL xs k.toNat else []

theorem spinWL_len (xs : List Int) (k : Int) : (spinWL xs k).length ≤ 110 := by
  unfold spinWL
  split
  · rename_i h
    unfold spinWB at h
    rw [Bool.and_eq_true] at h
    rw [spinL_len, win_len h.1]
    decide
  · simp

set_option maxRecDepth 100000 in
set_option maxHeartbeats 2000000 in
theorem c_specSpinW (A : Option Addr) (c : Nat) (xs : List Int) (k : Int) (w : World) (hr : RdI w A xs) (hl : xs.length ≤ 1048576) (hcap : xs.length ≤ c) :
    Calls Try.prog 30 #[.slice A xs.length c, .int .i64 k] w (RetI w (spinWL xs k) (spinWB xs k)) := by
  have con := Lib.hid (c_wiGood A c xs w hr (by omega))
  cases hw : winB xs
  · have e1 : spinWB xs k = false := by simp [spinWB, hw]
    have e2 : spinWL xs k = [] := by simp [spinWL, e1]
    rw [e1, e2]
    rw [hw] at con
    clear hr hw e1 e2
    go_enter Try.func30, Try.ntmps30
    go_wp2_with (go_at_call 50; refine con.out.mono ?_; rintro e w1 ⟨rfl, hb1⟩)
    go_ret2
    exact ⟨none, 0, rfl, World.ownsRow_nil _ _ _ _, hb1⟩
  · rw [hw] at con
    have h8 := win_len hw
    cases hk : (decide (0 ≤ k) && decide (k ≤ 3))
    · have e1 : spinWB xs k = false := by unfold spinWB; rw [hk, Bool.and_false]
      have e2 : spinWL xs k = [] := by simp [spinWL, e1]
      rw [e1, e2]
      have conL := Lib.hid (fun W => c_l1In k 0 3 W)
      rw [hk] at conL
      clear hr hw h8 e1 e2 hk
      go_enter Try.func30, Try.ntmps30
      go_wp2_with (first | (go_at_call 50; refine con.out.mono ?_; rintro e w1 ⟨rfl, hb1⟩) | (go_at_call 59; refine (conL.out _).mono ?_; rintro e w3 ⟨rfl, rfl⟩))
      go_ret2
      exact ⟨none, 0, rfl, World.ownsRow_nil _ _ _ _, hb1⟩
    · have e1 : spinWB xs k = true := by unfold spinWB; rw [hk, hw]; rfl
      have e2 : spinWL xs k = spinL xs k.toNat := by simp [spinWL, e1]
      rw [e1, e2]
      have conL := Lib.hid (fun W => c_l1In k 0 3 W)
      rw [hk] at conL
      rw [Bool.and_eq_true, decide_eq_true_eq, decide_eq_true_eq] at hk
      obtain ⟨m, rfl⟩ : ∃ m : Nat, k = m := ⟨k.toNat, by omega⟩
      rw [Int.toNat_natCast]
      have conS := Lib.hid (fun W (hb : Below w.heap.size w W) => c_wiSpin A c xs m W (hr.below hb) h8 (by omega) (by omega))
      have Hlen := Lib.hid (show (spinL xs m).length = 8 from by rw [spinL_len, h8])
      rw [h8] at con ⊢
      clear hr hw h8 hl hcap e1 e2 hk
      generalize spinL xs m = S at *
      go_enter Try.func30, Try.ntmps30
      go_wp2_with (first | (go_at_call 50; refine con.out.mono ?_; rintro e w1 ⟨rfl, hb1⟩) | (go_at_call 59; refine (conL.out _).mono ?_; rintro e w3 ⟨rfl, rfl⟩) | (go_at_call 60; refine (conS.out _ hb1).mono ?_; rintro e w2 ⟨A2, c2, rfl, ho2, hb2⟩))
      go_ret2
      refine ⟨A2, c2, (by rw [Hlen.out]; rfl), ?_, bstep hb1 hb2⟩
      rw [Hlen.out]
      exact own_base ho2 hb1.size

set_option maxRecDepth 100000 in
set_option maxHeartbeats 2000000 in
theorem c_specLeastW (A : Option Addr) (c : Nat) (xs : List Int) (w : World) (hr : RdI w A xs) (hl : xs.length ≤ 1048576) (hcap : xs.length ≤ c) :
    Calls Try.prog 34 #[.slice A xs.length c] w (RetI w (winL xs (bestL xs 4)) (winB xs)) := by
  have con := Lib.hid (c_wiGood A c xs w hr (by omega))
  cases hw : winB xs
  · rw [winL_no hw]
    rw [hw] at con
    clear hr hw
    go_enter Try.func34, Try.ntmps34
    go_wp2_with (go_at_call 50; refine con.out.mono ?_; rintro e w1 ⟨rfl, hb1⟩)
    go_ret2
    exact ⟨none, 0, rfl, World.ownsRow_nil _ _ _ _, hb1⟩
  · rw [winL_yes hw]
    rw [hw] at con
    have h8 := win_len hw
    have conS := Lib.hid (fun W (hb : Below w.heap.size w W) => c_wiLeast A c xs W (hr.below hb) h8 (by omega))
    have Hlen := Lib.hid (show (bestL xs 4).length = 8 from by rw [bestL_len, h8])
    rw [h8] at con ⊢
    clear hr hw h8 hl hcap
    generalize bestL xs 4 = S at *
    go_enter Try.func34, Try.ntmps34
    go_wp2_with (first | (go_at_call 50; refine con.out.mono ?_; rintro e w1 ⟨rfl, hb1⟩) | (go_at_call 64; refine (conS.out _ hb1).mono ?_; rintro e w2 ⟨A2, c2, rfl, ho2, hb2⟩))
    go_ret2
    refine ⟨A2, c2, (by rw [Hlen.out]; rfl), ?_, bstep hb1 hb2⟩
    rw [Hlen.out]
    exact own_base ho2 hb1.size

set_option maxRecDepth 100000 in
set_option maxHeartbeats 2000000 in
theorem c_specMirrorW (A : Option Addr) (c : Nat) (xs : List Int) (w : World) (hr : RdI w A xs) (hl : xs.length ≤ 1048576) :
    Calls Try.prog 32 #[.slice A xs.length c] w (RetI w (winL xs (mirL xs)) (winB xs)) := by
  have con := Lib.hid (c_wiGood A c xs w hr (by omega))
  cases hw : winB xs
  · rw [winL_no hw]
    rw [hw] at con
    clear hr hw
    go_enter Try.func32, Try.ntmps32
    go_wp2_with (go_at_call 50; refine con.out.mono ?_; rintro e w1 ⟨rfl, hb1⟩)
    go_ret2
    exact ⟨none, 0, rfl, World.ownsRow_nil _ _ _ _, hb1⟩
  · rw [winL_yes hw]
    rw [hw] at con
    have h8 := win_len hw
    obtain ⟨bk, off, rfl, hbk, hc⟩ := hr.cellD h8 (by omega)
    have Hc := Lib.hid hc
    rw [h8] at con ⊢
    have emir : mirL xs = mirTo xs 8 := rfl
    rw [emir]
    clear hr hw h8 hl hc emir
    go_enter Try.func32, Try.ntmps32
    go_wp2_with (go_at_call 50; refine con.out.mono ?_; rintro e w1 ⟨rfl, hb1⟩)
    go_loopw [4, 5] (fun v i wr => ∃ (k : Nat) (A' : Option Addr) (c' : Nat), k ≤ 8 ∧ i = .int .i64 k ∧ v = .slice A' (mirTo xs k).length c' ∧ wr.ownsRow w.heap.size 3 1 (.slice A' (mirTo xs k).length c') (mirTo xs k).length (cellsI (mirTo xs k)) ∧ Below w.heap.size w wr) (fun _ i _ => 8 - (intOf i).toNat)
    case atStart => exact ⟨0, none, 0, by omega, rfl, rfl, World.ownsRow_nil _ _ _ _, hb1⟩
    case round =>
      clear hb1
      obtain ⟨k, A', c', hk, rfl, rfl, hown, hb⟩ := hrel
      have hpl : (mirTo xs k).length ≤ 8 := by rw [mirTo_len]; omega
      by_cases hlt : k < 8
      · obtain ⟨r, hr⟩ : ∃ r : Nat, r = (9 - k) % 8 := ⟨_, rfl⟩
        have hrt : (9 - (k : Int)).tmod 8 = (r : Int) := by rw [Int.tmod_eq_emod_of_nonneg (by omega)]; omega
        have g1 := (hb.cell (p := ⟨bk, _, none⟩) hbk).trans (Hc.out r (by omega))
        have hst := mirTo_step xs k
        rw [← hr] at hst
        have Hst := Lib.hid hst
        have Hb := Lib.hid hb
        have Ho := Lib.hid hown
        have hsz := hb.size
        have i0 : (0 : Int) ≤ (r : Int) := by omega
        have i1 : (r : Int) < 8 := by omega
        clear hst hb hown hr
        generalize xs.getD r 0 = p at *
        generalize hT : mirTo xs k = T at *
        clear hT
        have Ho2 := Lib.hid (Ho.out.alloc (.cells #[.int .i64 p] 3))
        go_wp2_with (at_builtin; refine wp_append_int rfl _ _ rfl w.heap.size _ _ rfl Ho2.out p wr.heap.size rfl (by simp) (by omega) (by simp; omega) ?_; intro A2 c2 w3 hown3 hg3)
        go_roundw
        case rel =>
          refine ⟨k + 1, A2, c2, by omega, by go_num, by rw [Hst.out, List.length_append]; rfl, ?_, ?_⟩
          · rw [Hst.out, List.length_append]; exact hown3
          · have hb0 := Hb.out
            exact Below.grown (by go_grown) hg3 (by simp; omega) (fun g hg => (Ho2.out.lt g hg).1)
        case measure => simp [intOf]; omega
      · obtain rfl : k = 8 := by omega
        go_wp2
        go_ret2
        exact ⟨A', c', rfl, hown, hb⟩

def inB (n x : Int) : Bool := decide (0 ≤ x) && decide (x ≤ n)

set_option maxRecDepth 100000 in
set_option maxHeartbeats 1000000 in
theorem c_l1AllN (A : Option Addr) (c : Nat) (xs : List Int) (n : Int) (w : World) (hr : RdI w A xs) (hl : xs.length ≤ 9223372036854775807) :
    Calls Try.prog 67 #[.slice A xs.length c, .int .i64 0, .int .i64 n] w fun e w' => e = .returned (.bool (decide (∀ x ∈ xs, inB n x = true))) ∧ Below w.heap.size w w' := by
  go_enter Try.func67, Try.ntmps67
  go_wp2
  go_loopw [11] (fun i wr => ∃ k : Nat, k ≤ xs.length ∧ i = .int .i64 k ∧ (∀ j (hj : j < xs.length), j < k → inB n xs[j] = true) ∧ Below w.heap.size w wr) (fun i _ => xs.length - (intOf i).toNat)
  case atStart => exact ⟨0, Nat.zero_le _, rfl, by omega, Below.refl _ _⟩
  case round =>
    obtain ⟨k, hk, rfl, hn, hb⟩ := hrel
    by_cases hlt : k < xs.length
    · obtain ⟨bk, off, rfl, hbk, hc⟩ := hr.at_ hlt
      have g1 := (hb.cell (p := ⟨bk, _, none⟩) hbk).trans (hc k hlt)
      have Hn := Lib.hid hn
      have Hb := Lib.hid hb
      have hz := hb.size
      clear hc hr hn hb
      have con : ∀ W, Calls Try.prog 59 #[.int .i64 xs[k], .int .i64 0, .int .i64 n] W fun e w' => e = .returned (.bool (inB n xs[k])) ∧ W = w' := fun W => c_l1In xs[k] 0 n W
      by_cases hg : inB n xs[k] = true
      · go_wp2_with (go_at_call 59; refine (con _).mono ?_; rintro e w' ⟨rfl, rfl⟩)
        go_roundw
        case rel =>
          refine ⟨k + 1, by omega, by go_num, fun j hj hjk => ?_, Hb.out⟩
          rcases Nat.lt_succ_iff_lt_or_eq.1 hjk with h | rfl
          · exact Hn.out j hj h
          · exact hg
        case measure => simp [intOf]; omega
      · have hg' : inB n xs[k] = false := (Bool.not_eq_true _).mp hg
        have Hd := Lib.hid (decide_eq_false (fun h => by have := h _ (List.getElem_mem hlt); rw [hg'] at this; cases this) : decide (∀ x ∈ xs, inB n x = true) = false)
        clear hg
        go_wp2_with (go_at_call 59; refine (con _).mono ?_; rintro e w' ⟨rfl, rfl⟩)
        go_ret
        exact ⟨ret_b Hd.out.symm, Hb.out⟩
    · go_wp2
      go_ret
      refine ⟨ret_b ?_, hb⟩
      symm
      exact decide_eq_true fun x hx => by
        obtain ⟨j, hj, rfl⟩ := List.getElem_of_mem hx
        exact hn j hj (by omega)

def compWB (xs : List Int) (n : Int) : Bool := winB xs && (numB n && decide (∀ x ∈ xs, inB n x = true))

def compWL (xs : List Int) (n : Int) : List Int := if compWB xs n then compL xs n else []

theorem compL_len (xs : List Int) (n : Int) : (compL xs n).length = xs.length := by simp [compL]

theorem compWL_len (xs : List Int) (n : Int) : (compWL xs n).length ≤ 110 := by
  unfold compWL
  split
  · rename_i h
    unfold compWB at h
    rw [Bool.and_eq_true] at h
    rw [compL_len, win_len h.1]
    decide
  · simp

def compTo (xs : List Int) (n : Int) (k : Nat) : List Int := (compL xs n).take k

theorem compTo_step {xs : List Int} {n : Int} {k : Nat} (h : k < xs.length) : compTo xs n (k + 1) = compTo xs n k ++ [n - xs.getD k 0] := by
  unfold compTo
  rw [List.take_succ_eq_append_getElem (by rw [compL_len]; exact h)]
  congr 1
  simp [compL, h]

set_option maxRecDepth 100000 in
set_option maxHeartbeats 2000000 in
theorem c_specCompW (A : Option Addr) (c : Nat) (xs : List Int) (n : Int) (w : World) (hr : RdI w A xs) (hl : xs.length ≤ 1048576) :
    Calls Try.prog 36 #[.slice A xs.length c, .int .i64 n] w (RetI w (compWL xs n) (compWB xs n)) := by
  have con := Lib.hid (c_wiGood A c xs w hr (by omega))
  cases hw : winB xs
  · have e1 : compWB xs n = false := by simp [compWB, hw]
    have e2 : compWL xs n = [] := by simp [compWL, e1]
    rw [e1, e2]
    rw [hw] at con
    clear hr hw e1 e2
    go_enter Try.func36, Try.ntmps36
    go_wp2_with (go_at_call 50; refine con.out.mono ?_; rintro e w1 ⟨rfl, hb1⟩)
    go_ret2
    exact ⟨none, 0, rfl, World.ownsRow_nil _ _ _ _, hb1⟩
  · rw [hw] at con
    have h8 := win_len hw
    have conN := Lib.hid (fun W => c_tiNumber n W)
    cases hn : numB n
    · have e1 : compWB xs n = false := by unfold compWB; rw [hn, Bool.false_and, Bool.and_false]
      have e2 : compWL xs n = [] := by simp [compWL, e1]
      rw [e1, e2]
      rw [hn] at conN
      clear hr hw h8 e1 e2 hn
      go_enter Try.func36, Try.ntmps36
      go_wp2_with (first | (go_at_call 50; refine con.out.mono ?_; rintro e w1 ⟨rfl, hb1⟩) | (go_at_call 66; refine (conN.out _).mono ?_; rintro e w3 ⟨rfl, rfl⟩))
      go_ret2
      exact ⟨none, 0, rfl, World.ownsRow_nil _ _ _ _, hb1⟩
    · rw [hn] at conN
      have conA := Lib.hid (fun W (hb : Below w.heap.size w W) => c_l1AllN A c xs n W (hr.below hb) (by omega))
      cases ha : decide (∀ x ∈ xs, inB n x = true)
      · have e1 : compWB xs n = false := by unfold compWB; rw [ha, Bool.and_false, Bool.and_false]
        have e2 : compWL xs n = [] := by simp [compWL, e1]
        rw [e1, e2]
        rw [ha] at conA
        clear hr hw h8 e1 e2 hn ha
        go_enter Try.func36, Try.ntmps36
        go_wp2_with (first | (go_at_call 50; refine con.out.mono ?_; rintro e w1 ⟨rfl, hb1⟩) | (go_at_call 66; refine (conN.out _).mono ?_; rintro e w3 ⟨rfl, rfl⟩) | (go_at_call 67; refine (conA.out _ hb1).mono ?_; rintro e w4 ⟨rfl, hb4⟩))
        go_ret2
        exact ⟨none, 0, rfl, World.ownsRow_nil _ _ _ _, bstep hb1 hb4⟩
      · have e1 : compWB xs n = true := by unfold compWB; rw [hw, hn, ha]; rfl
        have e2 : compWL xs n = compTo xs n 8 := by
          unfold compWL compTo
          rw [e1, if_pos rfl, List.take_of_length_le (by rw [compL_len, h8]; exact Nat.le_refl 8)]
        rw [e1, e2]
        rw [ha] at conA
        rw [decide_eq_true_eq] at ha
        have Hbd := Lib.hid (win_numD hw)
        simp only [numB, Bool.and_eq_true, decide_eq_true_eq] at hn
        obtain ⟨bk, off, rfl, hbk, hc⟩ := hr.cellD h8 (by omega)
        have Hc := Lib.hid hc
        have Hst := Lib.hid (fun k (hk : k < 8) => compTo_step (n := n) (show k < xs.length from by omega))
        have Hln := Lib.hid (fun k => (show (compTo xs n k).length ≤ 8 from by unfold compTo; rw [List.length_take, compL_len]; omega))
        have Hx8 := Lib.hid (show (compTo xs n 0) = [] from rfl)
        rw [h8] at con conA ⊢
        clear hr hw h8 hl e1 e2 ha hc
        go_enter Try.func36, Try.ntmps36
        go_wp2_with (first | (go_at_call 50; refine con.out.mono ?_; rintro e w1 ⟨rfl, hb1⟩) | (go_at_call 66; refine (conN.out _).mono ?_; rintro e w3 ⟨rfl, rfl⟩) | (go_at_call 67; refine (conA.out _ hb1).mono ?_; rintro e w4 ⟨rfl, hb4⟩))
        go_loopw [6, 25] (fun v i wr => ∃ (k : Nat) (A' : Option Addr) (c' : Nat), k ≤ 8 ∧ i = .int .i64 k ∧ v = .slice A' (compTo xs n k).length c' ∧ wr.ownsRow w.heap.size 3 1 (.slice A' (compTo xs n k).length c') (compTo xs n k).length (cellsI (compTo xs n k)) ∧ Below w.heap.size w wr) (fun _ i _ => 8 - (intOf i).toNat)
        case atStart => exact ⟨0, none, 0, by omega, rfl, rfl, World.ownsRow_nil _ _ _ _, bstep hb1 hb4⟩
        case round =>
          clear hb1 hb4
          obtain ⟨k, A', c', hk, rfl, rfl, hown, hb⟩ := hrel
          have hpl := Hln.out k
          by_cases hlt : k < 8
          · have g1 := (hb.cell (p := ⟨bk, _, none⟩) hbk).trans (Hc.out k hlt)
            have d1 := Hbd.out k
            have hst := Lib.hid (Hst.out k hlt)
            have Hb := Lib.hid hb
            have Ho := Lib.hid hown
            have hsz := hb.size
            clear hb hown
            generalize xs.getD k 0 = p at *
            generalize hT : compTo xs n k = T at *
            clear hT
            have Ho2 := Lib.hid (Ho.out.alloc (.cells #[.int .i64 (n - p)] 3))
            go_wp2_with (at_builtin; refine wp_append_int rfl _ _ rfl w.heap.size _ _ rfl Ho2.out (n - p) wr.heap.size rfl (by simp) (by omega) (by simp; omega) ?_; intro A2 c2 w3 hown3 hg3)
            go_roundw
            case rel =>
              refine ⟨k + 1, A2, c2, by omega, by go_num, by rw [hst.out, List.length_append]; rfl, ?_, ?_⟩
              · rw [hst.out, List.length_append]; exact hown3
              · have hb0 := Hb.out
                exact Below.grown (by go_grown) hg3 (by simp; omega) (fun g hg => (Ho2.out.lt g hg).1)
            case measure => simp [intOf]; omega
          · obtain rfl : k = 8 := by omega
            go_wp2
            go_ret2
            exact ⟨A', c', rfl, hown, hb⟩
end Go.Proofs.Ytjbdflkbclhonaa

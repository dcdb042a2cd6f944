/- Windows: the specification's own answers. -/
import Derived.Test.YtbanpgifhnbjoaaWinT
namespace Go.Proofs.Ytbanpgifhnbjoaa
open Go.RowKit
set_option linter.unusedVariables false

set_option maxRecDepth 100000 in
set_option maxHeartbeats 2000000 in
theorem c_wiLess (A B : Option Addr) (c d : Nat) (xs ys : List Int) (w : World) (hx : RdI w A xs) (hy : RdI w B ys) (lx : xs.length = 8) (ly : ys.length = 8) :
    Calls Try.prog 81 #[.slice A 8 c, .slice B 8 d] w fun e w' => e = .returned (.bool (lessL xs ys)) ∧ Below w.heap.size w w' := by
  obtain ⟨bk, off, rfl, hbk, hc⟩ := hx.cellD lx (by omega)
  obtain ⟨bj, oj, rfl, hbj, hd⟩ := hy.cellD ly (by omega)
  have HA := Lib.hid (fun k (hk : k < 8) hs hne => lessL_at k xs ys (by omega) (by omega) hs hne)
  have HS := Lib.hid (fun (hs : ∀ j, j < xs.length → xs.getD j 0 = ys.getD j 0) => (show lessL xs ys = false from by rw [same_getD (lx.trans ly.symm) hs]; exact lessL_same _))
  have Lx := Lib.hid lx
  clear hx hy lx ly
  go_enter Try.func81, Try.ntmps81
  go_wp2
  go_loopw [8] (fun i wr => ∃ k : Nat, k ≤ 8 ∧ i = .int .i64 k ∧ (∀ j, j < k → xs.getD j 0 = ys.getD j 0) ∧ Below w.heap.size w wr) (fun i _ => 8 - (intOf i).toNat)
  case atStart => exact ⟨0, by omega, rfl, by omega, Below.refl _ _⟩
  case round =>
    obtain ⟨k, hk, rfl, hs, hb⟩ := hrel
    by_cases hlt : k < 8
    · have g1 := (hb.cell (p := ⟨bk, _, none⟩) hbk).trans (hc k hlt)
      have g2 := (hb.cell (p := ⟨bj, _, none⟩) hbj).trans (hd k hlt)
      have i0 : (0 : Int) ≤ (k : Int) := by omega
      have i1 : (k : Int) < 8 := by omega
      have Hb := Lib.hid hb
      have Hs := Lib.hid hs
      have Hat := Lib.hid (HA.out k hlt hs)
      clear hc hd hb hs
      by_cases he : xs.getD k 0 = ys.getD k 0
      · have q0 : (xs.getD k 0 != ys.getD k 0) = false := bne_eq_false_iff_eq.2 he
        have Hs2 := Lib.hid (show ∀ j, j < k + 1 → xs.getD j 0 = ys.getD j 0 from fun j hj => by
          rcases Nat.lt_succ_iff_lt_or_eq.1 hj with h | rfl
          · exact Hs.out j h
          · exact he)
        clear he
        generalize xs.getD k 0 = p at *
        generalize ys.getD k 0 = q at *
        go_wp2
        go_quiet (fail)
        go_wp2
        go_roundw
        case rel => exact ⟨k + 1, by omega, by go_num, Hs2.out, (by first | exact Hb.out.drew | exact belowN Hb.out _)⟩
        case measure => simp [intOf]; omega
      · have q0 : (xs.getD k 0 != ys.getD k 0) = true := bne_iff_ne.2 he
        have Hat2 := Lib.hid (Hat.out he)
        clear he Hat
        generalize xs.getD k 0 = p at *
        generalize ys.getD k 0 = q at *
        go_wp2
        go_quiet (fail)
        go_wp2
        go_quiet (fail)
        go_wp2
        go_ret
        exact ⟨ret_b Hat2.out.symm, (by have hb := Hb.out; first | exact hb.drew.drew | exact belowN (belowN hb _) _)⟩
    · obtain rfl : k = 8 := by omega
      have Hf := Lib.hid (HS.out (fun j hj => hs j (by have := Lx.out; omega)))
      clear hs hc hd
      go_wp2
      go_ret
      exact ⟨ret_b Hf.out.symm, hb⟩

set_option maxRecDepth 100000 in
set_option maxHeartbeats 2000000 in
theorem c_wiLeast (A : Option Addr) (c : Nat) (xs : List Int) (w : World) (hr : RdI w A xs) (h8 : xs.length = 8) (hcap : 8 ≤ c) :
    Calls Try.prog 82 #[.slice A 8 c] w (Ret8 w (bestL xs 4)) := by
  have conO := Lib.hid (show Calls Try.prog 65 #[.slice A 8 c] w (Ret8 w xs) from by
    have := c_l1Own A c xs w hr (by omega)
    rw [h8] at this
    exact this.mono fun e w' h => ret8 h8 h)
  have conS := Lib.hid (fun W k (hb : Below w.heap.size w W) hk => c_wiSpin A c xs k W (hr.below hb) h8 hk hcap)
  have conL := Lib.hid (fun W A' c' A2 c2 k b1 b2 (ho : W.ownsRow b1 3 1 (.slice A' 8 c') 8 (cellsI (spinL xs k))) (ho2 : W.ownsRow b2 3 1 (.slice A2 8 c2) 8 (cellsI (bestL xs k))) => c_wiLess A' A2 c' c2 (spinL xs k) (bestL xs k) W (rd8 (by rw [spinL_len, h8]) ho) (rd8 (by rw [bestL_len, h8]) ho2) (by rw [spinL_len, h8]) (by rw [bestL_len, h8]))
  have Hone := Lib.hid (bestL_one xs)
  have Hyes := Lib.hid (fun k (h : lessL (spinL xs k) (bestL xs k) = true) => (show bestL xs (k + 1) = spinL xs k from by rw [bestL, if_pos h]))
  have Hno := Lib.hid (fun k (h : lessL (spinL xs k) (bestL xs k) = false) => (show bestL xs (k + 1) = bestL xs k from by rw [bestL, if_neg (by rw [h]; simp)]))
  clear hr h8
  go_enter Try.func82, Try.ntmps82
  go_wp2_with (go_at_call 65; refine conO.out.mono ?_; rintro e w1 ⟨A1, c1, rfl, ho1, hb1⟩)
  go_loopw [3, 4] (fun v i wr => ∃ (k : Nat) (A' : Option Addr) (c' : Nat), 1 ≤ k ∧ k ≤ 4 ∧ i = .int .i64 k ∧ v = .slice A' 8 c' ∧ wr.ownsRow w.heap.size 3 1 (.slice A' 8 c') 8 (cellsI (bestL xs k)) ∧ Below w.heap.size w wr) (fun _ i _ => 4 - (intOf i).toNat)
  case atStart => exact ⟨1, A1, c1, by omega, by omega, rfl, rfl, by rw [Hone.out]; exact ho1, hb1⟩
  case round =>
    clear ho1 hb1
    obtain ⟨k, A', c', h1, hk, rfl, rfl, hown, hb⟩ := hrel
    by_cases hlt : k < 4
    · have Ho := Lib.hid hown
      have Hb := Lib.hid hb
      have conS2 := Lib.hid (fun W hb => conS.out W k hb hlt)
      have conL2 := Lib.hid (fun W A1 c1 A2 c2 b1 b2 h1 h2 => conL.out W A1 c1 A2 c2 k b1 b2 h1 h2)
      have Hyes2 := Lib.hid (Hyes.out k)
      have Hno2 := Lib.hid (Hno.out k)
      clear hown hb conS conL Hyes Hno
      cases hl : lessL (spinL xs k) (bestL xs k)
      all_goals
        rw [hl] at conL2
        have Hl := Lib.hid hl
        clear hl
        go_wp2_with (first | (go_at_call 103; refine (conS2.out _ Hb.out).mono ?_; rintro e w2 ⟨A2, c2, rfl, ho2, hb2⟩) | (go_at_call 81; refine (conL2.out _ _ _ _ _ _ _ ho2 (own_keep Ho.out hb2)).mono ?_; rintro e w3 ⟨rfl, hb3⟩))
        go_roundw
      · exact ⟨k + 1, A', c', by omega, by omega, by go_num, rfl, by rw [Hno2.out Hl.out]; exact own_keep (own_keep Ho.out hb2) hb3, bstep (bstep Hb.out hb2) hb3⟩
      · simp [intOf]; omega
      · exact ⟨k + 1, A2, c2, by omega, by omega, by go_num, rfl, by rw [Hyes2.out Hl.out]; exact own_base (own_keep ho2 hb3) Hb.out.size, bstep (bstep Hb.out hb2) hb3⟩
      · simp [intOf]; omega
    · obtain rfl : k = 4 := by omega
      go_wp2
      go_ret
      exact ⟨A', c', rfl, hown, hb⟩

theorem winL_len {xs ys : List Int} (h : ys.length ≤ 110) : (winL xs ys).length ≤ 110 := by
  unfold winL
  split
  · exact h
  · simp

def fairW (xs : List Int) : Bool := winB xs && fairB xs

def spinWB (xs : List Int) (k : Int) : Bool := winB xs && (decide (0 ≤ k) && decide (k ≤ 3))

def spinWL (xs : List Int) (k : Int) : List Int := if spinWB xs k then spinL xs k.toNat else []

theorem spinWL_len (xs : List Int) (k : Int) : (spinWL xs k).length ≤ 110 := by
  unfold spinWL
  split
  · rename_i h
    unfold spinWB at h
    rw [Bool.and_eq_true] at h
    rw [spinL_len, win_len h.1]
    decide
  · simp

def inB (n x : Int) : Bool := decide (0 ≤ x) && decide (x ≤ n)

def compWB (xs : List Int) (n : Int) : Bool := winB xs && (numB n && decide (∀ x ∈ xs, inB n x = true))

def compWL (xs : List Int) (n : Int) : List Int := if compWB xs n then compL xs n else []

theorem compL_len (xs : List Int) (n : Int) : (compL xs n).length = xs.length := by simp [compL]

theorem compWL_len (xs : List Int) (n : Int) : (compWL xs n).length ≤ 110 := by
  unfold compWL
  split
  · rename_i h
    unfold compWB at h
    rw [Bool.and_eq_true] at h
    rw [compL_len, win_len h.1]
    decide
  · simp

def compTo (xs : List Int) (n : Int) (k : Nat) : List Int := (compL xs n).take k

theorem compTo_step {xs : List Int} {n : Int} {k : Nat} (h : k < xs.length) : compTo xs n (k + 1) = compTo xs n k ++ [n - xs.getD k 0] := by
  unfold compTo
  rw [List.take_succ_eq_append_getElem (by rw [compL_len]; exact h)]
  congr 1
  simp [compL, h]
end Go.Proofs.Ytbanpgifhnbjoaa

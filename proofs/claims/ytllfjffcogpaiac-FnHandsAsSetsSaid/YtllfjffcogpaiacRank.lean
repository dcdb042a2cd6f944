/- Ranks of tiles. -/
import Derived.Test.YtllfjffcogpaiacSet
namespace Go.Proofs.Ytllfjffcogpaiac
open Go.RowKit
set_option linter.unusedVariables false

theorem set9_len : (setL 9).length = 55 := by decide +kernel

set_option maxHeartbeats 1000000 in
theorem c_index (A : Option Addr) (c : Nat) (ts : List (Int × Int)) (a b : Int) (w : World) (hr : RdT w A ts) (hl : ts.length ≤ 9223372036854775807) :
    Calls Try.prog 34 #[.slice A ts.length c, .agg #[.int .i64 a, .int .i64 b]] w fun e w' => e = .returned (.int .i64 (placeI ts (a, b))) ∧ Below w.heap.size w w' := by
  go_enter Try.func34, Try.ntmps34
  go_wp2
  go_loopw [8] (fun i wr => ∃ k : Nat, k ≤ ts.length ∧ i = .int .i64 k ∧ (∀ j (hj : j < ts.length), j < k → ts[j] ≠ (a, b)) ∧ Below w.heap.size w wr ∧ w.heap.size < wr.heap.size ∧
      wr.cell? ⟨w.heap.size, 0, none⟩ = some (.int .i64 a) ∧ wr.cell? ⟨w.heap.size, 1, none⟩ = some (.int .i64 b)) (fun i _ => ts.length - (intOf i).toNat)
  case atStart => exact ⟨0, Nat.zero_le _, rfl, by omega, by go_grown, by simp, by simp, by simp⟩
  case round =>
    obtain ⟨k, hk, rfl, hn, hb, hz, x0, x1⟩ := hrel
    by_cases hlt : k < ts.length
    · obtain ⟨bk, off, rfl, hbk, hc⟩ := hr.at_ hlt
      have g1 := (hb.cell (p := ⟨bk, _, none⟩) hbk).trans (hc k hlt).1
      have g2 := (hb.cell (p := ⟨bk, _, none⟩) hbk).trans (hc k hlt).2
      have i0 : (0 : Int) ≤ (k : Int) := by omega
      have i1 : (k : Int) < (ts.length : Int) := by omega
      have Hn := Lib.hid hn
      have Hb := Lib.hid hb
      clear hc hr hn hb
      by_cases h1 : a = ts[k].1
      · have f1 : (a == ts[k].1) = true := by simp [← h1]
        have H1 := Lib.hid h1
        clear h1
        by_cases h2 : b = ts[k].2
        · have f2 : (b == ts[k].2) = true := by simp [← h2]
          have H2 := Lib.hid h2
          clear h2
          go_wp2
          go_quiet (fail)
          go_wp2
          go_ret
          exact ⟨ret_i (placeI_found hlt (Prod.ext H1.out.symm H2.out.symm) (fun j hj hjk => Hn.out j hj hjk)).symm, Hb.out.trans ⟨rfl, rfl, rfl, Nat.le_refl _, fun _ _ => rfl⟩⟩
        · have f2 : (b == ts[k].2) = false := by simp [h2]
          have hne : ts[k] ≠ (a, b) := by rintro e; exact h2 (by rw [e])
          have Hne := Lib.hid hne
          clear h2 hne
          go_wp2
          go_quiet (fail)
          go_wp2
          go_roundw
          case rel =>
            refine ⟨k + 1, by omega, by go_num, fun j hj hjk => ?_, Hb.out.trans ⟨rfl, rfl, rfl, Nat.le_refl _, fun _ _ => rfl⟩, hz, x0, x1⟩
            rcases Nat.lt_succ_iff_lt_or_eq.1 hjk with h | rfl
            · exact Hn.out j hj h
            · exact Hne.out
          case measure => simp [intOf]; omega
      · have f1 : (a == ts[k].1) = false := by simp [h1]
        have hne : ts[k] ≠ (a, b) := by rintro e; exact h1 (by rw [e])
        have Hne := Lib.hid hne
        clear h1 hne
        go_wp2
        go_quiet (fail)
        go_wp2
        go_roundw
        case rel =>
          refine ⟨k + 1, by omega, by go_num, fun j hj hjk => ?_, Hb.out.trans ⟨rfl, rfl, rfl, Nat.le_refl _, fun _ _ => rfl⟩, hz, x0, x1⟩
          rcases Nat.lt_succ_iff_lt_or_eq.1 hjk with h | rfl
          · exact Hn.out j hj h
          · exact Hne.out
        case measure => simp [intOf]; omega
    · go_wp2
      go_ret
      exact ⟨ret_i (placeI_none (fun j hj => hn j hj (by omega))).symm, hb⟩

def rankV (a b : Int) : Int := if goodB a b then placeI (setL 9) (a, b) else 0

set_option maxRecDepth 100000 in

set_option maxHeartbeats 1000000 in
theorem c_implRankOf (a b : Int) (w : World) : Calls Try.prog 17 #[.agg #[.int .i64 a, .int .i64 b]] w fun e w' => e = .returned (.tuple #[.int .i64 (rankV a b), .bool (goodB a b)]) ∧ Below w.heap.size w w' := by
  have x0 : (w.alloc (.cells #[.int .i64 a, .int .i64 b] 35)).cell? ⟨w.heap.size, 0, none⟩ = some (.int .i64 a) := by simp
  have x1 : (w.alloc (.cells #[.int .i64 a, .int .i64 b] 35)).cell? ⟨w.heap.size, 1, none⟩ = some (.int .i64 b) := by simp
  have hb0 : Below w.heap.size w (w.alloc (.cells #[.int .i64 a, .int .i64 b] 35)) := by go_grown
  by_cases h : goodB a b = true
  · have e1 : rankV a b = placeI (setL 9) (a, b) := by simp [rankV, h]
    rw [e1, h]
    clear e1
    have hlen : (setL 9).length ≤ 110 := setL_len (by omega)
    obtain ⟨us, hus⟩ : ∃ us, us = setL 9 := ⟨_, rfl⟩
    have e9 : setOfL 9 = us := by rw [hus]; rfl
    have n9 : numB 9 = true := rfl
    have conS : ∀ W, Calls Try.prog 21 #[.int .i64 9] W (RetT W us true) := fun W => by
      have := c_implSetOf 9 W
      rw [e9, n9] at this
      exact this
    rw [← hus] at hlen ⊢
    have ConS := Lib.hid conS
    clear hus conS e9 n9
    go_enter Try.func17, Try.ntmps17
    go_wp2_with (first | (go_at_call 33; refine (c_implIsTile _ _ _).mono ?_; rintro e w1 ⟨rfl, hb1⟩; have y0 := keepc hb1 x0; have y1 := keepc hb1 x1; have hb01 := bstep hb0 hb1; clear x0 x1 hb0 hb1) | (go_at_call 21; refine (ConS.out _).mono ?_; rintro e w2 ⟨U, cU, rfl, ho2, hb2⟩; have z0 := keepc hb2 y0; have z1 := keepc hb2 y1) | (go_at_call 34; refine (c_index _ _ us _ _ _ (RdT.of_own ho2) (by omega)).mono ?_; rintro e w3 ⟨rfl, hb3⟩))
    go_ret2
    exact ⟨rfl, bstep (bstep hb01 hb2) hb3⟩
  · have h' : goodB a b = false := by simpa using h
    have e1 : rankV a b = 0 := by simp [rankV, h']
    rw [e1, h']
    clear e1 h
    go_enter Try.func17, Try.ntmps17
    go_wp2_with (go_at_call 33; refine (c_implIsTile _ _ _).mono ?_; rintro e w1 ⟨rfl, hb1⟩)
    go_ret2
    exact ⟨rfl, bstep hb0 hb1⟩

def okR (r : Int) : Bool := decide (0 ≤ r) && decide (r ≤ 54)
def rLow (r : Int) : Int := if okR r then ((setL 9).getD r.toNat (0, 0)).1 else 0
def rHigh (r : Int) : Int := if okR r then ((setL 9).getD r.toNat (0, 0)).2 else 0
end Go.Proofs.Ytllfjffcogpaiac

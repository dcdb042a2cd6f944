/- Windows: the specification's own answers. -/
import Derived.Test.YtepedcdnaodhcaaWinT
namespace Go.Proofs.Ytepedcdnaodhcaa
open Go.RowKit
set_option linter.unusedVariables false

theorem winL_len {xs ys : List Int} (h : ys.length ≤ 110) : (winL xs ys).length ≤ 110 := by
  unfold winL
  split
  · exact h
  · simp

def fairW (xs : List Int) : Bool := winB xs && fairB xs

def spinWB (xs : List Int) (k : Int) : Bool := winB xs && (decide (0 ≤ k) && decide (k ≤ 3))

def spinWL (xs : List Int) (k : Int) : List Int := if spinWB xs k then spinL xs k.toNat else []

theorem spinWL_len (xs : List Int) (k : Int) : (spinWL xs k).length ≤ 110 := by
  unfold spinWL
  split
  · rename_i h
    unfold spinWB at h
    rw [Bool.and_eq_true] at h
    rw [spinL_len, win_len h.1]
    decide
  · simp

def inB (n x : Int) : Bool := decide (0 ≤ x) && decide (x ≤ n)

set_option maxRecDepth 100000 in
set_option maxHeartbeats 1000000 in
theorem c_l1AllN (A : Option Addr) (c : Nat) (xs : List Int) (n : Int) (w : World) (hr : RdI w A xs) (hl : xs.length ≤ 9223372036854775807) :
    Calls Try.prog 118 #[.slice A xs.length c, .int .i64 0, .int .i64 n] w fun e w' => e = .returned (.bool (decide (∀ x ∈ xs, inB n x = true))) ∧ Below w.heap.size w w' := by
  go_enter Try.func118, Try.ntmps118
  go_wp2
  go_loopw [11] (fun i wr => ∃ k : Nat, k ≤ xs.length ∧ i = .int .i64 k ∧ (∀ j (hj : j < xs.length), j < k → inB n xs[j] = true) ∧ Below w.heap.size w wr) (fun i _ => xs.length - (intOf i).toNat)
  case atStart => exact ⟨0, Nat.zero_le _, rfl, by omega, Below.refl _ _⟩
  case round =>
    obtain ⟨k, hk, rfl, hn, hb⟩ := hrel
    by_cases hlt : k < xs.length
    · obtain ⟨bk, off, rfl, hbk, hc⟩ := hr.at_ hlt
      have g1 := (hb.cell (p := ⟨bk, _, none⟩) hbk).trans (hc k hlt)
      have Hn := Lib.hid hn
      have Hb := Lib.hid hb
      have hz := hb.size
      clear hc hr hn hb
      have con : ∀ W, Calls Try.prog 76 #[.int .i64 xs[k], .int .i64 0, .int .i64 n] W fun e w' => e = .returned (.bool (inB n xs[k])) ∧ W = w' := fun W => c_l1In xs[k] 0 n W
      by_cases hg : inB n xs[k] = true
      · go_wp2_with (go_at_call 76; refine (con _).mono ?_; rintro e w' ⟨rfl, rfl⟩)
        go_roundw
        case rel =>
          refine ⟨k + 1, by omega, by go_num, fun j hj hjk => ?_, Hb.out⟩
          rcases Nat.lt_succ_iff_lt_or_eq.1 hjk with h | rfl
          · exact Hn.out j hj h
          · exact hg
        case measure => simp [intOf]; omega
      · have hg' : inB n xs[k] = false := (Bool.not_eq_true _).mp hg
        have Hd := Lib.hid (decide_eq_false (fun h => by have := h _ (List.getElem_mem hlt); rw [hg'] at this; cases this) : decide (∀ x ∈ xs, inB n x = true) = false)
        clear hg
        go_wp2_with (go_at_call 76; refine (con _).mono ?_; rintro e w' ⟨rfl, rfl⟩)
        go_ret
        exact ⟨ret_b Hd.out.symm, Hb.out⟩
    · go_wp2
      go_ret
      refine ⟨ret_b ?_, hb⟩
      symm
      exact decide_eq_true fun x hx => by
        obtain ⟨j, hj, rfl⟩ := List.getElem_of_mem hx
        exact hn j hj (by omega)

def compWB (xs : List Int) (n : Int) : Bool := winB xs && (numB n && decide (∀ x ∈ xs, inB n x = true))

def compWL (xs : List Int) (n : Int) : List Int := if compWB xs n then compL xs n else []

theorem compL_len (xs : List Int) (n : Int) : (compL xs n).length = xs.length := by simp [compL]

theorem compWL_len (xs : List Int) (n : Int) : (compWL xs n).length ≤ 110 := by
  unfold compWL
  split
  · rename_i h
    unfold compWB at h
    rw [Bool.and_eq_true] at h
    rw [compL_len, win_len h.1]
    decide
  · simp

def compTo (xs : List Int) (n : Int) (k : Nat) : List Int := (compL xs n).take k

theorem compTo_step {xs : List Int} {n : Int} {k : Nat} (h : k < xs.length) : compTo xs n (k + 1) = compTo xs n k ++ [n - xs.getD k 0] := by
  unfold compTo
  rw [List.take_succ_eq_append_getElem (by rw [compL_len]; exact h)]
  congr 1
  simp [compL, h]
end Go.Proofs.Ytepedcdnaodhcaa

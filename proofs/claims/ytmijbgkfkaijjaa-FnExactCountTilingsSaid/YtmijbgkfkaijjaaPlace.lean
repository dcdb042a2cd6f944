/- Where a tile stands in a hand. -/
import Derived.Test.YtmijbgkfkaijjaaTile
namespace Go.Proofs.Ytmijbgkfkaijjaa
open Go.RowKit
set_option linter.unusedVariables false

set_option maxHeartbeats 400000 in
theorem c_tiPlace (A : Option Addr) (c : Nat) (ts : List (Int × Int)) (a b : Int) (w : World) (hr : RdT w A ts) (hl : ts.length ≤ 9223372036854775807) :
    Calls Try.prog 14 #[.slice A ts.length c, .agg #[.int .i64 a, .int .i64 b]] w fun e w' => e = .returned (.int .i64 (placeI ts (a, b))) ∧ Below w.heap.size w w' := by
  go_enter Try.func14, Try.ntmps14
  go_wp2
  go_loopw [9] (fun i wr => ∃ k : Nat, k ≤ ts.length ∧ i = .int .i64 k ∧ (∀ j (hj : j < ts.length), j < k → ts[j] ≠ (a, b)) ∧ Below w.heap.size w wr ∧ w.heap.size < wr.heap.size ∧
      wr.cell? ⟨w.heap.size, 0, none⟩ = some (.int .i64 a) ∧ wr.cell? ⟨w.heap.size, 1, none⟩ = some (.int .i64 b)) (fun i _ => ts.length - (intOf i).toNat)
  case atStart => exact ⟨0, Nat.zero_le _, rfl, by omega, by go_grown, by simp, by simp, by simp⟩
  case round =>
    obtain ⟨k, hk, rfl, hn, hb, hz, x0, x1⟩ := hrel
    by_cases hlt : k < ts.length
    · obtain ⟨bk, off, rfl, hbk, hc⟩ := hr.at_ hlt
      have g1 := (hb.cell (p := ⟨bk, _, none⟩) hbk).trans (hc k hlt).1
      have g2 := (hb.cell (p := ⟨bk, _, none⟩) hbk).trans (hc k hlt).2
      have Hn := Lib.hid hn
      clear hc hr hn
      go_wp2
      · have e0 : ts[k].fst = a := by assumption
        have e1 : ts[k].snd = b := by assumption
        go_ret
        exact ⟨ret_i (placeI_found hlt (Prod.ext e0 e1) (fun j hj hjk => Hn.out j hj hjk)).symm, by go_grown⟩
      all_goals
        go_roundw
        case rel =>
          have hne : ts[k] ≠ (a, b) := by rintro e; simp_all
          refine ⟨k + 1, by omega, by go_num, fun j hj hjk => ?_, by go_grown, by simp; omega, by simp [*, go_sem], by simp [*, go_sem]⟩
          rcases Nat.lt_succ_iff_lt_or_eq.1 hjk with h | rfl
          · exact Hn.out j hj h
          · exact hne
        case measure => simp [intOf]; omega
    · go_wp2
      go_ret
      exact ⟨ret_i (placeI_none (fun j hj => hn j hj (by omega))).symm, hb⟩

def eqTS (xs ys : List (Int × Int)) : Bool := decide (xs = ys)
end Go.Proofs.Ytmijbgkfkaijjaa

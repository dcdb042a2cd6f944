/- What the law on hands as sets needs: whether a tile is in a list, the order of ranks. -/
import Derived.Test.YtllfjffcogpaiacHasT
import Derived.Test.YtllfjffcogpaiacRanked
namespace Go.Proofs.Ytllfjffcogpaiac
open Go.RowKit
set_option linter.unusedVariables false

set_option maxHeartbeats 1000000 in
theorem c_mHas (A : Option Addr) (c : Nat) (ts : List (Int × Int)) (a b : Int) (w : World) (hr : RdT w A ts) (hl : ts.length ≤ 9223372036854775807) :
    Calls Try.prog 16 #[.slice A ts.length c, .agg #[.int .i64 a, .int .i64 b]] w fun e w' => e = .returned (.bool (decide ((a, b) ∈ ts))) ∧ Below w.heap.size w w' := by
  go_enter Try.func16, Try.ntmps16
  go_wp2
  go_loopw [9] (fun i wr => ∃ k : Nat, k ≤ ts.length ∧ i = .int .i64 k ∧ (∀ j (hj : j < ts.length), j < k → ts[j] ≠ (a, b)) ∧ Below w.heap.size w wr ∧ w.heap.size < wr.heap.size ∧
      wr.cell? ⟨w.heap.size, 0, none⟩ = some (.int .i64 a) ∧ wr.cell? ⟨w.heap.size, 1, none⟩ = some (.int .i64 b)) (fun i _ => ts.length - (intOf i).toNat)
  case atStart => exact ⟨0, Nat.zero_le _, rfl, by omega, by go_grown, by simp, by simp, by simp⟩
  case round =>
    obtain ⟨k, hk, rfl, hn, hb, hz, x0, x1⟩ := hrel
    by_cases hlt : k < ts.length
    · obtain ⟨bk, off, rfl, hbk, hc⟩ := hr.at_ hlt
      have g1 := (hb.cell (p := ⟨bk, _, none⟩) hbk).trans (hc k hlt).1
      have g2 := (hb.cell (p := ⟨bk, _, none⟩) hbk).trans (hc k hlt).2
      have i0 : (0 : Int) ≤ (k : Int) := by omega
      have i1 : (k : Int) < (ts.length : Int) := by omega
      have y0 := keepc ((Below.refl wr.heap.size wr).alloc (o := .cells #[.int .i64 ts[k].1, .int .i64 ts[k].2] 35) (Nat.le_refl _)) x0
      have y1 := keepc ((Below.refl wr.heap.size wr).alloc (o := .cells #[.int .i64 ts[k].1, .int .i64 ts[k].2] 35) (Nat.le_refl _)) x1
      have Hn := Lib.hid hn
      have Hb := Lib.hid hb
      clear hc hr hn hb
      go_wp2
      · have e0 : ts[k].fst = a := by assumption
        have e1 : ts[k].snd = b := by assumption
        go_ret
        exact ⟨ret_b (decide_eq_true ((Prod.ext e0 e1 : ts[k] = (a, b)) ▸ List.getElem_mem hlt)).symm, by have hb0 := Hb.out; go_grown⟩
      all_goals
        go_roundw
        case rel =>
          have hne : ts[k] ≠ (a, b) := by rintro e; simp_all
          refine ⟨k + 1, by omega, by go_num, fun j hj hjk => ?_, by have hb0 := Hb.out; go_grown, by simp; omega, by simp [*, go_sem], by simp [*, go_sem]⟩
          rcases Nat.lt_succ_iff_lt_or_eq.1 hjk with h | rfl
          · exact Hn.out j hj h
          · exact hne
        case measure => simp [intOf]; omega
    · go_wp2
      go_ret
      refine ⟨ret_b (decide_eq_false fun h => ?_).symm, hb⟩
      obtain ⟨j, hj, e⟩ := List.getElem_of_mem h
      exact hn j hj (by omega) e

theorem set9_nodup : (setL 9).Nodup := set9_sorted.imp (fun {a b} hab e => by subst e; simp [ltT] at hab)
theorem place9 {k : Nat} (hk : k < (setL 9).length) : placeI (setL 9) (setL 9)[k] = k :=
  placeI_found hk rfl (fun j hj hjk e => (List.pairwise_iff_getElem.1 set9_nodup) j k hj hk hjk e)
/-- Ranks are in the order of tiles. -/
theorem rank_lt {x y : Int × Int} (hx : goodB x.1 x.2 = true) (hy : goodB y.1 y.2 = true) (h : ltT x y) : rankV x.1 x.2 < rankV y.1 y.2 := by
  obtain ⟨i, hi, ei⟩ := List.getElem_of_mem (mem_set9.2 hx)
  obtain ⟨j, hj, ej⟩ := List.getElem_of_mem (mem_set9.2 hy)
  have e1 : rankV x.1 x.2 = i := by unfold rankV; rw [if_pos hx, show ((x.1, x.2) : Int × Int) = x from rfl, ← ei]; exact place9 hi
  have e2 : rankV y.1 y.2 = j := by unfold rankV; rw [if_pos hy, show ((y.1, y.2) : Int × Int) = y from rfl, ← ej]; exact place9 hj
  rw [e1, e2]
  rcases Nat.lt_or_ge i j with hlt | hge
  · omega
  · exfalso
    rcases Nat.lt_or_eq_of_le hge with hlt | rfl
    · have := List.pairwise_iff_getElem.1 set9_sorted j i hj hi hlt
      rw [ei, ej] at this
      unfold ltT at this h
      omega
    · rw [← ei, ← ej] at h
      unfold ltT at h
      omega
end Go.Proofs.Ytllfjffcogpaiac

/- Where a tile stands in a hand. -/
import Derived.Test.YtbanpgifhnbjoaaTile
namespace Go.Proofs.Ytbanpgifhnbjoaa
open Go.RowKit
set_option linter.unusedVariables false

set_option maxHeartbeats 400000 in
theorem c_tiPlace (A : Option Addr) (c : Nat) (ts : List (Int × Int)) (a b : Int) (w : World) (hr : RdT w A ts) (hl : ts.length ≤ 9223372036854775807) :
    Calls Try.prog 64 #[.slice A ts.length c, .agg #[.int .i64 a, .int .i64 b]] w fun e w' => e = .returned (.int .i64 (placeI ts (a, b))) ∧ Below w.heap.size w w' := by
  go_enter Try.func64, Try.ntmps64
  go_wp2
  go_loopw [9] (fun i wr => ∃ k : Nat, k ≤ ts.length ∧ i = .int .i64 k ∧ (∀ j (hj : j < ts.length), j < k → ts[j] ≠ (a, b)) ∧ Below w.heap.size w wr ∧ w.heap.size < wr.heap.size ∧
      wr.cell? ⟨w.heap.size, 0, none⟩ = some (.int .i64 a) ∧ wr.cell? ⟨w.heap.size, 1, none⟩ = some (.int .i64 b)) (fun i _ => ts.length - (intOf i).toNat)
  case atStart => exact ⟨0, Nat.zero_le _, rfl, by omega, by go_grown, by simp, by simp, by simp⟩
  case round =>
    obtain ⟨k, hk, rfl, hn, hb, hz, x0, x1⟩ := hrel
    by_cases hlt : k < ts.length
    · obtain ⟨bk, off, rfl, hbk, hc⟩ := hr.at_ hlt
      have g1 := (hb.cell (p := ⟨bk, _, none⟩) hbk).trans (hc k hlt).1
      have g2 := (hb.cell (p := ⟨bk, _, none⟩) hbk).trans (hc k hlt).2
      have Hn := Lib.hid hn
      clear hc hr hn
      go_wp2
      · have e0 : ts[k].fst = a := by assumption
        have e1 : ts[k].snd = b := by assumption
        go_ret
        exact ⟨ret_i (placeI_found hlt (Prod.ext e0 e1) (fun j hj hjk => Hn.out j hj hjk)).symm, by go_grown⟩
      all_goals
        go_roundw
        case rel =>
          have hne : ts[k] ≠ (a, b) := by rintro e; simp_all
          refine ⟨k + 1, by omega, by go_num, fun j hj hjk => ?_, by go_grown, by simp; omega, by simp [*, go_sem], by simp [*, go_sem]⟩
          rcases Nat.lt_succ_iff_lt_or_eq.1 hjk with h | rfl
          · exact Hn.out j hj h
          · exact hne
        case measure => simp [intOf]; omega
    · go_wp2
      go_ret
      exact ⟨ret_i (placeI_none (fun j hj => hn j hj (by omega))).symm, hb⟩

def eqTS (xs ys : List (Int × Int)) : Bool := decide (xs = ys)

set_option maxHeartbeats 1000000 in
theorem c_eqTileS (A B : Option Addr) (c d : Nat) (xs ys : List (Int × Int)) (w : World) (hx : RdT w A xs) (hy : RdT w B ys) (lx : xs.length ≤ 9223372036854775807) (ly : ys.length ≤ 9223372036854775807) :
    Calls Try.prog 12 #[.slice A xs.length c, .slice B ys.length d] w fun e w' => e = .returned (.bool (decide (xs = ys))) ∧ Below w.heap.size w w' := by
  by_cases hne : xs.length = ys.length
  · have hne' : ((xs.length : Int) != (ys.length : Int)) = false := by simp [hne]
    have Hne := Lib.hid hne
    clear hne
    go_enter Try.func12, Try.ntmps12
    go_wp2
    go_loopw [5] (fun i wr => ∃ k : Nat, k ≤ xs.length ∧ i = .int .i64 k ∧ (∀ j (hj : j < xs.length) (hj' : j < ys.length), j < k → xs[j] = ys[j]) ∧ Below w.heap.size w wr) (fun i _ => xs.length - (intOf i).toNat)
    case atStart => exact ⟨0, Nat.zero_le _, rfl, by omega, Below.refl _ _⟩
    case round =>
      obtain ⟨k, hk, rfl, hn, hb⟩ := hrel
      by_cases hlt : k < xs.length
      · have hlt' : k < ys.length := by have := Hne.out; omega
        obtain ⟨bk, off, rfl, hbk, hc⟩ := hx.at_ hlt
        obtain ⟨bj, oj, rfl, hbj, hd⟩ := hy.at_ hlt'
        have g1 := (hb.cell (p := ⟨bk, _, none⟩) hbk).trans (hc k hlt).1
        have g2 := (hb.cell (p := ⟨bk, _, none⟩) hbk).trans (hc k hlt).2
        have g3 := (hb.cell (p := ⟨bj, _, none⟩) hbj).trans (hd k hlt').1
        have g4 := (hb.cell (p := ⟨bj, _, none⟩) hbj).trans (hd k hlt').2
        have Hn := Lib.hid hn
        have hwr := hb.size
        clear hc hx hd hy hn
        by_cases heq : sameB xs[k].1 xs[k].2 ys[k].1 ys[k].2 = true
        all_goals
          go_wp2
          go_region_held3 (fun w' => w'.cell? ⟨bk, off + k * 2, none⟩ = some (.int .i64 xs[k].1) ∧ w'.cell? ⟨bk, off + k * 2 + 1, none⟩ = some (.int .i64 xs[k].2) ∧ w'.cell? ⟨bj, oj + k * 2, none⟩ = some (.int .i64 ys[k].1) ∧ w'.cell? ⟨bj, oj + k * 2 + 1, none⟩ = some (.int .i64 ys[k].2)) (first | exact ⟨keepc hb' (by assumption), keepc hb' (by assumption), keepc hb' (by assumption), keepc hb' (by assumption)⟩ | go_keep) (first | (go_at_call 32; refine (c_eqTile _ _ _ _ _).mono ?_; rintro e w' ⟨rfl, hb'⟩))
          go_wp2
        · go_roundw
          case rel =>
            refine ⟨k + 1, by omega, by go_num, fun j hj hj' hjk => ?_, bstep hb.drew hb'⟩
            rcases Nat.lt_succ_iff_lt_or_eq.1 hjk with h | rfl
            · exact Hn.out j hj hj' h
            · simp only [sameB, decide_eq_true_eq] at heq
              exact Prod.ext heq.1 heq.2
          case measure => simp [intOf]; omega
        · go_ret
          refine ⟨ret_b ?_, bstep hb.drew hb'⟩
          symm
          simp only [decide_eq_false_iff_not]
          rintro rfl
          simp [sameB] at heq
      · go_wp2
        go_ret
        refine ⟨ret_b ?_, hb⟩
        have := Hne.out
        symm
        simp only [decide_eq_true_eq]
        exact List.ext_getElem this (fun j h1 h2 => hn j h1 h2 (by omega))
  · have hne' : ((xs.length : Int) != (ys.length : Int)) = true := by simp; omega
    have Hne := Lib.hid hne
    clear hne
    go_enter Try.func12, Try.ntmps12
    go_wp2
    go_ret
    refine ⟨ret_b ?_, Below.refl _ _⟩
    symm
    simp only [decide_eq_false_iff_not]
    rintro rfl
    exact Hne.out rfl
end Go.Proofs.Ytbanpgifhnbjoaa

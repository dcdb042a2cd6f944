/- The tiles of a hand that are no doubles. -/
import Derived.Test.YtjhedjokifnofaaPick
import Derived.Test.YtjhedjokifnofaaApp
namespace Go.Proofs.Ytjhedjokifnofaa
open Go.RowKit
set_option linter.unusedVariables false

/-- No double. -/
def wdB (t : Int × Int) : Bool := decide (t.1 ≠ t.2)
def wdL (us : List (Int × Int)) : List (Int × Int) := us.filter wdB
def wdTo (us : List (Int × Int)) (k : Nat) : List (Int × Int) := (us.take k).filter wdB
theorem wdTo_yes {us : List (Int × Int)} {k : Nat} (hk : k < us.length) (h : wdB us[k] = true) : wdTo us (k + 1) = wdTo us k ++ [us[k]] := by
  unfold wdTo
  rw [List.take_succ_eq_append_getElem hk, List.filter_append]
  simp [h]
theorem wdTo_no {us : List (Int × Int)} {k : Nat} (hk : k < us.length) (h : ¬ wdB us[k] = true) : wdTo us (k + 1) = wdTo us k := by
  unfold wdTo
  rw [List.take_succ_eq_append_getElem hk, List.filter_append]
  simp [h]
theorem wdTo_len (us : List (Int × Int)) (k : Nat) : (wdTo us k).length ≤ us.length := Nat.le_trans (List.length_filter_le _ _) (by simp; omega)
theorem wdTo_all (us : List (Int × Int)) : wdTo us us.length = wdL us := by unfold wdTo wdL; rw [List.take_length]
/-- No double: the lower number stands first. -/
def pnB (t : Int × Int) : Bool := decide (t.1 < t.2)
def pnL (us : List (Int × Int)) : List (Int × Int) := us.filter pnB
def pnTo (us : List (Int × Int)) (k : Nat) : List (Int × Int) := (us.take k).filter pnB
theorem pnTo_yes {us : List (Int × Int)} {k : Nat} (hk : k < us.length) (h : pnB us[k] = true) : pnTo us (k + 1) = pnTo us k ++ [us[k]] := by
  unfold pnTo
  rw [List.take_succ_eq_append_getElem hk, List.filter_append]
  simp [h]
theorem pnTo_no {us : List (Int × Int)} {k : Nat} (hk : k < us.length) (h : ¬ pnB us[k] = true) : pnTo us (k + 1) = pnTo us k := by
  unfold pnTo
  rw [List.take_succ_eq_append_getElem hk, List.filter_append]
  simp [h]
theorem pnTo_len (us : List (Int × Int)) (k : Nat) : (pnTo us k).length ≤ us.length := Nat.le_trans (List.length_filter_le _ _) (by simp; omega)
theorem pnTo_all (us : List (Int × Int)) : pnTo us us.length = pnL us := by unfold pnTo pnL; rw [List.take_length]

set_option maxRecDepth 100000 in
set_option maxHeartbeats 2000000 in
theorem c_withoutDoubles (A : Option Addr) (c : Nat) (us : List (Int × Int)) (w : World) (hr : RdT w A us) (hl : us.length ≤ 1048576) :
    Calls Try.prog 45 #[.slice A us.length c] w (RetL w (wdL us)) := by
  have hru := hr
  clear hr
  go_enter Try.func45, Try.ntmps45
  go_wp2
  go_loopw [3, 8] (fun v i wr => ∃ (k : Nat) (A' : Option Addr) (c' : Nat), k ≤ us.length ∧ i = .int .i64 k ∧ v = .slice A' (wdTo us k).length c' ∧ wr.ownsRow w.heap.size 49 2 (.slice A' (wdTo us k).length c') (wdTo us k).length (cellsT (wdTo us k)) ∧ Below w.heap.size w wr) (fun _ i _ => us.length - (intOf i).toNat)
  case atStart => exact ⟨0, none, 0, Nat.zero_le _, rfl, rfl, World.ownsRow_nil _ _ _ _, Below.refl _ _⟩
  case round =>
    obtain ⟨k, A', c', hk, rfl, rfl, hown, hb⟩ := hrel
    have hpl := wdTo_len us k
    by_cases hlt : k < us.length
    · obtain ⟨bk, off, rfl, hbk, hc⟩ := hru.at_ hlt
      have g1 := (hb.cell (p := ⟨bk, _, none⟩) hbk).trans (hc k hlt).1
      have g2 := (hb.cell (p := ⟨bk, _, none⟩) hbk).trans (hc k hlt).2
      have Hb := Lib.hid hb
      have Ho := Lib.hid hown
      have hsz := hb.size
      have x0 : (wr.alloc (.cells #[.int .i64 us[k].1, .int .i64 us[k].2] 49)).cell? ⟨wr.heap.size, 0, none⟩ = some (.int .i64 us[k].1) := by simp
      have x1 : (wr.alloc (.cells #[.int .i64 us[k].1, .int .i64 us[k].2] 49)).cell? ⟨wr.heap.size, 1, none⟩ = some (.int .i64 us[k].2) := by simp
      have Ho2 := Lib.hid ((Ho.out.alloc (.cells #[.int .i64 us[k].1, .int .i64 us[k].2] 49)).alloc (.cells #[.int .i64 us[k].1, .int .i64 us[k].2] 49))
      clear hc hb hown hru
      by_cases hin : wdB us[k] = true
      · have hst := Lib.hid (wdTo_yes hlt hin)
        have j1 : (us[k].1 != us[k].2) = true := by have h := of_decide_eq_true hin; simpa using h
        clear hin
        go_wp2_with (at_builtin; refine wp_append_tile rfl _ _ rfl w.heap.size _ _ rfl Ho2.out us[k].1 us[k].2 (wr.heap.size + 1) rfl (by simp) (by simp) (by omega) (by simp; omega) ?_; intro A2 c2 w3 hown3 hg3)
        go_roundw
        case rel =>
          refine ⟨k + 1, A2, c2, by omega, by go_num, by rw [hst.out, List.length_append]; rfl, ?_, ?_⟩
          · rw [hst.out, List.length_append]; exact hown3
          · exact Below.grown (by have hb0 := Hb.out; have hz0 := hb0.size; go_grown) hg3 (by simp; omega) (fun g hg => (Ho2.out.lt g hg).1)
        case measure => simp [intOf]; omega
      · have hst := Lib.hid (wdTo_no hlt hin)
        have j1 : (us[k].1 != us[k].2) = false := by have h : ¬ (us[k].1 ≠ us[k].2) := fun h => hin (decide_eq_true h); simpa using h
        clear hin
        go_wp2_with (at_builtin; refine wp_append_tile rfl _ _ rfl w.heap.size _ _ rfl Ho2.out us[k].1 us[k].2 (wr.heap.size + 1) rfl (by simp) (by simp) (by omega) (by simp; omega) ?_; intro A2 c2 w3 hown3 hg3)
        go_roundw
        case rel => exact ⟨k + 1, A', c', by omega, by go_num, by rw [hst.out], by rw [hst.out]; exact Ho.out.alloc _, by have hb0 := Hb.out; have hz0 := hb0.size; go_grown⟩
        case measure => simp [intOf]; omega
    · have : k = us.length := by omega
      subst this
      go_wp2
      go_ret
      rw [← wdTo_all]
      exact ⟨A', c', rfl, hown, hb⟩

set_option maxRecDepth 100000 in
set_option maxHeartbeats 2000000 in
theorem c_whPlain (A : Option Addr) (c : Nat) (ts : List (Int × Int)) (w : World) (hr : RdT w A ts) (hl : ts.length ≤ 1048576) :
    Calls Try.prog 41 #[.slice A ts.length c] w (RetL w (pnL (sortL ts))) := by
  have hlen := sortL_len ts
  have conS := Lib.hid (c_tiSort A c ts w hr hl)
  obtain ⟨us, hus⟩ : ∃ us, us = sortL ts := ⟨_, rfl⟩
  rw [← hus] at hlen conS ⊢
  clear hus hr
  go_enter Try.func41, Try.ntmps41
  go_wp2_with (go_at_call 65; refine conS.out.mono ?_; rintro e w1 ⟨U, cU, rfl, ho1, hb1⟩)
  have hru := RdT.of_own ho1
  clear conS ho1
  go_loopw [3, 9] (fun v i wr => ∃ (k : Nat) (A' : Option Addr) (c' : Nat), k ≤ us.length ∧ i = .int .i64 k ∧ v = .slice A' (pnTo us k).length c' ∧ wr.ownsRow w1.heap.size 49 2 (.slice A' (pnTo us k).length c') (pnTo us k).length (cellsT (pnTo us k)) ∧ Below w1.heap.size w1 wr) (fun _ i _ => us.length - (intOf i).toNat)
  case atStart => exact ⟨0, none, 0, Nat.zero_le _, rfl, rfl, World.ownsRow_nil _ _ _ _, Below.refl _ _⟩
  case round =>
    obtain ⟨k, A', c', hk, rfl, rfl, hown, hb⟩ := hrel
    have hpl := pnTo_len us k
    by_cases hlt : k < us.length
    · obtain ⟨bk, off, rfl, hbk, hc⟩ := hru.at_ hlt
      have g1 := (hb.cell (p := ⟨bk, _, none⟩) hbk).trans (hc k hlt).1
      have g2 := (hb.cell (p := ⟨bk, _, none⟩) hbk).trans (hc k hlt).2
      have Hb := Lib.hid hb
      have Ho := Lib.hid hown
      have hsz := hb.size
      have x0 : (wr.alloc (.cells #[.int .i64 us[k].1, .int .i64 us[k].2] 49)).cell? ⟨wr.heap.size, 0, none⟩ = some (.int .i64 us[k].1) := by simp
      have x1 : (wr.alloc (.cells #[.int .i64 us[k].1, .int .i64 us[k].2] 49)).cell? ⟨wr.heap.size, 1, none⟩ = some (.int .i64 us[k].2) := by simp
      have Ho2 := Lib.hid ((Ho.out.alloc (.cells #[.int .i64 us[k].1, .int .i64 us[k].2] 49)).alloc (.cells #[.int .i64 us[k].1, .int .i64 us[k].2] 49))
      clear hc hb hown hru
      by_cases hin : pnB us[k] = true
      · have hst := Lib.hid (pnTo_yes hlt hin)
        have j1 : us[k].1 < us[k].2 := of_decide_eq_true hin
        clear hin
        go_wp2_with (at_builtin; refine wp_append_tile rfl _ _ rfl w1.heap.size _ _ rfl Ho2.out us[k].1 us[k].2 (wr.heap.size + 1) rfl (by simp) (by simp) (by omega) (by simp; omega) ?_; intro A2 c2 w3 hown3 hg3)
        go_roundw
        case rel =>
          refine ⟨k + 1, A2, c2, by omega, by go_num, by rw [hst.out, List.length_append]; rfl, ?_, ?_⟩
          · rw [hst.out, List.length_append]; exact hown3
          · exact Below.grown (by have hb0 := Hb.out; have hz0 := hb0.size; go_grown) hg3 (by simp; omega) (fun g hg => (Ho2.out.lt g hg).1)
        case measure => simp [intOf]; omega
      · have hst := Lib.hid (pnTo_no hlt hin)
        have j1 : ¬ us[k].1 < us[k].2 := fun h => hin (decide_eq_true h)
        clear hin
        go_wp2_with (at_builtin; refine wp_append_tile rfl _ _ rfl w1.heap.size _ _ rfl Ho2.out us[k].1 us[k].2 (wr.heap.size + 1) rfl (by simp) (by simp) (by omega) (by simp; omega) ?_; intro A2 c2 w3 hown3 hg3)
        go_roundw
        case rel => exact ⟨k + 1, A', c', by omega, by go_num, by rw [hst.out], by rw [hst.out]; exact Ho.out.alloc _, by have hb0 := Hb.out; have hz0 := hb0.size; go_grown⟩
        case measure => simp [intOf]; omega
    · have : k = us.length := by omega
      subst this
      go_wp2
      go_ret
      rw [← pnTo_all]
      exact ⟨A', c', rfl, own_base hown hb1.size, bstep hb1 hb⟩

end Go.Proofs.Ytjhedjokifnofaa

/- The tiles of a hand that are no doubles. Whole chains counted by the specification: from a number on, only where there is one; a hand without its doubles. A range over an iterator, in the body of an iterator: what the outer one keeps in memory is told at the end. All whole chains of a hand, one after the other: the program's iterator over an iterator; how many they are. -/
import Derived.Test.YtjhedjokifnofaaPick
import Derived.Test.YtjhedjokifnofaaApp
import Derived.Test.YtjhedjokifnofaaWcN
import Derived.Test.YtjhedjokifnofaaIter
namespace Go.Proofs.Ytjhedjokifnofaa
open Go.RowKit
set_option linter.unusedVariables false

/-- No double. -/
def wdB (t : Int × Int) : Bool := decide (t.1 ≠ t.2)
def wdL (us : List (Int × Int)) : List (Int × Int) := us.filter wdB
def wdTo (us : List (Int × Int)) (k : Nat) : List (Int × Int) := (us.take k).filter wdB
theorem wdTo_yes {us : List (Int × Int)} {k : Nat} (hk : k < us.length) (h : wdB us[k] = true) : wdTo us (k + 1) = wdTo us k ++ [us[k]] := by
  unfold wdTo
  rw [List.take_succ_eq_append_getElem hk, List.filter_append]
  simp [h]
theorem wdTo_no {us : List (Int × Int)} {k : Nat} (hk : k < us.length) (h : ¬ wdB us[k] = true) : wdTo us (k + 1) = wdTo us k := by
  unfold wdTo
  rw [List.take_succ_eq_append_getElem hk, List.filter_append]
  simp [h]
theorem wdTo_len (us : List (Int × Int)) (k : Nat) : (wdTo us k).length ≤ us.length := Nat.le_trans (List.length_filter_le _ _) (by simp; omega)
theorem wdTo_all (us : List (Int × Int)) : wdTo us us.length = wdL us := by unfold wdTo wdL; rw [List.take_length]
/-- No double: the lower number stands first. -/
def pnB (t : Int × Int) : Bool := decide (t.1 < t.2)
def pnL (us : List (Int × Int)) : List (Int × Int) := us.filter pnB
def pnTo (us : List (Int × Int)) (k : Nat) : List (Int × Int) := (us.take k).filter pnB
theorem pnTo_yes {us : List (Int × Int)} {k : Nat} (hk : k < us.length) (h : pnB us[k] = true) : pnTo us (k + 1) = pnTo us k ++ [us[k]] := by
  unfold pnTo
  rw [List.take_succ_eq_append_getElem hk, List.filter_append]
  simp [h]
theorem pnTo_no {us : List (Int × Int)} {k : Nat} (hk : k < us.length) (h : ¬ pnB us[k] = true) : pnTo us (k + 1) = pnTo us k := by
  unfold pnTo
  rw [List.take_succ_eq_append_getElem hk, List.filter_append]
  simp [h]
theorem pnTo_len (us : List (Int × Int)) (k : Nat) : (pnTo us k).length ≤ us.length := Nat.le_trans (List.length_filter_le _ _) (by simp; omega)
theorem pnTo_all (us : List (Int × Int)) : pnTo us us.length = pnL us := by unfold pnTo pnL; rw [List.take_length]

set_option maxRecDepth 100000 in
set_option maxHeartbeats 2000000 in
theorem c_withoutDoubles (A : Option Addr) (c : Nat) (us : List (Int × Int)) (w : World) (hr : RdT w A us) (hl : us.length ≤ 1048576) :
    Calls Try.prog 45 #[.slice A us.length c] w (RetL w (wdL us)) := by
  have hru := hr
  clear hr
  go_enter Try.func45, Try.ntmps45
  go_wp2
  go_loopw [3, 8] (fun v i wr => ∃ (k : Nat) (A' : Option Addr) (c' : Nat), k ≤ us.length ∧ i = .int .i64 k ∧ v = .slice A' (wdTo us k).length c' ∧ wr.ownsRow w.heap.size 49 2 (.slice A' (wdTo us k).length c') (wdTo us k).length (cellsT (wdTo us k)) ∧ Below w.heap.size w wr) (fun _ i _ => us.length - (intOf i).toNat)
  case atStart => exact ⟨0, none, 0, Nat.zero_le _, rfl, rfl, World.ownsRow_nil _ _ _ _, Below.refl _ _⟩
  case round =>
    obtain ⟨k, A', c', hk, rfl, rfl, hown, hb⟩ := hrel
    have hpl := wdTo_len us k
    by_cases hlt : k < us.length
    · obtain ⟨bk, off, rfl, hbk, hc⟩ := hru.at_ hlt
      have g1 := (hb.cell (p := ⟨bk, _, none⟩) hbk).trans (hc k hlt).1
      have g2 := (hb.cell (p := ⟨bk, _, none⟩) hbk).trans (hc k hlt).2
      have Hb := Lib.hid hb
      have Ho := Lib.hid hown
      have hsz := hb.size
      have x0 : (wr.alloc (.cells #[.int .i64 us[k].1, .int .i64 us[k].2] 49)).cell? ⟨wr.heap.size, 0, none⟩ = some (.int .i64 us[k].1) := by simp
      have x1 : (wr.alloc (.cells #[.int .i64 us[k].1, .int .i64 us[k].2] 49)).cell? ⟨wr.heap.size, 1, none⟩ = some (.int .i64 us[k].2) := by simp
      have Ho2 := Lib.hid ((Ho.out.alloc (.cells #[.int .i64 us[k].1, .int .i64 us[k].2] 49)).alloc (.cells #[.int .i64 us[k].1, .int .i64 us[k].2] 49))
      clear hc hb hown hru
      by_cases hin : wdB us[k] = true
      · have hst := Lib.hid (wdTo_yes hlt hin)
        have j1 : (us[k].1 != us[k].2) = true := by have h := of_decide_eq_true hin; simpa using h
        clear hin
        go_wp2_with (at_builtin; refine wp_append_tile rfl _ _ rfl w.heap.size _ _ rfl Ho2.out us[k].1 us[k].2 (wr.heap.size + 1) rfl (by simp) (by simp) (by omega) (by simp; omega) ?_; intro A2 c2 w3 hown3 hg3)
        go_roundw
        case rel =>
          refine ⟨k + 1, A2, c2, by omega, by go_num, by rw [hst.out, List.length_append]; rfl, ?_, ?_⟩
          · rw [hst.out, List.length_append]; exact hown3
          · exact Below.grown (by have hb0 := Hb.out; have hz0 := hb0.size; go_grown) hg3 (by simp; omega) (fun g hg => (Ho2.out.lt g hg).1)
        case measure => simp [intOf]; omega
      · have hst := Lib.hid (wdTo_no hlt hin)
        have j1 : (us[k].1 != us[k].2) = false := by have h : ¬ (us[k].1 ≠ us[k].2) := fun h => hin (decide_eq_true h); simpa using h
        clear hin
        go_wp2_with (at_builtin; refine wp_append_tile rfl _ _ rfl w.heap.size _ _ rfl Ho2.out us[k].1 us[k].2 (wr.heap.size + 1) rfl (by simp) (by simp) (by omega) (by simp; omega) ?_; intro A2 c2 w3 hown3 hg3)
        go_roundw
        case rel => exact ⟨k + 1, A', c', by omega, by go_num, by rw [hst.out], by rw [hst.out]; exact Ho.out.alloc _, by have hb0 := Hb.out; have hz0 := hb0.size; go_grown⟩
        case measure => simp [intOf]; omega
    · have : k = us.length := by omega
      subst this
      go_wp2
      go_ret
      rw [← wdTo_all]
      exact ⟨A', c', rfl, hown, hb⟩

set_option maxRecDepth 100000 in
set_option maxHeartbeats 2000000 in
theorem c_whPlain (A : Option Addr) (c : Nat) (ts : List (Int × Int)) (w : World) (hr : RdT w A ts) (hl : ts.length ≤ 1048576) :
    Calls Try.prog 41 #[.slice A ts.length c] w (RetL w (pnL (sortL ts))) := by
  have hlen := sortL_len ts
  have conS := Lib.hid (c_tiSort A c ts w hr hl)
  obtain ⟨us, hus⟩ : ∃ us, us = sortL ts := ⟨_, rfl⟩
  rw [← hus] at hlen conS ⊢
  clear hus hr
  go_enter Try.func41, Try.ntmps41
  go_wp2_with (go_at_call 65; refine conS.out.mono ?_; rintro e w1 ⟨U, cU, rfl, ho1, hb1⟩)
  have hru := RdT.of_own ho1
  clear conS ho1
  go_loopw [3, 9] (fun v i wr => ∃ (k : Nat) (A' : Option Addr) (c' : Nat), k ≤ us.length ∧ i = .int .i64 k ∧ v = .slice A' (pnTo us k).length c' ∧ wr.ownsRow w1.heap.size 49 2 (.slice A' (pnTo us k).length c') (pnTo us k).length (cellsT (pnTo us k)) ∧ Below w1.heap.size w1 wr) (fun _ i _ => us.length - (intOf i).toNat)
  case atStart => exact ⟨0, none, 0, Nat.zero_le _, rfl, rfl, World.ownsRow_nil _ _ _ _, Below.refl _ _⟩
  case round =>
    obtain ⟨k, A', c', hk, rfl, rfl, hown, hb⟩ := hrel
    have hpl := pnTo_len us k
    by_cases hlt : k < us.length
    · obtain ⟨bk, off, rfl, hbk, hc⟩ := hru.at_ hlt
      have g1 := (hb.cell (p := ⟨bk, _, none⟩) hbk).trans (hc k hlt).1
      have g2 := (hb.cell (p := ⟨bk, _, none⟩) hbk).trans (hc k hlt).2
      have Hb := Lib.hid hb
      have Ho := Lib.hid hown
      have hsz := hb.size
      have x0 : (wr.alloc (.cells #[.int .i64 us[k].1, .int .i64 us[k].2] 49)).cell? ⟨wr.heap.size, 0, none⟩ = some (.int .i64 us[k].1) := by simp
      have x1 : (wr.alloc (.cells #[.int .i64 us[k].1, .int .i64 us[k].2] 49)).cell? ⟨wr.heap.size, 1, none⟩ = some (.int .i64 us[k].2) := by simp
      have Ho2 := Lib.hid ((Ho.out.alloc (.cells #[.int .i64 us[k].1, .int .i64 us[k].2] 49)).alloc (.cells #[.int .i64 us[k].1, .int .i64 us[k].2] 49))
      clear hc hb hown hru
      by_cases hin : pnB us[k] = true
      · have hst := Lib.hid (pnTo_yes hlt hin)
        have j1 : us[k].1 < us[k].2 := of_decide_eq_true hin
        clear hin
        go_wp2_with (at_builtin; refine wp_append_tile rfl _ _ rfl w1.heap.size _ _ rfl Ho2.out us[k].1 us[k].2 (wr.heap.size + 1) rfl (by simp) (by simp) (by omega) (by simp; omega) ?_; intro A2 c2 w3 hown3 hg3)
        go_roundw
        case rel =>
          refine ⟨k + 1, A2, c2, by omega, by go_num, by rw [hst.out, List.length_append]; rfl, ?_, ?_⟩
          · rw [hst.out, List.length_append]; exact hown3
          · exact Below.grown (by have hb0 := Hb.out; have hz0 := hb0.size; go_grown) hg3 (by simp; omega) (fun g hg => (Ho2.out.lt g hg).1)
        case measure => simp [intOf]; omega
      · have hst := Lib.hid (pnTo_no hlt hin)
        have j1 : ¬ us[k].1 < us[k].2 := fun h => hin (decide_eq_true h)
        clear hin
        go_wp2_with (at_builtin; refine wp_append_tile rfl _ _ rfl w1.heap.size _ _ rfl Ho2.out us[k].1 us[k].2 (wr.heap.size + 1) rfl (by simp) (by simp) (by omega) (by simp; omega) ?_; intro A2 c2 w3 hown3 hg3)
        go_roundw
        case rel => exact ⟨k + 1, A', c', by omega, by go_num, by rw [hst.out], by rw [hst.out]; exact Ho.out.alloc _, by have hb0 := Hb.out; have hz0 := hb0.size; go_grown⟩
        case measure => simp [intOf]; omega
    · have : k = us.length := by omega
      subst this
      go_wp2
      go_ret
      rw [← pnTo_all]
      exact ⟨A', c', rfl, own_base hown hb1.size, bstep hb1 hb⟩

end Go.Proofs.Ytjhedjokifnofaa

namespace Go.Proofs.Ytjhedjokifnofaa
open Go.RowKit
set_option linter.unusedVariables false

/-- May all whole chains of a list be counted, and how many are they without the doubles? -/
def cwB (H : List (Int × Int)) : Bool := handB H && decide (H.length ≤ 12)
def cwV (H : List (Int × Int)) : Int := if cwB H then (allN (wdL H) : Int) else 0
theorem hand_wd {H : List (Int × Int)} (h : handB H = true) : handB (wdL H) = true := by
  have hp : handP H := of_decide_eq_true h
  exact decide_eq_true ⟨Nat.le_trans (List.length_filter_le _ _) hp.1, fun t ht => hp.2.1 t (List.mem_filter.1 ht).1, hp.2.2.filter _⟩
theorem those_woT {P : List (Int × Int)} (h : handB P = true) (t : Int × Int) : (thoseL P [t] false).Perm (woT P t) := by
  have e : woT P t = P.filter (pickB [t] false) := by
    unfold woT
    refine List.filter_congr fun u _ => ?_
    unfold pickB
    by_cases hu : u = t <;> simp [hu]
  rw [e]
  exact (sortP_perm h).filter _
theorem hand_perm {P Q : List (Int × Int)} (h : P.Perm Q) (hp : handB P = true) : handB Q = true := by
  have hq : handP P := of_decide_eq_true hp
  exact decide_eq_true ⟨by rw [← h.length_eq]; exact hq.1, fun t ht => hq.2.1 t (h.mem_iff.2 ht), h.nodup_iff.1 hq.2.2⟩
theorem rdT_one {w : World} {g : Nat} {x y : Int} (h0 : w.cell? ⟨g, 0, none⟩ = some (.int .i64 x)) (h1 : w.cell? ⟨g, 1, none⟩ = some (.int .i64 y)) : RdT w (some ⟨g, 0, none⟩) [(x, y)] :=
  ⟨g, 0, fun _ => rfl, fun j hj => by
    have : j = 0 := by simp at hj; omega
    subst this
    exact ⟨h0, h1⟩⟩

set_option maxHeartbeats 1000000 in
theorem c_whWithout (A : Option Addr) (c : Nat) (P : List (Int × Int)) (a b : Int) (w : World) (hr : RdT w A P) (hl : P.length ≤ 1048576) :
    Calls Try.prog 67 #[.slice A P.length c, .int .i64 a, .int .i64 b] w (RetL w (thoseL P [tile2 a b] false)) := by
  have con := fun (W : World) (A2 : Option Addr) (h : RdT W A P) (h2 : RdT W A2 [tile2 a b]) => c_tiThose A c P A2 1 [tile2 a b] false W h hl h2 (by simp)
  have Con := Lib.hid con
  have HR := Lib.hid hr
  clear con hr
  go_enter Try.func67, Try.ntmps67
  go_wp2_with (first | (go_at_call 66; refine (c_tiOf _ _ _).mono ?_; rintro e w1 ⟨rfl, h1⟩) | (go_at_call 81; have al : Below w1.heap.size w1 (w1.alloc (.cells #[.int .i64 (min a b), .int .i64 (max a b)] 49)) := (Below.refl _ _).alloc (Nat.le_refl _) _; refine (Con.out _ _ ((HR.out.below h1).below al) (rdT_one (by simp) (by simp))).mono ?_; rintro e w2 ⟨A2, c2, rfl, o2, h2⟩))
  go_ret
  exact ⟨A2, c2, rfl, own_base o2 (Nat.le_trans h1.size al.size), (h1.trans (al.mono h1.size)).trans (h2.mono (Nat.le_trans h1.size al.size))⟩

set_option maxRecDepth 100000 in
set_option maxHeartbeats 2000000 in
theorem c_whFrom (A : Option Addr) (c : Nat) (P : List (Int × Int)) (x : Int) (w : World) (hr : RdT w A P) (hh : handB P = true) (hx : numB x = true) :
    Calls Try.prog 63 #[.slice A P.length c, .int .i64 x] w fun e w' => e = .returned (.bool (fromB P x)) ∧ Below w.heap.size w w' := by
  have hl : P.length ≤ 55 := (of_decide_eq_true hh : handP P).1
  by_cases h0 : P.length = 0
  · have e : fromB P x = true := by unfold fromB; rw [decide_eq_true h0]; rfl
    have j0 : ((P.length : Int) == 0) = true := by rw [h0]; rfl
    rw [e]
    clear e h0 hr hh
    go_enter Try.func63, Try.ntmps63
    go_wp2
    go_ret
    exact ⟨rfl, Below.refl _ _⟩
  · have j0 : ((P.length : Int) == 0) = false := by rw [beq_eq_false_iff_ne]; omega
    have conO := c_whOdd A c P w hr (by omega)
    have conP := fun (W : World) (hb : Below w.heap.size w W) => c_whPart A c P x W (hr.below hb) (by omega) (hand_gd hh) hx
    have hol := oddTo_len P 10
    have hpl : (partL P x).length ≤ 110 := Nat.le_trans (List.length_filter_le _ _) (sortL_len P)
    have e : fromB P x = (decide ((partL P x).length = P.length) && (decide ((oddTo P 10).length = 0) || (decide ((oddTo P 10).length = 2) && decide (x ∈ oddTo P 10)))) := by unfold fromB; rw [decide_eq_false h0, Bool.false_or]
    rw [e]
    clear e
    obtain ⟨os, hos⟩ : ∃ os, os = oddTo P 10 := ⟨_, rfl⟩
    obtain ⟨ps, hps⟩ : ∃ ps, ps = partL P x := ⟨_, rfl⟩
    rw [← hos] at conO hol ⊢
    simp only [← hps] at conP
    rw [← hps] at hpl ⊢
    have ConO := Lib.hid conO
    have ConP := Lib.hid conP
    clear conO conP hr hh hos hps
    by_cases h1 : ps.length = P.length
    · have j1 : ((ps.length : Int) == (P.length : Int)) = true := by rw [beq_iff_eq]; omega
      rw [decide_eq_true h1, Bool.true_and]
      by_cases h2 : os.length = 0
      · have j2 : ((os.length : Int) == 0) = true := by rw [h2]; rfl
        rw [decide_eq_true h2, Bool.true_or]
        clear h1 h2
        go_enter Try.func63, Try.ntmps63
        go_wp2_with (first | (go_at_call 64; refine ConO.out.mono ?_; rintro e w1 ⟨A1, c1, rfl, o1, h1⟩) | (go_at_call 76; refine (ConP.out _ h1).mono ?_; rintro e w2 ⟨A2, c2, rfl, o2, h2⟩))
        go_ret
        exact ⟨rfl, h1.trans (h2.mono h1.size)⟩
      · have j2 : ((os.length : Int) == 0) = false := by rw [beq_eq_false_iff_ne]; omega
        rw [decide_eq_false h2, Bool.false_or]
        by_cases h3 : os.length = 2
        · have j3 : ((os.length : Int) == 2) = true := by rw [h3]; rfl
          rw [decide_eq_true h3, Bool.true_and]
          clear h1 h2 h3
          go_enter Try.func63, Try.ntmps63
          go_wp2_with (first | (go_at_call 64; refine ConO.out.mono ?_; rintro e w1 ⟨A1, c1, rfl, o1, h1⟩) | (go_at_call 76; refine (ConP.out _ h1).mono ?_; rintro e w2 ⟨A2, c2, rfl, o2, h2⟩) | (go_at_call 77; refine (c_l1Has _ _ os x _ ((RdI.of_own o1).below h2) (by omega)).mono ?_; rintro e w3 ⟨rfl, h3⟩))
          go_ret
          exact ⟨rfl, (h1.trans (h2.mono h1.size)).trans (h3.mono (Nat.le_trans h1.size h2.size))⟩
        · have j3 : ((os.length : Int) == 2) = false := by rw [beq_eq_false_iff_ne]; omega
          rw [decide_eq_false h3, Bool.false_and]
          clear h1 h2 h3
          go_enter Try.func63, Try.ntmps63
          go_wp2_with (first | (go_at_call 64; refine ConO.out.mono ?_; rintro e w1 ⟨A1, c1, rfl, o1, h1⟩) | (go_at_call 76; refine (ConP.out _ h1).mono ?_; rintro e w2 ⟨A2, c2, rfl, o2, h2⟩))
          go_ret
          exact ⟨rfl, h1.trans (h2.mono h1.size)⟩
    · have j1 : ((ps.length : Int) == (P.length : Int)) = false := by rw [beq_eq_false_iff_ne]; omega
      rw [decide_eq_false h1, Bool.false_and]
      clear h1
      go_enter Try.func63, Try.ntmps63
      go_wp2_with (first | (go_at_call 64; refine ConO.out.mono ?_; rintro e w1 ⟨A1, c1, rfl, o1, h1⟩) | (go_at_call 76; refine (ConP.out _ h1).mono ?_; rintro e w2 ⟨A2, c2, rfl, o2, h2⟩))
      go_ret
      exact ⟨rfl, h1.trans (h2.mono h1.size)⟩

/-- The ways with one tile laid, and the sum over the numbers below q. -/
def trlA (f : Nat) (P : List (Int × Int)) (x : Int) (y : Nat) : Nat := if tile2 x (y : Int) ∈ P then trl f (woT P (tile2 x (y : Int))) (y : Int) else 0
def trlS (f : Nat) (P : List (Int × Int)) (x : Int) (q : Nat) : Nat := ((List.range q).map (trlA f P x)).sum
theorem trlS_step (f : Nat) (P : List (Int × Int)) (x : Int) (q : Nat) : trlS f P x (q + 1) = trlS f P x q + trlA f P x q := by
  unfold trlS
  rw [List.range_succ, List.map_append, List.sum_append]
  simp
theorem trlS_all {f : Nat} {P : List (Int × Int)} {x : Int} (h : P.length = f + 1) : trlS f P x 10 = trl P.length P x := by
  rw [h]
  show _ = if P.length = 0 then 1 else _
  rw [if_neg (by omega)]
  rfl
theorem trlA_le (f : Nat) (P : List (Int × Int)) (x : Int) (y : Nat) : trlA f P x y ≤ 10 ^ f := by
  unfold trlA
  split
  · exact trl_le _ _ _
  · exact Nat.zero_le _
theorem trlS_le (f : Nat) (P : List (Int × Int)) (x : Int) (q : Nat) : trlS f P x q ≤ q * 10 ^ f := by
  have := sum_le_mul (m := 10 ^ f) (List.range q) (trlA f P x) (fun y _ => trlA_le f P x y)
  rw [List.length_range] at this
  exact this
theorem ten_pow {f : Nat} (h : f ≤ 12) : 10 ^ f ≤ 1000000000000 := Nat.le_trans (Nat.pow_le_pow_right (by omega) h) (by decide)

set_option maxRecDepth 100000 in
set_option maxHeartbeats 4000000 in
theorem c_whCount : ∀ (n : Nat) (P : List (Int × Int)) (x : Nat) (A : Option Addr) (c : Nat) (w : World), P.length ≤ n → P.length ≤ 12 → handB P = true → x < 10 → RdT w A P →
    Calls Try.prog 47 #[.slice A P.length c, .int .i64 (x : Int)] w fun e w' => e = .returned (.int .i64 (trl P.length P (x : Int) : Int)) ∧ Below w.heap.size w w'
  | 0, P, x, A, c, w, hn, h12, hh, hx, hr => by
    have h0 : P.length = 0 := by omega
    have e : trl P.length P (x : Int) = 1 := by rw [h0]; unfold trl; rw [if_pos h0]
    have j0 : ((P.length : Int) == 0) = true := by rw [h0]; rfl
    rw [e]
    clear e h0 hr hh
    go_enter Try.func47, Try.ntmps47
    go_wp2
    go_ret
    exact ⟨rfl, Below.refl _ _⟩
  | n + 1, P, x, A, c, w, hn, h12, hh, hx, hr => by
    by_cases h0 : P.length = 0
    · have e : trl P.length P (x : Int) = 1 := by rw [h0]; unfold trl; rw [if_pos h0]
      have j0 : ((P.length : Int) == 0) = true := by rw [h0]; rfl
      rw [e]
      clear e h0 hr hh
      go_enter Try.func47, Try.ntmps47
      go_wp2
      go_ret
      exact ⟨rfl, Below.refl _ _⟩
    · have j0 : ((P.length : Int) == 0) = false := by rw [beq_eq_false_iff_ne]; omega
      obtain ⟨f, hf⟩ : ∃ f, P.length = f + 1 := ⟨P.length - 1, by omega⟩
      rw [← trlS_all hf]
      have HR := Lib.hid hr
      have HH := Lib.hid hh
      have IH := Lib.hid (fun (P : List (Int × Int)) (x : Nat) (A : Option Addr) (c : Nat) (w : World) => c_whCount n P x A c w)
      have h10 := ten_pow (f := f) (by omega)
      have HF := Lib.hid hf
      have hle := trlS_le f P (x : Int)
      have hla := trlA_le f P (x : Int)
      have HLE := Lib.hid hle
      have HLA := Lib.hid hla
      clear hr hh h0 hf hle hla
      go_enter Try.func47, Try.ntmps47
      go_wp2
      go_loopw [5, 6] (fun v i wr => ∃ q : Nat, q ≤ 10 ∧ i = .int .i64 q ∧ v = .int .i64 (trlS f P (x : Int) q : Int) ∧ Below w.heap.size w wr) (fun _ i _ => 10 - (intOf i).toNat)
      case atStart => exact ⟨0, Nat.zero_le _, rfl, rfl, Below.refl _ _⟩
      case round =>
        obtain ⟨q, hq, rfl, rfl, hb⟩ := hrel
        have HB := Lib.hid hb
        have hsz := hb.size
        clear hb
        by_cases hlt : q ≤ 9
        · have ST := Lib.hid (trlS_step f P (x : Int) q)
          have b1 : trlS f P (x : Int) q ≤ 10 * 1000000000000 := Nat.le_trans (HLE.out q) (Nat.mul_le_mul (by omega) h10)
          have b2 : trlA f P (x : Int) q ≤ 1000000000000 := Nat.le_trans (HLA.out q) h10
          by_cases hin : tile2 (x : Int) (q : Int) ∈ P
          · have hA : trlA f P (x : Int) q = trl f (woT P (tile2 (x : Int) (q : Int))) (q : Int) := by unfold trlA; rw [if_pos hin]
            have hpl : ¬ placeI P (min (x : Int) (q : Int), max (x : Int) (q : Int)) < 0 := by have := placeI_nonneg.2 hin; unfold tile2 at this; omega
            obtain ⟨R, hR⟩ : ∃ R, R = thoseL P [tile2 (x : Int) (q : Int)] false := ⟨_, rfl⟩
            have hperm : R.Perm (woT P (tile2 (x : Int) (q : Int))) := by rw [hR]; exact those_woT HH.out _
            have hRl : R.length = f := by have h7 := woT_len (hand_nd HH.out) hin; have h8 := HF.out; rw [hperm.length_eq]; omega
            have hRh : handB R = true := hand_perm hperm.symm (hand_woT HH.out _)
            rw [← trl_perm f (q : Int) hperm] at hA
            have conW := fun (W : World) (hb : Below w.heap.size w W) => c_whWithout A c P (x : Int) (q : Int) W (HR.out.below hb) (by omega)
            rw [← hR] at conW
            have ConW := Lib.hid conW
            have conF := fun (W : World) (A2 : Option Addr) (c2 : Nat) (h : RdT W A2 R) => c_whFrom A2 c2 R (q : Int) W h hRh (by unfold numB; simp; omega)
            have HRL := Lib.hid hRl
            have HRH := Lib.hid hRh
            clear conW hin hR hperm hRl hRh
            cases hfr : fromB R (q : Int)
            · have hz : trlA f P (x : Int) q = 0 := by
                rw [hA]
                refine Classical.byContradiction fun hne => ?_
                have := trl_from f HRH.out (by omega : q < 10) hne
                rw [hfr] at this
                cases this
              rw [hfr] at conF
              have ConF := Lib.hid conF
              have HZ := Lib.hid hz
              clear conF hA hz hfr
              go_wp2_with (first | (go_at_call 66; refine (c_tiOf _ _ _).mono ?_; rintro e w1 ⟨rfl, h1⟩) | (go_at_call 62; refine (c_tiPlace A c P _ _ _ (HR.out.below (HB.out.trans (h1.mono hsz))) (by omega)).mono ?_; rintro e w2 ⟨rfl, h2⟩; have B2 := Lib.hid ((HB.out.trans (h1.mono hsz)).trans (h2.mono (Nat.le_trans hsz h1.size)))) | (go_at_call 67; refine (ConW.out _ B2.out).mono ?_; rintro e w3 ⟨A3, c3, rfl, o3, h3⟩) | (go_at_call 63; refine (ConF.out _ _ _ (RdT.of_own o3)).mono ?_; rintro e w4 ⟨rfl, h4⟩))
              go_roundw
              case rel => exact ⟨q + 1, by omega, by go_num, by rw [ST.out, HZ.out, Nat.add_zero], (B2.out.trans (h3.mono B2.out.size)).trans (h4.mono (Nat.le_trans B2.out.size h3.size))⟩
              case measure => simp [intOf]; omega
            · rw [hfr] at conF
              have ConF := Lib.hid conF
              have HA := Lib.hid hA
              have jw : IntKind.i64.wrap ((trlS f P (x : Int) q : Int) + (trl R.length R (q : Int) : Int)) = (trlS f P (x : Int) q : Int) + (trl R.length R (q : Int) : Int) := IntWalk.i64_in _ (by rw [HRL.out, ← HA.out]; omega)
              clear conF hA hfr
              go_wp2_with (first | (go_at_call 66; refine (c_tiOf _ _ _).mono ?_; rintro e w1 ⟨rfl, h1⟩) | (go_at_call 62; refine (c_tiPlace A c P _ _ _ (HR.out.below (HB.out.trans (h1.mono hsz))) (by omega)).mono ?_; rintro e w2 ⟨rfl, h2⟩; have B2 := Lib.hid ((HB.out.trans (h1.mono hsz)).trans (h2.mono (Nat.le_trans hsz h1.size)))) | (go_at_call 67; refine (ConW.out _ B2.out).mono ?_; rintro e w3 ⟨A3, c3, rfl, o3, h3⟩) | (go_at_call 63; refine (ConF.out _ _ _ (RdT.of_own o3)).mono ?_; rintro e w4 ⟨rfl, h4⟩) | (go_at_call 47; refine (IH.out R q A3 c3 _ (by have := HRL.out; have := HF.out; omega) (by have := HRL.out; have := HF.out; omega) HRH.out (by omega) ((RdT.of_own o3).below h4)).mono ?_; rintro e w5 ⟨rfl, h5⟩))
              go_roundw
              case rel =>
                have B4 := (B2.out.trans (h3.mono B2.out.size)).trans (h4.mono (Nat.le_trans B2.out.size h3.size))
                exact ⟨q + 1, by omega, by go_num, by rw [ST.out, HA.out, HRL.out]; push_cast; rfl, B4.trans (h5.mono B4.size)⟩
              case measure => simp [intOf]; omega
          · have hz : trlA f P (x : Int) q = 0 := by unfold trlA; rw [if_neg hin]
            have hpl : placeI P (min (x : Int) (q : Int), max (x : Int) (q : Int)) < 0 := by
              have : ¬ 0 ≤ placeI P (tile2 (x : Int) (q : Int)) := fun h => hin (placeI_nonneg.1 h)
              unfold tile2 at this
              omega
            have HZ := Lib.hid hz
            clear hin hz
            go_wp2_with (first | (go_at_call 66; refine (c_tiOf _ _ _).mono ?_; rintro e w1 ⟨rfl, h1⟩) | (go_at_call 62; refine (c_tiPlace A c P _ _ _ (HR.out.below (HB.out.trans (h1.mono hsz))) (by omega)).mono ?_; rintro e w2 ⟨rfl, h2⟩))
            go_roundw
            case rel => exact ⟨q + 1, by omega, by go_num, by rw [ST.out, HZ.out, Nat.add_zero], (HB.out.trans (h1.mono hsz)).trans (h2.mono (Nat.le_trans hsz h1.size))⟩
            case measure => simp [intOf]; omega
        · have : q = 10 := by omega
          subst this
          go_wp2
          go_ret
          exact ⟨rfl, HB.out⟩

/-- All whole chains that begin with a number below q. -/
def allS (P : List (Int × Int)) (q : Nat) : Nat := ((List.range q).map fun x : Nat => trl P.length P (x : Int)).sum
theorem allS_step (P : List (Int × Int)) (q : Nat) : allS P (q + 1) = allS P q + trl P.length P (q : Int) := by
  unfold allS
  rw [List.range_succ, List.map_append, List.sum_append]
  simp
theorem allS_le {P : List (Int × Int)} (h : P.length ≤ 12) (q : Nat) : allS P q ≤ q * 1000000000000 := by
  unfold allS
  have h1 := sum_le_mul (m := 1000000000000) (List.range q) (fun x : Nat => trl P.length P (x : Int)) (fun x _ => Nat.le_trans (trl_le _ _ _) (ten_pow h))
  rw [List.length_range] at h1
  exact h1

set_option maxRecDepth 100000 in
set_option maxHeartbeats 4000000 in
theorem c_whAll0 (A : Option Addr) (c : Nat) (P : List (Int × Int)) (w : World) (hr : RdT w A P) (hh : handB P = true) (h12 : P.length ≤ 12) :
    Calls Try.prog 40 #[.slice A P.length c, .slice none 0 0] w fun e w' => e = .returned (.tuple #[.int .i64 (allN P : Int), .int .i64 (allN P : Int)]) ∧ Below w.heap.size w w' := by
  have hal : allN P = allS P 10 := rfl
  rw [hal]
  have conF := fun (W : World) (q : Nat) (hq : q < 10) (hb : Below w.heap.size w W) => c_whFrom A c P (q : Int) W (hr.below hb) hh (by unfold numB; simp; omega)
  have conC := fun (W : World) (q : Nat) (hq : q < 10) (hb : Below w.heap.size w W) => c_whCount P.length P q A c W (Nat.le_refl _) h12 hh hq (hr.below hb)
  have ConC := Lib.hid conC
  have HH := Lib.hid hh
  have HLE := Lib.hid (fun q => allS_le h12 q)
  have HTL := Lib.hid (fun q : Nat => Nat.le_trans (trl_le P.length P (q : Int)) (ten_pow h12))
  clear hal conC hr hh
  go_enter Try.func40, Try.ntmps40
  go_wp2
  go_loopw [6, 7, 8] (fun v u i wr => ∃ q : Nat, q ≤ 10 ∧ i = .int .i64 q ∧ v = .int .i64 (allS P q : Int) ∧ u = .int .i64 (allS P q : Int) ∧ Below w.heap.size w wr) (fun _ _ i _ => 10 - (intOf i).toNat)
  case atStart => exact ⟨0, Nat.zero_le _, rfl, rfl, rfl, Below.refl _ _⟩
  case round =>
    obtain ⟨q, hq, rfl, rfl, rfl, hb⟩ := hrel
    have HB := Lib.hid hb
    have hsz := hb.size
    by_cases hlt : q ≤ 9
    · have ST := Lib.hid (allS_step P q)
      have conF1 := conF wr q (by omega) hb
      clear hb conF
      cases hfr : fromB P (q : Int)
      · have hz : trl P.length P (q : Int) = 0 := by
          refine Classical.byContradiction fun hne => ?_
          have := trl_from P.length HH.out (by omega : q < 10) hne
          rw [hfr] at this
          cases this
        rw [hfr] at conF1
        have ConF := Lib.hid conF1
        have HZ := Lib.hid hz
        clear conF1 hz hfr
        go_wp2_with (go_at_call 63; refine ConF.out.mono ?_; rintro e w1 ⟨rfl, h1⟩)
        go_roundw
        case rel => exact ⟨q + 1, by omega, by go_num, by rw [ST.out, HZ.out, Nat.add_zero], by rw [ST.out, HZ.out, Nat.add_zero], HB.out.trans (h1.mono hsz)⟩
        case measure => simp [intOf]; omega
      · rw [hfr] at conF1
        have ConF := Lib.hid conF1
        have b1 := HLE.out q
        have b2 := HTL.out q
        obtain ⟨t, ht⟩ : ∃ t, t = trl P.length P (q : Int) := ⟨_, rfl⟩
        rw [← ht] at b2
        have HT := Lib.hid ht
        have b3 : allS P q ≤ 10000000000000 := Nat.le_trans b1 (by omega)
        have jw : IntKind.i64.wrap ((allS P q : Int) + (t : Int)) = (allS P q : Int) + (t : Int) := IntWalk.i64_in _ (by omega)
        have jt : IntKind.i64.wrap ((t : Int) * 1) = (t : Int) := IntWalk.i64_in _ (by omega) |>.trans (by omega)
        have conC1 := fun (W : World) (hb : Below w.heap.size w W) => ConC.out W q (by omega) hb
        rw [← ht] at conC1
        have ConC1 := Lib.hid conC1
        clear conF1 hfr b1 conC1 ht
        go_wp2_with (first | (go_at_call 63; refine ConF.out.mono ?_; rintro e w1 ⟨rfl, h1⟩; have B1 := Lib.hid (HB.out.trans (h1.mono hsz))) | (go_at_call 47; refine (ConC1.out _ B1.out).mono ?_; rintro e w2 ⟨rfl, h2⟩; have B2 := Lib.hid (B1.out.trans (h2.mono B1.out.size))))
        rename World => wo
        go_loopw [10, 30] (fun p i wr => p = .int .i64 1 ∧ i = .int .i64 0 ∧ Below w.heap.size w wr) (fun _ _ _ => 0)
        case atStart => exact ⟨rfl, rfl, B2.out⟩
        case round =>
          obtain ⟨rfl, rfl, hb3⟩ := hrel
          have B3 := Lib.hid hb3
          clear hb3
          go_wp2
          go_roundw
          case rel => exact ⟨q + 1, by omega, by go_num, by rw [ST.out, ← HT.out]; push_cast; rfl, by rw [ST.out, ← HT.out]; push_cast; rfl, B3.out⟩
          case measure => simp [intOf]; omega
    · have : q = 10 := by omega
      subst this
      go_wp2
      go_ret2
      exact ⟨rfl, HB.out⟩

set_option maxRecDepth 100000 in
set_option maxHeartbeats 2000000 in
theorem c_specWithout (A : Option Addr) (c : Nat) (H : List (Int × Int)) (w : World) (hr : RdT w A H) (hl : H.length ≤ 1048576) (hcap : H.length ≤ c) :
    Calls Try.prog 27 #[.slice A H.length c] w fun e w' => e = .returned (.tuple #[.int .i64 (cwV H), .bool (cwB H)]) ∧ Below w.heap.size w w' := by
  have con := c_tiHand A c H w hr (by omega) hcap
  unfold cwV cwB
  cases hh : handB H
  · rw [hh] at con
    have Con := Lib.hid con
    clear con hh hr
    go_enter Try.func27, Try.ntmps27
    go_wp2_with fail
    refine Con.out.mono ?_
    rintro e w1 ⟨rfl, h1⟩
    go_wp2
    go_ret2
    exact ⟨rfl, h1⟩
  · rw [hh] at con
    have Con := Lib.hid con
    by_cases h12 : H.length ≤ 12
    · have j1 : ¬ (12 : Int) < (H.length : Int) := by omega
      rw [decide_eq_true h12]
      have hpm : (pnL (sortL H)).Perm (wdL H) := by
        have e : pnL (sortL H) = (sortL H).filter wdB := by
          unfold pnL
          refine List.filter_congr fun t ht => ?_
          have hg := hand_gd hh t ((sortP_perm hh).mem_iff.1 ht)
          simp only [goodB, numB, Bool.and_eq_true, decide_eq_true_eq] at hg
          unfold pnB wdB
          rw [decide_eq_decide]
          omega
        rw [e]
        exact (sortP_perm hh).filter _
      have hwh := hand_wd hh
      have hwl : (wdL H).length ≤ 12 := Nat.le_trans (List.length_filter_le _ _) h12
      rw [← allN_perm hpm]
      have hph := hand_perm hpm.symm hwh
      have hpl : (pnL (sortL H)).length ≤ 12 := by rw [hpm.length_eq]; exact hwl
      obtain ⟨Q, hQ⟩ : ∃ Q, Q = pnL (sortL H) := ⟨_, rfl⟩
      have conP := fun (W : World) (hb : Below w.heap.size w W) => c_whPlain A c H W (hr.below hb) (by omega)
      rw [← hQ] at conP hph hpl ⊢
      have conA := fun (W : World) (A2 : Option Addr) (c2 : Nat) (h : RdT W A2 Q) => c_whAll0 A2 c2 Q W h hph hpl
      have ConP := Lib.hid conP
      have ConA := Lib.hid conA
      clear con hh hr conP conA hpm hwh hwl hph hpl hQ h12
      go_enter Try.func27, Try.ntmps27
      go_wp2_with (first | (go_at_call 39; refine Con.out.mono ?_; rintro e w1 ⟨rfl, h1⟩) | (go_at_call 41; refine (ConP.out _ h1).mono ?_; rintro e w2 ⟨A2, c2, rfl, o2, h2⟩) | (go_at_call 40; refine (ConA.out _ _ _ (RdT.of_own o2)).mono ?_; rintro e w3 ⟨rfl, h3⟩))
      go_ret2
      exact ⟨rfl, (h1.trans (h2.mono h1.size)).trans (h3.mono (Nat.le_trans h1.size h2.size))⟩
    · have j1 : (12 : Int) < (H.length : Int) := by omega
      rw [decide_eq_false h12]
      clear con hh hr h12
      go_enter Try.func27, Try.ntmps27
      go_wp2_with fail
      refine Con.out.mono ?_
      rintro e w1 ⟨rfl, h1⟩
      go_wp2
      go_ret2
      exact ⟨rfl, h1⟩

end Go.Proofs.Ytjhedjokifnofaa

namespace Go.Proofs.Ytjhedjokifnofaa
open Go Go.RowKit
set_option linter.unusedVariables false

/-- wp_rangeIter, and the blocks that the iterator keeps are told at the end. -/
theorem wp_rangeIterT {P : Program} {n : Nat} {α : Type} {g : Operand} {ps : Array Tmp} {assign body : Code} {Q : Exit → Act → World → Prop} {a : Act} {w : World}
    {gf : Nat} {lb : Array Value} (hg : a.eval g = .func (.func gf) #[] lb) (eg : ∀ args w, (callFunc gf args).run P w = .ok (.enter gf args) w)
    {n₀ : Nat} {T0 : Nat → Prop} {Enc : α → Array Value → (Nat → Prop) → World → Prop} {xs : List α} (hit : Iters P n₀ T0 gf lb Enc xs w)
    (hn : n₀ ≤ w.heap.size) (hT0 : ∀ k, T0 k → n₀ ≤ k ∧ k < w.heap.size) (hps : ∀ x v T A, Enc x v T A → v.size = ps.size)
    (hE : ∀ x v T A B, Enc x v T A → A.heap.size ≤ B.heap.size → (∀ k, T k → B.heap[k]? = A.heap[k]?) → Enc x v T B)
    (I : (Nat → Prop) → List α → World → Prop) (Ix : Code → (Nat → Prop) → List α → World → Prop) (hI : AbT n₀ I) (hIx : ∀ c, AbT n₀ (Ix c)) (h0 : I T0 [] w) (a₁ : Array Value → Act)
    (hassign : ∀ (l m : Nat) (x : α) (v : Array Value) (T : Nat → Prop) (W : World) (K : Act → World → Prop), Enc x v T W → K (a₁ v) W →
      assign.wpIn (Fence.wide.inRound l) m P (Exit.then K (fun _ _ _ => False)) { tmps := (ps.zip v).foldl (fun t (p, v) => t.setIfInBounds p v) a.tmps, defers := [] } W)
    (hbody : ∀ (l m : Nat) (T Ti : Nat → Prop) (pre : List α) (x : α) (v : Array Value) (A : World), I T pre A → (pre ++ [x]) <+: xs → (∀ k, T k → n₀ ≤ k ∧ k < A.heap.size) → n₀ ≤ A.heap.size → (∀ k, Ti k → T k) → Enc x v Ti A →
      body.wpIn (Fence.wide.inRound l) m P (iterPost n₀ T I Ix (pre ++ [x]) A) (a₁ v) A)
    (hdone : ∀ (D : Nat) (T : Nat → Prop) (W : World), w.heap.size ≤ D → T D → I T xs W → w.heap.size ≤ W.heap.size → W.heap[D]? = some (.deferred (some [])) → (∀ k, T k → n₀ ≤ k ∧ k < W.heap.size) → Q .normal { a with defers := { target := .collected D, args := #[] } :: a.defers } W)
    (hstop : ∀ (D : Nat) (c : Code) (T : Nat → Prop) (pre : List α) (W : World), w.heap.size ≤ D → T D → pre <+: xs → Ix c T pre W → w.heap.size ≤ W.heap.size → W.heap[D]? = some (.deferred (some [])) → (∀ k, T k → n₀ ≤ k ∧ k < W.heap.size) → c.wpIn Fence.wide n P Q { a with defers := { target := .collected D, args := #[] } :: a.defers } W) :
    (Code.rangeFunc g ps assign body).wpIn Fence.wide n P Q a w := by
  refine wpIn_rangeFunc ?_
  intro fn hfn
  rw [show Fence.wide.round = none from rfl]
  obtain ⟨rec, hrec⟩ : ∃ rec : LoopState → Option Code → Loop, rec = fun st pe => { state := st, pending := pe, fn, tmps := a.tmps, params := ps, assign, body, defers := w.heap.size } := ⟨_, rfl⟩
  have rst : ∀ st pe, (rec st pe).state = st := fun _ _ => by rw [hrec]
  have rpe : ∀ st pe, (rec st pe).pending = pe := fun _ _ => by rw [hrec]
  have rto : ∀ st pe st' pe', ({ rec st pe with state := st', pending := pe' } : Loop) = rec st' pe' := fun _ _ _ _ => by rw [hrec]
  obtain ⟨D, hD⟩ : ∃ D, D = w.heap.size := ⟨_, rfl⟩
  obtain ⟨l, hl⟩ : ∃ l, l = w.heap.size + 1 := ⟨_, rfl⟩
  have hDl : D ≠ l := by omega
  obtain ⟨W1, hW1⟩ : ∃ W1, W1 = (w.alloc (.deferred (some []))).alloc (.loop (rec .ready none)) := ⟨_, rfl⟩
  have hL1 : W1.heap[l]? = some (.loop (rec .ready none)) := by
    have := World.alloc_heap_new (w.alloc (.deferred (some []))) (.loop (rec .ready none))
    rw [World.size_alloc] at this
    rw [hW1, hl]; exact this
  have hK1 : W1.heap[D]? = some (.deferred (some [])) := by
    rw [hW1, hD]; exact (Below.heap_alloc _ _ _ (by simp)).trans (World.alloc_heap_new w _)
  have hbw : Below w.heap.size w W1 := by rw [hW1]; exact ((Below.refl _ w).alloc (Nat.le_refl _) _).alloc (by simp) _
  have hs1 : W1.heap.size = w.heap.size + 2 := by rw [hW1]; simp
  refine ⟨l, [{ target := .collected D, args := #[] }], W1, { target := .fn (.func gf) lb, args := #[.func (.yield l) #[] #[]] }, W1, gf, #[.func (.yield l) #[] #[]] ++ lb, W1, ?_, ?_, fun f' hf' => trivial, ?_, fun h => (by cases h), ?_⟩
  · rw [hW1, hrec, hl, hD]; exact run_enterLoop_outer _ _ _ _ _
  · simp only [resolve, hg]
    simp [go_sem]
  · simp [invoke, go_sem, eg]
  refine (hit (n - 1) l
    (fun T pre A => I (fun k => T k ∨ k = l ∨ k = D) pre A ∧ A.heap[l]? = some (.loop (rec .ready none)) ∧ A.heap[D]? = some (.deferred (some [])) ∧ ¬ T l ∧ ¬ T D ∧ w.heap.size ≤ A.heap.size)
    (fun T pre A => ∃ c, Ix c (fun k => T k ∨ k = l ∨ k = D) pre A ∧ A.heap[l]? = some (.loop (rec .done (some c))) ∧ A.heap[D]? = some (.deferred (some [])) ∧ ¬ T l ∧ ¬ T D ∧ w.heap.size ≤ A.heap.size)
    W1 hbw ?_ ?_ ?_ ?_).mono ?_
  · -- the iterator's steps leave the caller's things
    rintro T T' s A B ⟨hi, hrl, hrd, hnl, hnd, hsz⟩ hT hnA ht hT'
    have lA := (Array.getElem?_eq_some_iff.1 hrl).1
    have dA := (Array.getElem?_eq_some_iff.1 hrd).1
    refine ⟨hI _ _ s A B hi ?_ hnA (ht.mono fun k _ h => .inl h) ?_, (ht.block l lA hnl).trans hrl, (ht.block D dA hnd).trans hrd, ?_, ?_, Nat.le_trans hsz ht.size⟩
    · rintro k (h | rfl | rfl)
      · exact hT k h
      · exact ⟨by omega, lA⟩
      · exact ⟨by omega, dA⟩
    · rintro k (h | h)
      · rcases hT' k h with h | h
        · exact .inl (.inl h)
        · exact .inr h
      · exact .inl (.inr h)
    · intro h; rcases hT' l h with h | h
      · exact hnl h
      · omega
    · intro h; rcases hT' D h with h | h
      · exact hnd h
      · omega
  · rintro T T' s A B ⟨c, hi, hrl, hrd, hnl, hnd, hsz⟩ hT hnA ht hT'
    have lA := (Array.getElem?_eq_some_iff.1 hrl).1
    have dA := (Array.getElem?_eq_some_iff.1 hrd).1
    refine ⟨c, hIx c _ _ s A B hi ?_ hnA (ht.mono fun k _ h => .inl h) ?_, (ht.block l lA hnl).trans hrl, (ht.block D dA hnd).trans hrd, ?_, ?_, Nat.le_trans hsz ht.size⟩
    · rintro k (h | rfl | rfl)
      · exact hT k h
      · exact ⟨by omega, lA⟩
      · exact ⟨by omega, dA⟩
    · rintro k (h | h)
      · rcases hT' k h with h | h
        · exact .inl (.inl h)
        · exact .inr h
      · exact .inl (.inr h)
    · intro h; rcases hT' l h with h | h
      · exact hnl h
      · omega
    · intro h; rcases hT' D h with h | h
      · exact hnd h
      · omega
  · -- one round
    rintro T pre x v A m ⟨hi, hrl, hrd, hnl, hnd, hsz⟩ hpre hT hnA henc
    have lA := (Array.getElem?_eq_some_iff.1 hrl).1
    have dA := (Array.getElem?_eq_some_iff.1 hrd).1
    have hy := run_yield (P := P) (args := v) hrl (by rw [hrec]; exact hps x v T A henc)
    have e1 : (rec .ready none).fn = fn ∧ (rec .ready none).assign = assign ∧ (rec .ready none).body = body ∧ (rec .ready none).params = ps ∧ (rec .ready none).tmps = a.tmps := by rw [hrec]; exact ⟨rfl, rfl, rfl, rfl, rfl⟩
    rw [e1.1, e1.2.1, e1.2.2.1, e1.2.2.2.1, e1.2.2.2.2] at hy
    refine ⟨fn, _, assign, body, hy, roundIn_of_wpIn hfn (hassign l _ x v T A _ henc ⟨_, run_beginRound hrl (rst _ _), ?_⟩)⟩
    clear hy
    rw [rto, rpe]
    obtain ⟨A2, hA2⟩ : ∃ A2, A2 = A.putObj l (.loop (rec .busy none)) := ⟨_, rfl⟩
    have t12 : Turn (fun k => k = l) A A2 := by rw [hA2]; exact Turn.putObj _ rfl
    have l2 : A2.heap[l]? = some (.loop (rec .busy none)) := by rw [hA2]; exact World.putObj_heap_same lA
    have hTp : ∀ k, (T k ∨ k = l ∨ k = D) → n₀ ≤ k ∧ k < A.heap.size := by
      rintro k (h | rfl | rfl)
      · exact hT k h
      · exact ⟨by omega, lA⟩
      · exact ⟨by omega, dA⟩
    have hi2 : I (fun k => T k ∨ k = l ∨ k = D) pre A2 := hI _ _ pre A A2 hi hTp hnA (t12.mono fun k _ h => .inr (.inl h)) fun k h => .inl h
    have hs2 : A2.heap.size = A.heap.size := by rw [hA2]; simp
    rw [← hA2]
    refine wpIn_mono (hbody l _ _ T pre x v A2 hi2 hpre (fun k hk => by rw [hs2]; exact hTp k hk) (by omega) (fun k hk => .inl hk) (hE x v T A A2 henc (by omega) fun k hk => t12.block k (hT k hk).2 fun e => hnl (e ▸ hk))) ?_
    -- behind the body
    have fin : ∀ (jump : Option Code) (A3 : World), Keep n₀ (fun k => T k ∨ k = l ∨ k = D) A2 A3 →
        ∃ A4, (Instr.endRound l jump).run P A3 = .ok (.bool jump.isNone) A4 ∧ A4.heap[l]? = some (.loop (rec (if jump.isNone then .ready else .done) jump)) ∧ A4.heap[D]? = some (.deferred (some [])) ∧
          Turn (fun k => k = l) A3 A4 ∧ Keep n₀ T A A4 ∧ w.heap.size ≤ A4.heap.size ∧ A.heap.size ≤ A3.heap.size := fun jump A3 hk => by
      have l3 : A3.heap[l]? = some (.loop (rec .busy none)) := (hk.block l (by omega) fun h => h.2 (.inr (.inl rfl))).trans l2
      have d3 : A3.heap[D]? = some (.deferred (some [])) := (hk.block D (by omega) fun h => h.2 (.inr (.inr rfl))).trans ((t12.block D dA hDl).trans hrd)
      have hr := run_endRound (P := P) jump l3
      rw [rto] at hr
      have t34 : Turn (fun k => k = l) A3 (A3.putObj l (.loop (rec (if jump.isNone then .ready else .done) jump))) := Turn.putObj _ rfl
      have hs3 := hk.size
      have hs4 := t34.size
      have lk : ∀ k, k < A.heap.size → k = l → n₀ ≤ k ∧ ¬ T k := fun k _ e => ⟨by omega, fun h => hnl (e ▸ h)⟩
      refine ⟨_, hr, World.putObj_heap_same (Array.getElem?_eq_some_iff.1 l3).1, (World.putObj_heap_other hDl).trans d3, t34, ?_, by omega, by omega⟩
      exact ((t12.mono lk).trans hk fun k _ h => ⟨h.1, fun hT => h.2 (.inl hT)⟩).trans t34 fun k hk h => lk k hk h
    have tk : ∀ {A3 A4 : World}, A.heap.size ≤ A3.heap.size → Turn (fun k => k = l) A3 A4 → (∀ k, (T k ∨ k = l ∨ k = D) → n₀ ≤ k ∧ k < A3.heap.size) ∧ n₀ ≤ A3.heap.size := fun hs _ => ⟨fun k hk => ⟨(hTp k hk).1, Nat.lt_of_lt_of_le (hTp k hk).2 hs⟩, by omega⟩
    rintro e a3 A3 hp
    cases e with
    | normal =>
      obtain ⟨hk3, hi3⟩ := hp
      obtain ⟨A4, hr, l4, d4, t34, hk4, hs4, hs3⟩ := fin none A3 hk3
      exact ⟨_, _, hr, .inl ⟨rfl, ⟨hI _ _ _ A3 A4 hi3 (tk hs3 t34).1 (tk hs3 t34).2 (t34.mono fun k _ h => .inr (.inl h)) fun k h => .inl h, l4, d4, hnl, hnd, hs4⟩, hk4⟩⟩
    | ret =>
      obtain ⟨hk3, hi3⟩ := hp
      obtain ⟨A4, hr, l4, d4, t34, hk4, hs4, hs3⟩ := fin (some .ret) A3 hk3
      exact ⟨_, _, hr, .inr ⟨rfl, ⟨.ret, hIx _ _ _ _ A3 A4 hi3 (tk hs3 t34).1 (tk hs3 t34).2 (t34.mono fun k _ h => .inr (.inl h)) fun k h => .inl h, l4, d4, hnl, hnd, hs4⟩, hk4⟩⟩
    | exit id =>
      obtain ⟨hk3, hi3⟩ := hp
      obtain ⟨A4, hr, l4, d4, t34, hk4, hs4, hs3⟩ := fin (some (.exit id)) A3 hk3
      exact ⟨_, _, hr, .inr ⟨rfl, ⟨.exit id, hIx _ _ _ _ A3 A4 hi3 (tk hs3 t34).1 (tk hs3 t34).2 (t34.mono fun k _ h => .inr (.inl h)) fun k h => .inl h, l4, d4, hnl, hnd, hs4⟩, hk4⟩⟩
    | goto t =>
      obtain ⟨hk3, hi3⟩ := hp
      obtain ⟨A4, hr, l4, d4, t34, hk4, hs4, hs3⟩ := fin (some (.goto t)) A3 hk3
      exact ⟨_, _, hr, .inr ⟨rfl, ⟨.goto t, hIx _ _ _ _ A3 A4 hi3 (tk hs3 t34).1 (tk hs3 t34).2 (t34.mono fun k _ h => .inr (.inl h)) fun k h => .inl h, l4, d4, hnl, hnd, hs4⟩, hk4⟩⟩
    | panic ch => exact hp.elim
    | outgrown => exact hp.elim
  · -- at the start
    exact ⟨hI T0 _ [] w W1 h0 hT0 hn (Turn.of_below hbw) fun k h => by
      rcases h with h | rfl | rfl
      · exact .inl h
      · exact .inr (by omega)
      · exact .inr (by omega), hL1, hK1, fun h => by have := (hT0 _ h).2; omega, fun h => by have := (hT0 _ h).2; omega, by omega⟩
  · -- behind the iterator
    rintro e W2 ⟨⟨u, rfl⟩, hsz, (⟨T, ⟨hi, hrl, hrd, hnl, hnd, hs⟩, hT⟩ | ⟨T, pre, hpre, ⟨c, hi, hrl, hrd, hnl, hnd, hs⟩, hT⟩)⟩
    · have lA := (Array.getElem?_eq_some_iff.1 hrl).1
      have dA := (Array.getElem?_eq_some_iff.1 hrd).1
      have hend := run_endLoop (P := P) hrl (by rw [rst]; simp)
      rw [rpe] at hend
      have hb : ∀ k, (T k ∨ k = l ∨ k = D) → n₀ ≤ k ∧ k < W2.heap.size := by
        rintro k (h | rfl | rfl)
        · exact hT k h
        · exact ⟨by omega, lA⟩
        · exact ⟨by omega, dA⟩
      exact ⟨none, _, hend, hdone D (fun k => T k ∨ k = l ∨ k = D) _ (by omega) (.inr (.inr rfl)) (hI _ _ xs W2 _ hi hb (by omega) (Turn.putObj _ (.inr (.inl rfl))) fun k h => .inl h) (by simp; omega) ((World.putObj_heap_other hDl).trans hrd) (fun k hk => ⟨(hb k hk).1, by simpa using (hb k hk).2⟩)⟩
    · have lA := (Array.getElem?_eq_some_iff.1 hrl).1
      have dA := (Array.getElem?_eq_some_iff.1 hrd).1
      have hend := run_endLoop (P := P) hrl (by rw [rst]; simp)
      rw [rpe] at hend
      have hb : ∀ k, (T k ∨ k = l ∨ k = D) → n₀ ≤ k ∧ k < W2.heap.size := by
        rintro k (h | rfl | rfl)
        · exact hT k h
        · exact ⟨by omega, lA⟩
        · exact ⟨by omega, dA⟩
      exact ⟨some c, _, hend, hstop D c (fun k => T k ∨ k = l ∨ k = D) pre _ (by omega) (.inr (.inr rfl)) hpre (hIx c _ _ pre W2 _ hi hb (by omega) (Turn.putObj _ (.inr (.inl rfl))) fun k h => .inl h) (by simp; omega) ((World.putObj_heap_other hDl).trans hrd) (fun k hk => ⟨(hb k hk).1, by simpa using (hb k hk).2⟩)⟩
end Go.Proofs.Ytjhedjokifnofaa

namespace Go.Proofs.Ytjhedjokifnofaa
open Go Go.RowKit
set_option linter.unusedVariables false

/-- The whole chains, if the program looks for them. -/
def everyL (P : List (Int × Int)) : List (List Int) := if canV P false then fullL P.length (allC P) else []
theorem every_len {P : List (Int × Int)} (h : handB P = true) : (everyL P).length = allN P := by
  unfold everyL
  cases hc : canV P false
  · rw [if_neg (by simp), allN_cannot h hc]; rfl
  · rw [if_pos rfl, full_all (hand_nd h)]; rfl
/-- What an iterator leaves behind. -/
def EvP (n₀ : Nat) (J Jx : (Nat → Prop) → List (List Int) → World → Prop) (xs : List (List Int)) (W : World) (e : Ending) (W' : World) : Prop :=
  (∃ v, e = .returned v) ∧ W.heap.size ≤ W'.heap.size ∧ ((∃ T, J T xs W' ∧ (∀ k, T k → n₀ ≤ k ∧ k < W'.heap.size)) ∨ (∃ T pre, pre <+: xs ∧ Jx T pre W' ∧ (∀ k, T k → n₀ ≤ k ∧ k < W'.heap.size)))

abbrev EvT (B b : Nat) (T : Nat → Prop) (k : Nat) : Prop := T k ∨ k = B ∨ k = b
/-- What the outer iterator keeps between two rounds of the inner one: the hand's box and yield's. -/
structure EvI (J : (Nat → Prop) → List (List Int) → World → Prop) (m B b l : Nat) (A0 : Option Addr) (c0 : Nat) (T : Nat → Prop) (pre : List (List Int)) (A : World) : Prop where
  j : J (EvT B b T) (fullL m pre) A
  t1 : ¬ T B
  t2 : ¬ T b
  k1 : A.cell? ⟨B, 0, none⟩ = some (.slice A0 m c0)
  k2 : A.cell? ⟨b, 0, none⟩ = some (.func (.yield l) #[] #[])
structure EvX (Jx : (Nat → Prop) → List (List Int) → World → Prop) (m B b : Nat) (c : Code) (T : Nat → Prop) (pre : List (List Int)) (A : World) : Prop where
  co : c = .ret
  j : Jx (EvT B b T) (fullL m pre) A
  t1 : ¬ T B
  t2 : ¬ T b
  k1 : B < A.heap.size
  k2 : b < A.heap.size
theorem evt_bd {n₀ B b : Nat} {T : Nat → Prop} {A : World} (hT : ∀ k, T k → n₀ ≤ k ∧ k < A.heap.size) (h1 : n₀ ≤ B) (h2 : n₀ ≤ b) (h3 : B < A.heap.size) (h4 : b < A.heap.size) : ∀ k, EvT B b T k → n₀ ≤ k ∧ k < A.heap.size := by
  rintro k (h | rfl | rfl)
  · exact hT k h
  · exact ⟨h1, h3⟩
  · exact ⟨h2, h4⟩
theorem evt_sub {B b : Nat} {T T' : Nat → Prop} {A : World} (hT' : ∀ k, T' k → T k ∨ A.heap.size ≤ k) : ∀ k, EvT B b T' k → EvT B b T k ∨ A.heap.size ≤ k := by
  rintro k (h | h)
  · rcases hT' k h with h | h
    · exact .inl (.inl h)
    · exact .inr h
  · exact .inl (.inr h)
theorem EvI.abides {n₀ m B b l : Nat} {J : (Nat → Prop) → List (List Int) → World → Prop} {A0 : Option Addr} {c0 : Nat} (hJ : AbT n₀ J) (h1 : n₀ ≤ B) (h2 : n₀ ≤ b) : AbT n₀ (EvI J m B b l A0 c0) := by
  rintro T T' s A A' h hT hnA ht hT'
  have z1 : B < A.heap.size := block_lt h.k1
  have z2 : b < A.heap.size := block_lt h.k2
  refine ⟨hJ _ _ _ A A' h.j (evt_bd hT h1 h2 z1 z2) hnA (ht.mono fun k _ h => .inl h) (evt_sub hT'), fun hk => ?_, fun hk => ?_, ht.cell h.t1 h.k1, ht.cell h.t2 h.k2⟩
  · rcases hT' _ hk with hk | hk
    · exact h.t1 hk
    · omega
  · rcases hT' _ hk with hk | hk
    · exact h.t2 hk
    · omega
theorem EvX.abides {n₀ m B b : Nat} {Jx : (Nat → Prop) → List (List Int) → World → Prop} (hJ : AbT n₀ Jx) (h1 : n₀ ≤ B) (h2 : n₀ ≤ b) (c : Code) : AbT n₀ (EvX Jx m B b c) := by
  rintro T T' s A A' h hT hnA ht hT'
  refine ⟨h.co, hJ _ _ _ A A' h.j (evt_bd hT h1 h2 h.k1 h.k2) hnA (ht.mono fun k _ h => .inl h) (evt_sub hT'), fun hk => ?_, fun hk => ?_, Nat.lt_of_lt_of_le h.k1 ht.size, Nat.lt_of_lt_of_le h.k2 ht.size⟩
  · rcases hT' _ hk with hk | hk
    · exact h.t1 hk
    · have := h.k1; omega
  · rcases hT' _ hk with hk | hk
    · exact h.t2 hk
    · have := h.k2; omega
def evAct (l B b B2 m c : Nat) (A : Option Addr) (v : Array Value) : Act :=
  { tmps := #[.func (.yield l) #[] #[], .pointer (some ⟨B, 0, none⟩), .pointer (some ⟨b, 0, none⟩), .bool true, .bool true, v.getD 0 undef, .tuple #[.bool true, .bool true], .slice A m c, .tuple #[.bool true, .bool true], .bool true, .bool true, .bool true, .bool false, .slice A m c, .func (.func 56) #[] #[.pointer (some ⟨B2, 0, none⟩)], v.getD 0 undef, undef, undef, undef, undef, undef, undef, undef, undef, undef, undef, undef], defers := [] }

set_option maxRecDepth 100000 in
set_option maxHeartbeats 4000000 in
theorem iters_every (w0 : World) (n₀ B : Nat) (A : Option Addr) (c : Nat) (H : List (Int × Int)) (hB : w0.cell? ⟨B, 0, none⟩ = some (.slice A H.length c)) (hn : n₀ ≤ w0.heap.size) (hBn : n₀ ≤ B) (hr : RdT w0 A H) (hh : handB H = true) :
    Iters Try.prog n₀ (fun k => k = B) 70 #[.pointer (some ⟨B, 0, none⟩)] EncC (everyL H) w0 := by
  intro m l J Jx W hW hJ hJx hY h0
  have hBW := (hW.cell (p := ⟨B, 0, none⟩) (block_lt hB)).trans hB
  have hrW := hr.below hW
  have hnW : n₀ ≤ W.heap.size := Nat.le_trans hn hW.size
  have hlen : H.length ≤ 55 := (of_decide_eq_true hh : handP H).1
  clear hW hr hB hn
  show CallsIn Fence.wide m Try.prog _ _ W (EvP n₀ J Jx (everyL H) W)
  have con := fun (W2 : World) (hb : Below W.heap.size W W2) => c_implCanChain A c H W2 (hrW.below hb) (by omega)
  have e1 : canHV H false = canV H false := by unfold canHV; rw [hh]; rfl
  rw [e1, hh] at con
  refine callsIn_of_wp_marks Try.func70 rfl trivial ?_
  simp only [Try.ntmps70, List.size_toArray, List.length_cons, List.length_nil, Nat.reduceAdd, Nat.reduceSub, Array.replicate_succ, Array.replicate_zero, List.push_toArray, List.append_toArray, List.nil_append, List.cons_append]
  have HJ := Lib.hid hJ
  have HJX := Lib.hid hJx
  have HY := Lib.hid hY
  have H0 := Lib.hid h0
  clear hJ hJx hY h0
  have b1 : Below W.heap.size W (W.alloc (.cells #[.func (.yield l) #[] #[]] 70)) := (Below.refl _ _).alloc (Nat.le_refl _) _
  have xb : (W.alloc (.cells #[.func (.yield l) #[] #[]] 70)).cell? ⟨W.heap.size, 0, none⟩ = some (.func (.yield l) #[] #[]) := by simp
  have xB := keepc b1 hBW
  have Con := Lib.hid con
  clear con
  have hzW : ∀ k, k = B → n₀ ≤ k ∧ k < W.heap.size := fun k e => by subst e; exact ⟨hBn, block_lt hBW⟩
  have hBlt : B < W.heap.size := block_lt hBW
  cases hcv : canV H false
  · have he : everyL H = [] := by unfold everyL; rw [hcv]; rfl
    rw [he]
    rw [hcv] at Con
    clear he
    gi_wp2_with fail
    refine ⟨trivial, fun h => by simp [Fence.wide] at h, callsIn_wide.2 ((Con.out _ b1).mono ?_)⟩
    rintro e w1 ⟨rfl, h1⟩
    gi_wp2
    have bb : Below W.heap.size W w1 := b1.trans (h1.mono b1.size)
    exact ⟨_, results_none rfl _ _ _, ⟨_, rfl⟩, bb.size, .inl ⟨fun k => k = B, HJ.out _ _ [] W w1 H0.out hzW hnW (Turn.of_below bb) (fun k h => .inl h), fun k h => ⟨(hzW k h).1, Nat.lt_of_lt_of_le (hzW k h).2 bb.size⟩⟩⟩
  · have he : everyL H = fullL H.length (allC H) := by unfold everyL; rw [hcv]; rfl
    rw [he] at HY ⊢
    rw [hcv] at Con
    clear he
    gi_wp2_with fail
    refine ⟨trivial, fun h => by simp [Fence.wide] at h, callsIn_wide.2 ((Con.out _ b1).mono ?_)⟩
    rintro e w1 ⟨rfl, h1⟩
    have xb1 := keepc h1 xb
    have xB1 := keepc h1 xB
    have bb : Below W.heap.size W w1 := b1.trans (h1.mono b1.size)
    have BB := Lib.hid bb
    have XB := Lib.hid xb1
    have XC := Lib.hid xB1
    have hr1 := hrW.below bb
    have HR := Lib.hid hr1
    have hs1 : W.heap.size + 1 ≤ w1.heap.size := by have h7 := h1.size; simpa using h7
    clear bb xb xB b1 h1 xb1 hr1 hrW
    gi_wp2_with fail
    refine ⟨trivial, fun h => by simp [Fence.wide] at h, callsIn_wide.2 ((c_chainsFrom A H.length c w1).mono ?_)⟩
    rintro e w2 ⟨rfl, hw2⟩
    have HW2 := Lib.hid hw2
    clear hw2
    gi_wp2_with fail
    obtain ⟨b, hb⟩ : ∃ b, b = W.heap.size := ⟨_, rfl⟩
    obtain ⟨B2, hB2⟩ : ∃ B2, B2 = w1.heap.size := ⟨_, rfl⟩
    have hw2 := HW2.out
    have b12 : Below w1.heap.size w1 w2 := by rw [hw2]; exact (Below.refl _ _).alloc (Nat.le_refl _) _
    have s2 : w2.heap.size = w1.heap.size + 1 := by rw [hw2]; simp
    have xC : w2.cell? ⟨B2, 0, none⟩ = some (.slice A H.length c) := by rw [hw2, hB2]; simp
    have yb := keepc b12 XB.out
    have yB := keepc b12 XC.out
    have hr2 := HR.out.below b12
    rw [← hb] at yb
    rw [← hb, ← hB2]
    have t02 : Turn (fun k => k = B) W w2 := Turn.of_below (BB.out.trans (b12.mono BB.out.size))
    have f1 : n₀ ≤ b := by omega
    have f2 : n₀ ≤ B2 := by omega
    have f3 : B2 < w2.heap.size := by omega
    have f4 : W.heap.size ≤ w2.heap.size := by omega
    have f5 : b ≠ B2 := by omega
    have f6 : B ≠ B2 := by omega
    have j0 := HJ.out (fun k => k = B) (EvT B b (fun k => k = B2)) [] W w2 H0.out hzW hnW t02 (by
      rintro k (h | h | h)
      · exact .inr (by omega)
      · exact .inl h
      · exact .inr (by omega))
    have I0 : EvI J H.length B b l A c (fun k => k = B2) [] w2 := ⟨j0, fun h => f6 h, fun h => f5 h, yB, yb⟩
    clear hw2 HW2 b12 xB1 XB XC HR BB j0 yb yB t02 H0 Con hb hB2
    refine wp_rangeIterT (gf := 56) (lb := #[.pointer (some ⟨B2, 0, none⟩)]) rfl (fun args w => enters_chains args w) (n₀ := n₀) (T0 := fun k => k = B2) (iters_chains w2 n₀ B2 (fun k => k = B2) (by rintro k rfl; exact ⟨f2, f3⟩) A c H xC (by omega) hr2 hh) (by omega) (by rintro k rfl; exact ⟨f2, f3⟩) ?hps ?hE
      (EvI J H.length B b l A c) (EvX Jx H.length B b) (EvI.abides HJ.out hBn f1) (EvX.abides HJX.out hBn f1) I0 (evAct l B b B2 H.length c A) ?hassign ?hbody ?hdone ?hstop
    case hps => rintro x v T A ⟨_, _, rfl, _⟩; rfl
    case hE => exact fun x v T A B h1 h2 h3 => enc_keep h1 h2 h3
    case hassign =>
      rintro l m x v T W K ⟨Ax, cx, rfl, _⟩ hK
      gi_wp2_with (rw [Oper.semAt_eq _ _ _ (fun c h => by cases h)]; go_simp; try go_bits)
      exact hK
    case hstop =>
      rintro D c2 T pre W2 hD hTD hp ⟨rfl, jx, t1, t2, k1, k2⟩ hz hK hbT
      gi_wp2
      have tp : Turn (EvT B b T) W2 (W2.putObj D (.deferred none)) := Turn.putObj _ (.inl hTD)
      refine ⟨by simp, .inl ⟨_, _, rfl, run_takeDeferred hK, ?_⟩⟩
      exact ⟨_, results_none rfl _ _ _, ⟨_, rfl⟩, by have := tp.size; omega, .inr ⟨EvT B b T, fullL H.length pre, hp.filter _, HJX.out _ _ _ W2 _ jx (evt_bd hbT hBn f1 k1 k2) (by omega) tp (fun k h => .inl h), fun k hk => ⟨(evt_bd hbT hBn f1 k1 k2 k hk).1, Nat.lt_of_lt_of_le (evt_bd hbT hBn f1 k1 k2 k hk).2 tp.size⟩⟩⟩
    case hdone =>
      rintro D T W2 hD hTD I hz hK hbT
      gi_wp2
      have k1 : B < W2.heap.size := block_lt I.k1
      have k2 : b < W2.heap.size := block_lt I.k2
      have tp : Turn (EvT B b T) W2 (W2.putObj D (.deferred none)) := Turn.putObj _ (.inl hTD)
      refine ⟨by simp, .inl ⟨_, _, rfl, run_takeDeferred hK, ?_⟩⟩
      exact ⟨_, results_none rfl _ _ _, ⟨_, rfl⟩, by have := tp.size; omega, .inl ⟨EvT B b T, HJ.out _ _ _ W2 _ I.j (evt_bd hbT hBn f1 k1 k2) (by omega) tp (fun k h => .inl h), fun k hk => ⟨(evt_bd hbT hBn f1 k1 k2 k hk).1, Nat.lt_of_lt_of_le (evt_bd hbT hBn f1 k1 k2 k hk).2 tp.size⟩⟩⟩
    case hbody =>
      rintro l2 m2 T Ti pre x v A1 I1 hp hT hn1 hTi ⟨Ax, cx, rfl, hrx, htx⟩
      have k1 := I1.k1
      have k2 := I1.k2
      have z1 : B < A1.heap.size := block_lt k1
      have z2 : b < A1.heap.size := block_lt k2
      have bd := evt_bd hT hBn f1 z1 z2
      have HI := Lib.hid I1
      unfold evAct
      by_cases hx1 : H.length < x.length
      · have j1 : (H.length : Int) < (x.length : Int) := by omega
        have hfl := fullL_yes (L := pre) hx1
        have hpp : fullL H.length pre ++ [x] <+: fullL H.length (allC H) := by rw [← hfl]; exact hp.filter _
        obtain ⟨fn, tmps, assign, body, hy, hR⟩ := HY.out (EvT B b T) (fullL H.length pre) x _ A1 (m2 - 1) I1.j hpp bd hn1 ⟨Ax, cx, rfl, hrx, fun hne a ha => .inl (hTi _ (htx hne a ha))⟩
        have HFL := Lib.hid hfl
        clear I1 hfl hpp hp hrx htx xC hr2 I0 hx1
        gi_wp2_with (rw [Oper.semAt_eq _ _ _ (fun c h => by cases h)]; go_simp; try go_bits)
        refine ⟨fun h => by simp [Fence.wide] at h, hR.mono ?_⟩
        rintro e A2 (⟨rfl, jt, kt⟩ | ⟨rfl, jf, kf⟩)
        · have JT := Lib.hid jt
          have KT := Lib.hid kt
          clear jt kt hy hR
          gi_wp2_with (rw [Oper.semAt_eq _ _ _ (fun c h => by cases h)]; go_simp; try go_bits)
          have I := HI.out
          have kt := KT.out
          exact ⟨kt.mono (fun k _ h => ⟨h.1, fun ht => h.2 (.inl ht)⟩), by rw [HFL.out]; exact JT.out, I.t1, I.t2, kt.cell (fun h => h.2 (.inr (.inl rfl))) I.k1, kt.cell (fun h => h.2 (.inr (.inr rfl))) I.k2⟩
        · have JF := Lib.hid jf
          have KF := Lib.hid kf
          clear jf kf hy hR
          gi_wp2_with (rw [Oper.semAt_eq _ _ _ (fun c h => by cases h)]; go_simp; try go_bits)
          have I := HI.out
          have kf := KF.out
          exact ⟨kf.mono (fun k _ h => ⟨h.1, fun ht => h.2 (.inl ht)⟩), rfl, by rw [HFL.out]; exact JF.out, I.t1, I.t2, Nat.lt_of_lt_of_le z1 kf.size, Nat.lt_of_lt_of_le z2 kf.size⟩
      · have j1 : ¬ (H.length : Int) < (x.length : Int) := by omega
        have hfl := Lib.hid (fullL_no (L := pre) hx1)
        clear I1 hp hrx htx xC hr2 I0 hx1
        gi_wp2_with (rw [Oper.semAt_eq _ _ _ (fun c h => by cases h)]; go_simp; try go_bits)
        refine ⟨fun f h => (by cases h), ?_⟩
        gi_wp2_with (rw [Oper.semAt_eq _ _ _ (fun c h => by cases h)]; go_simp; try go_bits)
        have I := HI.out
        exact ⟨Turn.refl _ _, by rw [hfl.out]; exact I.j, I.t1, I.t2, I.k1, I.k2⟩

set_option maxHeartbeats 1000000 in
theorem c_everyWhole (A : Option Addr) (n c : Nat) (w : World) : Calls Try.prog 51 #[.slice A n c] w fun e w' => e = .returned (.func (.func 70) #[] #[.pointer (some ⟨w.heap.size, 0, none⟩)]) ∧ w' = w.alloc (.cells #[.slice A n c] 27) := by
  go_enter Try.func51, Try.ntmps51
  go_wp2
  go_ret
  exact ⟨rfl, rfl⟩
theorem enters_every (args : Array Value) (w : World) : (callFunc 70 args).run Try.prog w = .ok (.enter 70 args) w := by
  have h1 : Try.f70.name ≠ "runtime.NumGoroutine" := beq_eq_false_iff_ne.1 (by kernel_rfl)
  have h2 : Try.f70.body ≠ none := by intro h; cases h
  simp [callFunc, go_sem, h1, h2]

theorem allN_le {P : List (Int × Int)} (h : P.length ≤ 12) : allN P ≤ 10000000000000 := by
  unfold allN
  have h1 := sum_le_mul (m := 1000000000000) (List.range 10) (fun x : Nat => trl P.length P (x : Int)) (fun x _ => Nat.le_trans (trl_le _ _ _) (Nat.le_trans (Nat.pow_le_pow_right (by omega) h) (by decide)))
  rw [List.length_range] at h1
  omega

/-- What is kept between two rounds: the count. -/
structure CeI (gb : Nat) (w : World) (T : Nat → Prop) (pre : List (List Int)) (A : World) : Prop where
  nt : ¬ T gb
  bl : Below gb w A
  fz : ∀ m, A.frozen? ⟨gb, m, none⟩ = false
  c : A.cell? ⟨gb, 0, none⟩ = some (.int .i64 (pre.length : Int))
theorem CeI.abides (gb : Nat) (w : World) : AbT gb (CeI gb w) := by
  rintro T T' s A B h hT hnA ht hT'
  have lt : gb < A.heap.size := block_lt h.c
  have eb : B.heap[gb]? = A.heap[gb]? := ht.block gb lt h.nt
  refine ⟨fun hk => ?_, h.bl.trans (ht.below hnA (fun k hk => (hT k hk).1)), fun m => (frozen_of_blk eb).trans (h.fz m), ht.cell h.nt h.c⟩
  rcases hT' _ hk with hk | hk
  · exact h.nt hk
  · omega
def ceAct (A : Option Addr) (n c gb B : Nat) (v : Array Value) : Act :=
  { tmps := #[.slice A n c, undef, .int .i64 0, .pointer (some ⟨gb, 0, none⟩), .slice A n c, .func (.func 70) #[] #[.pointer (some ⟨B, 0, none⟩)], v.getD 0 undef, undef, undef, undef], defers := [] }

set_option maxRecDepth 100000 in
set_option maxHeartbeats 4000000 in
theorem c_countEvery (A : Option Addr) (c : Nat) (P : List (Int × Int)) (w : World) (hr : RdT w A P) (hh : handB P = true) (h12 : P.length ≤ 12) :
    Calls Try.prog 44 #[.slice A P.length c] w fun e w' => e = .returned (.int .i64 (allN P : Int)) ∧ Below w.heap.size w w' := by
  have hal := allN_le h12
  rw [← every_len hh] at hal ⊢
  refine (callsIn_wide (n := 5)).1 ?_
  refine callsIn_of_wp_marks Try.func44 rfl trivial ?_
  simp only [Try.ntmps44, List.size_toArray, List.length_cons, List.length_nil, Nat.reduceAdd, Nat.reduceSub, Array.replicate_succ, Array.replicate_zero, List.push_toArray, List.append_toArray, List.nil_append, List.cons_append]
  gi_wp2_with fail
  obtain ⟨w3, hw3⟩ : ∃ w3, w3 = w.alloc (.cells #[.int .i64 0] 3) := ⟨_, rfl⟩
  rw [← hw3]
  have HW3 := Lib.hid hw3
  clear hw3
  refine ⟨trivial, callsIn_wide.2 ((c_everyWhole A P.length c w3).mono ?_)⟩
  rintro e w4 ⟨rfl, hw4⟩
  have HW4 := Lib.hid hw4
  clear hw4
  gi_wp2_with fail
  have hw3 := HW3.out
  have hw4 := HW4.out
  clear HW3 HW4
  obtain ⟨gb, hgb⟩ : ∃ gb, gb = w.heap.size := ⟨_, rfl⟩
  obtain ⟨B, hB⟩ : ∃ B, B = w3.heap.size := ⟨_, rfl⟩
  have s3 : w3.heap.size = w.heap.size + 1 := by rw [hw3]; simp
  have s4 : w4.heap.size = w3.heap.size + 1 := by rw [hw4]; simp
  have x3 : w3.cell? ⟨gb, 0, none⟩ = some (.int .i64 0) := by rw [hw3, hgb]; simp
  have fz3 : ∀ m, w3.frozen? ⟨gb, m, none⟩ = false := fun m => by rw [hw3, hgb]; exact frozen_new w _ _ m
  have b13 : Below w.heap.size w w3 := by rw [hw3]; exact (Below.refl _ _).alloc (Nat.le_refl _) _
  have b34 : Below w3.heap.size w3 w4 := by rw [hw4]; exact (Below.refl _ _).alloc (Nat.le_refl _) _
  have xB : w4.cell? ⟨B, 0, none⟩ = some (.slice A P.length c) := by rw [hw4, hB]; simp
  have b14 : Below w.heap.size w w4 := bstep b13 b34
  have hr4 := hr.below b14
  have x4 := keepc b34 x3
  have fz4 : ∀ m, w4.frozen? ⟨gb, m, none⟩ = false := fun m => (b34.frozen (p := ⟨gb, m, none⟩) (show gb < _ from (block_lt x3 : gb < w3.heap.size))).trans (fz3 m)
  rw [← hgb, ← hB]
  rw [← hgb] at b14
  have HGB := Lib.hid hgb
  have f2 : gb < B := by omega
  have f3 : B < w4.heap.size := by omega
  have f4 : w.heap.size ≤ gb := by omega
  clear hw3 hw4 b13 b34 x3 fz3 hr hgb hB s3 s4
  refine wp_rangeIter (gf := 70) (lb := #[.pointer (some ⟨B, 0, none⟩)]) rfl (fun args w => enters_every args w) (n₀ := gb) (T0 := fun k => k = B) (iters_every w4 gb B A c P xB (by omega) (by omega) hr4 hh) (by omega) (by rintro k rfl; omega) ?hps ?hE
    (CeI gb w) (fun _ _ _ _ => False) (CeI.abides _ _) (fun _ _ _ _ _ _ h _ _ _ _ => h.elim) ⟨by omega, b14, fz4, x4⟩ (ceAct A P.length c gb B) ?hassign ?hbody ?hdone ?hstop
  case hps => rintro x v T A ⟨_, _, rfl, _⟩; rfl
  case hE => exact fun x v T A B h1 h2 h3 => enc_keep h1 h2 h3
  case hassign =>
    rintro l m x v T W K ⟨Ax, cx, rfl, _⟩ hK
    gi_wp2_with (rw [Oper.semAt_eq _ _ _ (fun c h => by cases h)]; go_simp; try go_bits)
    unfold ceAct at hK
    first | (simp; exact hK) | simpa using hK
  case hstop => exact fun _ _ _ _ _ _ _ _ h => h.elim
  case hbody =>
    rintro l m T Ti pre x v A1 ⟨h1, h4, hf, h5⟩ hp hT hn _ ⟨Ax, cx, rfl, hrx, htx⟩
    have hpl : pre.length + 1 ≤ 10000000000000 := by
      have h7 := hp.length_le
      rw [List.length_append, List.length_singleton] at h7
      omega
    have f0 := hf 0
    have jw : IntKind.i64.wrap ((pre.length : Int) + 1) = (pre.length : Int) + 1 := IntWalk.i64_in _ (by omega)
    have H4 := Lib.hid h4
    have HF := Lib.hid hf
    clear h4 hf hp
    unfold ceAct
    gi_wp2_with (rw [Oper.semAt_eq _ _ _ (fun c h => by cases h)]; go_simp; try go_bits)
    exact ⟨Turn.setCell _ _ ⟨Nat.le_refl _, h1⟩, h1, H4.out.setCell (Nat.le_refl _) _, fun m => by simp [HF.out], by rw [List.length_append, List.length_singleton]; exact World.cell?_setCell_same _ _ _ h5⟩
  case hdone =>
    rintro D T W hD hTD ⟨h1, h4, hf, h5⟩ hz hK
    gi_wp2
    refine ⟨by simp, .inl ⟨_, _, rfl, run_takeDeferred hK, ?_⟩⟩
    have hb : Below w.heap.size w W := h4.mono f4
    exact ⟨_, results_tmp rfl _ _ _, rfl, hb.grown (grownBy_putObj' _ _ _) hb.size (fun k e => by cases e; omega)⟩

set_option maxHeartbeats 1000000 in
theorem c_isCounted (A : Option Addr) (c : Nat) (ts : List (Int × Int)) (w : World) (hr : RdT w A ts) (hl : ts.length ≤ 1048576) :
    Calls Try.prog 43 #[.slice A ts.length c] w fun e w' => e = .returned (.bool (cwB ts)) ∧ Below w.heap.size w w' := by
  have con := c_implIsHand A c ts w hr (by omega)
  unfold cwB
  cases hh : handB ts
  · rw [hh] at con
    have Con := Lib.hid con
    clear con hh hr
    go_enter Try.func43, Try.ntmps43
    go_wp2_with fail
    refine Con.out.mono ?_
    rintro e w1 ⟨rfl, h1⟩
    go_wp2
    go_ret
    exact ⟨rfl, h1⟩
  · rw [hh] at con
    have Con := Lib.hid con
    have hd : decide ((ts.length : Int) ≤ 12) = decide (ts.length ≤ 12) := by rw [Bool.eq_iff_iff, decide_eq_true_eq, decide_eq_true_eq]; omega
    have HD := Lib.hid hd
    clear con hh hr hd
    go_enter Try.func43, Try.ntmps43
    go_wp2_with fail
    refine Con.out.mono ?_
    rintro e w1 ⟨rfl, h1⟩
    go_wp2
    go_ret
    exact ⟨ret_b (by first | exact HD.out | simp), h1⟩

set_option maxRecDepth 100000 in
set_option maxHeartbeats 2000000 in
theorem c_implWithout (A : Option Addr) (c : Nat) (H : List (Int × Int)) (w : World) (hr : RdT w A H) (hl : H.length ≤ 1048576) :
    Calls Try.prog 28 #[.slice A H.length c] w fun e w' => e = .returned (.tuple #[.int .i64 (cwV H), .bool (cwB H)]) ∧ Below w.heap.size w w' := by
  have con := c_isCounted A c H w hr hl
  unfold cwV
  cases hc : cwB H
  · rw [hc] at con
    have Con := Lib.hid con
    clear con hc hr
    go_enter Try.func28, Try.ntmps28
    go_wp2_with fail
    refine Con.out.mono ?_
    rintro e w1 ⟨rfl, h1⟩
    go_wp2
    go_ret2
    exact ⟨rfl, h1⟩
  · rw [hc] at con
    have Con := Lib.hid con
    have hc2 := hc
    unfold cwB at hc2
    rw [Bool.and_eq_true, decide_eq_true_eq] at hc2
    obtain ⟨hh, h12⟩ := hc2
    rw [if_pos rfl]
    have conW := fun (W : World) (hb : Below w.heap.size w W) => c_withoutDoubles A c H W (hr.below hb) (by omega)
    have hwl : (wdL H).length ≤ 12 := Nat.le_trans (List.length_filter_le _ _) h12
    have conC := fun (W : World) (A2 : Option Addr) (c2 : Nat) (h : RdT W A2 (wdL H)) => c_countEvery A2 c2 (wdL H) W h (hand_wd hh) hwl
    have ConW := Lib.hid conW
    have ConC := Lib.hid conC
    clear con hc hr conW conC hh
    go_enter Try.func28, Try.ntmps28
    go_wp2_with (first | (go_at_call 43; refine Con.out.mono ?_; rintro e w1 ⟨rfl, h1⟩) | (go_at_call 45; refine (ConW.out _ h1).mono ?_; rintro e w2 ⟨A2, c2, rfl, o2, h2⟩) | (go_at_call 44; refine (ConC.out _ _ _ (RdT.of_own o2)).mono ?_; rintro e w3 ⟨rfl, h3⟩))
    go_ret2
    exact ⟨rfl, (h1.trans (h2.mono h1.size)).trans (h3.mono (Nat.le_trans h1.size h2.size))⟩

end Go.Proofs.Ytjhedjokifnofaa

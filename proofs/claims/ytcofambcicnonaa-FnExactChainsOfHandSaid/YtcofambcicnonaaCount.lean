/- Counts over hands: pips, how often a number is in one, the numbers in one. -/
import Derived.Test.YtcofambcicnonaaMap
import Derived.Test.YtcofambcicnonaaSet
namespace Go.Proofs.Ytcofambcicnonaa
open Go.RowKit
set_option linter.unusedVariables false

def countV (n : Int) : Int := if numB n then (n + 1) * (n + 2) / 2 else 0
def pipsI (ts : List (Int × Int)) : Int := (ts.map fun t => t.1 + t.2).sum
theorem pipsI_step {ts : List (Int × Int)} {k : Nat} (h : k < ts.length) : pipsI (ts.take (k + 1)) = pipsI (ts.take k) + (ts[k].1 + ts[k].2) := by
  unfold pipsI
  rw [List.take_succ_eq_append_getElem h, List.map_append, List.sum_append]
  simp
theorem good_bd {a b : Int} (h : goodB a b = true) : 0 ≤ a ∧ a ≤ b ∧ b ≤ 9 := by
  simp only [goodB, numB, Bool.and_eq_true, decide_eq_true_eq] at h
  omega
theorem pipsI_bd {ts : List (Int × Int)} (hg : ∀ t ∈ ts, goodB t.1 t.2 = true) : ∀ k, k ≤ ts.length → 0 ≤ pipsI (ts.take k) ∧ pipsI (ts.take k) ≤ 18 * k
  | 0, _ => by simp [pipsI]
  | k + 1, h => by
    have h1 := pipsI_bd hg k (by omega)
    have h2 := good_bd (hg _ (List.getElem_mem (show k < ts.length by omega)))
    rw [pipsI_step (by omega)]
    omega
def okHN (ts : List (Int × Int)) (q : Int) : Bool := handB ts && numB q
def hitI (t : Int × Int) (q : Int) : Int := (if t.1 = q then 1 else 0) + (if t.2 = q then 1 else 0)
def timesI (ts : List (Int × Int)) (q : Int) : Int := (ts.map fun t => hitI t q).sum
theorem timesI_step {ts : List (Int × Int)} {k : Nat} {q : Int} (h : k < ts.length) : timesI (ts.take (k + 1)) q = timesI (ts.take k) q + hitI ts[k] q := by
  unfold timesI
  rw [List.take_succ_eq_append_getElem h, List.map_append, List.sum_append]
  simp
theorem hitI_bd (t : Int × Int) (q : Int) : 0 ≤ hitI t q ∧ hitI t q ≤ 2 := by
  unfold hitI
  split <;> split <;> omega
theorem timesI_bd (ts : List (Int × Int)) (q : Int) : ∀ k, k ≤ ts.length → 0 ≤ timesI (ts.take k) q ∧ timesI (ts.take k) q ≤ 2 * k
  | 0, _ => by simp [timesI]
  | k + 1, h => by
    have h1 := timesI_bd ts q k (by omega)
    have h2 := hitI_bd ts[k] q
    rw [timesI_step (by omega)]
    omega
def timesV (ts : List (Int × Int)) (q : Int) : Int := if handB ts && numB q then timesI ts q else 0
/-- The numbers below k that are in a hand. -/
def numsTo (ts : List (Int × Int)) (k : Nat) : List Int := ((List.range k).filter fun i : Nat => decide (0 < timesI ts (i : Int))).map fun i : Nat => (i : Int)
theorem numsTo_yes {ts : List (Int × Int)} {k : Nat} (h : 0 < timesI ts k) : numsTo ts (k + 1) = numsTo ts k ++ [(k : Int)] := by
  unfold numsTo
  rw [List.range_succ, List.filter_append, List.map_append]
  simp [h]
theorem numsTo_no {ts : List (Int × Int)} {k : Nat} (h : ¬ 0 < timesI ts k) : numsTo ts (k + 1) = numsTo ts k := by
  unfold numsTo
  rw [List.range_succ, List.filter_append]
  simp [h]
theorem numsTo_len (ts : List (Int × Int)) (k : Nat) : (numsTo ts k).length ≤ k := by
  unfold numsTo
  rw [List.length_map]
  exact Nat.le_trans (List.length_filter_le _ _) (by simp)
def numbersL (ts : List (Int × Int)) : List Int := if handB ts then numsTo ts 10 else []
theorem numbersL_len (ts : List (Int × Int)) : (numbersL ts).length ≤ 10 := by
  unfold numbersL
  split
  · exact numsTo_len ts 10
  · simp
theorem handB_good {ts : List (Int × Int)} (h : handB ts = true) : ts.length ≤ 55 ∧ ∀ t ∈ ts, goodB t.1 t.2 = true := ⟨(of_decide_eq_true h).1, (of_decide_eq_true h).2.1⟩

set_option maxHeartbeats 1000000 in
theorem c_tiTimes (A : Option Addr) (c : Nat) (ts : List (Int × Int)) (q : Int) (w : World) (hr : RdT w A ts) (hl : ts.length ≤ 1048576) :
    Calls Try.prog 57 #[.slice A ts.length c, .int .i64 q] w fun e w' => e = .returned (.int .i64 (timesI ts q)) ∧ Below w.heap.size w w' := by
  go_enter Try.func57, Try.ntmps57
  go_wp2
  go_loopw [5, 10] (fun p i wr => ∃ k : Nat, k ≤ ts.length ∧ i = .int .i64 k ∧ p = .int .i64 (timesI (ts.take k) q) ∧ Below w.heap.size w wr) (fun _ i _ => ts.length - (intOf i).toNat)
  case atStart => exact ⟨0, Nat.zero_le _, rfl, by simp [timesI], Below.refl _ _⟩
  case round =>
    obtain ⟨k, hk, rfl, rfl, hb⟩ := hrel
    have hbd := timesI_bd ts q k hk
    by_cases hlt : k < ts.length
    · obtain ⟨bk, off, rfl, hbk, hc⟩ := hr.at_ hlt
      have g1 := (hb.cell (p := ⟨bk, _, none⟩) hbk).trans (hc k hlt).1
      have g2 := (hb.cell (p := ⟨bk, _, none⟩) hbk).trans (hc k hlt).2
      have Hb := Lib.hid hb
      have hst := Lib.hid (timesI_step (q := q) hlt)
      clear hc hr hb
      by_cases h1 : ts[k].1 = q <;> by_cases h2 : ts[k].2 = q
      all_goals
        have e1 := Lib.hid h1
        have e2 := Lib.hid h2
        first | (have f1 : (ts[k].1 == q) = true := by simp [h1]) | (have f1 : (ts[k].1 == q) = false := by simp [h1])
        first | (have f2 : (ts[k].2 == q) = true := by simp [h2]) | (have f2 : (ts[k].2 == q) = false := by simp [h2])
        clear h1 h2
        go_wp2
        go_roundw
        case rel => exact ⟨k + 1, by omega, by go_num, by rw [hst.out]; have e1 := e1.out; have e2 := e2.out; simp only [hitI, e1, e2, if_true, if_false]; go_num, (by have hb0 := Hb.out; have hz0 := hb0.size; go_grown)⟩
        case measure => simp [intOf]; omega
    · have : k = ts.length := by omega
      subst this
      rw [List.take_length] at hbd
      rw [List.take_length]
      go_wp2
      go_ret
      exact ⟨rfl, hb⟩

set_option maxHeartbeats 1000000 in
theorem c_timesIn (A : Option Addr) (c : Nat) (ts : List (Int × Int)) (q : Int) (w : World) (hr : RdT w A ts) (hl : ts.length ≤ 1048576) :
    Calls Try.prog 55 #[.slice A ts.length c, .int .i64 q] w fun e w' => e = .returned (.int .i64 (timesI ts q)) ∧ Below w.heap.size w w' := by
  go_enter Try.func55, Try.ntmps55
  go_wp2
  go_loopw [5, 10] (fun p i wr => ∃ k : Nat, k ≤ ts.length ∧ i = .int .i64 k ∧ p = .int .i64 (timesI (ts.take k) q) ∧ Below w.heap.size w wr) (fun _ i _ => ts.length - (intOf i).toNat)
  case atStart => exact ⟨0, Nat.zero_le _, rfl, by simp [timesI], Below.refl _ _⟩
  case round =>
    obtain ⟨k, hk, rfl, rfl, hb⟩ := hrel
    have hbd := timesI_bd ts q k hk
    by_cases hlt : k < ts.length
    · obtain ⟨bk, off, rfl, hbk, hc⟩ := hr.at_ hlt
      have g1 := (hb.cell (p := ⟨bk, _, none⟩) hbk).trans (hc k hlt).1
      have g2 := (hb.cell (p := ⟨bk, _, none⟩) hbk).trans (hc k hlt).2
      have Hb := Lib.hid hb
      have hst := Lib.hid (timesI_step (q := q) hlt)
      clear hc hr hb
      by_cases h1 : ts[k].1 = q <;> by_cases h2 : ts[k].2 = q
      all_goals
        have e1 := Lib.hid h1
        have e2 := Lib.hid h2
        first | (have f1 : (ts[k].1 == q) = true := by simp [h1]) | (have f1 : (ts[k].1 == q) = false := by simp [h1])
        first | (have f2 : (ts[k].2 == q) = true := by simp [h2]) | (have f2 : (ts[k].2 == q) = false := by simp [h2])
        clear h1 h2
        go_wp2
        go_roundw
        case rel => exact ⟨k + 1, by omega, by go_num, by rw [hst.out]; have e1 := e1.out; have e2 := e2.out; simp only [hitI, e1, e2, if_true, if_false]; go_num, (by have hb0 := Hb.out; have hz0 := hb0.size; go_grown)⟩
        case measure => simp [intOf]; omega
    · have : k = ts.length := by omega
      subst this
      rw [List.take_length] at hbd
      rw [List.take_length]
      go_wp2
      go_ret
      exact ⟨rfl, hb⟩

def pipsV (ts : List (Int × Int)) : Int := if handB ts then pipsI ts else 0

set_option maxHeartbeats 1000000 in
theorem c_implNumbersOf (A : Option Addr) (c : Nat) (ts : List (Int × Int)) (w : World) (hr : RdT w A ts) (hl : ts.length ≤ 1048576) :
    Calls Try.prog 44 #[.slice A ts.length c] w (RetI w (numbersL ts) (handB ts)) := by
  have conH := Lib.hid (c_implIsHand A c ts w hr (by omega))
  by_cases h : handB ts = true
  · have e1 : numbersL ts = numsTo ts 10 := by simp [numbersL, h]
    rw [e1, h]
    clear e1
    have conP := fun W (q : Int) (hb : Below w.heap.size w W) => c_timesIn A c ts q W (hr.below hb) hl
    have ConP := Lib.hid conP
    clear conP hr
    go_enter Try.func44, Try.ntmps44
    go_wp2_with (go_at_call 56; refine conH.out.mono ?_; rintro e w1 ⟨rfl, hb1⟩)
    go_loopw [4, 9] (fun v i wr => ∃ (k : Nat) (A' : Option Addr) (c' : Nat), k ≤ 10 ∧ i = .int .i64 k ∧ v = .slice A' (numsTo ts k).length c' ∧ wr.ownsRow w.heap.size 3 1 (.slice A' (numsTo ts k).length c') (numsTo ts k).length (cellsI (numsTo ts k)) ∧ Below w.heap.size w wr) (fun _ i _ => 10 - (intOf i).toNat)
    case atStart => exact ⟨0, none, 0, Nat.zero_le _, rfl, rfl, World.ownsRow_nil _ _ _ _, hb1⟩
    case round =>
      clear conH hb1
      obtain ⟨k, A', c', hk, rfl, rfl, hown, hb⟩ := hrel
      have hlen := numsTo_len ts k
      by_cases hlt : k < 10
      · have con := Lib.hid (ConP.out wr k hb)
        have Hb := Lib.hid hb
        have Ho := Lib.hid hown
        have hsz := hb.size
        clear ConP hb hown
        by_cases hpos : 0 < timesI ts k
        · have hst := Lib.hid (numsTo_yes hpos)
          go_wp2_with (first | (go_at_call 55; refine con.out.mono ?_; rintro e w2 ⟨rfl, hb2⟩; have hz2 := hb2.size; have Ho2 := Lib.hid ((own_keep Ho.out hb2).alloc (.cells #[.int .i64 k] 3))) | (at_builtin; refine wp_append_int rfl _ _ rfl w.heap.size _ _ rfl Ho2.out k w2.heap.size rfl (by simp) (by omega) (by simp; omega) ?_; intro A2 c2 w3 hown3 hg3))
          go_roundw
          case rel =>
            refine ⟨k + 1, A2, c2, by omega, by go_num, by rw [hst.out, List.length_append]; rfl, ?_, ?_⟩
            · rw [hst.out, List.length_append]; exact hown3
            · have hb3 := bstep Hb.out hb2
              have hz3 := hb3.size
              exact Below.grown (by go_grown) hg3 (by simp; omega) (fun g hg => (Ho2.out.lt g hg).1)
          case measure => simp [intOf]; omega
        · have hst := Lib.hid (numsTo_no hpos)
          go_wp2_with (go_at_call 55; refine con.out.mono ?_; rintro e w2 ⟨rfl, hb2⟩)
          go_roundw
          case rel => exact ⟨k + 1, A', c', by omega, by go_num, by rw [hst.out], by rw [hst.out]; exact own_keep Ho.out hb2, bstep Hb.out hb2⟩
          case measure => simp [intOf]; omega
      · have : k = 10 := by omega
        subst this
        go_wp2
        go_ret2
        exact ⟨A', c', rfl, hown, hb⟩
  · have h' : handB ts = false := by simpa using h
    have e1 : numbersL ts = [] := by simp [numbersL, h']
    rw [e1, h']
    clear e1 h hr
    go_enter Try.func44, Try.ntmps44
    go_wp2_with (go_at_call 56; refine conH.out.mono ?_; rintro e w1 ⟨rfl, hb1⟩)
    go_ret2
    exact ⟨none, 0, rfl, World.ownsRow_nil _ _ _ _, hb1⟩

end Go.Proofs.Ytcofambcicnonaa

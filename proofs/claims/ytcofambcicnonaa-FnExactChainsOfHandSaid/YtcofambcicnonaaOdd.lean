/- The odd numbers of a hand: those that stand an odd number of times at its tiles. -/
import Derived.Test.YtcofambcicnonaaCount
namespace Go.Proofs.Ytcofambcicnonaa
open Go.RowKit
set_option linter.unusedVariables false

def oddB (ts : List (Int × Int)) (q : Int) : Bool := decide (timesI ts q % 2 = 1)
/-- The odd numbers below k. -/
def oddTo (ts : List (Int × Int)) (k : Nat) : List Int := ((List.range k).filter fun i : Nat => oddB ts (i : Int)).map fun i : Nat => (i : Int)
theorem oddTo_yes {ts : List (Int × Int)} {k : Nat} (h : oddB ts k = true) : oddTo ts (k + 1) = oddTo ts k ++ [(k : Int)] := by
  unfold oddTo
  rw [List.range_succ, List.filter_append, List.map_append]
  simp [h]
theorem oddTo_no {ts : List (Int × Int)} {k : Nat} (h : oddB ts k = false) : oddTo ts (k + 1) = oddTo ts k := by
  unfold oddTo
  rw [List.range_succ, List.filter_append]
  simp [h]
theorem oddTo_len (ts : List (Int × Int)) (k : Nat) : (oddTo ts k).length ≤ k := by
  unfold oddTo
  rw [List.length_map]
  exact Nat.le_trans (List.length_filter_le _ _) (by simp)
/-- .. of a list of numbers, the first k of them. -/
def oddOf (ts : List (Int × Int)) (xs : List Int) (k : Nat) : List Int := (xs.take k).filter (oddB ts)
theorem oddOf_yes {ts : List (Int × Int)} {xs : List Int} {k : Nat} (hk : k < xs.length) (h : oddB ts xs[k] = true) : oddOf ts xs (k + 1) = oddOf ts xs k ++ [xs[k]] := by
  unfold oddOf
  rw [List.take_succ_eq_append_getElem hk, List.filter_append]
  simp [h]
theorem oddOf_no {ts : List (Int × Int)} {xs : List Int} {k : Nat} (hk : k < xs.length) (h : oddB ts xs[k] = false) : oddOf ts xs (k + 1) = oddOf ts xs k := by
  unfold oddOf
  rw [List.take_succ_eq_append_getElem hk, List.filter_append]
  simp [h]
theorem oddOf_len (ts : List (Int × Int)) (xs : List Int) (k : Nat) : (oddOf ts xs k).length ≤ xs.length := by
  unfold oddOf
  exact Nat.le_trans (List.length_filter_le _ _) (by simp; omega)
theorem timesI_nonneg (ts : List (Int × Int)) (q : Int) : 0 ≤ timesI ts q := by
  have := (timesI_bd ts q ts.length (Nat.le_refl _)).1
  rwa [List.take_length] at this
theorem timesI_top (ts : List (Int × Int)) (q : Int) : timesI ts q ≤ 2 * ts.length := by
  have := (timesI_bd ts q ts.length (Nat.le_refl _)).2
  rwa [List.take_length] at this
theorem odd_nums (ts : List (Int × Int)) : oddOf ts (numsTo ts 10) (numsTo ts 10).length = oddTo ts 10 := by
  unfold oddOf oddTo numsTo
  rw [List.take_length, List.filter_map, List.filter_filter]
  congr 1
  refine List.filter_congr fun i _ => ?_
  have := timesI_nonneg ts (i : Int)
  simp only [Function.comp, oddB, Bool.and_eq_left_iff_imp, decide_eq_true_eq]
  intro h
  omega
def oddHL (ts : List (Int × Int)) : List Int := if handB ts then oddTo ts 10 else []
theorem oddHL_len (ts : List (Int × Int)) : (oddHL ts).length ≤ 10 := by
  unfold oddHL
  split
  · exact oddTo_len ts 10
  · simp
theorem tmod2 {x : Int} (h : 0 ≤ x) : x.tmod 2 = x % 2 := Int.tmod_eq_emod_of_nonneg h

/-! The number of odd numbers is even. -/
theorem times_cons (t : Int × Int) (ts : List (Int × Int)) (q : Int) : timesI (t :: ts) q = hitI t q + timesI ts q := by simp [timesI]
theorem hit_sum : ∀ a b : Fin 10, ((List.range 10).map fun i : Nat => hitI ((a.1 : Int), (b.1 : Int)) (i : Int)).sum = 2 := by decide +kernel
theorem sum_add (xs : List Nat) (f g : Nat → Int) : (xs.map fun i => f i + g i).sum = (xs.map f).sum + (xs.map g).sum := by
  induction xs with
  | nil => rfl
  | cons x xs ih => simp only [List.map_cons, List.sum_cons, ih]; omega
theorem times_sum : ∀ ts : List (Int × Int), (∀ t ∈ ts, goodB t.1 t.2 = true) → ((List.range 10).map fun i : Nat => timesI ts (i : Int)).sum = 2 * ts.length
  | [], _ => by decide
  | t :: ts, hg => by
    have ih := times_sum ts (fun s hs => hg s (by simp [hs]))
    obtain ⟨h1, h2, h3⟩ := good_bd (hg t (by simp))
    have e1 := hit_sum ⟨t.1.toNat, by omega⟩ ⟨t.2.toNat, by omega⟩
    have e2 : (((t.1.toNat : Nat) : Int), ((t.2.toNat : Nat) : Int)) = t := Prod.ext (by simp; omega) (by simp; omega)
    rw [e2] at e1
    have e3 := sum_add (List.range 10) (fun i : Nat => hitI t (i : Int)) (fun i : Nat => timesI ts (i : Int))
    simp only [times_cons]
    rw [e3, e1, ih]
    simp
    omega
theorem odd_sum (ts : List (Int × Int)) : ∀ xs : List Nat, (((xs.filter fun i : Nat => oddB ts (i : Int)).length : Int) - (xs.map fun i : Nat => timesI ts (i : Int)).sum) % 2 = 0
  | [] => by simp
  | x :: xs => by
    have ih := odd_sum ts xs
    by_cases h : oddB ts (x : Int) = true
    · have h' : timesI ts (x : Int) % 2 = 1 := of_decide_eq_true h
      rw [List.filter_cons_of_pos (by simpa using h), List.map_cons, List.sum_cons, List.length_cons]
      omega
    · have h' : ¬ timesI ts (x : Int) % 2 = 1 := fun e => h (decide_eq_true e)
      rw [List.filter_cons_of_neg (by simpa using h), List.map_cons, List.sum_cons]
      omega
theorem odd_even {ts : List (Int × Int)} (hg : ∀ t ∈ ts, goodB t.1 t.2 = true) : (oddTo ts 10).length % 2 = 0 := by
  have h1 := odd_sum ts (List.range 10)
  rw [times_sum ts hg] at h1
  unfold oddTo
  rw [List.length_map]
  omega

set_option maxHeartbeats 1000000 in
theorem c_whOdd (A : Option Addr) (c : Nat) (ts : List (Int × Int)) (w : World) (hr : RdT w A ts) (hl : ts.length ≤ 1048576) :
    Calls Try.prog 45 #[.slice A ts.length c] w (RetN w (oddTo ts 10)) := by
  have conP := fun W (q : Int) (hb : Below w.heap.size w W) => c_tiTimes A c ts q W (hr.below hb) hl
  have ConP := Lib.hid conP
  clear conP hr
  go_enter Try.func45, Try.ntmps45
  go_wp2
  go_loopw [3, 4] (fun v i wr => ∃ (k : Nat) (A' : Option Addr) (c' : Nat), k ≤ 10 ∧ i = .int .i64 k ∧ v = .slice A' (oddTo ts k).length c' ∧ wr.ownsRow w.heap.size 3 1 (.slice A' (oddTo ts k).length c') (oddTo ts k).length (cellsI (oddTo ts k)) ∧ Below w.heap.size w wr) (fun _ i _ => 10 - (intOf i).toNat)
  case atStart => exact ⟨0, none, 0, Nat.zero_le _, rfl, rfl, World.ownsRow_nil _ _ _ _, Below.refl _ _⟩
  case round =>
    obtain ⟨k, A', c', hk, rfl, rfl, hown, hb⟩ := hrel
    have hlen := oddTo_len ts k
    have hnn := timesI_nonneg ts k
    have htm := tmod2 hnn
    by_cases hlt : k < 10
    · have con := Lib.hid (ConP.out wr k hb)
      have Hb := Lib.hid hb
      have Ho := Lib.hid hown
      have hsz := hb.size
      clear ConP hb hown
      by_cases hpos : oddB ts k = true
      · have hst := Lib.hid (oddTo_yes hpos)
        have ho1 : ((timesI ts k).tmod 2 == 1) = true := by rw [htm]; simpa [oddB] using hpos
        have ho2 : (timesI ts k).tmod 2 = 1 := by simpa using ho1
        go_wp2_with (first | (go_at_call 57; refine con.out.mono ?_; rintro e w2 ⟨rfl, hb2⟩; have hz2 := hb2.size; have Ho2 := Lib.hid ((own_keep Ho.out hb2).alloc (.cells #[.int .i64 k] 3))) | (at_builtin; refine wp_append_int rfl _ _ rfl w.heap.size _ _ rfl Ho2.out k w2.heap.size rfl (by simp) (by omega) (by simp; omega) ?_; intro A2 c2 w3 hown3 hg3))
        go_roundw
        case rel =>
          refine ⟨k + 1, A2, c2, by omega, by go_num, by rw [hst.out, List.length_append]; rfl, ?_, ?_⟩
          · rw [hst.out, List.length_append]; exact hown3
          · have hb3 := bstep Hb.out hb2
            have hz3 := hb3.size
            exact Below.grown (by go_grown) hg3 (by simp; omega) (fun g hg => (Ho2.out.lt g hg).1)
        case measure => simp [intOf]; omega
      · have hpos' : oddB ts k = false := by simpa using hpos
        have hst := Lib.hid (oddTo_no hpos')
        have ho1 : ((timesI ts k).tmod 2 == 1) = false := by rw [htm]; simpa [oddB] using hpos'
        have ho2 : ¬ (timesI ts k).tmod 2 = 1 := by simpa using ho1
        go_wp2_with (go_at_call 57; refine con.out.mono ?_; rintro e w2 ⟨rfl, hb2⟩)
        go_roundw
        case rel => exact ⟨k + 1, A', c', by omega, by go_num, by rw [hst.out], by rw [hst.out]; exact own_keep Ho.out hb2, bstep Hb.out hb2⟩
        case measure => simp [intOf]; omega
    · have : k = 10 := by omega
      subst this
      go_wp2
      go_ret
      exact ⟨A', c', rfl, hown, hb⟩

set_option maxHeartbeats 1000000 in
theorem c_implOdd (A : Option Addr) (c : Nat) (ts : List (Int × Int)) (w : World) (hr : RdT w A ts) (hl : ts.length ≤ 1048576) :
    Calls Try.prog 43 #[.slice A ts.length c] w (RetI w (oddHL ts) (handB ts)) := by
  have conN := Lib.hid (c_implNumbersOf A c ts w hr hl)
  by_cases h : handB ts = true
  · have e1 : oddHL ts = oddTo ts 10 := by simp [oddHL, h]
    have e2 : numbersL ts = numsTo ts 10 := by simp [numbersL, h]
    rw [e1, h, ← odd_nums]
    rw [h, e2] at conN
    have hnl := numsTo_len ts 10
    obtain ⟨xs, hxs⟩ : ∃ xs, xs = numsTo ts 10 := ⟨_, rfl⟩
    rw [← hxs] at conN hnl ⊢
    clear e1 e2 hxs
    have conP := fun W (q : Int) (hb : Below w.heap.size w W) => c_timesIn A c ts q W (hr.below hb) hl
    have ConP := Lib.hid conP
    clear conP hr
    go_enter Try.func43, Try.ntmps43
    go_wp2_with (go_at_call 44; refine conN.out.mono ?_; rintro e w1 ⟨A1, c1, rfl, ho1, hb1⟩)
    have hru := RdI.of_own ho1
    clear conN ho1
    go_loopw [6, 18] (fun v i wr => ∃ (k : Nat) (A' : Option Addr) (c' : Nat), k ≤ xs.length ∧ i = .int .i64 k ∧ v = .slice A' (oddOf ts xs k).length c' ∧ wr.ownsRow w1.heap.size 3 1 (.slice A' (oddOf ts xs k).length c') (oddOf ts xs k).length (cellsI (oddOf ts xs k)) ∧ Below w1.heap.size w1 wr) (fun _ i _ => xs.length - (intOf i).toNat)
    case atStart => exact ⟨0, none, 0, Nat.zero_le _, rfl, rfl, World.ownsRow_nil _ _ _ _, Below.refl _ _⟩
    case round =>
      obtain ⟨k, A', c', hk, rfl, rfl, hown, hb⟩ := hrel
      have hlen := oddOf_len ts xs k
      by_cases hlt : k < xs.length
      · obtain ⟨bk, off, rfl, hbk, hc⟩ := hru.at_ hlt
        have g1 := (hb.cell (p := ⟨bk, _, none⟩) hbk).trans (hc k hlt)
        obtain ⟨x, hx⟩ : ∃ x, x = xs[k] := ⟨_, rfl⟩
        have hnn := timesI_nonneg ts x
        have htm := tmod2 hnn
        have hyes := oddOf_yes (ts := ts) hlt
        have hno := oddOf_no (ts := ts) hlt
        rw [← hx] at g1 hyes hno
        have con := Lib.hid (ConP.out wr x (bstep hb1 hb))
        have Hb := Lib.hid hb
        have Hb1 := Lib.hid hb1
        have Ho := Lib.hid hown
        have hsz := hb.size
        have hsz1 := hb1.size
        clear ConP hb hown hc hru hx hb1
        by_cases hpos : oddB ts x = true
        · have hst := Lib.hid (hyes hpos)
          have ho1 : ((timesI ts x).tmod 2 == 1) = true := by rw [htm]; simpa [oddB] using hpos
          have ho2 : (timesI ts x).tmod 2 = 1 := by simpa using ho1
          clear hyes hno
          go_wp2_with (first | (go_at_call 55; refine con.out.mono ?_; rintro e w2 ⟨rfl, hb2⟩; have hz2 := hb2.size; have Ho2 := Lib.hid ((own_keep Ho.out hb2).alloc (.cells #[.int .i64 x] 3))) | (at_builtin; refine wp_append_int rfl _ _ rfl w1.heap.size _ _ rfl Ho2.out x w2.heap.size rfl (by simp) (by omega) (by simp; omega) ?_; intro A2 c2 w3 hown3 hg3))
          go_roundw
          case rel =>
            refine ⟨k + 1, A2, c2, by omega, by go_num, by rw [hst.out, List.length_append]; rfl, ?_, ?_⟩
            · rw [hst.out, List.length_append]; exact hown3
            · have hb3 := bstep Hb.out hb2
              have hz3 := hb3.size
              exact Below.grown (by go_grown) hg3 (by simp; omega) (fun g hg => (Ho2.out.lt g hg).1)
          case measure => simp [intOf]; omega
        · have hpos' : oddB ts x = false := by simpa using hpos
          have hst := Lib.hid (hno hpos')
          have ho1 : ((timesI ts x).tmod 2 == 1) = false := by rw [htm]; simpa [oddB] using hpos'
          have ho2 : ¬ (timesI ts x).tmod 2 = 1 := by simpa using ho1
          clear hyes hno
          go_wp2_with (go_at_call 55; refine con.out.mono ?_; rintro e w2 ⟨rfl, hb2⟩)
          go_roundw
          case rel => exact ⟨k + 1, A', c', by omega, by go_num, by rw [hst.out], by rw [hst.out]; exact own_keep Ho.out hb2, bstep Hb.out hb2⟩
          case measure => simp [intOf]; omega
      · have : k = xs.length := by omega
        subst this
        go_wp2
        go_ret2
        exact ⟨A', c', rfl, own_base hown hb1.size, bstep hb1 hb⟩
  · have h' : handB ts = false := by simpa using h
    have e1 : oddHL ts = [] := by simp [oddHL, h']
    have e2 : numbersL ts = [] := by simp [numbersL, h']
    rw [h', e2] at conN
    rw [e1, h']
    clear e1 e2 h hr
    go_enter Try.func43, Try.ntmps43
    go_wp2_with (go_at_call 44; refine conN.out.mono ?_; rintro e w1 ⟨A1, c1, rfl, ho1, hb1⟩)
    go_ret2
    exact ⟨none, 0, rfl, World.ownsRow_nil _ _ _ _, hb1⟩

end Go.Proofs.Ytcofambcicnonaa

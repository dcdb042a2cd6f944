/- The tiles of a set that a hand misses. -/
import Derived.Test.YtllfjffcogpaiacJoin
namespace Go.Proofs.Ytllfjffcogpaiac
open Go.RowKit
set_option linter.unusedVariables false

def withinB (ts : List (Int × Int)) (n : Int) : Bool := decide (∀ t ∈ ts, t.2 ≤ n)
theorem within_bad {ts : List (Int × Int)} {n : Int} {k : Nat} (h : k < ts.length) (h1 : ¬ ts[k].2 ≤ n) : withinB ts n = false := decide_eq_false fun hp => h1 (hp _ (List.getElem_mem h))
theorem within_all {ts : List (Int × Int)} {n : Int} (h : ∀ j (hj : j < ts.length), ts[j].2 ≤ n) : withinB ts n = true := decide_eq_true fun t ht => by
  obtain ⟨j, hj, rfl⟩ := List.getElem_of_mem ht
  exact h j hj
def okMiss (ts : List (Int × Int)) (n : Int) : Bool := handB ts && numB n && withinB ts n
def missL (ts : List (Int × Int)) (n : Int) : List (Int × Int) := if okMiss ts n then pickL n.toNat ts false else []
theorem missL_len (ts : List (Int × Int)) (n : Int) : (missL ts n).length ≤ 110 := by
  unfold missL
  split
  · rename_i h
    simp only [okMiss, Bool.and_eq_true] at h
    obtain ⟨m, hm, rfl⟩ := numB_nat h.1.2
    exact pickL_len hm ts false
  · simp

set_option maxRecDepth 100000 in
theorem set_facts : ∀ n : Fin 10, sortL (setL n.1) = setL n.1 ∧ handB (setL n.1) = true := by decide +kernel
theorem set_sorted {n : Nat} (h : n ≤ 9) : sortL (setL n) = setL n := (set_facts ⟨n, by omega⟩).1
theorem set_hand {n : Nat} (h : n ≤ 9) : handB (setL n) = true := (set_facts ⟨n, by omega⟩).2

set_option maxRecDepth 100000 in
set_option maxHeartbeats 1000000 in
theorem c_tiWithin (A : Option Addr) (c : Nat) (ts : List (Int × Int)) (n : Int) (w : World) (hr : RdT w A ts) (hl : ts.length ≤ 9223372036854775807) :
    Calls Try.prog 38 #[.slice A ts.length c, .int .i64 n] w fun e w' => e = .returned (.bool (withinB ts n)) ∧ Below w.heap.size w w' := by
  go_enter Try.func38, Try.ntmps38
  go_wp2
  go_loopw [9] (fun i wr => ∃ k : Nat, k ≤ ts.length ∧ i = .int .i64 k ∧ (∀ j (hj : j < ts.length), j < k → ts[j].2 ≤ n) ∧ Below w.heap.size w wr) (fun i _ => ts.length - (intOf i).toNat)
  case atStart => exact ⟨0, Nat.zero_le _, rfl, by omega, Below.refl _ _⟩
  case round =>
    obtain ⟨k, hk, rfl, hn, hb⟩ := hrel
    by_cases hlt : k < ts.length
    · obtain ⟨bk, off, rfl, hbk, hc⟩ := hr.at_ hlt
      have g1 := (hb.cell (p := ⟨bk, _, none⟩) hbk).trans (hc k hlt).1
      have g2 := (hb.cell (p := ⟨bk, _, none⟩) hbk).trans (hc k hlt).2
      have Hn := Lib.hid hn
      have Hb := Lib.hid hb
      have hz := hb.size
      clear hc hr hn hb
      by_cases hgt : n < ts[k].2
      all_goals
        go_wp2
      · go_ret
        exact ⟨ret_b (within_bad hlt (by omega)).symm, by have hb := Hb.out; go_grown⟩
      · go_roundw
        case rel =>
          refine ⟨k + 1, by omega, by go_num, fun j hj hjk => ?_, by have hb := Hb.out; go_grown⟩
          rcases Nat.lt_succ_iff_lt_or_eq.1 hjk with h | rfl
          · exact Hn.out j hj h
          · omega
        case measure => simp [intOf]; omega
    · go_wp2
      go_ret
      exact ⟨ret_b (within_all (fun j hj => hn j hj (by omega))).symm, hb⟩

set_option maxRecDepth 100000 in
set_option maxHeartbeats 2000000 in
theorem c_specMissingFrom (A : Option Addr) (c : Nat) (ts : List (Int × Int)) (n : Int) (w : World) (hr : RdT w A ts) (hl : ts.length ≤ 1048576) (hcap : ts.length ≤ c) :
    Calls Try.prog 20 #[.slice A ts.length c, .int .i64 n] w (RetT w (missL ts n) (okMiss ts n)) := by
  have conH := Lib.hid (c_tiHand A c ts w hr (by omega) hcap)
  have conW' := fun W (hb : Below w.heap.size w W) => c_tiWithin A c ts n W (hr.below hb) (by omega)
  have ConW := Lib.hid conW'
  clear conW'
  by_cases h : handB ts = true
  · by_cases h' : numB n = true
    · by_cases h2 : withinB ts n = true
      · have e2 : okMiss ts n = true := by simp [okMiss, h, h', h2]
        have e1 : missL ts n = pickL n.toNat ts false := by simp [missL, e2]
        rw [e1, e2]
        obtain ⟨n, hn, rfl⟩ := numB_nat h'
        rw [Int.toNat_natCast]
        have conP := fun W (hb : Below w.heap.size w W) => c_tiPick n hn A c ts false W (hr.below hb) hl
        have ConP := Lib.hid conP
        clear e1 e2 conP hr
        go_enter Try.func20, Try.ntmps20
        go_wp2_with (first | (go_at_call 30; refine conH.out.mono ?_; rintro e w0 ⟨rfl, hb0⟩) | (go_at_call 37; refine (c_tiNumber _ _).mono ?_; rintro e w1 ⟨rfl, rfl⟩) | (go_at_call 38; refine (ConW.out _ hb0).mono ?_; rintro e w2 ⟨rfl, hb2⟩; have hb02 := bstep hb0 hb2) | (go_at_call 39; refine (ConP.out _ hb02).mono ?_; rintro e w3 ⟨A3, c3, rfl, ho3, hb3⟩))
        go_ret2
        exact ⟨A3, c3, rfl, own_base ho3 hb02.size, bstep hb02 hb3⟩
      · have h3 : withinB ts n = false := by simpa using h2
        have e2 : okMiss ts n = false := by simp [okMiss, h3]
        have e1 : missL ts n = [] := by simp [missL, e2]
        rw [e1, e2]
        clear e1 e2 h2 hr
        go_enter Try.func20, Try.ntmps20
        go_wp2_with (first | (go_at_call 30; refine conH.out.mono ?_; rintro e w0 ⟨rfl, hb0⟩) | (go_at_call 37; refine (c_tiNumber _ _).mono ?_; rintro e w1 ⟨rfl, rfl⟩) | (go_at_call 38; refine (ConW.out _ hb0).mono ?_; rintro e w2 ⟨rfl, hb2⟩; have hb02 := bstep hb0 hb2))
        go_ret2
        exact ⟨none, 0, rfl, World.ownsRow_nil _ _ _ _, hb02⟩
    · have h3 : numB n = false := by simpa using h'
      have e2 : okMiss ts n = false := by simp [okMiss, h3]
      have e1 : missL ts n = [] := by simp [missL, e2]
      rw [e1, e2]
      clear e1 e2 h' hr
      go_enter Try.func20, Try.ntmps20
      go_wp2_with (first | (go_at_call 30; refine conH.out.mono ?_; rintro e w0 ⟨rfl, hb0⟩) | (go_at_call 37; refine (c_tiNumber _ _).mono ?_; rintro e w1 ⟨rfl, rfl⟩))
      go_ret2
      exact ⟨none, 0, rfl, World.ownsRow_nil _ _ _ _, hb0⟩
  · have h3 : handB ts = false := by simpa using h
    have e2 : okMiss ts n = false := by simp [okMiss, h3]
    have e1 : missL ts n = [] := by simp [missL, e2]
    rw [e1, e2]
    clear e1 e2 h hr
    go_enter Try.func20, Try.ntmps20
    go_wp2_with (go_at_call 30; refine conH.out.mono ?_; rintro e w0 ⟨rfl, hb0⟩)
    go_ret2
    exact ⟨none, 0, rfl, World.ownsRow_nil _ _ _ _, hb0⟩

set_option maxRecDepth 100000 in
set_option maxHeartbeats 2000000 in
theorem c_implMissingFrom (A : Option Addr) (c : Nat) (ts : List (Int × Int)) (n : Int) (w : World) (hr : RdT w A ts) (hl : ts.length ≤ 1048576) :
    Calls Try.prog 19 #[.slice A ts.length c, .int .i64 n] w (RetT w (missL ts n) (okMiss ts n)) := by
  have conH := Lib.hid (c_implIsHand A c ts w hr (by omega))
  by_cases h : handB ts = true
  · by_cases h' : numB n = true
    · have h'' := h'
      obtain ⟨n, hn9, rfl⟩ := numB_nat h''
      go_enter Try.func19, Try.ntmps19
      go_wp2_with (first | (go_at_call 13; refine conH.out.mono ?_; rintro e w1 ⟨rfl, hb1⟩) | (go_at_call 36; refine (c_isNumber _ _).mono ?_; rintro e w2 ⟨rfl, rfl⟩))
      go_loopw [20] (fun i wr => ∃ k : Nat, k ≤ ts.length ∧ i = .int .i64 k ∧ (∀ j (hj : j < ts.length), j < k → ts[j].2 ≤ (n : Int)) ∧ Below w1.heap.size w1 wr) (fun i _ => ts.length - (intOf i).toNat)
      case atStart => exact ⟨0, Nat.zero_le _, rfl, by omega, Below.refl _ _⟩
      case round =>
        obtain ⟨k, hk, rfl, hnn, hb'⟩ := hrel
        have hb := bstep hb1 hb'
        have hz := hb1.size
        have hz' := hb'.size
        by_cases hlt : k < ts.length
        · obtain ⟨bk, off, rfl, hbk, hc⟩ := hr.at_ hlt
          have g1 := (hb.cell (p := ⟨bk, _, none⟩) hbk).trans (hc k hlt).1
          have g2 := (hb.cell (p := ⟨bk, _, none⟩) hbk).trans (hc k hlt).2
          have Hn := Lib.hid hnn
          have Hb := Lib.hid hb
          have Hb' := Lib.hid hb'
          clear hc hr hnn hb hb'
          by_cases hgt : (n : Int) < ts[k].2
          all_goals
            go_wp2
          · have e2 : okMiss ts n = false := by simp [okMiss, within_bad hlt (show ¬ ts[k].2 ≤ (n : Int) by omega)]
            have e1 : missL ts n = [] := by simp [missL, e2]
            go_ret2
            rw [e1, e2]
            exact ⟨none, 0, rfl, World.ownsRow_nil _ _ _ _, by have hb := Hb.out; go_grown⟩
          · go_roundw
            case rel =>
              refine ⟨k + 1, by omega, by go_num, fun j hj hjk => ?_, by have hb := Hb'.out; go_grown⟩
              rcases Nat.lt_succ_iff_lt_or_eq.1 hjk with h | rfl
              · exact Hn.out j hj h
              · omega
            case measure => simp [intOf]; omega
        · have e2 : okMiss ts n = true := by simp [okMiss, h, h', within_all (fun j hj => hnn j hj (by omega))]
          have e1 : missL ts n = lessHL (setL n) ts := by simp [missL, e2, lessHL, okAB, set_hand hn9, h, thoseL, set_sorted hn9, pickL]
          have e3 : okAB (setL n) ts = true := by simp [okAB, h, set_hand hn9]
          have e4 : setOfL n = setL n := by simp [setOfL, h']
          have hsl := setL_len hn9
          have E1 := Lib.hid e1
          have E2 := Lib.hid e2
          have conS := c_implSetOf n wr
          rw [e4, h'] at conS
          have ConS := Lib.hid conS
          have conL := fun W A3 c3 (hb : Below wr.heap.size wr W) (hr3 : RdT W A3 (setL n)) => c_implLessHand A3 c3 (setL n) A c ts W hr3 (by omega) (hr.below (bstep hb1 (bstep hb' hb))) hl
          rw [e3] at conL
          have ConL := Lib.hid conL
          clear e1 e2 e3 e4 conS conL hr hnn
          go_wp2_with (first | (go_at_call 21; refine ConS.out.mono ?_; rintro e w4 ⟨A4, c4, rfl, ho4, hb4⟩) | (go_at_call 10; refine (ConL.out _ _ _ hb4 (RdT.of_own ho4)).mono ?_; rintro e w5 ⟨A5, c5, rfl, ho5, hb5⟩))
          go_ret2
          rw [E1.out, E2.out]
          exact ⟨A5, c5, rfl, own_base ho5 (bstep hb hb4).size, bstep (bstep hb hb4) hb5⟩
    · have h3 : numB n = false := by simpa using h'
      have e2 : okMiss ts n = false := by simp [okMiss, h3]
      have e1 : missL ts n = [] := by simp [missL, e2]
      rw [e1, e2]
      clear e1 e2 h' hr
      go_enter Try.func19, Try.ntmps19
      go_wp2_with (first | (go_at_call 13; refine conH.out.mono ?_; rintro e w0 ⟨rfl, hb0⟩) | (go_at_call 36; refine (c_isNumber _ _).mono ?_; rintro e w1 ⟨rfl, rfl⟩))
      go_ret2
      exact ⟨none, 0, rfl, World.ownsRow_nil _ _ _ _, hb0⟩
  · have h3 : handB ts = false := by simpa using h
    have e2 : okMiss ts n = false := by simp [okMiss, h3]
    have e1 : missL ts n = [] := by simp [missL, e2]
    rw [e1, e2]
    clear e1 e2 h hr
    go_enter Try.func19, Try.ntmps19
    go_wp2_with (go_at_call 13; refine conH.out.mono ?_; rintro e w0 ⟨rfl, hb0⟩)
    go_ret2
    exact ⟨none, 0, rfl, World.ownsRow_nil _ _ _ _, hb0⟩

end Go.Proofs.Ytllfjffcogpaiac

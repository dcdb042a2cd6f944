/- Puzzles: the specification's IsPuzzle and CountGaps. -/
import Derived.Test.YtjdnkcdnppcbhabDoorPzM
import Derived.Test.YtjdnkcdnppcbhabDoorPzB
import Derived.Test.YtjdnkcdnppcbhabDoorChain
import Derived.Deep.Cut
import Derived.BigQuiet
namespace Go.Proofs.YtjdnkcdnppcbhabDoor
open Go.RowKit
set_option linter.unusedVariables false

set_option maxRecDepth 100000 in
set_option maxHeartbeats 1000000 in
theorem c_l1AllP (A : Option Addr) (c : Nat) (xs : List Int) (w : World) (hr : RdI w A xs) (hl : xs.length ≤ 9223372036854775807) :
    Calls Tryd.prog 34 #[.slice A xs.length c, .int .i64 (-1), .int .i64 9] w fun e w' => e = .returned (.bool (decide (∀ x ∈ xs, gapB x = true))) ∧ Below w.heap.size w w' := by
  go_enter Tryd.func34, Tryd.ntmps34
  go_wp2
  go_loopw [11] (fun i wr => ∃ k : Nat, k ≤ xs.length ∧ i = .int .i64 k ∧ (∀ j (hj : j < xs.length), j < k → gapB xs[j] = true) ∧ Below w.heap.size w wr) (fun i _ => xs.length - (intOf i).toNat)
  case atStart => exact ⟨0, Nat.zero_le _, rfl, by omega, Below.refl _ _⟩
  case round =>
    obtain ⟨k, hk, rfl, hn, hb⟩ := hrel
    by_cases hlt : k < xs.length
    · obtain ⟨bk, off, rfl, hbk, hc⟩ := hr.at_ hlt
      have g1 := (hb.cell (p := ⟨bk, _, none⟩) hbk).trans (hc k hlt)
      have Hn := Lib.hid hn
      have Hb := Lib.hid hb
      have hz := hb.size
      clear hc hr hn hb
      have con : ∀ W, Calls Tryd.prog 32 #[.int .i64 xs[k], .int .i64 (-1), .int .i64 9] W fun e w' => e = .returned (.bool (gapB xs[k])) ∧ W = w' := fun W => c_l1In xs[k] (-1) 9 W
      by_cases hg : gapB xs[k] = true
      · go_wp2_with (go_at_call 32; refine (con _).mono ?_; rintro e w' ⟨rfl, rfl⟩)
        go_roundw
        case rel =>
          refine ⟨k + 1, by omega, by go_num, fun j hj hjk => ?_, Hb.out⟩
          rcases Nat.lt_succ_iff_lt_or_eq.1 hjk with h | rfl
          · exact Hn.out j hj h
          · exact hg
        case measure => simp [intOf]; omega
      · have hg' : gapB xs[k] = false := (Bool.not_eq_true _).mp hg
        have Hd := Lib.hid (decide_eq_false (fun h => by have := h _ (List.getElem_mem hlt); rw [hg'] at this; cases this) : decide (∀ x ∈ xs, gapB x = true) = false)
        clear hg
        go_wp2_with (go_at_call 32; refine (con _).mono ?_; rintro e w' ⟨rfl, rfl⟩)
        go_ret
        exact ⟨ret_b Hd.out.symm, Hb.out⟩
    · go_wp2
      go_ret
      refine ⟨ret_b ?_, hb⟩
      symm
      exact decide_eq_true fun x hx => by
        obtain ⟨j, hj, rfl⟩ := List.getElem_of_mem hx
        exact hn j hj (by omega)

set_option maxRecDepth 100000 in
set_option maxHeartbeats 2000000 in
theorem c_pzGood (AT : Option Addr) (cT : Nat) (T : List (Int × Int)) (AC : Option Addr) (cC : Nat) (C : List Int) (w : World) (hT : RdT w AT T) (hC : RdI w AC C) (lT : T.length + C.length ≤ 1048576) (kT : T.length ≤ cT) :
    Calls Tryd.prog 16 #[.agg #[.slice AT T.length cT, .slice AC C.length cC]] w fun e w' => e = .returned (.bool (pzB T C)) ∧ Below w.heap.size w w' := by
  have con1 : ∀ W, Calls Tryd.prog 32 #[.int .i64 (T.length : Int), .int .i64 1, .int .i64 9] W fun e w' => e = .returned (.bool (inPz T.length)) ∧ W = w' := fun W => c_l1In (T.length : Int) 1 9 W
  have con2 := fun W (hb : Below w.heap.size w W) => c_tiHand AT cT T W (hT.below hb) (by omega) kT
  have con4 := fun W (hb : Below w.heap.size w W) => c_l1AllP AC cC C W (hC.below hb) (by omega)
  have con5 := fun W (hb : Below w.heap.size w W) => c_tiSort AT cT T W (hT.below hb) (by omega)
  have hpz : pzB T C = (inPz T.length && (handB T && (decide ((C.length : Int) = (T.length : Int) + 1) && (decide (∀ x ∈ C, gapB x = true) && decide (sortL T = T))))) := rfl
  rw [hpz]
  clear hpz
  cases h1 : inPz T.length
  · simp only [h1] at con1
    simp only [Bool.false_and]
    clear h1 hT hC con2 con4 con5
    go_enter Tryd.func16, Tryd.ntmps16
    go_wp2_with fail
    obtain ⟨w0, hw0⟩ : ∃ w0, w0 = w.alloc (.cells #[.slice AT T.length cT, .slice AC C.length cC] 31) := ⟨_, rfl⟩
    rw [← hw0]
    have ba0 : Bx2 w0 w.heap.size (.slice AT T.length cT) (.slice AC C.length cC) := by rw [hw0]; exact Bx2.fresh w _ _ _
    have hb0 : Below w.heap.size w w0 := by rw [hw0]; go_grown
    clear hw0
    refine (con1 _).mono ?_
    rintro e w1 ⟨rfl, rfl⟩
    have x0 := ba0.c0
    have x1 := ba0.c1
    go_wp2
    go_ret
    exact ⟨rfl, hb0⟩
  have hl9 : T.length ≤ 9 := by unfold inPz at h1; simp only [Bool.and_eq_true, decide_eq_true_eq] at h1; omega
  simp only [h1] at con1
  cases h2 : handB T
  · simp only [h2] at con2
    simp only [Bool.false_and, Bool.true_and]
    have Con2 := Lib.hid con2
    clear h1 h2 hT hC con4 con5 con2
    go_enter Tryd.func16, Tryd.ntmps16
    go_wp2_with fail
    obtain ⟨w0, hw0⟩ : ∃ w0, w0 = w.alloc (.cells #[.slice AT T.length cT, .slice AC C.length cC] 31) := ⟨_, rfl⟩
    rw [← hw0]
    have ba0 : Bx2 w0 w.heap.size (.slice AT T.length cT) (.slice AC C.length cC) := by rw [hw0]; exact Bx2.fresh w _ _ _
    have hb0 : Below w.heap.size w w0 := by rw [hw0]; go_grown
    clear hw0
    refine (con1 _).mono ?_
    rintro e w1 ⟨rfl, rfl⟩
    have x0 := ba0.c0
    have x1 := ba0.c1
    go_wp2_with fail
    refine (Con2.out _ hb0).mono ?_
    rintro e w2 ⟨rfl, q2⟩
    have hb2 := bstep hb0 q2
    have ba2 := ba0.keep q2
    clear x0 x1 ba0
    have x0 := ba2.c0
    have x1 := ba2.c1
    go_wp2
    go_ret
    exact ⟨rfl, hb2⟩
  have hsl := sortP_len h2
  simp only [h2] at con2
  have Con2 := Lib.hid con2
  clear con2
  cases h3 : decide ((C.length : Int) = (T.length : Int) + 1)
  · simp only [Bool.false_and, Bool.and_false]
    have i3 : ((C.length : Int) != (T.length : Int) + 1) = true := by rw [bne_iff_ne]; exact of_decide_eq_false h3
    clear h1 h2 h3 hsl hT hC con4 con5
    go_enter Tryd.func16, Tryd.ntmps16
    go_wp2_with fail
    obtain ⟨w0, hw0⟩ : ∃ w0, w0 = w.alloc (.cells #[.slice AT T.length cT, .slice AC C.length cC] 31) := ⟨_, rfl⟩
    rw [← hw0]
    have ba0 : Bx2 w0 w.heap.size (.slice AT T.length cT) (.slice AC C.length cC) := by rw [hw0]; exact Bx2.fresh w _ _ _
    have hb0 : Below w.heap.size w w0 := by rw [hw0]; go_grown
    clear hw0
    refine (con1 _).mono ?_
    rintro e w1 ⟨rfl, rfl⟩
    have x0 := ba0.c0
    have x1 := ba0.c1
    go_wp2_with fail
    refine (Con2.out _ hb0).mono ?_
    rintro e w2 ⟨rfl, q2⟩
    have hb2 := bstep hb0 q2
    have ba2 := ba0.keep q2
    clear x0 x1 ba0
    have x0 := ba2.c0
    have x1 := ba2.c1
    go_wp2
    go_ret
    exact ⟨rfl, hb2⟩
  have i3 : ((C.length : Int) != (T.length : Int) + 1) = false := by rw [bne_eq_false_iff_eq]; exact of_decide_eq_true h3
  cases h4 : decide (∀ x ∈ C, gapB x = true)
  · simp only [h4] at con4
    simp only [Bool.false_and, Bool.and_false]
    have Con4 := Lib.hid con4
    clear h1 h2 h3 h4 hsl hT hC con4 con5
    go_enter Tryd.func16, Tryd.ntmps16
    go_wp2_with fail
    obtain ⟨w0, hw0⟩ : ∃ w0, w0 = w.alloc (.cells #[.slice AT T.length cT, .slice AC C.length cC] 31) := ⟨_, rfl⟩
    rw [← hw0]
    have ba0 : Bx2 w0 w.heap.size (.slice AT T.length cT) (.slice AC C.length cC) := by rw [hw0]; exact Bx2.fresh w _ _ _
    have hb0 : Below w.heap.size w w0 := by rw [hw0]; go_grown
    clear hw0
    refine (con1 _).mono ?_
    rintro e w1 ⟨rfl, rfl⟩
    have x0 := ba0.c0
    have x1 := ba0.c1
    go_wp2_with fail
    refine (Con2.out _ hb0).mono ?_
    rintro e w2 ⟨rfl, q2⟩
    have hb2 := bstep hb0 q2
    have ba2 := ba0.keep q2
    clear x0 x1 ba0
    have x0 := ba2.c0
    have x1 := ba2.c1
    go_wp2_with fail
    refine (Con4.out _ hb2).mono ?_
    rintro e w3 ⟨rfl, q3⟩
    have hb3 := bstep hb2 q3
    go_wp2
    go_ret
    exact ⟨rfl, hb3⟩
  simp only [h4] at con4
  simp only [Bool.true_and]
  have Con4 := Lib.hid con4
  obtain ⟨us, hus⟩ : ∃ us, us = sortL T := ⟨_, rfl⟩
  rw [← hus] at con5 hsl ⊢
  have hsl1 : us.length ≤ T.length := by omega
  have hsl2 : T.length ≤ us.length := by omega
  have Con5 := Lib.hid con5
  have HU := Lib.hid hus
  clear h1 h2 h3 h4 hsl hC con4 con5 hus
  go_enter Tryd.func16, Tryd.ntmps16
  go_wp2_with fail
  obtain ⟨w0, hw0⟩ : ∃ w0, w0 = w.alloc (.cells #[.slice AT T.length cT, .slice AC C.length cC] 31) := ⟨_, rfl⟩
  rw [← hw0]
  have ba0 : Bx2 w0 w.heap.size (.slice AT T.length cT) (.slice AC C.length cC) := by rw [hw0]; exact Bx2.fresh w _ _ _
  have hb0 : Below w.heap.size w w0 := by rw [hw0]; go_grown
  clear hw0
  refine (con1 _).mono ?_
  rintro e w1 ⟨rfl, rfl⟩
  have x0 := ba0.c0
  have x1 := ba0.c1
  go_wp2_with fail
  refine (Con2.out _ hb0).mono ?_
  rintro e w2 ⟨rfl, q2⟩
  have hb2 := bstep hb0 q2
  have ba2 := ba0.keep q2
  clear x0 x1 ba0
  have x0 := ba2.c0
  have x1 := ba2.c1
  go_wp2_with fail
  refine (Con4.out _ hb2).mono ?_
  rintro e w3 ⟨rfl, q3⟩
  have hb3 := bstep hb2 q3
  have ba3 := ba2.keep q3
  clear x0 x1 ba2
  have x0 := ba3.c0
  have x1 := ba3.c1
  go_wp2_with fail
  refine (Con5.out _ hb3).mono ?_
  rintro e w4 ⟨U, cU, rfl, oU, q4⟩
  have hb4 := bstep hb3 q4
  have ba4 := ba3.keep q4
  have hru := RdT.of_own oU
  clear x0 x1 ba3 oU q4 q3 q2 hb0 hb2 hb3
  have hTw := hT.below hb4
  clear hT
  go_wp2
  go_loopw [36] (fun i wr => ∃ k : Nat, k ≤ us.length ∧ i = .int .i64 k ∧ (∀ j (hj : j < us.length), j < k → us[j] = T[j]'(by omega)) ∧ Below w4.heap.size w4 wr) (fun i _ => us.length - (intOf i).toNat)
  case atStart => exact ⟨0, Nat.zero_le _, rfl, by omega, Below.refl _ _⟩
  case round =>
    obtain ⟨k, hk, rfl, hn, hb⟩ := hrel
    have ba5 := ba4.keep hb
    by_cases hlt : k < us.length
    · obtain ⟨bk, off, rfl, hbk, hc⟩ := hru.at_ hlt
      obtain ⟨bt, oft, rfl, hbt, hct⟩ := hTw.at_ (k := k) (by omega)
      have g1 := keepc hb (hc k hlt).1
      have g2 := keepc hb (hc k hlt).2
      have e1 := keepc hb (hct k (by omega)).1
      have e2 := keepc hb (hct k (by omega)).2
      have Hn := Lib.hid hn
      have Hb := Lib.hid hb
      have hz := hb.size
      have x0 := ba5.c0
      have nb := ba5.lt
      have nt : bt < wr.heap.size := block_lt e1
      obtain ⟨p, hp⟩ : ∃ p, us[k].1 = p := ⟨_, rfl⟩
      obtain ⟨q, hq⟩ : ∃ q, us[k].2 = q := ⟨_, rfl⟩
      obtain ⟨r, hr⟩ : ∃ r, (T[k]'(by omega)).1 = r := ⟨_, rfl⟩
      obtain ⟨s, hs⟩ : ∃ s, (T[k]'(by omega)).2 = s := ⟨_, rfl⟩
      rw [hp] at g1
      rw [hq] at g2
      rw [hr] at e1
      rw [hs] at e2
      have i0 : (0 : Int) ≤ (k : Int) := by omega
      have i1 : (k : Int) < (T.length : Int) := by omega
      have Hpq : Hid (us[k] = (p, q)) := Lib.hid (by rw [← hp, ← hq])
      have Hrs : Hid (T[k]'(by omega) = (r, s)) := Lib.hid (by rw [← hr, ← hs])
      have Hd : Hid (¬ (p = r ∧ q = s) → decide (us = T) = false) := Lib.hid (fun hne => decide_eq_false fun h => by
        have h1 := Hpq.out
        have h2 := Hrs.out
        have h3 : us[k] = T[k]'(by omega) := by simp only [h]
        rw [h1, h2] at h3
        simp only [Prod.mk.injEq] at h3
        exact hne h3)
      clear hc hct hru hTw hn hb hp hq hr hs con1
      by_cases e1 : p = r
      · have f1 : (p == r) = true := by simp [e1]
        have E1 := Lib.hid e1
        clear e1
        by_cases e2 : q = s
        · have f2 : (q == s) = true := by simp [e2]
          have E2 := Lib.hid e2
          clear e2
          go_wp2
          go_quiet (fail)
          go_wp2
          go_roundw
          case rel =>
            refine ⟨k + 1, by omega, by go_num, fun j hj hjk => ?_, belowN (Hb.out.alloc hz _) _⟩
            rcases Nat.lt_succ_iff_lt_or_eq.1 hjk with h | rfl
            · exact Hn.out j hj h
            · rw [Hpq.out, Hrs.out, E1.out, E2.out]
          case measure => simp [intOf]; omega
        · have f2 : (q == s) = false := by simp [e2]
          have HF := Lib.hid (Hd.out (fun h => e2 h.2))
          clear e2
          go_wp2
          go_quiet (fail)
          go_wp2
          go_ret
          exact ⟨ret_b HF.out.symm, belowN ((bstep hb4 Hb.out).alloc (bstep hb4 Hb.out).size _) _⟩
      · have f1 : (p == r) = false := by simp [e1]
        have HF := Lib.hid (Hd.out (fun h => e1 h.1))
        clear e1
        go_wp2
        go_quiet (fail)
        go_wp2
        go_ret
        exact ⟨ret_b HF.out.symm, belowN ((bstep hb4 Hb.out).alloc (bstep hb4 Hb.out).size _) _⟩
    · go_wp2
      go_ret
      refine ⟨ret_b ?_, bstep hb4 hb⟩
      symm
      exact decide_eq_true (List.ext_getElem (by omega) fun j h1 h2 => hn j h1 (by omega))

end Go.Proofs.YtjdnkcdnppcbhabDoor

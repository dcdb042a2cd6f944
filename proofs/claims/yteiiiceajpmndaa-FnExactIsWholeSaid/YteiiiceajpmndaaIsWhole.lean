/- Whether a list of numbers is a whole chain of a hand: both functions. -/
import Derived.Test.YteiiiceajpmndaaWhole
namespace Go.Proofs.Yteiiiceajpmndaa
open Go.RowKit
set_option linter.unusedVariables false

set_option maxRecDepth 100000 in
set_option maxHeartbeats 2000000 in
theorem c_specIsWhole (A : Option Addr) (c : Nat) (ts : List (Int × Int)) (A' : Option Addr) (c' : Nat) (xs : List Int) (w : World) (hr : RdT w A ts) (hl : ts.length ≤ 1048576) (hcap : ts.length ≤ c) (hr' : RdI w A' xs) (hl' : xs.length ≤ 1048576) (hcap' : xs.length ≤ c') :
    Calls Try.prog 29 #[.slice A ts.length c, .slice A' xs.length c'] w fun e w' => e = .returned (.tuple #[.bool (wholeV ts xs), .bool (handB ts)]) ∧ Below w.heap.size w w' := by
  have conH := Lib.hid (c_tiHand A c ts w hr (by omega) hcap)
  by_cases h : handB ts = true
  · have conC := fun W (hb : Below w.heap.size w W) => c_whChain A' c' xs W (hr'.below hb) hl'
    by_cases h1 : chainB xs = true
    · have hW : whTiles xs = tilesC xs := if_pos ⟨(chain_len h1).1, (chain_len h1).2, chain_num h1⟩
      have hlen : (tilesC xs).length ≤ xs.length := by rw [tilesC_len]; omega
      have hu := chain_hand h1
      have hiff := whole_iff h hu
      have hwv : wholeV ts xs = decide (sortL (tilesC xs) = sortL ts) := by simp [wholeV, h, h1]
      rw [hwv, h]
      simp only [hW, h1] at conC
      obtain ⟨us, hus⟩ : ∃ us, us = tilesC xs := ⟨_, rfl⟩
      rw [← hus] at hlen hiff ⊢
      simp only [← hus] at conC
      have conT := fun W A3 c3 (hb : Below w.heap.size w W) (h3 : RdT W A3 us) => c_tiThose A c ts A3 c3 us false W (hr.below hb) hl h3 (by omega)
      have ConC := Lib.hid conC
      have ConT := Lib.hid conT
      clear conC conT hwv hW hu hus hr hr' h1
      by_cases hle : us.length = ts.length
      · have hle' : ((us.length : Int) == (ts.length : Int)) = true := by simp [hle]
        by_cases h0 : (thoseL ts us false).length = 0
        · have h0' : (((thoseL ts us false).length : Int) == 0) = true := by simp [h0]
          have HD := Lib.hid (decide_eq_true (hiff.2 ⟨hle, h0⟩) : decide (sortL us = sortL ts) = true)
          rw [HD.out]
          clear hiff hle h0
          go_enter Try.func29, Try.ntmps29
          go_wp2_with (first | (go_at_call 54; refine conH.out.mono ?_; rintro e w1 ⟨rfl, hb1⟩) | (go_at_call 65; refine (ConC.out _ hb1).mono ?_; rintro e w2 ⟨A2, c2, rfl, ho2, hb2⟩) | (go_at_call 66; refine (ConT.out _ _ _ (bstep hb1 hb2) (RdT.of_own ho2)).mono ?_; rintro e w3 ⟨A3, c3, rfl, ho3, hb3⟩))
          go_ret2
          exact ⟨rfl, bstep (bstep hb1 hb2) hb3⟩
        · have h0' : (((thoseL ts us false).length : Int) == 0) = false := by rw [beq_eq_false_iff_ne]; omega
          have HD := Lib.hid (decide_eq_false (fun e => h0 (hiff.1 e).2) : decide (sortL us = sortL ts) = false)
          rw [HD.out]
          clear hiff hle h0
          go_enter Try.func29, Try.ntmps29
          go_wp2_with (first | (go_at_call 54; refine conH.out.mono ?_; rintro e w1 ⟨rfl, hb1⟩) | (go_at_call 65; refine (ConC.out _ hb1).mono ?_; rintro e w2 ⟨A2, c2, rfl, ho2, hb2⟩) | (go_at_call 66; refine (ConT.out _ _ _ (bstep hb1 hb2) (RdT.of_own ho2)).mono ?_; rintro e w3 ⟨A3, c3, rfl, ho3, hb3⟩))
          go_ret2
          exact ⟨rfl, bstep (bstep hb1 hb2) hb3⟩
      · have hle' : ((us.length : Int) == (ts.length : Int)) = false := by rw [beq_eq_false_iff_ne]; omega
        have HD := Lib.hid (decide_eq_false (fun e => hle (hiff.1 e).1) : decide (sortL us = sortL ts) = false)
        rw [HD.out]
        clear hiff hle
        go_enter Try.func29, Try.ntmps29
        go_wp2_with (first | (go_at_call 54; refine conH.out.mono ?_; rintro e w1 ⟨rfl, hb1⟩) | (go_at_call 65; refine (ConC.out _ hb1).mono ?_; rintro e w2 ⟨A2, c2, rfl, ho2, hb2⟩))
        go_ret2
        exact ⟨rfl, bstep hb1 hb2⟩
    · have h1' : chainB xs = false := by simpa using h1
      have hwv : wholeV ts xs = false := by simp [wholeV, h1']
      rw [hwv, h]
      simp only [h1'] at conC
      have ConC := Lib.hid conC
      clear conC hwv hr hr' h1
      go_enter Try.func29, Try.ntmps29
      go_wp2_with (first | (go_at_call 54; refine conH.out.mono ?_; rintro e w1 ⟨rfl, hb1⟩) | (go_at_call 65; refine (ConC.out _ hb1).mono ?_; rintro e w2 ⟨A2, c2, rfl, ho2, hb2⟩))
      go_ret2
      exact ⟨rfl, bstep hb1 hb2⟩
  · have h' : handB ts = false := by simpa using h
    have hwv : wholeV ts xs = false := by simp [wholeV, h']
    rw [hwv, h']
    clear h hr hr' hwv
    go_enter Try.func29, Try.ntmps29
    go_wp2_with (go_at_call 54; refine conH.out.mono ?_; rintro e w1 ⟨rfl, hb1⟩)
    go_ret2
    exact ⟨rfl, hb1⟩

set_option maxRecDepth 100000 in
set_option maxHeartbeats 2000000 in
theorem c_implIsWhole (A : Option Addr) (c : Nat) (ts : List (Int × Int)) (A' : Option Addr) (c' : Nat) (xs : List Int) (w : World) (hr : RdT w A ts) (hl : ts.length ≤ 1048576) (hr' : RdI w A' xs) (hl' : xs.length ≤ 1048576) :
    Calls Try.prog 31 #[.slice A ts.length c, .slice A' xs.length c'] w fun e w' => e = .returned (.tuple #[.bool (wholeV ts xs), .bool (handB ts)]) ∧ Below w.heap.size w w' := by
  have conS := c_implSortHand A c ts w hr hl
  by_cases h : handB ts = true
  · have es : sortHL ts = sortL ts := by simp [sortHL, h]
    rw [es, h] at conS
    have conC := fun W (hb : Below w.heap.size w W) => c_implTiles A' c' xs W (hr'.below hb) hl'
    by_cases h1 : chainB xs = true
    · have hW : tilesHL xs = tilesC xs := by simp [tilesHL, h1]
      have hlen : (tilesC xs).length ≤ xs.length := by rw [tilesC_len]; omega
      have hx56 := (chain_len h1).2
      have hu := chain_hand h1
      have hwv : wholeV ts xs = decide (sortL (tilesC xs) = sortL ts) := by simp [wholeV, h, h1]
      rw [hwv, h]
      simp only [hW, h1] at conC
      obtain ⟨us, hus⟩ : ∃ us, us = tilesC xs := ⟨_, rfl⟩
      rw [← hus] at hlen hu ⊢
      simp only [← hus] at conC
      have es2 : sortHL us = sortL us := by simp [sortHL, hu]
      have conS2 := fun W A3 c3 (h3 : RdT W A3 us) => c_implSortHand A3 c3 us W h3 (by omega)
      simp only [es2, hu] at conS2
      have l1 := sortL_len ts
      have l2 := sortL_len us
      have ConS := Lib.hid conS
      have ConC := Lib.hid conC
      have ConS2 := Lib.hid conS2
      clear conS conC conS2 hwv hW hu hus hr hr' h1 es es2
      obtain ⟨ss, hss⟩ : ∃ ss, ss = sortL ts := ⟨_, rfl⟩
      obtain ⟨su, hsu⟩ : ∃ su, su = sortL us := ⟨_, rfl⟩
      rw [← hss] at l1 ConS ⊢
      rw [← hsu] at l2 ConS2 ⊢
      clear hss hsu
      go_enter Try.func31, Try.ntmps31
      go_wp2_with (first | (go_at_call_of 67 (Value.slice A ts.length c); refine ConS.out.mono ?_; rintro e w1 ⟨A1, c1, rfl, ho1, hb1⟩) | (go_at_call 68; refine (ConC.out _ hb1).mono ?_; rintro e w2 ⟨A2, c2, rfl, ho2, hb2⟩) | (go_at_call 67; refine (ConS2.out _ _ _ (RdT.of_own ho2)).mono ?_; rintro e w3 ⟨A3, c3, rfl, ho3, hb3⟩) | (go_at_call 69; refine (c_slicesEqual _ _ _ _ su ss _ (RdT.of_own ho3) (RdT.of_own (own_keep (own_keep ho1 hb2) hb3)) (by omega) (by omega)).mono ?_; rintro e w4 ⟨rfl, hb4⟩))
      go_ret2
      exact ⟨rfl, bstep (bstep (bstep hb1 hb2) hb3) hb4⟩
    · have h1' : chainB xs = false := by simpa using h1
      have hwv : wholeV ts xs = false := by simp [wholeV, h1']
      rw [hwv, h]
      simp only [h1'] at conC
      have ConS := Lib.hid conS
      have ConC := Lib.hid conC
      clear conC conS hwv hr hr' h1 es
      go_enter Try.func31, Try.ntmps31
      go_wp2_with (first | (go_at_call 67; refine ConS.out.mono ?_; rintro e w1 ⟨A1, c1, rfl, ho1, hb1⟩) | (go_at_call 68; refine (ConC.out _ hb1).mono ?_; rintro e w2 ⟨A2, c2, rfl, ho2, hb2⟩))
      go_ret2
      exact ⟨rfl, bstep hb1 hb2⟩
  · have h' : handB ts = false := by simpa using h
    have hwv : wholeV ts xs = false := by simp [wholeV, h']
    rw [h'] at conS
    rw [hwv, h']
    have ConS := Lib.hid conS
    clear h hr hr' hwv conS
    go_enter Try.func31, Try.ntmps31
    go_wp2_with (go_at_call 67; refine ConS.out.mono ?_; rintro e w1 ⟨A1, c1, rfl, ho1, hb1⟩)
    go_ret2
    exact ⟨rfl, hb1⟩

end Go.Proofs.Yteiiiceajpmndaa

/- Whether there is a whole chain, or a whole ring: one part at most, two odd numbers at most, or none. -/
import Derived.Test.YtcofambcicnonaaImpParts
import Derived.Test.YtcofambcicnonaaOdd
namespace Go.Proofs.Ytcofambcicnonaa
open Go.RowKit
set_option linter.unusedVariables false

def canB (p o : Nat) (ring : Bool) : Bool := decide (p ≤ 1) && decide (o ≤ if ring then 0 else 2)
def canV (ts : List (Int × Int)) (ring : Bool) : Bool := canB (partsL ts).length (oddTo ts 10).length ring
def canHV (ts : List (Int × Int)) (ring : Bool) : Bool := handB ts && canV ts ring

set_option maxRecDepth 100000 in
set_option maxHeartbeats 4000000 in
theorem c_whCan (A : Option Addr) (c : Nat) (ts : List (Int × Int)) (ring : Bool) (w : World) (hr : RdT w A ts) (hl : ts.length ≤ 1048576) (hg : ∀ t ∈ ts, goodB t.1 t.2 = true) :
    Calls Try.prog 29 #[.slice A ts.length c, .bool ring] w fun e w' => e = .returned (.bool (canV ts ring)) ∧ Below w.heap.size w w' := by
  have conO := c_whOdd A c ts w hr hl
  have conP := fun W (hb : Below w.heap.size w W) => c_whParts A c ts W (hr.below hb) hl hg
  have hev := odd_even hg
  have hol := oddTo_len ts 10
  unfold canV
  obtain ⟨os, hos⟩ : ∃ os, os = oddTo ts 10 := ⟨_, rfl⟩
  obtain ⟨ps, hps⟩ : ∃ ps, ps = partsL ts := ⟨_, rfl⟩
  rw [← hos] at conO hev hol ⊢
  simp only [← hps] at conP
  rw [← hps]
  have ConO := Lib.hid conO
  have ConP := Lib.hid conP
  clear conO conP hr hg hos hps
  by_cases hp : ps.length ≤ 1
  · have hp' : (ps.length : Int) ≤ 1 := by omega
    by_cases h0 : os.length = 0
    · have q0 : ((os.length : Int) == 0) = true := by simp [h0]
      have HD := Lib.hid (show canB ps.length os.length ring = true by simp [canB, hp, h0])
      rw [HD.out]
      clear hp h0 hev
      go_enter Try.func29, Try.ntmps29
      go_wp2_with (first | (go_at_call 45; refine ConO.out.mono ?_; rintro e w1 ⟨A1, c1, rfl, ho1, hb1⟩) | (go_at_call 31; refine (ConP.out _ hb1).mono ?_; rintro e w2 ⟨A2, c2, rfl, ho2, hb2⟩))
      go_ret
      exact ⟨rfl, bstep hb1 hb2⟩
    · have q0 : ((os.length : Int) == 0) = false := by rw [beq_eq_false_iff_ne]; omega
      by_cases h2 : os.length = 2
      · have q2 : ((os.length : Int) == 2) = true := by simp [h2]
        cases ring
        all_goals
          first
            | (have HD := Lib.hid (show canB ps.length os.length true = false by simp [canB, h2]); rw [HD.out])
            | (have HD := Lib.hid (show canB ps.length os.length false = true by simp [canB, hp, h2]); rw [HD.out])
          clear hp h0 h2 hev
          go_enter Try.func29, Try.ntmps29
          go_wp2_with (first | (go_at_call 45; refine ConO.out.mono ?_; rintro e w1 ⟨A1, c1, rfl, ho1, hb1⟩) | (go_at_call 31; refine (ConP.out _ hb1).mono ?_; rintro e w2 ⟨A2, c2, rfl, ho2, hb2⟩))
          go_ret
          exact ⟨rfl, bstep hb1 hb2⟩
      · have q2 : ((os.length : Int) == 2) = false := by rw [beq_eq_false_iff_ne]; omega
        have HD := Lib.hid (show canB ps.length os.length ring = false by
          unfold canB
          rw [Bool.and_eq_false_iff]
          right
          cases ring
          · exact decide_eq_false (by show ¬ os.length ≤ 2; omega)
          · exact decide_eq_false (by show ¬ os.length ≤ 0; omega))
        rw [HD.out]
        clear hp h0 h2 hev
        go_enter Try.func29, Try.ntmps29
        go_wp2_with (first | (go_at_call 45; refine ConO.out.mono ?_; rintro e w1 ⟨A1, c1, rfl, ho1, hb1⟩) | (go_at_call 31; refine (ConP.out _ hb1).mono ?_; rintro e w2 ⟨A2, c2, rfl, ho2, hb2⟩))
        go_ret
        exact ⟨rfl, bstep hb1 hb2⟩
  · have hp' : ¬ (ps.length : Int) ≤ 1 := by omega
    have HD := Lib.hid (show canB ps.length os.length ring = false by simp [canB, hp])
    rw [HD.out]
    clear hp hev
    go_enter Try.func29, Try.ntmps29
    go_wp2_with (first | (go_at_call 45; refine ConO.out.mono ?_; rintro e w1 ⟨A1, c1, rfl, ho1, hb1⟩) | (go_at_call 31; refine (ConP.out _ hb1).mono ?_; rintro e w2 ⟨A2, c2, rfl, ho2, hb2⟩))
    go_ret
    exact ⟨rfl, bstep hb1 hb2⟩

set_option maxRecDepth 100000 in
set_option maxHeartbeats 4000000 in
theorem c_fewOdd (A : Option Addr) (c : Nat) (ts : List (Int × Int)) (m : Nat) (w : World) (hr : RdT w A ts) (hl : ts.length ≤ 1048576) :
    Calls Try.prog 37 #[.slice A ts.length c, .int .i64 (m : Int)] w fun e w' => e = .returned (.tuple #[.bool (handB ts && (decide ((partsL ts).length ≤ 1) && decide ((oddTo ts 10).length ≤ m))), .bool (handB ts)]) ∧ Below w.heap.size w w' := by
  have conP := c_implParts A c ts w hr hl
  by_cases h : handB ts = true
  · have conO := fun W (hb : Below w.heap.size w W) => c_implOdd A c ts W (hr.below hb) hl
    have e1 : partsHL ts = partsL ts := by simp [partsHL, h]
    have e2 : oddHL ts = oddTo ts 10 := by simp [oddHL, h]
    rw [e1, h] at conP
    simp only [e2, h] at conO
    rw [h, Bool.true_and]
    obtain ⟨os, hos⟩ : ∃ os, os = oddTo ts 10 := ⟨_, rfl⟩
    obtain ⟨ps, hps⟩ : ∃ ps, ps = partsL ts := ⟨_, rfl⟩
    rw [← hps] at conP ⊢
    simp only [← hos] at conO
    rw [← hos]
    have ConO := Lib.hid conO
    have ConP := Lib.hid conP
    clear conO conP hr hos hps e1 e2 h
    by_cases hp : ps.length ≤ 1
    · have hp' : (ps.length : Int) ≤ 1 := by omega
      have HD := Lib.hid (show (decide (ps.length ≤ 1) && decide (os.length ≤ m)) = decide (os.length ≤ m) by simp [hp])
      rw [HD.out]
      clear hp
      go_enter Try.func37, Try.ntmps37
      go_wp2_with (first | (go_at_call 32; refine ConP.out.mono ?_; rintro e w1 ⟨A1, c1, rfl, ho1, hb1⟩) | (go_at_call 43; refine (ConO.out _ hb1).mono ?_; rintro e w2 ⟨A2, c2, rfl, ho2, hb2⟩))
      go_ret2
      exact ⟨rfl, bstep hb1 hb2⟩
    · have hp' : ¬ (ps.length : Int) ≤ 1 := by omega
      have HD := Lib.hid (show (decide (ps.length ≤ 1) && decide (os.length ≤ m)) = false by simp [hp])
      rw [HD.out]
      clear hp
      go_enter Try.func37, Try.ntmps37
      go_wp2_with (first | (go_at_call 32; refine ConP.out.mono ?_; rintro e w1 ⟨A1, c1, rfl, ho1, hb1⟩) | (go_at_call 43; refine (ConO.out _ hb1).mono ?_; rintro e w2 ⟨A2, c2, rfl, ho2, hb2⟩))
      go_ret2
      exact ⟨rfl, bstep hb1 hb2⟩
  · have h' : handB ts = false := by simpa using h
    rw [h'] at conP
    rw [h', Bool.false_and]
    have ConP := Lib.hid conP
    clear h hr conP
    go_enter Try.func37, Try.ntmps37
    go_wp2_with (go_at_call 32; refine ConP.out.mono ?_; rintro e w1 ⟨A1, c1, rfl, ho1, hb1⟩)
    go_ret2
    exact ⟨rfl, hb1⟩

set_option maxHeartbeats 1000000 in
theorem c_implCanChain (A : Option Addr) (c : Nat) (ts : List (Int × Int)) (w : World) (hr : RdT w A ts) (hl : ts.length ≤ 1048576) :
    Calls Try.prog 25 #[.slice A ts.length c] w fun e w' => e = .returned (.tuple #[.bool (canHV ts false), .bool (handB ts)]) ∧ Below w.heap.size w w' := by
  have con := c_fewOdd A c ts 2 w hr hl
  have e1 : (handB ts && (decide ((partsL ts).length ≤ 1) && decide ((oddTo ts 10).length ≤ 2))) = canHV ts false := by simp [canHV, canV, canB]
  rw [e1] at con
  have Con := Lib.hid con
  clear con hr e1
  go_enter Try.func25, Try.ntmps25
  go_wp2_with (go_at_call 37; refine Con.out.mono ?_; rintro e w1 ⟨rfl, hb1⟩)
  go_ret2
  exact ⟨rfl, hb1⟩

set_option maxHeartbeats 1000000 in
theorem c_implCanRing (A : Option Addr) (c : Nat) (ts : List (Int × Int)) (w : World) (hr : RdT w A ts) (hl : ts.length ≤ 1048576) :
    Calls Try.prog 30 #[.slice A ts.length c] w fun e w' => e = .returned (.tuple #[.bool (canHV ts true), .bool (handB ts)]) ∧ Below w.heap.size w w' := by
  have con := c_fewOdd A c ts 0 w hr hl
  have e1 : (handB ts && (decide ((partsL ts).length ≤ 1) && decide ((oddTo ts 10).length ≤ 0))) = canHV ts true := by simp [canHV, canV, canB]
  rw [e1] at con
  have Con := Lib.hid con
  clear con hr e1
  go_enter Try.func30, Try.ntmps30
  go_wp2_with (go_at_call 37; refine Con.out.mono ?_; rintro e w1 ⟨rfl, hb1⟩)
  go_ret2
  exact ⟨rfl, hb1⟩

end Go.Proofs.Ytcofambcicnonaa

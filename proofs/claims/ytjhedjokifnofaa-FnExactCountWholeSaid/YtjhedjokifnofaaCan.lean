/- Whether there is a whole chain, or a whole ring: one part at most, two odd numbers at most, or none. -/
import Derived.Test.YtjhedjokifnofaaImpParts
import Derived.Test.YtjhedjokifnofaaOdd
namespace Go.Proofs.Ytjhedjokifnofaa
open Go.RowKit
set_option linter.unusedVariables false

def canB (p o : Nat) (ring : Bool) : Bool := decide (p ≤ 1) && decide (o ≤ if ring then 0 else 2)
def canV (ts : List (Int × Int)) (ring : Bool) : Bool := canB (partsL ts).length (oddTo ts 10).length ring
def canHV (ts : List (Int × Int)) (ring : Bool) : Bool := handB ts && canV ts ring

set_option maxRecDepth 100000 in
set_option maxHeartbeats 4000000 in
theorem c_fewOdd (A : Option Addr) (c : Nat) (ts : List (Int × Int)) (m : Nat) (w : World) (hr : RdT w A ts) (hl : ts.length ≤ 1048576) :
    Calls Try.prog 82 #[.slice A ts.length c, .int .i64 (m : Int)] w fun e w' => e = .returned (.tuple #[.bool (handB ts && (decide ((partsL ts).length ≤ 1) && decide ((oddTo ts 10).length ≤ m))), .bool (handB ts)]) ∧ Below w.heap.size w w' := by
  have conP := c_implParts A c ts w hr hl
  by_cases h : handB ts = true
  · have conO := fun W (hb : Below w.heap.size w W) => c_implOdd A c ts W (hr.below hb) hl
    have e1 : partsHL ts = partsL ts := by simp [partsHL, h]
    have e2 : oddHL ts = oddTo ts 10 := by simp [oddHL, h]
    rw [e1, h] at conP
    simp only [e2, h] at conO
    rw [h, Bool.true_and]
    obtain ⟨os, hos⟩ : ∃ os, os = oddTo ts 10 := ⟨_, rfl⟩
    obtain ⟨ps, hps⟩ : ∃ ps, ps = partsL ts := ⟨_, rfl⟩
    rw [← hps] at conP ⊢
    simp only [← hos] at conO
    rw [← hos]
    have ConO := Lib.hid conO
    have ConP := Lib.hid conP
    clear conO conP hr hos hps e1 e2 h
    by_cases hp : ps.length ≤ 1
    · have hp' : (ps.length : Int) ≤ 1 := by omega
      have HD := Lib.hid (show (decide (ps.length ≤ 1) && decide (os.length ≤ m)) = decide (os.length ≤ m) by simp [hp])
      rw [HD.out]
      clear hp
      go_enter Try.func82, Try.ntmps82
      go_wp2_with (first | (go_at_call 83; refine ConP.out.mono ?_; rintro e w1 ⟨A1, c1, rfl, ho1, hb1⟩) | (go_at_call 84; refine (ConO.out _ hb1).mono ?_; rintro e w2 ⟨A2, c2, rfl, ho2, hb2⟩))
      go_ret2
      exact ⟨rfl, bstep hb1 hb2⟩
    · have hp' : ¬ (ps.length : Int) ≤ 1 := by omega
      have HD := Lib.hid (show (decide (ps.length ≤ 1) && decide (os.length ≤ m)) = false by simp [hp])
      rw [HD.out]
      clear hp
      go_enter Try.func82, Try.ntmps82
      go_wp2_with (first | (go_at_call 83; refine ConP.out.mono ?_; rintro e w1 ⟨A1, c1, rfl, ho1, hb1⟩) | (go_at_call 84; refine (ConO.out _ hb1).mono ?_; rintro e w2 ⟨A2, c2, rfl, ho2, hb2⟩))
      go_ret2
      exact ⟨rfl, bstep hb1 hb2⟩
  · have h' : handB ts = false := by simpa using h
    rw [h'] at conP
    rw [h', Bool.false_and]
    have ConP := Lib.hid conP
    clear h hr conP
    go_enter Try.func82, Try.ntmps82
    go_wp2_with (go_at_call 83; refine ConP.out.mono ?_; rintro e w1 ⟨A1, c1, rfl, ho1, hb1⟩)
    go_ret2
    exact ⟨rfl, hb1⟩

set_option maxHeartbeats 1000000 in
theorem c_implCanChain (A : Option Addr) (c : Nat) (ts : List (Int × Int)) (w : World) (hr : RdT w A ts) (hl : ts.length ≤ 1048576) :
    Calls Try.prog 71 #[.slice A ts.length c] w fun e w' => e = .returned (.tuple #[.bool (canHV ts false), .bool (handB ts)]) ∧ Below w.heap.size w w' := by
  have con := c_fewOdd A c ts 2 w hr hl
  have e1 : (handB ts && (decide ((partsL ts).length ≤ 1) && decide ((oddTo ts 10).length ≤ 2))) = canHV ts false := by simp [canHV, canV, canB]
  rw [e1] at con
  have Con := Lib.hid con
  clear con hr e1
  go_enter Try.func71, Try.ntmps71
  go_wp2_with (go_at_call 82; refine Con.out.mono ?_; rintro e w1 ⟨rfl, hb1⟩)
  go_ret2
  exact ⟨rfl, hb1⟩

end Go.Proofs.Ytjhedjokifnofaa

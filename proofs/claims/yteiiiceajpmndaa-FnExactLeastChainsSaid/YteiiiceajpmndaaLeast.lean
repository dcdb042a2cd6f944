/- The fewest chains that use each tile once. -/
import Derived.Test.YteiiiceajpmndaaCan
import Derived.Test.YteiiiceajpmndaaChain
namespace Go.Proofs.Yteiiiceajpmndaa
open Go.RowKit
set_option linter.unusedVariables false

/-- What one part asks for. -/
def oneL (p : List (Int × Int)) : Int := max 1 (((oddTo p 10).length / 2 : Nat) : Int)
def sumC (pss : List (List (Int × Int))) (k : Nat) : Int := ((pss.take k).map oneL).sum
theorem sumC_step {pss : List (List (Int × Int))} {k : Nat} (h : k < pss.length) : sumC pss (k + 1) = sumC pss k + oneL pss[k] := by
  unfold sumC
  rw [List.take_succ_eq_append_getElem h, List.map_append, List.sum_append]
  simp
theorem oneL_bd (p : List (Int × Int)) : 1 ≤ oneL p ∧ oneL p ≤ 5 := by
  unfold oneL
  have := oddTo_len p 10
  omega
theorem sumC_bd (pss : List (List (Int × Int))) : ∀ k, k ≤ pss.length → 0 ≤ sumC pss k ∧ sumC pss k ≤ 5 * k
  | 0, _ => by simp [sumC]
  | k + 1, h => by
    have h1 := sumC_bd pss k (by omega)
    have h2 := oneL_bd (pss[k]'(by omega))
    rw [sumC_step (by omega)]
    omega
def leastCV (ts : List (Int × Int)) : Int := if handB ts then sumC (partsL ts) (partsL ts).length else 0
theorem tdiv2 (n : Nat) : (n : Int).tdiv 2 = ((n / 2 : Nat) : Int) := by
  rw [Int.tdiv_eq_ediv_of_nonneg (by omega)]; omega
/-- Each part is a hand. -/
theorem part_hand {ts : List (Int × Int)} (h : handB ts = true) : ∀ p ∈ partsL ts, handB p = true := by
  intro p hp
  unfold partsL partsTo at hp
  obtain ⟨i, _, rfl⟩ := List.mem_map.1 (List.mem_filter.1 hp).1
  have hg := (handB_good h).2
  have g : ∀ t ∈ partAt ts (i : Int), goodB t.1 t.2 = true := fun t ht => hg t ((mem_sortL hg t).1 (List.mem_filter.1 ht).1)
  have n : (partAt ts (i : Int)).Nodup := by
    have hs : (partAt ts (i : Int)).Pairwise ltT := (pickL_sorted ts true).filter _
    exact hs.imp (fun {a b} hab e => by subst e; simp [ltT] at hab)
  exact decide_eq_true ⟨good_len g n, g, n⟩

set_option maxRecDepth 100000 in
set_option maxHeartbeats 4000000 in
theorem c_specLeastChains (A : Option Addr) (c : Nat) (ts : List (Int × Int)) (w : World) (hr : RdT w A ts) (hl : ts.length ≤ 1048576) (hcap : ts.length ≤ c) :
    Calls Try.prog 41 #[.slice A ts.length c] w fun e w' => e = .returned (.tuple #[.int .i64 (leastCV ts), .bool (handB ts)]) ∧ Below w.heap.size w w' := by
  have conH := Lib.hid (c_tiHand A c ts w hr (by omega) hcap)
  by_cases h : handB ts = true
  · have e1 : leastCV ts = sumC (partsL ts) (partsL ts).length := by simp [leastCV, h]
    have conP := fun W (hb : Below w.heap.size w W) => c_whParts A c ts W (hr.below hb) hl (handB_good h).2
    have hpl := partsTo_len ts 10
    have hph := part_hand h
    rw [e1, h]
    unfold partsL at e1 conP hph ⊢
    obtain ⟨ps, hps⟩ : ∃ ps, ps = partsTo ts 10 := ⟨_, rfl⟩
    simp only [← hps] at conP
    rw [← hps] at hpl hph ⊢
    have ConP := Lib.hid conP
    have Hph := Lib.hid hph
    clear conP hr e1 hps hph
    go_enter Try.func41, Try.ntmps41
    go_wp2_with (first | (go_at_call 54; refine conH.out.mono ?_; rintro e w1 ⟨rfl, hb1⟩) | (go_at_call 70; refine (ConP.out _ hb1).mono ?_; rintro e w2 ⟨A2, c2, rfl, ho2, hb2⟩))
    have hru := rdTT_of ho2
    have hb12 := bstep hb1 hb2
    clear conH ConP ho2 hb1 hb2
    go_loopw [4, 13] (fun v i wr => ∃ k : Nat, k ≤ ps.length ∧ i = .int .i64 k ∧ v = .int .i64 (sumC ps k) ∧ Below w2.heap.size w2 wr) (fun _ i _ => ps.length - (intOf i).toNat)
    case atStart => exact ⟨0, Nat.zero_le _, rfl, rfl, Below.refl _ _⟩
    case round =>
      obtain ⟨k, hk, rfl, rfl, hb⟩ := hrel
      have hsb := sumC_bd ps k hk
      by_cases hlt : k < ps.length
      · obtain ⟨b, off, B, d, ha, hc⟩ := hru
        obtain rfl := ha (by rintro rfl; simp at hlt)
        have g1 := keepc hb (hc k hlt).1
        have hrk := ((hc k hlt).2).below hb
        have hst := sumC_step hlt
        have e0 : ps.getD k [] = ps[k] := by simp [hlt]
        have hh := Hph.out _ (List.getElem_mem hlt)
        unfold rowV at g1
        rw [e0] at g1 hrk
        obtain ⟨p, hp⟩ : ∃ p, p = ps[k] := ⟨_, rfl⟩
        rw [← hp] at g1 hrk hst hh
        have hone := oneL_bd p
        have hp55 := (handB_good hh).1
        have con := c_whOdd (B k) (d k) p wr hrk (by omega)
        have hol := oddTo_len p 10
        have hqe : max (1 : Int) (((oddTo p 10).length : Int) / 2) = oneL p := by unfold oneL; omega
        obtain ⟨os, hos⟩ : ∃ os, os = oddTo p 10 := ⟨_, rfl⟩
        rw [← hos] at con hol hqe
        have Con := Lib.hid con
        have Hqe := Lib.hid hqe
        have Hst := Lib.hid hst
        have Hb := Lib.hid hb
        have i0 : (0 : Int) ≤ (k : Int) := by omega
        have i1 : (k : Int) < (ps.length : Int) := by omega
        clear hc con hqe hst hb hos hrk hh hp e0 ha
        go_wp2_with (first | (go_at_call 55; refine Con.out.mono ?_; rintro e w3 ⟨A3, c3, rfl, ho3, hb3⟩) | (go_at_call 74; refine (c_l1Most _ _ _).mono ?_; rw [Hqe.out]; rintro e w4 ⟨rfl, rfl⟩))
        go_roundw
        case rel => exact ⟨k + 1, by omega, by go_num, by rw [Hst.out], bstep Hb.out hb3⟩
        case measure => simp [intOf]; omega
      · have : k = ps.length := by omega
        subst this
        go_wp2
        go_ret2
        exact ⟨rfl, bstep hb12 hb⟩
  · have h' : handB ts = false := by simpa using h
    have e1 : leastCV ts = 0 := by simp [leastCV, h']
    rw [e1, h']
    clear h hr e1
    go_enter Try.func41, Try.ntmps41
    go_wp2_with (go_at_call 54; refine conH.out.mono ?_; rintro e w1 ⟨rfl, hb1⟩)
    go_ret2
    exact ⟨rfl, hb1⟩

set_option maxRecDepth 100000 in
set_option maxHeartbeats 4000000 in
theorem c_implLeastChains (A : Option Addr) (c : Nat) (ts : List (Int × Int)) (w : World) (hr : RdT w A ts) (hl : ts.length ≤ 1048576) :
    Calls Try.prog 42 #[.slice A ts.length c] w fun e w' => e = .returned (.tuple #[.int .i64 (leastCV ts), .bool (handB ts)]) ∧ Below w.heap.size w w' := by
  have conP := c_implParts A c ts w hr hl
  by_cases h : handB ts = true
  · have e1 : leastCV ts = sumC (partsL ts) (partsL ts).length := by simp [leastCV, h]
    have e2 : partsHL ts = partsL ts := by simp [partsHL, h]
    rw [e2, h] at conP
    have hpl := partsTo_len ts 10
    have hph := part_hand h
    rw [e1, h]
    unfold partsL at e1 conP hph ⊢
    obtain ⟨ps, hps⟩ : ∃ ps, ps = partsTo ts 10 := ⟨_, rfl⟩
    rw [← hps] at hpl hph conP ⊢
    have ConP := Lib.hid conP
    have Hph := Lib.hid hph
    clear conP hr e1 e2 hps hph
    go_enter Try.func42, Try.ntmps42
    go_wp2_with (go_at_call 33; refine ConP.out.mono ?_; rintro e w2 ⟨A2, c2, rfl, ho2, hb12⟩)
    have hru := rdTT_of ho2
    clear ConP ho2
    go_loopw [6, 20] (fun v i wr => ∃ k : Nat, k ≤ ps.length ∧ i = .int .i64 k ∧ v = .int .i64 (sumC ps k) ∧ Below w2.heap.size w2 wr) (fun _ i _ => ps.length - (intOf i).toNat)
    case atStart => exact ⟨0, Nat.zero_le _, rfl, rfl, Below.refl _ _⟩
    case round =>
      obtain ⟨k, hk, rfl, rfl, hb⟩ := hrel
      have hsb := sumC_bd ps k hk
      by_cases hlt : k < ps.length
      · obtain ⟨b, off, B, d, ha, hc⟩ := hru
        obtain rfl := ha (by rintro rfl; simp at hlt)
        have g1 := keepc hb (hc k hlt).1
        have hrk := ((hc k hlt).2).below hb
        have hst := sumC_step hlt
        have e0 : ps.getD k [] = ps[k] := by simp [hlt]
        have hh := Hph.out _ (List.getElem_mem hlt)
        unfold rowV at g1
        rw [e0] at g1 hrk
        obtain ⟨p, hp⟩ : ∃ p, p = ps[k] := ⟨_, rfl⟩
        rw [← hp] at g1 hrk hst hh
        have hone := oneL_bd p
        have hp55 := (handB_good hh).1
        have con := c_implOdd (B k) (d k) p wr hrk (by omega)
        have e3 : oddHL p = oddTo p 10 := by simp [oddHL, hh]
        rw [e3, hh] at con
        have hol := oddTo_len p 10
        have hqe : max (1 : Int) (((oddTo p 10).length : Int) / 2) = oneL p := by unfold oneL; omega
        obtain ⟨os, hos⟩ : ∃ os, os = oddTo p 10 := ⟨_, rfl⟩
        rw [← hos] at con hol hqe
        have Con := Lib.hid con
        have Hqe := Lib.hid hqe
        have Hst := Lib.hid hst
        have Hb := Lib.hid hb
        have i0 : (0 : Int) ≤ (k : Int) := by omega
        have i1 : (k : Int) < (ps.length : Int) := by omega
        clear hc con hst hb hos hrk hh hp e0 e3 ha
        go_wp2_with (first | (go_at_call 18; refine Con.out.mono ?_; rintro e w3 ⟨A3, c3, rfl, ho3, hb3⟩))
        go_roundw
        case rel =>
          refine ⟨k + 1, by omega, by go_num, ?_, bstep Hb.out hb3⟩
          rw [Hst.out, ← Hqe.out]
        case measure => simp [intOf]; omega
      · have : k = ps.length := by omega
        subst this
        go_wp2
        go_ret2
        exact ⟨rfl, bstep hb12 hb⟩
  · have h' : handB ts = false := by simpa using h
    have e1 : leastCV ts = 0 := by simp [leastCV, h']
    rw [h'] at conP
    rw [e1, h']
    have ConP := Lib.hid conP
    clear h hr e1 conP
    go_enter Try.func42, Try.ntmps42
    go_wp2_with (go_at_call 33; refine ConP.out.mono ?_; rintro e w2 ⟨A2, c2, rfl, ho2, hb12⟩)
    go_ret2
    exact ⟨rfl, hb12⟩

end Go.Proofs.Yteiiiceajpmndaa

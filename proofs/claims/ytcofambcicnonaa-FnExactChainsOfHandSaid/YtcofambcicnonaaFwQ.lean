/- The fewest chains that use each tile once. The first whole chains of all parts of a hand, both sides. -/
import Derived.Test.YtcofambcicnonaaCan
import Derived.Test.YtcofambcicnonaaChain
import Derived.Test.YtcofambcicnonaaFwP
namespace Go.Proofs.Ytcofambcicnonaa
open Go.RowKit
set_option linter.unusedVariables false

/-- What one part asks for. -/
def oneL (p : List (Int × Int)) : Int := max 1 (((oddTo p 10).length / 2 : Nat) : Int)
def sumC (pss : List (List (Int × Int))) (k : Nat) : Int := ((pss.take k).map oneL).sum
theorem sumC_step {pss : List (List (Int × Int))} {k : Nat} (h : k < pss.length) : sumC pss (k + 1) = sumC pss k + oneL pss[k] := by
  unfold sumC
  rw [List.take_succ_eq_append_getElem h, List.map_append, List.sum_append]
  simp
theorem oneL_bd (p : List (Int × Int)) : 1 ≤ oneL p ∧ oneL p ≤ 5 := by
  unfold oneL
  have := oddTo_len p 10
  omega
theorem sumC_bd (pss : List (List (Int × Int))) : ∀ k, k ≤ pss.length → 0 ≤ sumC pss k ∧ sumC pss k ≤ 5 * k
  | 0, _ => by simp [sumC]
  | k + 1, h => by
    have h1 := sumC_bd pss k (by omega)
    have h2 := oneL_bd (pss[k]'(by omega))
    rw [sumC_step (by omega)]
    omega
def leastCV (ts : List (Int × Int)) : Int := if handB ts then sumC (partsL ts) (partsL ts).length else 0
theorem tdiv2 (n : Nat) : (n : Int).tdiv 2 = ((n / 2 : Nat) : Int) := by
  rw [Int.tdiv_eq_ediv_of_nonneg (by omega)]; omega
/-- Each part is a hand. -/
theorem part_hand {ts : List (Int × Int)} (h : handB ts = true) : ∀ p ∈ partsL ts, handB p = true := by
  intro p hp
  unfold partsL partsTo at hp
  obtain ⟨i, _, rfl⟩ := List.mem_map.1 (List.mem_filter.1 hp).1
  have hg := (handB_good h).2
  have g : ∀ t ∈ partAt ts (i : Int), goodB t.1 t.2 = true := fun t ht => hg t ((mem_sortL hg t).1 (List.mem_filter.1 ht).1)
  have n : (partAt ts (i : Int)).Nodup := by
    have hs : (partAt ts (i : Int)).Pairwise ltT := (pickL_sorted ts true).filter _
    exact hs.imp (fun {a b} hab e => by subst e; simp [ltT] at hab)
  exact decide_eq_true ⟨good_len g n, g, n⟩

end Go.Proofs.Ytcofambcicnonaa

namespace Go.Proofs.Ytcofambcicnonaa
open Go.RowKit
set_option linter.unusedVariables false

def cohTo (ps : List (List (Int × Int))) (k : Nat) : List (List Int) := (ps.take k).map fwL
theorem cohTo_step {ps : List (List (Int × Int))} {k : Nat} (h : k < ps.length) : cohTo ps (k + 1) = cohTo ps k ++ [fwL ps[k]] := by
  unfold cohTo
  rw [List.take_succ_eq_append_getElem h, List.map_append, List.map_singleton]
theorem cohTo_len (ps : List (List (Int × Int))) (k : Nat) : (cohTo ps k).length ≤ ps.length := by
  unfold cohTo
  rw [List.length_map, List.length_take]
  omega
def cohB (ps : List (List (Int × Int))) : Bool := ps.all fun p => canV p false
def cohR (ps : List (List (Int × Int))) : List (List Int) := if cohB ps then cohTo ps ps.length else []
theorem cohB_no {ps : List (List (Int × Int))} {k : Nat} (hk : k < ps.length) (h : canV ps[k] false = false) : cohB ps = false := by
  unfold cohB
  rw [Bool.eq_false_iff]
  intro ha
  have := List.all_eq_true.1 ha _ (List.getElem_mem hk)
  rw [h] at this
  cases this
theorem cohB_yes {ps : List (List (Int × Int))} (h : ∀ j (hj : j < ps.length), canV ps[j] false = true) : cohB ps = true := by
  unfold cohB
  rw [List.all_eq_true]
  intro p hp
  obtain ⟨j, hj, rfl⟩ := List.mem_iff_getElem.1 hp
  exact h j hj
theorem fwR_hand {P : List (Int × Int)} (h : handB P = true) : fwR P false = fwL P ∧ canHV P false = canV P false := by
  have e1 : canHV P false = canV P false := by simp [canHV, h]
  refine ⟨?_, e1⟩
  unfold fwR
  rw [e1]
  split
  · rfl
  · rename_i hc
    rw [← fwB_can h] at hc
    cases hs : startS P with
    | none => exact (fwL_none hs).symm
    | some x => rw [hs] at hc; simp at hc
theorem retII_nil (w w' : World) (h : Below w.heap.size w w') (ok : Bool) : RetII w [] ok (.returned (.tuple #[.slice none 0 0, .bool ok])) w' :=
  ⟨none, 0, rfl, OwnRR.nil _ _ _, h⟩
/-- What ChainsOfHand answers. -/
def cohL (P : List (Int × Int)) : List (List Int) := if handB P then cohR (partsL P) else []
def cohO (P : List (Int × Int)) : Bool := handB P && cohB (partsL P)
theorem cohL_bd (P : List (Int × Int)) : (cohL P).length ≤ 10 ∧ sumTo (cohL P) (cohL P).length ≤ 1100 := by
  have h1 : (cohL P).length ≤ 10 := by
    unfold cohL
    split
    · unfold cohR
      split
      · exact Nat.le_trans (cohTo_len _ _) (partsTo_len P 10)
      · simp
    · simp
  have h2 : ∀ xs ∈ cohL P, xs.length ≤ 110 := by
    intro xs hx
    unfold cohL at hx
    split at hx
    · rename_i hh
      unfold cohR at hx
      split at hx
      · unfold cohTo at hx
        obtain ⟨p, hp, rfl⟩ := List.mem_map.1 hx
        have hph := part_hand hh p (List.mem_of_mem_take hp)
        have := fwL_len p
        have hl : p.length ≤ 55 := (of_decide_eq_true hph : handP p).1
        omega
      · simp at hx
    · simp at hx
  have := sumTo_le h2 (cohL P).length
  omega

set_option maxRecDepth 100000 in
set_option maxHeartbeats 4000000 in
theorem c_specCoh (A : Option Addr) (c : Nat) (ts : List (Int × Int)) (w : World) (hr : RdT w A ts) (hl : ts.length ≤ 1048576) (hcap : ts.length ≤ c) :
    Calls Try.prog 17 #[.slice A ts.length c] w (RetII w (cohL ts) (cohO ts)) := by
  have conH := Lib.hid (c_tiHand A c ts w hr (by omega) hcap)
  by_cases h : handB ts = true
  · have e1 : cohL ts = cohR (partsL ts) := by simp [cohL, h]
    have e2 : cohO ts = cohB (partsL ts) := by simp [cohO, h]
    have conP := fun W (hb : Below w.heap.size w W) => c_whParts A c ts W (hr.below hb) hl (handB_good h).2
    have hpl : (partsL ts).length ≤ 10 := partsTo_len ts 10
    have hph := part_hand h
    rw [e1, e2]
    rw [h] at conH
    obtain ⟨ps, hps⟩ : ∃ ps, ps = partsL ts := ⟨_, rfl⟩
    simp only [← hps] at conP
    rw [← hps] at hpl hph ⊢
    have ConP := Lib.hid conP
    have Hph := Lib.hid hph
    clear conP hr e1 e2 hps hph h
    go_enter Try.func17, Try.ntmps17
    go_wp2_with (first | (go_at_call 22; refine conH.out.mono ?_; rintro e w1 ⟨rfl, hb1⟩) | (go_at_call 31; refine (ConP.out _ hb1).mono ?_; rintro e w2 ⟨A2, c2, rfl, ho2, hb2⟩))
    have hru := rdTT_of ho2
    have hb12 := bstep hb1 hb2
    clear conH ConP ho2 hb1 hb2
    go_loopw [4, 15] (fun v i wr => ∃ (k hi : Nat) (A' : Option Addr) (c' : Nat), k ≤ ps.length ∧ i = .int .i64 k ∧ v = .slice A' (cohTo ps k).length c' ∧ (∀ j (hj : j < ps.length), j < k → canV ps[j] false = true) ∧ OwnII wr w2.heap.size hi (.slice A' (cohTo ps k).length c') (cohTo ps k) ∧ w2.heap.size ≤ hi ∧ hi ≤ wr.heap.size ∧ Below w2.heap.size w2 wr) (fun _ i _ => ps.length - (intOf i).toNat)
    case atStart => exact ⟨0, w2.heap.size, none, 0, Nat.zero_le _, rfl, rfl, fun j _ hj => absurd hj (Nat.not_lt_zero j), OwnRR.nil _ _ _, Nat.le_refl _, Nat.le_refl _, Below.refl _ _⟩
    case round =>
      obtain ⟨k, hi, A', c', hk, rfl, rfl, hcan, hT, hlo, hhi, hb⟩ := hrel
      have hcl := cohTo_len ps k
      have hz := hb.size
      by_cases hlt : k < ps.length
      · obtain ⟨b, off, B, d, ha, hc⟩ := hru
        obtain rfl := ha (by rintro rfl; simp at hlt)
        have g1 := keepc hb (hc k hlt).1
        have hrk := ((hc k hlt).2).below hb
        have hst := cohTo_step hlt
        have e0 : ps.getD k [] = ps[k] := by simp [hlt]
        have hh := Hph.out _ (List.getElem_mem hlt)
        unfold rowV at g1
        rw [e0] at g1 hrk
        have hno := cohB_no hlt
        have hcan' : canV ps[k] false = true → ∀ j (hj : j < ps.length), j < k + 1 → canV ps[j] false = true := fun hck j hj hjk => by
          rcases Nat.lt_succ_iff_lt_or_eq.1 hjk with h' | rfl
          · exact hcan j hj h'
          · exact hck
        obtain ⟨p, hp⟩ : ∃ p, p = ps[k] := ⟨_, rfl⟩
        rw [← hp] at g1 hrk hst hh hno hcan'
        have con := c_whFirst (B k) (d k) p wr hrk hh
        obtain ⟨R, hR⟩ : ∃ R, R = fwL p := ⟨_, rfl⟩
        rw [← hR] at con hst
        obtain ⟨M, hM⟩ : ∃ M, M = cohTo ps k := ⟨_, rfl⟩
        rw [← hM] at hst hT hcl
        rw [← hM]
        have Hst := Lib.hid hst
        have Hb := Lib.hid hb
        have HT := Lib.hid hT
        have i0 : (0 : Int) ≤ (k : Int) := by omega
        have i1 : (k : Int) < (ps.length : Int) := by omega
        cases hck : canV p false with
        | true =>
          rw [hck] at con hcan'
          have Con := Lib.hid con
          have Hcan := Lib.hid (hcan' rfl)
          clear hc con hst hb hrk hh hp e0 ha hno hcan hcan' hT hck hR hM
          go_wp2_with (first | (go_at_call 23; refine Con.out.mono ?_; rintro e w3 ⟨A3, c3, rfl, ho3, hb3⟩; have hz3 := hb3.size; have HT2 := Lib.hid ((HT.out.below hb3 hhi).below (w' := w3.alloc (.cells #[.slice A3 R.length c3] 24)) (N := w3.heap.size) (by go_grown) (Nat.le_trans hhi hz3)); have Ho3 := Lib.hid (ho3.alloc (.cells #[.slice A3 R.length c3] 24))) | (at_builtin; refine wp_append_rowI rfl _ _ rfl w2.heap.size hi _ M rfl HT2.out wr.heap.size A3 c3 R Ho3.out hz hhi w3.heap.size rfl (by simp) (by omega) (by simp; omega) ?_; intro A4 c4 w4 hT4 hg4 hrow4; have HT4 := Lib.hid hT4; have Hg4 := Lib.hid hg4; clear hrow4 hT4 hg4))
          go_roundw
          case rel =>
            refine ⟨k + 1, w4.heap.size, A4, c4, by omega, by go_num, by rw [Hst.out, List.length_append]; rfl, Hcan.out, by rw [Hst.out]; exact HT4.out, ?_, Nat.le_refl _, ?_⟩
            · have := Hg4.out.size
              simp at this
              omega
            · have hb4 : Below w2.heap.size w2 w3 := Hb.out.trans (hb3.mono hz)
              have hz4 := hb4.size
              exact Below.grown (by go_grown) Hg4.out (by simp; omega) (fun g hg => (OwnRR.lt HT2.out g hg).1)
          case measure => simp [intOf]; omega
        | false =>
          rw [hck] at con
          have Con := Lib.hid con
          have hno' := hno hck
          have e5 : cohR ps = [] := by unfold cohR; rw [hno']; rfl
          have E5 := Lib.hid e5
          have E6 := Lib.hid hno'
          clear hc con hst hb hrk hh hp e0 ha hno hcan hcan' hT hck hR hM hno' e5
          go_wp2_with (go_at_call 23; refine Con.out.mono ?_; rintro e w3 ⟨A3, c3, rfl, ho3, hb3⟩)
          go_ret2
          rw [E5.out, E6.out]
          exact retII_nil w w3 (bstep (bstep hb12 Hb.out) hb3) false
      · have : k = ps.length := by omega
        subst this
        have e6 := cohB_yes (fun j hj => hcan j hj hj)
        have e5 : cohR ps = cohTo ps ps.length := by unfold cohR; rw [e6]; rfl
        have E5 := Lib.hid e5
        have E6 := Lib.hid e6
        have HT := Lib.hid hT
        clear hT e5 e6 hcan
        go_wp2
        go_ret2
        rw [E5.out, E6.out]
        exact ⟨A', c', rfl, HT.out.fit.base hb12.size, bstep hb12 hb⟩
  · have h' : handB ts = false := by simpa using h
    have e1 : cohL ts = [] := by simp [cohL, h']
    have e2 : cohO ts = false := by simp [cohO, h']
    rw [e1, e2]
    rw [h'] at conH
    clear h hr e1 e2
    go_enter Try.func17, Try.ntmps17
    go_wp2_with (go_at_call 22; refine conH.out.mono ?_; rintro e w1 ⟨rfl, hb1⟩)
    go_ret2
    exact retII_nil w w1 hb1 false

set_option maxRecDepth 100000 in
set_option maxHeartbeats 4000000 in
theorem c_implCoh (A : Option Addr) (c : Nat) (ts : List (Int × Int)) (w : World) (hr : RdT w A ts) (hl : ts.length ≤ 1048576) :
    Calls Try.prog 18 #[.slice A ts.length c] w (RetII w (cohL ts) (cohO ts)) := by
  have conP := c_implParts A c ts w hr hl
  by_cases h : handB ts = true
  · have e1 : cohL ts = cohR (partsL ts) := by simp [cohL, h]
    have e2 : cohO ts = cohB (partsL ts) := by simp [cohO, h]
    have e3 : partsHL ts = partsL ts := by simp [partsHL, h]
    have hpl : (partsL ts).length ≤ 10 := partsTo_len ts 10
    have hph := part_hand h
    rw [e1, e2]
    rw [e3, h] at conP
    obtain ⟨ps, hps⟩ : ∃ ps, ps = partsL ts := ⟨_, rfl⟩
    rw [← hps] at conP hpl hph ⊢
    have ConP := Lib.hid conP
    have Hph := Lib.hid hph
    clear conP hr e1 e2 e3 hps hph h
    go_enter Try.func18, Try.ntmps18
    go_wp2_with (go_at_call 32; refine ConP.out.mono ?_; rintro e w2 ⟨A2, c2, rfl, ho2, hb12⟩)
    have hru := rdTT_of ho2
    clear ConP ho2
    go_loopw [6, 20] (fun v i wr => ∃ (k hi : Nat) (A' : Option Addr) (c' : Nat), k ≤ ps.length ∧ i = .int .i64 k ∧ v = .slice A' (cohTo ps k).length c' ∧ (∀ j (hj : j < ps.length), j < k → canV ps[j] false = true) ∧ OwnII wr w2.heap.size hi (.slice A' (cohTo ps k).length c') (cohTo ps k) ∧ w2.heap.size ≤ hi ∧ hi ≤ wr.heap.size ∧ Below w2.heap.size w2 wr) (fun _ i _ => ps.length - (intOf i).toNat)
    case atStart => exact ⟨0, w2.heap.size, none, 0, Nat.zero_le _, rfl, rfl, fun j _ hj => absurd hj (Nat.not_lt_zero j), OwnRR.nil _ _ _, Nat.le_refl _, Nat.le_refl _, Below.refl _ _⟩
    case round =>
      obtain ⟨k, hi, A', c', hk, rfl, rfl, hcan, hT, hlo, hhi, hb⟩ := hrel
      have hcl := cohTo_len ps k
      have hz := hb.size
      by_cases hlt : k < ps.length
      · obtain ⟨b, off, B, d, ha, hc⟩ := hru
        obtain rfl := ha (by rintro rfl; simp at hlt)
        have g1 := keepc hb (hc k hlt).1
        have hrk := ((hc k hlt).2).below hb
        have hst := cohTo_step hlt
        have e0 : ps.getD k [] = ps[k] := by simp [hlt]
        have hh := Hph.out _ (List.getElem_mem hlt)
        unfold rowV at g1
        rw [e0] at g1 hrk
        have hno := cohB_no hlt
        have hcan' : canV ps[k] false = true → ∀ j (hj : j < ps.length), j < k + 1 → canV ps[j] false = true := fun hck j hj hjk => by
          rcases Nat.lt_succ_iff_lt_or_eq.1 hjk with h' | rfl
          · exact hcan j hj h'
          · exact hck
        obtain ⟨p, hp⟩ : ∃ p, p = ps[k] := ⟨_, rfl⟩
        rw [← hp] at g1 hrk hst hh hno hcan'
        have hp55 : p.length ≤ 55 := (of_decide_eq_true hh : handP p).1
        have con := c_implFWhole (B k) (d k) p wr hrk (by omega)
        rw [(fwR_hand hh).1, (fwR_hand hh).2] at con
        obtain ⟨R, hR⟩ : ∃ R, R = fwL p := ⟨_, rfl⟩
        rw [← hR] at con hst
        obtain ⟨M, hM⟩ : ∃ M, M = cohTo ps k := ⟨_, rfl⟩
        rw [← hM] at hst hT hcl
        rw [← hM]
        have Hst := Lib.hid hst
        have Hb := Lib.hid hb
        have HT := Lib.hid hT
        have i0 : (0 : Int) ≤ (k : Int) := by omega
        have i1 : (k : Int) < (ps.length : Int) := by omega
        cases hck : canV p false with
        | true =>
          rw [hck] at con hcan'
          have Con := Lib.hid con
          have Hcan := Lib.hid (hcan' rfl)
          clear hc con hst hb hrk hh hp e0 ha hno hcan hcan' hT hck hR hM
          go_wp2_with (first | (go_at_call 9; refine Con.out.mono ?_; rintro e w3 ⟨A3, c3, rfl, ho3, hb3⟩; have hz3 := hb3.size; have HT2 := Lib.hid ((HT.out.below hb3 hhi).below (w' := w3.alloc (.cells #[.slice A3 R.length c3] 24)) (N := w3.heap.size) (by go_grown) (Nat.le_trans hhi hz3)); have Ho3 := Lib.hid (ho3.alloc (.cells #[.slice A3 R.length c3] 24))) | (at_builtin; refine wp_append_rowI rfl _ _ rfl w2.heap.size hi _ M rfl HT2.out wr.heap.size A3 c3 R Ho3.out hz hhi w3.heap.size rfl (by simp) (by omega) (by simp; omega) ?_; intro A4 c4 w4 hT4 hg4 hrow4; have HT4 := Lib.hid hT4; have Hg4 := Lib.hid hg4; clear hrow4 hT4 hg4))
          go_roundw
          case rel =>
            refine ⟨k + 1, w4.heap.size, A4, c4, by omega, by go_num, by rw [Hst.out, List.length_append]; rfl, Hcan.out, by rw [Hst.out]; exact HT4.out, ?_, Nat.le_refl _, ?_⟩
            · have := Hg4.out.size
              simp at this
              omega
            · have hb4 : Below w2.heap.size w2 w3 := Hb.out.trans (hb3.mono hz)
              have hz4 := hb4.size
              exact Below.grown (by go_grown) Hg4.out (by simp; omega) (fun g hg => (OwnRR.lt HT2.out g hg).1)
          case measure => simp [intOf]; omega
        | false =>
          rw [hck] at con
          have Con := Lib.hid con
          have hno' := hno hck
          have e5 : cohR ps = [] := by unfold cohR; rw [hno']; rfl
          have E5 := Lib.hid e5
          have E6 := Lib.hid hno'
          clear hc con hst hb hrk hh hp e0 ha hno hcan hcan' hT hck hR hM hno' e5
          go_wp2_with (go_at_call 9; refine Con.out.mono ?_; rintro e w3 ⟨A3, c3, rfl, ho3, hb3⟩)
          go_ret2
          rw [E5.out, E6.out]
          exact retII_nil w w3 (bstep (bstep hb12 Hb.out) hb3) false
      · have : k = ps.length := by omega
        subst this
        have e6 := cohB_yes (fun j hj => hcan j hj hj)
        have e5 : cohR ps = cohTo ps ps.length := by unfold cohR; rw [e6]; rfl
        have E5 := Lib.hid e5
        have E6 := Lib.hid e6
        have HT := Lib.hid hT
        clear hT e5 e6 hcan
        go_wp2
        go_ret2
        rw [E5.out, E6.out]
        exact ⟨A', c', rfl, HT.out.fit.base hb12.size, bstep hb12 hb⟩
  · have h' : handB ts = false := by simpa using h
    have e1 : cohL ts = [] := by simp [cohL, h']
    have e2 : cohO ts = false := by simp [cohO, h']
    rw [e1, e2]
    rw [h'] at conP
    have Con := Lib.hid conP
    clear h hr e1 e2 conP
    go_enter Try.func18, Try.ntmps18
    go_wp2_with (go_at_call 32; refine Con.out.mono ?_; rintro e w1 ⟨A1, c1, rfl, ho1, hb1⟩)
    go_ret2
    exact retII_nil w w1 hb1 false

end Go.Proofs.Ytcofambcicnonaa

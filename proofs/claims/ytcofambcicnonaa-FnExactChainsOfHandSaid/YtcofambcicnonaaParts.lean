/- All parts of a hand: by the specification, group after group of what is left. -/
import Derived.Test.YtcofambcicnonaaReach
import Derived.Test.YtcofambcicnonaaNest
namespace Go.Proofs.Ytcofambcicnonaa
open Go.RowKit
set_option linter.unusedVariables false

def lenV : Value → Nat
  | .slice _ n _ => n
  | _ => 0

/-- All parts together have no more tiles than the set of 9. -/
theorem sumTo_cons {α : Type} (t : List α) (tss : List (List α)) (k : Nat) : sumTo (t :: tss) (k + 1) = t.length + sumTo tss k := by simp [sumTo]
theorem sumTo_le {α : Type} {tss : List (List α)} {n : Nat} (h : ∀ t ∈ tss, t.length ≤ n) : ∀ k, sumTo tss k ≤ k * n := by
  intro k
  induction k with
  | zero => simp [sumTo]
  | succ k ih =>
    rcases Nat.lt_or_ge k tss.length with hlt | hge
    · rw [sumTo_step hlt, Nat.add_mul]
      have := h _ (List.getElem_mem hlt)
      have e1 : tss.getD k [] = tss[k] := by simp [hlt]
      rw [e1]
      omega
    · have e1 : sumTo tss (k + 1) = sumTo tss k := by
        unfold sumTo
        rw [List.take_of_length_le (by omega), List.take_of_length_le hge]
      rw [e1, Nat.add_mul]
      omega
theorem partsHL_bd (ts : List (Int × Int)) : (partsHL ts).length ≤ 10 ∧ sumTo (partsHL ts) (partsHL ts).length ≤ 1100 := by
  have h1 : (partsHL ts).length ≤ 10 := by
    unfold partsHL
    split
    · exact partsTo_len ts 10
    · simp
  have h2 : ∀ t ∈ partsHL ts, t.length ≤ 110 := by
    intro t ht
    unfold partsHL at ht
    split at ht
    · unfold partsL partsTo at ht
      obtain ⟨i, _, rfl⟩ := List.mem_map.1 (List.mem_filter.1 ht).1
      exact partAt_len ts _
    · simp at ht
  have := sumTo_le h2 (partsHL ts).length
  omega

set_option maxRecDepth 100000 in
set_option maxHeartbeats 4000000 in
theorem c_whParts (A : Option Addr) (c : Nat) (ts : List (Int × Int)) (w : World) (hr : RdT w A ts) (hl : ts.length ≤ 1048576) (hg : ∀ t ∈ ts, goodB t.1 t.2 = true) :
    Calls Try.prog 31 #[.slice A ts.length c] w (RetTR w (partsL ts)) := by
  have conS' := c_tiSort A c ts w hr hl
  rw [← fromL_zero hg] at conS'
  have conS := Lib.hid conS'
  have Hg := Lib.hid hg
  clear conS' hr hg
  go_enter Try.func31, Try.ntmps31
  go_wp2_with (go_at_call 46; refine conS.out.mono ?_; rintro e w1 ⟨A1, c1, rfl, ho1, hb1⟩)
  go_loopw [3, 4] (fun v l wr => ∃ (m hi : Nat) (A' : Option Addr) (c' : Nat) (A2 : Option Addr) (c2 : Nat), m ≤ 10 ∧ v = .slice A' (partsTo ts m).length c' ∧ l = .slice A2 (fromL ts m).length c2 ∧ OwnTT wr w.heap.size hi (.slice A' (partsTo ts m).length c') (partsTo ts m) ∧
      wr.ownsRow hi 41 2 (.slice A2 (fromL ts m).length c2) (fromL ts m).length (cellsT (fromL ts m)) ∧ w.heap.size ≤ hi ∧ hi ≤ wr.heap.size ∧ Below w.heap.size w wr) (fun v _ _ => 10 - lenV v)
  case atStart => exact ⟨0, w.heap.size, none, 0, A1, c1, by omega, rfl, rfl, OwnRR.nil _ _ _, ho1, Nat.le_refl _, hb1.size, hb1⟩
  case round =>
    obtain ⟨m, hi, A', c', A2, c2, hm, rfl, rfl, hT, hown, hlo, hhi, hb⟩ := hrel
    clear ho1 hb1 conS
    have hlenm := fromL_len ts m
    by_cases h0 : fromL ts m = []
    · have hfin := Lib.hid (fromL_done Hg.out hm h0)
      have hz0 : (fromL ts m).length = 0 := by rw [h0]; rfl
      have hz1 : ¬ (0 : Int) < ((fromL ts m).length : Int) := by omega
      rw [hz0] at hz1 ⊢
      have HT := Lib.hid hT
      clear h0 hown hT
      go_wp2
      go_ret
      rw [← hfin.out]
      exact ⟨A', c', rfl, HT.out.fit, hb⟩
    · obtain ⟨t, rest, h⟩ := List.exists_cons_of_ne_nil h0
      obtain ⟨l, e1, hml, hl9, hne, hto, hthose⟩ := fromL_next Hg.out h
      have hpart := part_fromL Hg.out h
      have hgood := fromL_good Hg.out (m := m)
      rw [e1] at hpart
      have hsl := sort_fromL Hg.out m
      have hpl := partAt_len ts l
      have hps1 := partsTo_len ts (l + 1)
      have hto' := congrArg List.length hto
      rw [List.length_append, List.length_singleton] at hto'
      obtain ⟨us, hus⟩ : ∃ us, us = fromL ts m := ⟨_, rfl⟩
      obtain ⟨pt, hpt⟩ : ∃ pt, pt = partAt ts l := ⟨_, rfl⟩
      obtain ⟨ps, hps⟩ : ∃ ps, ps = partsTo ts m := ⟨_, rfl⟩
      rw [← hus] at h hlenm hown hpart hthose hgood ⊢
      rw [← hpt] at hpart hthose hto hpl
      rw [← hps] at hT hto hto' ⊢
      have hpos : 0 < us.length := by rw [h]; simp
      have hpos' : (0 : Int) < (us.length : Int) := by omega
      have hru := RdT.of_own hown
      obtain ⟨bk, off, rfl, hbk, hc⟩ := hru.at_ hpos
      have g1 := (hc 0 hpos).1
      have e2 : us[0].1 = (l : Int) := by rw [← e1]; simp [h]
      rw [e2, Nat.zero_mul, Nat.add_zero] at g1
      have conP := c_whPart (some ⟨bk, off, none⟩) c2 us (l : Int) wr hru (by omega) hgood (by simp only [numB, Bool.and_eq_true, decide_eq_true_eq]; omega)
      rw [hpart] at conP
      have ConP := Lib.hid conP
      have HT := Lib.hid hT
      have Ho := Lib.hid hown
      have Hb := Lib.hid hb
      have Hto := Lib.hid hto
      have Hthose := Lib.hid hthose
      have hz := hb.size
      clear hc h h0 conP hT hown hb hto hthose hgood hpart hsl hus hpt hps hru
      go_wp2_with (first | (go_at_call 47; refine ConP.out.mono ?_; rintro e w2 ⟨A3, c3, rfl, ho3, hb2⟩; have hz2 := hb2.size; have HT2 := Lib.hid ((HT.out.below hb2 hhi).below (w' := w2.alloc (.cells #[.slice A3 pt.length c3] 27)) (N := w2.heap.size) (by go_grown) (Nat.le_trans hhi hz2)); have Ho3 := Lib.hid (ho3.alloc (.cells #[.slice A3 pt.length c3] 27)); have Ho2 := Lib.hid ((own_keep Ho.out hb2).alloc (.cells #[.slice A3 pt.length c3] 27))) | (at_builtin; refine wp_append_rowT rfl _ _ rfl w.heap.size hi _ ps rfl HT2.out wr.heap.size A3 c3 pt Ho3.out hz hhi w2.heap.size rfl (by simp) (by omega) (by simp; omega) ?_; intro A4 c4 w4 hT4 hg4 hrow4; have Hrow4 := Lib.hid hrow4; have HT4 := Lib.hid hT4; have Ho4 := Lib.hid (Ho2.out.kept hg4 (OwnRR.away HT2.out Ho2.out)); have Hg4 := Lib.hid hg4; clear hrow4 hT4 hg4) | (go_at_call 48; refine (c_tiThose _ _ us _ _ pt false _ (RdT.of_own Ho4.out) (by omega) (RdT.of_own Hrow4.out) (by omega)).mono ?_; rw [Hthose.out]; rintro e w5 ⟨A5, c5, rfl, ho5, hb5⟩))
      go_roundw
      case rel =>
        have hb4 : Below w.heap.size w w4 := by
          refine Below.grown ?_ Hg4.out (by simp; omega) (fun g hg => (OwnRR.lt HT2.out g hg).1)
          have hb3 := bstep Hb.out hb2
          have hz3 := hb3.size
          go_grown
        refine ⟨l + 1, w4.heap.size, A4, c4, A5, c5, by omega, by rw [Hto.out, List.length_append]; rfl, rfl, ?_, ho5, hb4.size, hb5.size, bstep hb4 hb5⟩
        rw [Hto.out]
        exact HT4.out.below hb5 (Nat.le_refl _)
      case measure => simp [lenV]; omega

end Go.Proofs.Ytcofambcicnonaa

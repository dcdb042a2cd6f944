/- The groups of a hand: by the program, number after number. -/
import Derived.Test.YteiiiceajpmndaaImpParts
namespace Go.Proofs.Yteiiiceajpmndaa
open Go.RowKit
set_option linter.unusedVariables false

def pickG (f : Int → Int) (xs : List Int) (l : Int) (j : Nat) : List Int := (xs.take j).filter fun x => decide (f x = l)
theorem pickG_yes {f : Int → Int} {xs : List Int} {l : Int} {k : Nat} (hk : k < xs.length) (h : f xs[k] = l) : pickG f xs l (k + 1) = pickG f xs l k ++ [xs[k]] := by
  unfold pickG
  rw [List.take_succ_eq_append_getElem hk, List.filter_append]
  simp [h]
theorem pickG_no {f : Int → Int} {xs : List Int} {l : Int} {k : Nat} (hk : k < xs.length) (h : ¬ f xs[k] = l) : pickG f xs l (k + 1) = pickG f xs l k := by
  unfold pickG
  rw [List.take_succ_eq_append_getElem hk, List.filter_append]
  simp [h]
theorem pickG_len (f : Int → Int) (xs : List Int) (l : Int) (k : Nat) : (pickG f xs l k).length ≤ xs.length := Nat.le_trans (List.length_filter_le _ _) (by simp; omega)
def grpL (f : Int → Int) (xs : List Int) (l : Int) : List Int := xs.filter fun x => decide (f x = l)
theorem pickG_all (f : Int → Int) (xs : List Int) (l : Int) : pickG f xs l xs.length = grpL f xs l := by simp [pickG, grpL]
def grpTo (f : Int → Int) (xs : List Int) (k : Nat) : List (List Int) := ((xs.take k).map (grpL f xs)).filter fun p => !p.isEmpty
theorem grpTo_no {f : Int → Int} {xs : List Int} {k : Nat} (hk : k < xs.length) (h : grpL f xs xs[k] = []) : grpTo f xs (k + 1) = grpTo f xs k := by
  unfold grpTo
  rw [List.take_succ_eq_append_getElem hk, List.map_append, List.filter_append]
  simp [h]
theorem grpTo_yes {f : Int → Int} {xs : List Int} {k : Nat} (hk : k < xs.length) (h : grpL f xs xs[k] ≠ []) : grpTo f xs (k + 1) = grpTo f xs k ++ [grpL f xs xs[k]] := by
  unfold grpTo
  rw [List.take_succ_eq_append_getElem hk, List.map_append, List.filter_append]
  simp [h]
theorem grpTo_len (f : Int → Int) (xs : List Int) (k : Nat) : (grpTo f xs k).length ≤ xs.length := by
  unfold grpTo
  exact Nat.le_trans (List.length_filter_le _ _) (by simp; omega)
def groupsL (ts : List (Int × Int)) : List (List Int) := grpTo (lfn ts) (numsTo ts 10) (numsTo ts 10).length
def groupsHL (ts : List (Int × Int)) : List (List Int) := if handB ts then groupsL ts else []
theorem groupsHL_bd (ts : List (Int × Int)) : (groupsHL ts).length ≤ 10 ∧ sumTo (groupsHL ts) (groupsHL ts).length ≤ 100 := by
  have hn := numsTo_len ts 10
  have h1 : (groupsHL ts).length ≤ 10 := by
    unfold groupsHL
    split
    · exact Nat.le_trans (grpTo_len _ _ _) hn
    · simp
  have h2 : ∀ t ∈ groupsHL ts, t.length ≤ 10 := by
    intro t ht
    unfold groupsHL at ht
    split at ht
    · unfold groupsL grpTo at ht
      obtain ⟨i, _, rfl⟩ := List.mem_map.1 (List.mem_filter.1 ht).1
      exact Nat.le_trans (List.length_filter_le _ _) hn
    · simp at ht
  have := sumTo_le h2 (groupsHL ts).length
  omega

set_option maxRecDepth 100000 in
set_option maxHeartbeats 4000000 in
theorem c_implGroups (A : Option Addr) (c : Nat) (ts : List (Int × Int)) (w : World) (hr : RdT w A ts) (hl : ts.length ≤ 1048576) :
    Calls Try.prog 44 #[.slice A ts.length c] w (RetII w (groupsHL ts) (handB ts)) := by
  have conS := c_implNumbersOf A c ts w hr hl
  by_cases h : handB ts = true
  · have e1 : groupsHL ts = grpTo (lfn ts) (numsTo ts 10) (numsTo ts 10).length := by simp [groupsHL, groupsL, h]
    have es : numbersL ts = numsTo ts 10 := by simp [numbersL, h]
    have hg := (handB_good h).2
    rw [es, h] at conS
    rw [e1, h]
    have hul := numsTo_len ts 10
    have hgu : ∀ x ∈ numsTo ts 10, numB x = true := fun x hx => by
      unfold numsTo at hx
      obtain ⟨i, hi, rfl⟩ := List.mem_map.1 hx
      have := List.mem_range.1 (List.mem_filter.1 hi).1
      simp only [numB, Bool.and_eq_true, decide_eq_true_eq]
      omega
    obtain ⟨us, hus⟩ : ∃ us, us = numsTo ts 10 := ⟨_, rfl⟩
    rw [← hus] at conS hul hgu ⊢
    have conL := fun W (hb : Below w.heap.size w W) => c_leastOfGroups A c ts W (hr.below hb) (by omega) hg
    obtain ⟨f, hf⟩ : ∃ f, f = lfn ts := ⟨_, rfl⟩
    simp only [← hf, arr10] at conL
    rw [← hf]
    have ConS := Lib.hid conS
    have ConL := Lib.hid conL
    have Hgu := Lib.hid hgu
    clear hr conS conL hgu hus hf e1 es h hg
    go_enter Try.func44, Try.ntmps44
    go_wp2_with (first | (go_at_call 57; refine ConS.out.mono ?_; rintro e w1 ⟨A1, c1, rfl, ho1, hb1⟩) | (go_at_call 71; refine (ConL.out _ hb1).mono ?_; rintro e w2 ⟨rfl, hb2⟩))
    obtain ⟨w3, hw3⟩ : ∃ w3, w3 = w2.alloc (.cells #[.int .i64 (f 0), .int .i64 (f 1), .int .i64 (f 2), .int .i64 (f 3), .int .i64 (f 4), .int .i64 (f 5), .int .i64 (f 6), .int .i64 (f 7), .int .i64 (f 8), .int .i64 (f 9)] 69) := ⟨_, rfl⟩
    rw [← hw3]
    have hb3 : Below w2.heap.size w2 w3 := by rw [hw3]; go_grown
    have hT3 : Ten w3 w2.heap.size f := by rw [hw3]; exact ten_arr w2 _ f
    have hz3 : w3.heap.size = w2.heap.size + 1 := by rw [hw3]; simp
    have hru := RdI.of_own (own_keep (own_keep ho1 hb2) hb3)
    have hB3 := Lib.hid (bstep (bstep hb1 hb2) hb3)
    clear hw3 ConS ConL ho1 hb1 hb2 hb3
    go_loopw [7, 24] (fun v i wr => ∃ (k hi : Nat) (A' : Option Addr) (c' : Nat), k ≤ us.length ∧ i = .int .i64 k ∧ v = .slice A' (grpTo f us k).length c' ∧ OwnII wr w3.heap.size hi (.slice A' (grpTo f us k).length c') (grpTo f us k) ∧ hi ≤ wr.heap.size ∧ Below w3.heap.size w3 wr) (fun _ i _ => us.length - (intOf i).toNat)
    case atStart => exact ⟨0, w3.heap.size, none, 0, by omega, rfl, rfl, OwnRR.nil _ _ _, Nat.le_refl _, Below.refl _ _⟩
    case round =>
      obtain ⟨k, hi, A', c', hk, rfl, rfl, hT, hhi, hb⟩ := hrel
      have hpsl := grpTo_len f us k
      obtain ⟨wo, rfl⟩ : ∃ wo, wo = wr := ⟨_, rfl⟩
      have hz := hb.size
      by_cases hlt : k < us.length
      · have i1 : (k : Int) < (us.length : Int) := by omega
        have i0 : (0 : Int) ≤ (k : Int) := by omega
        have hyes := grpTo_yes (f := f) hlt
        have hno := grpTo_no (f := f) hlt
        have hru0 := hru
        obtain ⟨bu, ou, rfl, hbu, hcu⟩ := hru0.at_ hlt
        have gk := (hb.cell (p := ⟨bu, _, none⟩) hbu).trans (hcu k hlt)
        obtain ⟨l, hll⟩ : ∃ l, l = us[k] := ⟨_, rfl⟩
        rw [← hll] at hyes hno gk
        have hall := pickG_all f us l
        rw [← hall] at hyes hno
        obtain ⟨ps, hps⟩ : ∃ ps, ps = grpTo f us k := ⟨_, rfl⟩
        rw [← hps] at hT hpsl hyes hno ⊢
        have HT := Lib.hid hT
        have Hb := Lib.hid hb
        have Hyes := Lib.hid hyes
        have Hno := Lib.hid hno
        have hT3' := hT3.below hb (by omega)
        have hru' := hru.below hb
        clear hT hb hyes hno hps hT3 hru hru0 hcu hll hall
        go_wp2
        go_loopw [10, 30] (fun v i wr => ∃ (j : Nat) (A2 : Option Addr) (c2 : Nat), j ≤ us.length ∧ i = .int .i64 j ∧ v = .slice A2 (pickG f us l j).length c2 ∧ wr.ownsRow wo.heap.size 3 1 (.slice A2 (pickG f us l j).length c2) (pickG f us l j).length (cellsI (pickG f us l j)) ∧ Below wo.heap.size wo wr) (fun _ i _ => us.length - (intOf i).toNat)
        case atStart => exact ⟨0, none, 0, Nat.zero_le _, rfl, rfl, World.ownsRow_nil _ _ _ _, Below.refl _ _⟩
        case round =>
          obtain ⟨j, A2, c2, hj, rfl, rfl, hown, hb⟩ := hrel
          have hpl := pickG_len f us l j
          have hz2 := hb.size
          by_cases hlj : j < us.length
          · obtain ⟨bk, off, ebk, hbk, hc⟩ := hru'.at_ hlj
            injection ebk with ebk
            injection ebk with eb1 eb2
            subst eb1 eb2
            obtain ⟨a, ha9, ha⟩ := numB_nat (Hgu.out _ (List.getElem_mem hlj))
            have g1 := (hb.cell (p := ⟨bu, _, none⟩) hbk).trans (hc j hlj)
            have hpy := pickG_yes (f := f) (l := l) hlj
            have hpn := pickG_no (f := f) (l := l) hlj
            rw [ha] at g1 hpy hpn
            have hTa := hT3'.below hb (by omega)
            have ca := hTa.1 a (by omega)
            have i2 : (0 : Int) ≤ (a : Int) := by omega
            have i3 : (a : Int) < 10 := by omega
            have i4 : (0 : Int) ≤ (j : Int) := by omega
            have i5 : (j : Int) < (us.length : Int) := by omega
            have Hb2 := Lib.hid hb
            have Ho := Lib.hid hown
            have Ho2 := Lib.hid (hown.alloc (.cells #[.int .i64 (a : Int)] 3))
            clear hT3' hru' hc hb hown hTa ha
            by_cases he : f a = l
            · have q : (f a == l) = true := by simpa using he
              have hst := Lib.hid (hpy he)
              clear he hpy hpn
              go_wp2_with (at_builtin; refine wp_append_int rfl _ _ rfl wo.heap.size _ (pickG f us l j) rfl Ho2.out (a : Int) wr.heap.size rfl (by simp) (by omega) (by simp; omega) ?_; intro A5 c5 w5 hown5 hg5)
              go_roundw
              case rel =>
                refine ⟨j + 1, A5, c5, by omega, by go_num, by rw [hst.out, List.length_append]; rfl, by rw [hst.out, List.length_append]; exact hown5, Below.grown (by have hb0 := Hb2.out; have hz0 := hb0.size; go_grown) hg5 (by simp; omega) (fun g hg => (Ho2.out.lt g hg).1)⟩
              case measure => simp [intOf]; omega
            · have q : (f a == l) = false := by simpa using he
              have hst := Lib.hid (hpn he)
              clear he hpy hpn
              go_wp2
              go_roundw
              case rel => exact ⟨j + 1, A2, c2, by omega, by go_num, by rw [hst.out], by rw [hst.out]; exact Ho.out, Hb2.out⟩
              case measure => simp [intOf]; omega
          · have : j = us.length := by omega
            subst this
            obtain ⟨pt, hpt⟩ : ∃ pt, pt = pickG f us l us.length := ⟨_, rfl⟩
            have Hpt := Lib.hid hpt
            rw [← hpt] at hown hpl ⊢
            have Hb2 := Lib.hid hb
            by_cases h0 : pt = []
            · have hz0 : pt.length = 0 := by rw [h0]; rfl
              have i3 : ¬ (0 : Int) < (pt.length : Int) := by omega
              have hst := Lib.hid (Hno.out (by rw [← Hpt.out]; exact h0))
              clear hpt h0 hown hb
              rw [hz0] at i3 ⊢
              go_wp2
              go_roundw
              case rel => exact ⟨k + 1, hi, A', c', by omega, by go_num, by rw [hst.out], by rw [hst.out]; exact HT.out.below Hb2.out hhi, Nat.le_trans hhi hz2, Hb.out.trans (Hb2.out.mono hz)⟩
              case measure => simp [intOf]; omega
            · have hz0 : 0 < pt.length := List.length_pos_iff.2 h0
              have i3 : (0 : Int) < (pt.length : Int) := by omega
              have hst := Lib.hid (Hyes.out (by rw [← Hpt.out]; exact h0))
              rw [← Hpt.out] at hst
              have HT2 := Lib.hid ((HT.out.below hb hhi).below (w' := wr.alloc (.cells #[.slice A2 pt.length c2] 24)) (N := wr.heap.size) (by go_grown) (Nat.le_trans hhi hz2))
              have Ho2 := Lib.hid (hown.alloc (.cells #[.slice A2 pt.length c2] 24))
              clear hpt h0 hown hb
              go_wp2_with (at_builtin; refine wp_append_rowI rfl _ _ rfl w3.heap.size hi _ ps rfl HT2.out wo.heap.size A2 c2 pt Ho2.out hz hhi wr.heap.size rfl (by simp) (by omega) (by simp; omega) ?_; intro A4 c4 w4 hT4 hg4 hrow4; have HT4 := Lib.hid hT4; have Hg4 := Lib.hid hg4; clear hrow4 hT4 hg4)
              go_roundw
              case rel =>
                refine ⟨k + 1, w4.heap.size, A4, c4, by omega, by go_num, by rw [hst.out, List.length_append]; rfl, by rw [hst.out]; exact HT4.out, Nat.le_refl _, ?_⟩
                have hb4 : Below w3.heap.size w3 wr := Hb.out.trans (Hb2.out.mono hz)
                have hz4 := hb4.size
                exact Below.grown (by go_grown) Hg4.out (by simp; omega) (fun g hg => (OwnRR.lt HT2.out g hg).1)
              case measure => simp [intOf]; omega
      · have : k = us.length := by omega
        subst this
        have HT := Lib.hid hT
        clear hT
        go_wp2
        go_ret2
        exact ⟨A', c', rfl, (HT.out.fit).base hB3.out.size, hB3.out.trans (hb.mono hB3.out.size)⟩
  · have h' : handB ts = false := by simpa using h
    have e1 : groupsHL ts = [] := by simp [groupsHL, h']
    rw [h'] at conS
    rw [e1, h']
    have ConS := Lib.hid conS
    clear e1 h hr conS
    go_enter Try.func44, Try.ntmps44
    go_wp2_with (go_at_call 57; refine ConS.out.mono ?_; rintro e w1 ⟨A1, c1, rfl, ho1, hb1⟩)
    go_ret2
    exact ⟨none, 0, rfl, OwnRR.nil _ _ _, hb1⟩

end Go.Proofs.Yteiiiceajpmndaa

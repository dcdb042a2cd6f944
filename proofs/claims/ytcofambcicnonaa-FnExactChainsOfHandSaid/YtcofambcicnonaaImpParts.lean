/- All parts of a hand: by the program, group after group by their least numbers. -/
import Derived.Test.YtcofambcicnonaaParts
import Derived.Test.YtcofambcicnonaaLeasts
namespace Go.Proofs.Ytcofambcicnonaa
open Go.RowKit
set_option linter.unusedVariables false

def pickP (f : Int → Int) (us : List (Int × Int)) (l : Int) (j : Nat) : List (Int × Int) := (us.take j).filter fun t => decide (f t.1 = l)
theorem pickP_yes {f : Int → Int} {us : List (Int × Int)} {l : Int} {k : Nat} (hk : k < us.length) (h : f us[k].1 = l) : pickP f us l (k + 1) = pickP f us l k ++ [us[k]] := by
  unfold pickP
  rw [List.take_succ_eq_append_getElem hk, List.filter_append]
  simp [h]
theorem pickP_no {f : Int → Int} {us : List (Int × Int)} {l : Int} {k : Nat} (hk : k < us.length) (h : ¬ f us[k].1 = l) : pickP f us l (k + 1) = pickP f us l k := by
  unfold pickP
  rw [List.take_succ_eq_append_getElem hk, List.filter_append]
  simp [h]
theorem pickP_len (f : Int → Int) (us : List (Int × Int)) (l : Int) (k : Nat) : (pickP f us l k).length ≤ us.length := Nat.le_trans (List.length_filter_le _ _) (by simp; omega)
theorem pickP_all (ts : List (Int × Int)) (l : Int) : pickP (lfn ts) (sortL ts) l (sortL ts).length = partAt ts l := by simp [pickP, partAt]

theorem ten_arr (w : World) (t : TypeId) (f : Int → Int) : Ten (w.alloc (.cells #[.int .i64 (f 0), .int .i64 (f 1), .int .i64 (f 2), .int .i64 (f 3), .int .i64 (f 4), .int .i64 (f 5), .int .i64 (f 6), .int .i64 (f 7), .int .i64 (f 8), .int .i64 (f 9)] t)) w.heap.size f := by
  refine ⟨fun m hm => ?_, fun m => by unfold World.frozen? World.alloc; simp⟩
  match m, hm with
  | 0, _ => simp
  | 1, _ => simp
  | 2, _ => simp
  | 3, _ => simp
  | 4, _ => simp
  | 5, _ => simp
  | 6, _ => simp
  | 7, _ => simp
  | 8, _ => simp
  | 9, _ => simp

set_option maxRecDepth 100000 in
set_option maxHeartbeats 4000000 in
theorem c_implParts (A : Option Addr) (c : Nat) (ts : List (Int × Int)) (w : World) (hr : RdT w A ts) (hl : ts.length ≤ 1048576) :
    Calls Try.prog 32 #[.slice A ts.length c] w (RetTT w (partsHL ts) (handB ts)) := by
  have conS := c_implSortHand A c ts w hr hl
  by_cases h : handB ts = true
  · have e1 : partsHL ts = partsTo ts 10 := by simp [partsHL, partsL, h]
    have es : sortHL ts = sortL ts := by simp [sortHL, h]
    have hg := (handB_good h).2
    rw [es, h] at conS
    rw [e1, h]
    have hall := fun l : Int => pickP_all ts l
    have hul := sortL_len ts
    have hcg : lfn (sortL ts) = lfn ts := lfn_congr (mem_sortL hg)
    have hgu : ∀ t ∈ sortL ts, goodB t.1 t.2 = true := fun t ht => hg t ((mem_sortL hg t).1 ht)
    obtain ⟨us, hus⟩ : ∃ us, us = sortL ts := ⟨_, rfl⟩
    rw [← hus] at conS hul hcg hgu
    simp only [← hus] at hall
    obtain ⟨f, hf⟩ : ∃ f, f = lfn ts := ⟨_, rfl⟩
    rw [← hf] at hcg
    simp only [← hf] at hall
    have conL := fun W A2 c2 (h2 : RdT W A2 us) => c_leastOfGroups A2 c2 us W h2 (by omega) hgu
    simp only [hcg, arr10] at conL
    have ConS := Lib.hid conS
    have ConL := Lib.hid conL
    have Hall := Lib.hid hall
    have Hgu := Lib.hid hgu
    clear hr conS conL hall hgu hcg hus hf e1 es h hg
    go_enter Try.func32, Try.ntmps32
    go_wp2_with (first | (go_at_call 49; refine ConS.out.mono ?_; rintro e w1 ⟨A1, c1, rfl, ho1, hb1⟩) | (go_at_call 50; refine (ConL.out _ _ _ (RdT.of_own ho1)).mono ?_; rintro e w2 ⟨rfl, hb2⟩))
    obtain ⟨w3, hw3⟩ : ∃ w3, w3 = w2.alloc (.cells #[.int .i64 (f 0), .int .i64 (f 1), .int .i64 (f 2), .int .i64 (f 3), .int .i64 (f 4), .int .i64 (f 5), .int .i64 (f 6), .int .i64 (f 7), .int .i64 (f 8), .int .i64 (f 9)] 74) := ⟨_, rfl⟩
    rw [← hw3]
    have hb3 : Below w2.heap.size w2 w3 := by rw [hw3]; go_grown
    have hT3 : Ten w3 w2.heap.size f := by rw [hw3]; exact ten_arr w2 _ f
    have hz3 : w3.heap.size = w2.heap.size + 1 := by rw [hw3]; simp
    have hru := RdT.of_own (own_keep (own_keep ho1 hb2) hb3)
    have hB3 := Lib.hid (bstep (bstep hb1 hb2) hb3)
    clear hw3 ConS ConL ho1 hb1 hb2 hb3
    go_loopw [7, 21] (fun v i wr => ∃ (k hi : Nat) (A' : Option Addr) (c' : Nat), k ≤ 10 ∧ i = .int .i64 k ∧ v = .slice A' (partsTo ts k).length c' ∧ OwnTT wr w3.heap.size hi (.slice A' (partsTo ts k).length c') (partsTo ts k) ∧ hi ≤ wr.heap.size ∧ Below w3.heap.size w3 wr) (fun _ i _ => 10 - (intOf i).toNat)
    case atStart => exact ⟨0, w3.heap.size, none, 0, by omega, rfl, rfl, OwnRR.nil _ _ _, Nat.le_refl _, Below.refl _ _⟩
    case round =>
      obtain ⟨k, hi, A', c', hk, rfl, rfl, hT, hhi, hb⟩ := hrel
      have hpsl := partsTo_len ts k
      obtain ⟨wo, rfl⟩ : ∃ wo, wo = wr := ⟨_, rfl⟩
      have hz := hb.size
      by_cases hlt : k < 10
      · have i1 : (k : Int) < 10 := by omega
        have hyes := partsTo_yes (ts := ts) (k := k)
        have hno := partsTo_no (ts := ts) (k := k)
        rw [← Hall.out k] at hyes hno
        obtain ⟨ps, hps⟩ : ∃ ps, ps = partsTo ts k := ⟨_, rfl⟩
        rw [← hps] at hT hpsl hyes hno ⊢
        have HT := Lib.hid hT
        have Hb := Lib.hid hb
        have Hyes := Lib.hid hyes
        have Hno := Lib.hid hno
        have hT3' := hT3.below hb (by omega)
        have hru' := hru.below hb
        clear hT hb hyes hno hps hT3 hru
        go_wp2
        go_loopw [9, 26] (fun v i wr => ∃ (j : Nat) (A2 : Option Addr) (c2 : Nat), j ≤ us.length ∧ i = .int .i64 j ∧ v = .slice A2 (pickP f us k j).length c2 ∧ wr.ownsRow wo.heap.size 41 2 (.slice A2 (pickP f us k j).length c2) (pickP f us k j).length (cellsT (pickP f us k j)) ∧ Below wo.heap.size wo wr) (fun _ i _ => us.length - (intOf i).toNat)
        case atStart => exact ⟨0, none, 0, Nat.zero_le _, rfl, rfl, World.ownsRow_nil _ _ _ _, Below.refl _ _⟩
        case round =>
          obtain ⟨j, A2, c2, hj, rfl, rfl, hown, hb⟩ := hrel
          have hpl := pickP_len f us k j
          have hz2 := hb.size
          by_cases hlj : j < us.length
          · obtain ⟨bk, off, rfl, hbk, hc⟩ := hru'.at_ hlj
            have hgb := good_bd (Hgu.out _ (List.getElem_mem hlj))
            obtain ⟨a, ha⟩ : ∃ a : Nat, us[j].1 = a := ⟨us[j].1.toNat, by omega⟩
            have g1 := (hb.cell (p := ⟨bk, _, none⟩) hbk).trans (hc j hlj).1
            have g2 := (hb.cell (p := ⟨bk, _, none⟩) hbk).trans (hc j hlj).2
            have hpy := pickP_yes (f := f) (l := (k : Int)) hlj
            have hpn := pickP_no (f := f) (l := (k : Int)) hlj
            have hue : us[j] = ((a : Int), us[j].2) := Prod.ext ha rfl
            rw [hue] at hpy
            rw [ha] at g1 hpn
            have hTa := (hT3'.below hb (by omega)).alloc (.cells #[.int .i64 (a : Int), .int .i64 us[j].2] 41)
            have ca := hTa.1 a (by omega)
            have i0 : (0 : Int) ≤ (a : Int) := by omega
            have i2 : (a : Int) < 10 := by omega
            have Hb2 := Lib.hid hb
            have Ho := Lib.hid hown
            have Ho2 := Lib.hid ((hown.alloc (.cells #[.int .i64 (a : Int), .int .i64 us[j].2] 41)).alloc (.cells #[.int .i64 (a : Int), .int .i64 us[j].2] 41))
            clear hT3' hru' hc hb hown hTa hue ha
            by_cases he : f a = (k : Int)
            · have q : (f a == (k : Int)) = true := by simpa using he
              have hst := Lib.hid (hpy he)
              clear he hpy hpn
              go_wp2_with (at_builtin; refine wp_append_tile rfl _ _ rfl wo.heap.size _ (pickP f us k j) rfl Ho2.out (a : Int) us[j].2 (wr.heap.size + 1) rfl (by simp) (by simp) (by omega) (by simp; omega) ?_; intro A5 c5 w5 hown5 hg5)
              go_roundw
              case rel =>
                refine ⟨j + 1, A5, c5, by omega, by go_num, by rw [hst.out, List.length_append]; rfl, by rw [hst.out, List.length_append]; exact hown5, Below.grown (by have hb0 := Hb2.out; have hz0 := hb0.size; go_grown) hg5 (by simp; omega) (fun g hg => (Ho2.out.lt g hg).1)⟩
              case measure => simp [intOf]; omega
            · have q : (f a == (k : Int)) = false := by simpa using he
              have hst := Lib.hid (hpn he)
              clear he hpy hpn
              go_wp2
              go_roundw
              case rel => exact ⟨j + 1, A2, c2, by omega, by go_num, by rw [hst.out], by rw [hst.out]; exact Ho.out.alloc _, by have hb0 := Hb2.out; have hz0 := hb0.size; go_grown⟩
              case measure => simp [intOf]; omega
          · have : j = us.length := by omega
            subst this
            obtain ⟨pt, hpt⟩ : ∃ pt, pt = pickP f us k us.length := ⟨_, rfl⟩
            have Hpt := Lib.hid hpt
            rw [← hpt] at hown hpl ⊢
            have Hb2 := Lib.hid hb
            by_cases h0 : pt = []
            · have hz0 : pt.length = 0 := by rw [h0]; rfl
              have i3 : ¬ (0 : Int) < (pt.length : Int) := by omega
              have hst := Lib.hid (Hno.out (by rw [← Hpt.out]; exact h0))
              clear hpt h0 hown hb
              rw [hz0] at i3 ⊢
              go_wp2
              go_roundw
              case rel => exact ⟨k + 1, hi, A', c', by omega, by go_num, by rw [hst.out], by rw [hst.out]; exact HT.out.below Hb2.out hhi, Nat.le_trans hhi hz2, Hb.out.trans (Hb2.out.mono hz)⟩
              case measure => simp [intOf]; omega
            · have hz0 : 0 < pt.length := List.length_pos_iff.2 h0
              have i3 : (0 : Int) < (pt.length : Int) := by omega
              have hst := Lib.hid (Hyes.out (by rw [← Hpt.out]; exact h0))
              rw [← Hpt.out] at hst
              have HT2 := Lib.hid ((HT.out.below hb hhi).below (w' := wr.alloc (.cells #[.slice A2 pt.length c2] 27)) (N := wr.heap.size) (by go_grown) (Nat.le_trans hhi hz2))
              have Ho2 := Lib.hid (hown.alloc (.cells #[.slice A2 pt.length c2] 27))
              clear hpt h0 hown hb
              go_wp2_with (at_builtin; refine wp_append_rowT rfl _ _ rfl w3.heap.size hi _ ps rfl HT2.out wo.heap.size A2 c2 pt Ho2.out hz hhi wr.heap.size rfl (by simp) (by omega) (by simp; omega) ?_; intro A4 c4 w4 hT4 hg4 hrow4; have HT4 := Lib.hid hT4; have Hg4 := Lib.hid hg4; clear hrow4 hT4 hg4)
              go_roundw
              case rel =>
                refine ⟨k + 1, w4.heap.size, A4, c4, by omega, by go_num, by rw [hst.out, List.length_append]; rfl, by rw [hst.out]; exact HT4.out, Nat.le_refl _, ?_⟩
                have hb4 : Below w3.heap.size w3 wr := Hb.out.trans (Hb2.out.mono hz)
                have hz4 := hb4.size
                exact Below.grown (by go_grown) Hg4.out (by simp; omega) (fun g hg => (OwnRR.lt HT2.out g hg).1)
              case measure => simp [intOf]; omega
      · have : k = 10 := by omega
        subst this
        have HT := Lib.hid hT
        clear hT
        go_wp2
        go_ret2
        exact ⟨A', c', rfl, (HT.out.fit).base hB3.out.size, hB3.out.trans (hb.mono hB3.out.size)⟩
  · have h' : handB ts = false := by simpa using h
    have e1 : partsHL ts = [] := by simp [partsHL, h']
    rw [h'] at conS
    rw [e1, h']
    have ConS := Lib.hid conS
    clear e1 h hr conS
    go_enter Try.func32, Try.ntmps32
    go_wp2_with (go_at_call 49; refine ConS.out.mono ?_; rintro e w1 ⟨A1, c1, rfl, ho1, hb1⟩)
    go_ret2
    exact ⟨none, 0, rfl, OwnRR.nil _ _ _, hb1⟩

end Go.Proofs.Ytcofambcicnonaa

/- The tiles of a hand that have a number. -/
import Derived.Test.YtfdjcfgpgfknkabJoin
namespace Go.Proofs.Ytfdjcfgpgfknkab
open Go.RowKit Go.Maps Go.ChangeMaps
set_option linter.unusedVariables false

def hasN (n : Int) (t : Int × Int) : Bool := decide (t.1 = n) || decide (t.2 = n)
def okWith (ts : List (Int × Int)) (n : Int) : Bool := handB ts && numB n
def withL (ts : List (Int × Int)) (n : Int) : List (Int × Int) := if okWith ts n then (sortL ts).filter (hasN n) else []
theorem withL_len (ts : List (Int × Int)) (n : Int) : (withL ts n).length ≤ 110 := by
  unfold withL
  split
  · exact Nat.le_trans (List.length_filter_le _ _) (sortL_len ts)
  · simp
def passTo (us : List (Int × Int)) (f : Int × Int → Bool) (k : Nat) : List (Int × Int) := (us.take k).filter f
theorem passTo_yes {us : List (Int × Int)} {f : Int × Int → Bool} {k : Nat} (hk : k < us.length) (h : f us[k] = true) : passTo us f (k + 1) = passTo us f k ++ [us[k]] := by
  unfold passTo
  rw [List.take_succ_eq_append_getElem hk, List.filter_append]
  simp [h]
theorem passTo_no {us : List (Int × Int)} {f : Int × Int → Bool} {k : Nat} (hk : k < us.length) (h : f us[k] = false) : passTo us f (k + 1) = passTo us f k := by
  unfold passTo
  rw [List.take_succ_eq_append_getElem hk, List.filter_append]
  simp [h]
theorem passTo_len (us : List (Int × Int)) (f : Int × Int → Bool) (k : Nat) : (passTo us f k).length ≤ us.length := by
  unfold passTo
  exact Nat.le_trans (List.length_filter_le _ _) (by simp; omega)
theorem passTo_all (us : List (Int × Int)) (f : Int × Int → Bool) : passTo us f us.length = us.filter f := by simp [passTo]

/-- Struck so far: the map holds the tiles that pass, or that are still to come. -/
structure Strk (ts : List (Int × Int)) (f : Int × Int → Bool) (D : DataW Unit) (left : Lit → Bool) : Prop where
  hasD : ∀ t, wfT t → has D (kl t) = (decide (t ∈ ts) && (left (kl t) || f t))
  sub : ∀ t, wfT t → left (kl t) = true → t ∈ ts
theorem Strk.start {ts : List (Int × Int)} {f : Int × Int → Bool} {D : DataW Unit} (hD : ∀ t, wfT t → has D (kl t) = decide (t ∈ ts)) : Strk ts f D (has D) where
  hasD t ht := by rw [hD t ht]; by_cases h : t ∈ ts <;> simp [h]
  sub t ht h := by rw [hD t ht] at h; exact of_decide_eq_true h
theorem Strk.stay {ts : List (Int × Int)} {f : Int × Int → Bool} {D : DataW Unit} {left left' : Lit → Bool} (h : Strk ts f D left) {x : Int × Int} (hx : wfT x) (hf : f x = true) (hl : ∀ z, left' z = (left z && !z.sameKey (kl x))) : Strk ts f D left' where
  hasD t ht := by
    rw [h.hasD t ht, hl, kl_same ht hx]
    by_cases e : t = x
    · subst e
      simp [hf]
    · simp [e]
  sub t ht h2 := by
    rw [hl] at h2
    simp only [Bool.and_eq_true] at h2
    exact h.sub t ht h2.1
theorem Strk.strike {ts : List (Int × Int)} {f : Int × Int → Bool} {D : DataW Unit} {left left' : Lit → Bool} (h : Strk ts f D left) {x : Int × Int} (hx : wfT x) (hf : f x = false) (hl : ∀ z, left' z = (left z && !z.sameKey (kl x))) : Strk ts f (D.del (kl x)) left' where
  hasD t ht := by
    rw [hl, kl_same ht hx]
    by_cases e : t = x
    · subst e
      rw [has_del_same]
      simp [hf]
    · rw [has_del_other (fun h => e (kl_inj ht hx h)), h.hasD t ht]
      simp [e]
  sub t ht h2 := by
    rw [hl] at h2
    simp only [Bool.and_eq_true] at h2
    exact h.sub t ht h2.1
theorem Strk.done {ts : List (Int × Int)} {f : Int × Int → Bool} {D : DataW Unit} {left : Lit → Bool} (h : Strk ts f D left) (h0 : ∀ z, left z = false) (t : Int × Int) (ht : wfT t) : has D (kl t) = decide (t ∈ ts.filter f) := by
  rw [h.hasD t ht, h0]
  by_cases h1 : t ∈ ts <;> by_cases h2 : f t = true <;> simp [h1, h2]

set_option maxRecDepth 100000 in
set_option maxHeartbeats 2000000 in
theorem c_specWithNumber (A : Option Addr) (c : Nat) (ts : List (Int × Int)) (n : Int) (w : World) (hr : RdT w A ts) (hl : ts.length ≤ 1048576) (hcap : ts.length ≤ c) :
    Calls Try.prog 12 #[.slice A ts.length c, .int .i64 n] w (RetT w (withL ts n) (okWith ts n)) := by
  have conH := Lib.hid (c_tiHand A c ts w hr (by omega) hcap)
  by_cases h : handB ts = true
  · by_cases h' : numB n = true
    · have e2 : okWith ts n = true := by simp [okWith, h, h']
      have e1 : withL ts n = (sortL ts).filter (hasN n) := by simp [withL, e2]
      rw [e1, e2]
      clear e1 e2
      have conP := fun W (hb : Below w.heap.size w W) => c_tiSort A c ts W (hr.below hb) hl
      have ConP := Lib.hid conP
      have hlen := sortL_len ts
      obtain ⟨us, hus⟩ : ∃ us, us = sortL ts := ⟨_, rfl⟩
      rw [← hus] at hlen ConP ⊢
      clear conP hr hus
      rw [← passTo_all]
      go_enter Try.func12, Try.ntmps12
      go_wp2_with (first | (go_at_call 59; refine conH.out.mono ?_; rintro e w1 ⟨rfl, hb1⟩) | (go_at_call 60; refine (c_tiNumber _ _).mono ?_; rintro e w' ⟨rfl, rfl⟩) | (go_at_call 61; refine (ConP.out _ hb1).mono ?_; rintro e w2 ⟨U, cU, rfl, ho2, hb2⟩))
      have hru := RdT.of_own ho2
      have hb12 := bstep hb1 hb2
      clear ConP conH
      go_loopw [6, 20] (fun v i wr => ∃ (k : Nat) (A' : Option Addr) (c' : Nat), k ≤ us.length ∧ i = .int .i64 k ∧ v = .slice A' (passTo us (hasN n) k).length c' ∧ wr.ownsRow w2.heap.size 48 2 (.slice A' (passTo us (hasN n) k).length c') (passTo us (hasN n) k).length (cellsT (passTo us (hasN n) k)) ∧ Below w2.heap.size w2 wr) (fun _ i _ => us.length - (intOf i).toNat)
      case atStart => exact ⟨0, none, 0, Nat.zero_le _, rfl, rfl, World.ownsRow_nil _ _ _ _, Below.refl _ _⟩
      case round =>
        clear ho2
        obtain ⟨k, A', c', hk, rfl, rfl, hown, hb⟩ := hrel
        have hpl := passTo_len us (hasN n) k
        by_cases hlt : k < us.length
        · obtain ⟨bk, off, rfl, hbk, hc⟩ := hru.at_ hlt
          have g1 := (hb.cell (p := ⟨bk, _, none⟩) hbk).trans (hc k hlt).1
          have g2 := (hb.cell (p := ⟨bk, _, none⟩) hbk).trans (hc k hlt).2
          have Hb := Lib.hid hb
          have hsz := hb.size
          have Ho := Lib.hid hown
          have Ho1 := Lib.hid ((hown.alloc (.cells #[.int .i64 us[k].1, .int .i64 us[k].2] 48)).alloc (.cells #[.int .i64 us[k].1, .int .i64 us[k].2] 48))
          clear hc hb hown hru
          by_cases h1 : (us[k].1 == n) = true
          · have hst := Lib.hid (passTo_yes (f := hasN n) hlt (by simp [hasN, beq_iff_eq.1 h1]))
            go_wp2_with (at_builtin; refine wp_append_tile rfl _ _ rfl w2.heap.size _ _ rfl Ho1.out us[k].1 us[k].2 (wr.heap.size + 1) rfl (by simp) (by simp) (by omega) (by simp; omega) ?_; intro A2 c2 w3 hown3 hg3)
            go_roundw
            case rel =>
              refine ⟨k + 1, A2, c2, by omega, by go_num, by rw [hst.out, List.length_append]; rfl, ?_, ?_⟩
              · rw [hst.out, List.length_append]; exact hown3
              · exact Below.grown (by have hb0 := Hb.out; go_grown) hg3 (by simp; omega) (fun g hg => (Ho1.out.lt g hg).1)
            case measure => simp [intOf]; omega
          · have h1' : (us[k].1 == n) = false := (Bool.not_eq_true _).mp h1
            have H1 := Lib.hid (fun e => h1 (beq_iff_eq.2 e) : us[k].1 = n → False)
            clear h1
            by_cases h2 : (us[k].2 == n) = true
            · have hst := Lib.hid (passTo_yes (f := hasN n) hlt (by simp [hasN, beq_iff_eq.1 h2]))
              go_wp2_with (at_builtin; refine wp_append_tile rfl _ _ rfl w2.heap.size _ _ rfl Ho1.out us[k].1 us[k].2 (wr.heap.size + 1) rfl (by simp) (by simp) (by omega) (by simp; omega) ?_; intro A2 c2 w3 hown3 hg3)
              go_roundw
              case rel =>
                refine ⟨k + 1, A2, c2, by omega, by go_num, by rw [hst.out, List.length_append]; rfl, ?_, ?_⟩
                · rw [hst.out, List.length_append]; exact hown3
                · exact Below.grown (by have hb0 := Hb.out; go_grown) hg3 (by simp; omega) (fun g hg => (Ho1.out.lt g hg).1)
              case measure => simp [intOf]; omega
            · have h2' : (us[k].2 == n) = false := (Bool.not_eq_true _).mp h2
              have hst := Lib.hid (passTo_no (f := hasN n) hlt (by unfold hasN; rw [decide_eq_false H1.out, decide_eq_false (fun e => h2 (beq_iff_eq.2 e))]; rfl))
              clear h2
              go_wp2
              go_roundw
              case rel => exact ⟨k + 1, A', c', by omega, by go_num, by rw [hst.out], by rw [hst.out]; exact Ho.out.alloc _, by have hb0 := Hb.out; go_grown⟩
              case measure => simp [intOf]; omega
        · have : k = us.length := by omega
          subst this
          go_wp2
          go_ret2
          exact ⟨A', c', rfl, own_base hown hb12.size, bstep hb12 hb⟩
    · have h2 : numB n = false := by simpa using h'
      have e2 : okWith ts n = false := by simp [okWith, h2]
      have e1 : withL ts n = [] := by simp [withL, e2]
      rw [e1, e2]
      clear e1 e2 h' hr
      go_enter Try.func12, Try.ntmps12
      go_wp2_with (first | (go_at_call 59; refine conH.out.mono ?_; rintro e w1 ⟨rfl, hb1⟩) | (go_at_call 60; refine (c_tiNumber _ _).mono ?_; rintro e w' ⟨rfl, rfl⟩))
      go_ret2
      exact ⟨none, 0, rfl, World.ownsRow_nil _ _ _ _, hb1⟩
  · have h2 : handB ts = false := by simpa using h
    have e2 : okWith ts n = false := by simp [okWith, h2]
    have e1 : withL ts n = [] := by simp [withL, e2]
    rw [e1, e2]
    clear e1 e2 h hr
    go_enter Try.func12, Try.ntmps12
    go_wp2_with (go_at_call 59; refine conH.out.mono ?_; rintro e w1 ⟨rfl, hb1⟩)
    go_ret2
    exact ⟨none, 0, rfl, World.ownsRow_nil _ _ _ _, hb1⟩
set_option maxRecDepth 100000 in
set_option maxHeartbeats 2000000 in
theorem c_implWithNumber (A : Option Addr) (c : Nat) (ts : List (Int × Int)) (n : Int) (w : World) (hr : RdT w A ts) (hl : ts.length ≤ 1048576) :
    Calls Try.prog 14 #[.slice A ts.length c, .int .i64 n] w (RetT w (withL ts n) (okWith ts n)) := by
  have conH := Lib.hid (c_implIsHand A c ts w hr (by omega))
  by_cases h : handB ts = true
  · by_cases h' : numB n = true
    · have e2 : okWith ts n = true := by simp [okWith, h, h']
      have e1 : withL ts n = (sortL ts).filter (hasN n) := by simp [withL, e2]
      rw [e1, e2]
      clear e1 e2
      have hg := (handB_good h).2
      have conP := fun W (hb : Below w.heap.size w W) => c_tilesIn A c ts W (hr.below hb) hl (fun t ht => wfT_good (hg t ht))
      have ConP := Lib.hid conP
      have Hg := Lib.hid hg
      clear conP hr hg
      go_enter Try.func14, Try.ntmps14
      go_wp2_with (first | (go_at_call 34; refine conH.out.mono ?_; rintro e w1 ⟨rfl, hb1⟩) | (go_at_call 63; refine (c_isNumber _ _).mono ?_; rintro e w' ⟨rfl, rfl⟩) | (go_at_call 64; refine (ConP.out _ hb1).mono ?_; rintro e w2 ⟨b, rfl, hbb, hm2, hb2⟩) | (at_range; refine wpList_range_own _ rfl _ 68 rfl 48 4 lawT Try.underlying68 _ b ts.length _ rfl hm2 ?_; intro w3 hrg0 hg0 hs0))
      have hb02 := bstep hb1 hb2
      have hb3 : Below w.heap.size w w3 := hb02.trans (below_of_grown hg0 hb02.size (by simp))
      have hbw : w.heap.size ≤ b := Nat.le_trans hb1.size hbb
      have Hs := Lib.hid (Strk.start (f := hasN n) (has_set Hg.out))
      clear hg0 hs0 hm2 ConP conH
      go_frame
      go_loopw [7] (fun _ wr => ∃ (D : DataW Unit) (left : Lit → Bool) (cnt : Nat),
          wr.ranges Try.prog 48 (plainElem (H := Unit) Try.prog 4) b w2.heap.size ts.length D left cnt ∧ Strk ts (hasN n) D left ∧ Below w.heap.size w wr) (fun _ wr => wr.rangeLeft b w2.heap.size)
      case atStart => exact ⟨_, _, _, hrg0, Hs.out, hb3⟩
      case round =>
        clear hrg0 hb3 Hs
        obtain ⟨D, left, cnt, hrg, hst, hb⟩ := hrel
        have Hst := Lib.hid hst
        have Hb := Lib.hid hb
        have hzb := hb.size
        clear hst hb
        go_wp2_with (at_next; refine wp_next_tile rfl _ rfl b w2.heap.size ts.length _ _ _ rfl hrg ?_ ?_)
        · intro h0 hl0
          have hms : mset wr b ts.length (ts.filter (hasN n)) := ⟨_, hrg.owns, fun t ht => Hst.out.done hl0.out t ht⟩
          have con := mset_sorted hms hl (fun t ht => Hg.out t (List.mem_filter.1 ht).1)
          rw [← sort_filter] at con
          have Con := Lib.hid con
          clear con hms
          go_wp2_with (go_at_call 65; refine Con.out.mono ?_; rintro e w5 ⟨A2, c2, rfl, ho2, hb5⟩)
          go_ret2
          exact ⟨A2, c2, rfl, own_base ho2 hzb, bstep Hb.out hb5⟩
        · intro p q v w3 cnt' hwf hleft hrg3 hlt hg3 hen
          have Hb3 := Lib.hid (Hb.out.trans (below_of_grown hg3 hzb (fun g hg => by cases hg; exact hb02.size)))
          have hz3 := Hb3.out.size
          have Hrg3 := Lib.hid (hrg3.alloc (.cells #[.int .i64 p, .int .i64 q] 48))
          clear hrg3 hg3
          by_cases h1' : p = n
          · have h1 : (p != n) = false := by simp [h1']
            have H1 := Lib.hid h1'
            clear h1'
            go_wp2
            go_roundw
            case rel => exact ⟨D, _, cnt', Hrg3.out, Hst.out.stay hwf.out (by simp [hasN, H1.out]) (fun _ => rfl), by have hb0 := Hb3.out; go_grown⟩
            case measure =>
              rw [Hrg3.out.left_eq, hrg.left_eq]
              exact hlt
          · have h1 : (p != n) = true := by simp [h1']
            have H1 := Lib.hid h1'
            clear h1'
            by_cases h2' : q = n
            · have h2 : (q != n) = false := by simp [h2']
              have H2 := Lib.hid h2'
              clear h2'
              go_wp2
              go_roundw
              case rel => exact ⟨D, _, cnt', Hrg3.out, Hst.out.stay hwf.out (by simp [hasN, H2.out]) (fun _ => rfl), by have hb0 := Hb3.out; go_grown⟩
              case measure =>
                rw [Hrg3.out.left_eq, hrg.left_eq]
                exact hlt
            · have h2 : (q != n) = true := by simp [h2']
              have H2 := Lib.hid h2'
              clear h2'
              go_wp2_with (at_delete; refine wpList_delete_ranges _ rfl _ _ 68 48 rfl 4 lawT Try.underlying68 _ b w2.heap.size ts.length _ _ _ rfl Hrg3.out _ _ rfl (keyOf_tile hwf.out) ?_; intro w4 cnt4 hrg4 hle hturn; go_frame)
              go_roundw
              case rel => exact ⟨_, _, cnt4, hrg4, Hst.out.strike hwf.out (by simp [hasN, H1.out, H2.out]) (fun z => by cases left z <;> cases z.sameKey (kl (p, q)) <;> rfl), Below.grown (by have hb0 := Hb3.out; go_grown) hturn.grown (by simp; omega) (fun g hg => by cases hg; exact hbw)⟩
              case measure =>
                rw [hrg4.left_eq, hrg.left_eq]
                omega
    · have h2 : numB n = false := by simpa using h'
      have e2 : okWith ts n = false := by simp [okWith, h2]
      have e1 : withL ts n = [] := by simp [withL, e2]
      rw [e1, e2]
      clear e1 e2 h' hr
      go_enter Try.func14, Try.ntmps14
      go_wp2_with (first | (go_at_call 34; refine conH.out.mono ?_; rintro e w1 ⟨rfl, hb1⟩) | (go_at_call 63; refine (c_isNumber _ _).mono ?_; rintro e w' ⟨rfl, rfl⟩))
      go_ret2
      exact ⟨none, 0, rfl, World.ownsRow_nil _ _ _ _, hb1⟩
  · have h2 : handB ts = false := by simpa using h
    have e2 : okWith ts n = false := by simp [okWith, h2]
    have e1 : withL ts n = [] := by simp [withL, e2]
    rw [e1, e2]
    clear e1 e2 h hr
    go_enter Try.func14, Try.ntmps14
    go_wp2_with (go_at_call 34; refine conH.out.mono ?_; rintro e w1 ⟨rfl, hb1⟩)
    go_ret2
    exact ⟨none, 0, rfl, World.ownsRow_nil _ _ _ _, hb1⟩
end Go.Proofs.Ytfdjcfgpgfknkab

/- The tiles that are in both of two hands. -/
import Derived.Test.YtllfjffcogpaiacWith
namespace Go.Proofs.Ytllfjffcogpaiac
open Go.RowKit Go.Maps Go.ChangeMaps
set_option linter.unusedVariables false

theorem atKey_fold {H : Type} {t : Int × Int} (ht : wfT t) (z : DataW H) : ∀ (ts : List (Int × Int)) (m : DataW H), IsMap m → (∀ s ∈ ts, wfT s) →
    ((ts.map kl).foldl (fun m x => m.put x yesD) m).atKey (kl t) z = if t ∈ ts then yesD else m.atKey (kl t) z
  | [], m, _, _ => by simp
  | s :: ts, m, hm, hts => by
    have hs := hts s (by simp)
    rw [List.map_cons, List.foldl_cons, atKey_fold ht z ts _ (hm.put _ _) (fun x hx => hts x (by simp [hx]))]
    by_cases h1 : t ∈ ts
    · simp [h1]
    · by_cases h2 : t = s
      · subst h2
        simp [h1, atKey_put_same hm (isKeyLit_kl ht)]
      · have h3 : kl t ≠ kl s := fun e => h2 (kl_inj ht hs e)
        simp [h1, h2, atKey_put_other h3]
theorem atKey_setD {H : Type} {ts : List (Int × Int)} (hts : ∀ s ∈ ts, wfT s) {t : Int × Int} (ht : wfT t) (z : DataW H) : (setD ts : DataW H).atKey (kl t) z = if t ∈ ts then yesD else z := by
  unfold setD setOf
  rw [atKey_fold ht z ts _ isMap_empty hts]
  congr 1

theorem setM_below {w w' : World} {b n : Nat} {ts : List (Int × Int)} (h : setM w b n ts) (hb : Below w.heap.size w w') : setM w' b n ts := by
  have hlt := h.lt
  obtain ⟨es, clock, he, r⟩ := h
  exact ⟨es, clock, (hb.block b hlt).trans he, r⟩

set_option maxRecDepth 100000 in
/-- 'm[t]' at a set of tiles. -/
theorem wp_look_tile {w : World} {ops : Array Oper} {rest : List Oper} {o : Oper} {a : Act} {Q : Exit → Act → World → Prop} (hg : o.guard = none) (m x : Operand) (hop : o.op = Op.lookup 49 m x false)
    (b n : Nat) (ts : List (Int × Int)) (hm : a.eval m = .map (some b)) (hown : setM w b n ts) (hts : ∀ s ∈ ts, wfT s) (p q : Int) (hx : a.eval x = .agg #[.int .i64 p, .int .i64 q]) (hpq : wfT (p, q))
    (hK : wpList Try.prog ops Q rest (a.put o.dst (.bool (decide ((p, q) ∈ ts)))) w) : wpList Try.prog ops Q (o :: rest) a w := by
  refine wpList_plain hg fun K' hK' => ?_
  obtain ⟨v, ps, hrun, hv⟩ := hown.lookup lawT Try.underlying49 (Try.zero_bool w) (plainElem_bool Try.underlying4 false) (keyOf_tile hpq)
  rw [atKey_setD hts hpq] at hv
  have hvv : v = .bool (decide ((p, q) ∈ ts)) := by
    unfold plainElem at hv
    rw [Try.underlying4] at hv
    cases v <;> simp at hv
    by_cases h : (p, q) ∈ ts
    · simp [h] at hv; simp [h, hv.1]
    · simp [h] at hv; simp [h, hv.1]
  subst hvv
  unfold Oper.wp
  simp only [tv] at hrun
  simp [execOp, hop, hm, hx, hrun, Result.andThen]
  exact hK' _ _ hK

theorem both_sorted (ts us : List (Int × Int)) : sortL (ts.filter (pickB us true)) = thoseL ts us true := by
  rw [← sort_filter]
  rfl

set_option maxRecDepth 100000 in
set_option maxHeartbeats 2000000 in
theorem c_implBothHands (A : Option Addr) (c : Nat) (ts : List (Int × Int)) (A' : Option Addr) (c' : Nat) (us : List (Int × Int)) (w : World) (hr : RdT w A ts) (hl : ts.length ≤ 1048576) (hr' : RdT w A' us) (hl' : us.length ≤ 1048576) :
    Calls Try.prog 8 #[.slice A ts.length c, .slice A' us.length c'] w (RetT w (bothHL ts us) (okAB ts us)) := by
  have conH := Lib.hid (c_implIsHand A c ts w hr (by omega))
  have conH' := fun W (hb : Below w.heap.size w W) => c_implIsHand A' c' us W (hr'.below hb) (by omega)
  have ConH' := Lib.hid conH'
  clear conH'
  by_cases h : handB ts = true
  · by_cases h' : handB us = true
    · have e1 : bothHL ts us = thoseL ts us true := by simp [bothHL, okAB, h, h']
      have e2 : okAB ts us = true := by simp [okAB, h, h']
      rw [e1, e2]
      clear e1 e2
      have hg := (handB_good h).2
      have hg' := (handB_good h').2
      have conP := fun W (hb : Below w.heap.size w W) => c_tilesIn A c ts W (hr.below hb) hl (fun t ht => wfT_good (hg t ht))
      have ConP := Lib.hid conP
      have conQ := fun W (hb : Below w.heap.size w W) => c_tilesIn A' c' us W (hr'.below hb) hl' (fun t ht => wfT_good (hg' t ht))
      have ConQ := Lib.hid conQ
      have Hg := Lib.hid hg
      have Hwfu := Lib.hid (fun t ht => wfT_good (hg' t ht) : ∀ t ∈ us, wfT t)
      clear conP conQ hr hr' hg hg'
      go_enter Try.func8, Try.ntmps8
      go_wp2_with (first | (go_at_call_of 13 (Value.slice A ts.length c); refine conH.out.mono ?_; rintro e w0 ⟨rfl, hb0⟩) | (go_at_call_of 13 (Value.slice A' us.length c'); refine (ConH'.out _ hb0).mono ?_; rintro e w1 ⟨rfl, hb1⟩; have hb01 := bstep hb0 hb1) | (go_at_call_of 28 (Value.slice A ts.length c); refine (ConP.out _ hb01).mono ?_; rintro e w2 ⟨b, rfl, hbb, hm2, hb2⟩; have hb02 := bstep hb01 hb2) | (go_at_call_of 28 (Value.slice A' us.length c'); refine (ConQ.out _ hb02).mono ?_; rintro e w3 ⟨b', rfl, hbb', hm3, hb3⟩; have hb03 := bstep hb02 hb3; have hlb := hm2.lt; have hm2' := setM_below hm2 hb3; have hlb' := hm3.lt) | (at_range; refine wpList_range_own _ rfl _ 49 rfl 35 4 lawT Try.underlying49 _ b ts.length _ rfl hm2' ?_; intro w4 hrg0 hg0 hs0))
      have hb4 : Below w.heap.size w w4 := hb03.trans (below_of_grown hg0 hb03.size (by simp))
      have hbw : w.heap.size ≤ b := Nat.le_trans hb01.size hbb
      have hm4 : setM w4 b' us.length us := hm3.kept hg0 (by simp)
      have Hs := Lib.hid (Strk.start (f := pickB us true) (has_set Hg.out))
      clear hg0 hs0 hm2 hm2' hm3 ConP ConQ conH ConH'
      go_frame
      go_loopw [8] (fun _ wr => ∃ (D : DataW Unit) (left : Lit → Bool) (cnt : Nat),
          wr.ranges Try.prog 35 (plainElem (H := Unit) Try.prog 4) b w3.heap.size ts.length D left cnt ∧ Strk ts (pickB us true) D left ∧ setM wr b' us.length us ∧ Below w.heap.size w wr) (fun _ wr => wr.rangeLeft b w3.heap.size)
      case atStart => exact ⟨_, _, _, hrg0, Hs.out, hm4, hb4⟩
      case round =>
        clear hrg0 hb4 hm4 Hs
        obtain ⟨D, left, cnt, hrg, hst, hm, hb⟩ := hrel
        have Hst := Lib.hid hst
        have Hb := Lib.hid hb
        have Hm := Lib.hid hm
        have hzb := hb.size
        clear hst hb hm
        go_wp2_with (at_next; refine wp_next_tile rfl _ rfl b w3.heap.size ts.length _ _ _ rfl hrg ?_ ?_)
        · intro h0 hl0
          have hms : mset wr b ts.length (ts.filter (pickB us true)) := ⟨_, hrg.owns, fun t ht => Hst.out.done hl0.out t ht⟩
          have con := mset_sorted hms hl (fun t ht => Hg.out t (List.mem_filter.1 ht).1)
          rw [both_sorted] at con
          have Con := Lib.hid con
          clear con hms
          go_wp2_with (go_at_call 29; refine Con.out.mono ?_; rintro e w5 ⟨A2, c2, rfl, ho2, hb5⟩)
          go_ret2
          exact ⟨A2, c2, rfl, own_base ho2 hzb, bstep Hb.out hb5⟩
        · intro p q v w5 cnt' hwf hleft hrg3 hlt hg3 hen
          have Hb5 := Lib.hid (Hb.out.trans (below_of_grown hg3 hzb (fun g hg => by cases hg; exact hb03.size)))
          have hz5 := Hb5.out.size
          have Hrg5 := Lib.hid (hrg3.alloc (.cells #[.int .i64 p, .int .i64 q] 35))
          have hm5 : setM (w5.alloc (.cells #[.int .i64 p, .int .i64 q] 35)) b' us.length us := (Hm.out.kept hg3 (by simp; omega)).alloc _
          have Hm5 := Lib.hid hm5
          clear hrg3 hg3 hm5
          by_cases hin : (p, q) ∈ us
          · have hd : decide ((p, q) ∈ us) = true := decide_eq_true hin
            have Hf := Lib.hid (by simp [pickB, hin] : pickB us true (p, q) = true)
            clear hin
            go_wp2_with (at_lookup; refine wp_look_tile rfl _ _ rfl b' us.length us rfl Hm5.out Hwfu.out p q rfl hwf.out ?_)
            go_roundw
            case rel => exact ⟨D, _, cnt', Hrg5.out, Hst.out.stay hwf.out Hf.out (fun _ => rfl), Hm5.out, by have hb0 := Hb5.out; go_grown⟩
            case measure =>
              rw [Hrg5.out.left_eq, hrg.left_eq]
              exact hlt
          · have hd : decide ((p, q) ∈ us) = false := decide_eq_false hin
            have Hf := Lib.hid (by simp [pickB, hin] : pickB us true (p, q) = false)
            clear hin
            go_wp2_with (first | (at_lookup; refine wp_look_tile rfl _ _ rfl b' us.length us rfl Hm5.out Hwfu.out p q rfl hwf.out ?_) | (at_delete; refine wpList_delete_ranges _ rfl _ _ 49 35 rfl 4 lawT Try.underlying49 _ b w3.heap.size ts.length _ _ _ rfl Hrg5.out _ _ rfl (keyOf_tile hwf.out) ?_; intro w6 cnt6 hrg6 hle hturn; go_frame))
            go_roundw
            case rel => exact ⟨_, _, cnt6, hrg6, Hst.out.strike hwf.out Hf.out (fun z => by cases left z <;> cases z.sameKey (kl (p, q)) <;> rfl), Hm5.out.kept hturn.grown (by simp; omega), Below.grown (by have hb0 := Hb5.out; go_grown) hturn.grown (by simp; omega) (fun g hg => by cases hg; exact hbw)⟩
            case measure =>
              rw [hrg6.left_eq, hrg.left_eq]
              omega
    · have h2 : handB us = false := by simpa using h'
      have e1 : bothHL ts us = [] := by simp [bothHL, okAB, h, h2]
      have e2 : okAB ts us = false := by simp [okAB, h, h2]
      rw [e1, e2]
      clear e1 e2 h' hr hr'
      go_enter Try.func8, Try.ntmps8
      go_wp2_with (first | (go_at_call_of 13 (Value.slice A ts.length c); refine conH.out.mono ?_; rintro e w0 ⟨rfl, hb0⟩) | (go_at_call_of 13 (Value.slice A' us.length c'); refine (ConH'.out _ hb0).mono ?_; rintro e w1 ⟨rfl, hb1⟩))
      go_ret2
      exact ⟨none, 0, rfl, World.ownsRow_nil _ _ _ _, bstep hb0 hb1⟩
  · have h2 : handB ts = false := by simpa using h
    have e1 : bothHL ts us = [] := by simp [bothHL, okAB, h2]
    have e2 : okAB ts us = false := by simp [okAB, h2]
    rw [e1, e2]
    clear e1 e2 h hr hr'
    go_enter Try.func8, Try.ntmps8
    go_wp2_with (go_at_call_of 13 (Value.slice A ts.length c); refine conH.out.mono ?_; rintro e w0 ⟨rfl, hb0⟩)
    go_ret2
    exact ⟨none, 0, rfl, World.ownsRow_nil _ _ _ _, hb0⟩

end Go.Proofs.Ytllfjffcogpaiac

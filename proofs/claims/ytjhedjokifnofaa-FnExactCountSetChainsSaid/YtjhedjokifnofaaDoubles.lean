/- The doubles of a hand. -/
import Derived.Test.YtjhedjokifnofaaPick
import Derived.Test.YtjhedjokifnofaaCount
namespace Go.Proofs.Ytjhedjokifnofaa
open Go.RowKit Go.Maps Go.ChangeMaps
set_option linter.unusedVariables false

theorem atKey_fold {H : Type} {t : Int × Int} (ht : wfT t) (z : DataW H) : ∀ (ts : List (Int × Int)) (m : DataW H), IsMap m → (∀ s ∈ ts, wfT s) →
    ((ts.map kl).foldl (fun m x => m.put x yesD) m).atKey (kl t) z = if t ∈ ts then yesD else m.atKey (kl t) z
  | [], m, _, _ => by simp
  | s :: ts, m, hm, hts => by
    have hs := hts s (by simp)
    rw [List.map_cons, List.foldl_cons, atKey_fold ht z ts _ (hm.put _ _) (fun x hx => hts x (by simp [hx]))]
    by_cases h1 : t ∈ ts
    · simp [h1]
    · by_cases h2 : t = s
      · subst h2
        simp [h1, atKey_put_same hm (isKeyLit_kl ht)]
      · have h3 : kl t ≠ kl s := fun e => h2 (kl_inj ht hs e)
        simp [h1, h2, atKey_put_other h3]
theorem atKey_setD {H : Type} {ts : List (Int × Int)} (hts : ∀ s ∈ ts, wfT s) {t : Int × Int} (ht : wfT t) (z : DataW H) : (setD ts : DataW H).atKey (kl t) z = if t ∈ ts then yesD else z := by
  unfold setD setOf
  rw [atKey_fold ht z ts _ isMap_empty hts]
  congr 1

theorem setM_below {w w' : World} {b n : Nat} {ts : List (Int × Int)} (h : setM w b n ts) (hb : Below w.heap.size w w') : setM w' b n ts := by
  have hlt := h.lt
  obtain ⟨es, clock, he, r⟩ := h
  exact ⟨es, clock, (hb.block b hlt).trans he, r⟩

set_option maxRecDepth 100000 in
/-- 'm[t]' at a set of tiles. -/
theorem wp_look_tile {w : World} {ops : Array Oper} {rest : List Oper} {o : Oper} {a : Act} {Q : Exit → Act → World → Prop} (hg : o.guard = none) (m x : Operand) (hop : o.op = Op.lookup 84 m x false)
    (b n : Nat) (ts : List (Int × Int)) (hm : a.eval m = .map (some b)) (hown : setM w b n ts) (hts : ∀ s ∈ ts, wfT s) (p q : Int) (hx : a.eval x = .agg #[.int .i64 p, .int .i64 q]) (hpq : wfT (p, q))
    (hK : wpList Try.prog ops Q rest (a.put o.dst (.bool (decide ((p, q) ∈ ts)))) w) : wpList Try.prog ops Q (o :: rest) a w := by
  refine wpList_plain hg fun K' hK' => ?_
  obtain ⟨v, ps, hrun, hv⟩ := hown.lookup lawT Try.underlying84 (Try.zero_bool w) (plainElem_bool Try.underlying4 false) (keyOf_tile hpq)
  rw [atKey_setD hts hpq] at hv
  have hvv : v = .bool (decide ((p, q) ∈ ts)) := by
    unfold plainElem at hv
    rw [Try.underlying4] at hv
    cases v <;> simp at hv
    by_cases h : (p, q) ∈ ts
    · simp [h] at hv; simp [h, hv.1]
    · simp [h] at hv; simp [h, hv.1]
  subst hvv
  unfold Oper.wp
  simp only [tv] at hrun
  simp [execOp, hop, hm, hx, hrun, Result.andThen]
  exact hK' _ _ hK

/-- The doubles below k. -/
def dblsTo (ts : List (Int × Int)) (k : Nat) : List Int := ((List.range k).filter fun i : Nat => decide (((i : Int), (i : Int)) ∈ ts)).map fun i : Nat => (i : Int)
theorem dblsTo_yes {ts : List (Int × Int)} {k : Nat} (h : ((k : Int), (k : Int)) ∈ ts) : dblsTo ts (k + 1) = dblsTo ts k ++ [(k : Int)] := by
  unfold dblsTo
  rw [List.range_succ, List.filter_append, List.map_append]
  simp [h]
theorem dblsTo_no {ts : List (Int × Int)} {k : Nat} (h : ((k : Int), (k : Int)) ∉ ts) : dblsTo ts (k + 1) = dblsTo ts k := by
  unfold dblsTo
  rw [List.range_succ, List.filter_append]
  simp [h]
theorem dblsTo_len (ts : List (Int × Int)) (k : Nat) : (dblsTo ts k).length ≤ k := by
  unfold dblsTo
  rw [List.length_map]
  exact Nat.le_trans (List.length_filter_le _ _) (by simp)
def isDbl (t : Int × Int) : Bool := decide (t.1 = t.2)
def lowsTo (us : List (Int × Int)) (k : Nat) : List Int := ((us.take k).filter isDbl).map (·.1)
theorem lowsTo_yes {us : List (Int × Int)} {k : Nat} (hk : k < us.length) (h : us[k].1 = us[k].2) : lowsTo us (k + 1) = lowsTo us k ++ [us[k].1] := by
  unfold lowsTo
  rw [List.take_succ_eq_append_getElem hk, List.filter_append, List.map_append]
  simp [isDbl, h]
theorem lowsTo_no {us : List (Int × Int)} {k : Nat} (hk : k < us.length) (h : us[k].1 ≠ us[k].2) : lowsTo us (k + 1) = lowsTo us k := by
  unfold lowsTo
  rw [List.take_succ_eq_append_getElem hk, List.filter_append]
  simp [isDbl, h]
theorem lowsTo_len (us : List (Int × Int)) (k : Nat) : (lowsTo us k).length ≤ us.length := by
  unfold lowsTo
  rw [List.length_map]
  exact Nat.le_trans (List.length_filter_le _ _) (by simp; omega)
theorem set_dbls : (setL 9).filter isDbl = (List.range 10).map fun i : Nat => ((i : Int), (i : Int)) := by decide +kernel
theorem lows_dbls (ts : List (Int × Int)) : lowsTo (sortL ts) (sortL ts).length = dblsTo ts 10 := by
  unfold lowsTo dblsTo sortL pickL
  rw [List.take_length, List.filter_filter, List.filter_congr (q := fun t => pickB ts true t && isDbl t) (fun t _ => Bool.and_comm _ _), ← List.filter_filter, set_dbls, List.filter_map, List.map_map]
  congr 1
  exact List.filter_congr fun i _ => by simp [pickB]
def doublesL (ts : List (Int × Int)) : List Int := if handB ts then dblsTo ts 10 else []
theorem doublesL_len (ts : List (Int × Int)) : (doublesL ts).length ≤ 10 := by
  unfold doublesL
  split
  · exact dblsTo_len ts 10
  · simp

set_option maxHeartbeats 1000000 in
theorem c_implDoublesOf (A : Option Addr) (c : Nat) (ts : List (Int × Int)) (w : World) (hr : RdT w A ts) (hl : ts.length ≤ 1048576) :
    Calls Try.prog 50 #[.slice A ts.length c] w (RetI w (doublesL ts) (handB ts)) := by
  have conH := Lib.hid (c_implIsHand A c ts w hr (by omega))
  by_cases h : handB ts = true
  · have e1 : doublesL ts = dblsTo ts 10 := by simp [doublesL, h]
    rw [e1, h]
    clear e1
    have hwf := fun t ht => wfT_good ((handB_good h).2 t ht)
    have conP := fun W (hb : Below w.heap.size w W) => c_tilesIn A c ts W (hr.below hb) hl hwf
    have ConP := Lib.hid conP
    have Hwf := Lib.hid hwf
    clear conP hr hwf
    go_enter Try.func50, Try.ntmps50
    go_wp2_with (first | (go_at_call 55; refine conH.out.mono ?_; rintro e w0 ⟨rfl, hb0⟩) | (go_at_call 69; refine (ConP.out _ hb0).mono ?_; rintro e w1 ⟨b, rfl, hbb, hm1, hb1⟩))
    have hb01 := bstep hb0 hb1
    have hbm := hm1.lt
    clear conH ConP hb0 hb1
    go_loopw [5, 12] (fun v i wr => ∃ (k : Nat) (A' : Option Addr) (c' : Nat), k ≤ 10 ∧ i = .int .i64 k ∧ v = .slice A' (dblsTo ts k).length c' ∧ wr.ownsRow w1.heap.size 3 1 (.slice A' (dblsTo ts k).length c') (dblsTo ts k).length (cellsI (dblsTo ts k)) ∧ Below w1.heap.size w1 wr) (fun _ i _ => 10 - (intOf i).toNat)
    case atStart => exact ⟨0, none, 0, Nat.zero_le _, rfl, rfl, World.ownsRow_nil _ _ _ _, Below.refl _ _⟩
    case round =>
      obtain ⟨k, A', c', hk, rfl, rfl, hown, hb⟩ := hrel
      have hpl := dblsTo_len ts k
      by_cases hlt : k < 10
      · have hm := Lib.hid (setM_below hm1 hb)
        have hkw : wfT ((k : Int), (k : Int)) := ⟨WalkArith.wf_i64 (by omega), WalkArith.wf_i64 (by omega)⟩
        have Hkw := Lib.hid hkw
        have Hb := Lib.hid hb
        have Ho := Lib.hid hown
        have Ho2 := Lib.hid (hown.alloc (.cells #[.int .i64 k] 3))
        have hsz := hb.size
        clear hb hown hm1 hkw
        by_cases hd : ((k : Int), (k : Int)) ∈ ts
        · have hst := Lib.hid (dblsTo_yes hd)
          have hde : decide (((k : Int), (k : Int)) ∈ ts) = true := decide_eq_true hd
          go_wp2_with (first | (at_lookup; refine wp_look_tile rfl _ _ rfl b ts.length ts rfl hm.out Hwf.out k k rfl Hkw.out ?_) | (at_builtin; refine wp_append_int rfl _ _ rfl w1.heap.size _ _ rfl Ho2.out k wr.heap.size rfl (by simp) (by omega) (by simp; omega) ?_; intro A2 c2 w3 hown3 hg3))
          go_roundw
          case rel =>
            refine ⟨k + 1, A2, c2, by omega, by go_num, by rw [hst.out, List.length_append]; rfl, ?_, ?_⟩
            · rw [hst.out, List.length_append]; exact hown3
            · exact Below.grown (by have hb0 := Hb.out; have hz0 := hb0.size; go_grown) hg3 (by simp; omega) (fun g hg => (Ho2.out.lt g hg).1)
          case measure => simp [intOf]; omega
        · have hst := Lib.hid (dblsTo_no hd)
          have hde : decide (((k : Int), (k : Int)) ∈ ts) = false := decide_eq_false hd
          go_wp2_with (at_lookup; refine wp_look_tile rfl _ _ rfl b ts.length ts rfl hm.out Hwf.out k k rfl Hkw.out ?_)
          go_roundw
          case rel => exact ⟨k + 1, A', c', by omega, by go_num, by rw [hst.out], by rw [hst.out]; exact Ho.out, Hb.out⟩
          case measure => simp [intOf]; omega
      · have : k = 10 := by omega
        subst this
        go_wp2
        go_ret2
        exact ⟨A', c', rfl, own_base hown hb01.size, bstep hb01 hb⟩
  · have h' : handB ts = false := by simpa using h
    have e1 : doublesL ts = [] := by simp [doublesL, h']
    rw [e1, h']
    clear e1 h hr
    go_enter Try.func50, Try.ntmps50
    go_wp2_with (go_at_call 55; refine conH.out.mono ?_; rintro e w1 ⟨rfl, hb1⟩)
    go_ret2
    exact ⟨none, 0, rfl, World.ownsRow_nil _ _ _ _, hb1⟩
end Go.Proofs.Ytjhedjokifnofaa

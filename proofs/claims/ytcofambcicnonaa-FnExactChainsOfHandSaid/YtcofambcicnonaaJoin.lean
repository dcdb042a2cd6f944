/- Hands joined, cut and taken away. -/
import Derived.Test.YtcofambcicnonaaSorted
import Derived.Test.YtcofambcicnonaaApp
namespace Go.Proofs.Ytcofambcicnonaa
open Go.RowKit Go.Maps Go.ChangeMaps
set_option linter.unusedVariables false

def thoseL (a b : List (Int × Int)) (v : Bool) : List (Int × Int) := (sortL a).filter (pickB b v)
theorem those_all (a b : List (Int × Int)) (v : Bool) : pickTo (sortL a) b v (sortL a).length = thoseL a b v := by simp [pickTo, thoseL]
theorem thoseL_len (a b : List (Int × Int)) (v : Bool) : (thoseL a b v).length ≤ 110 := Nat.le_trans (List.length_filter_le _ _) (sortL_len a)
theorem sort_filter (a : List (Int × Int)) (p : Int × Int → Bool) : (sortL a).filter p = sortL (a.filter p) := by
  unfold sortL pickL
  rw [List.filter_filter]
  refine List.filter_congr fun t _ => ?_
  simp only [pickB, beq_true, List.mem_filter]
  by_cases h1 : t ∈ a <;> cases h2 : p t <;> simp [h1]
def okAB (a b : List (Int × Int)) : Bool := handB a && handB b

set_option maxHeartbeats 2000000 in
theorem c_tiThose (A0 : Option Addr) (c0 : Nat) (ts0 : List (Int × Int)) (A : Option Addr) (c : Nat) (ts : List (Int × Int)) (b : Bool) (w : World) (hr0 : RdT w A0 ts0) (hl0 : ts0.length ≤ 1048576) (hr : RdT w A ts) (hl : ts.length ≤ 1048576) :
    Calls Try.prog 48 #[.slice A0 ts0.length c0, .slice A ts.length c, .bool b] w (RetL w (thoseL ts0 ts b)) := by
  have hlen := sortL_len ts0
  obtain ⟨us, hus⟩ : ∃ us, us = sortL ts0 := ⟨_, rfl⟩
  have conS := Lib.hid (c_tiSort A0 c0 ts0 w hr0 hl0)
  rw [← those_all]
  rw [← hus] at hlen conS ⊢
  clear hus hr0 hl0
  go_enter Try.func48, Try.ntmps48
  go_wp2_with (go_at_call 46; refine conS.out.mono ?_; rintro e w1 ⟨U, cU, rfl, ho1, hb1⟩)
  have hru := RdT.of_own ho1
  clear conS
  go_loopw [7, 13] (fun v i wr => ∃ (k : Nat) (A' : Option Addr) (c' : Nat), k ≤ us.length ∧ i = .int .i64 k ∧ v = .slice A' (pickTo us ts b k).length c' ∧ wr.ownsRow w1.heap.size 41 2 (.slice A' (pickTo us ts b k).length c') (pickTo us ts b k).length (cellsT (pickTo us ts b k)) ∧ Below w1.heap.size w1 wr) (fun _ i _ => us.length - (intOf i).toNat)
  case atStart => exact ⟨0, none, 0, Nat.zero_le _, rfl, rfl, World.ownsRow_nil _ _ _ _, Below.refl _ _⟩
  case round =>
    clear ho1
    obtain ⟨k, A', c', hk, rfl, rfl, hown, hb⟩ := hrel
    have hpl := pickTo_len us ts b k
    by_cases hlt : k < us.length
    · obtain ⟨bk, off, rfl, hbk, hc⟩ := hru.at_ hlt
      have g1 := (hb.cell (p := ⟨bk, _, none⟩) hbk).trans (hc k hlt).1
      have g2 := (hb.cell (p := ⟨bk, _, none⟩) hbk).trans (hc k hlt).2
      have hr' := Lib.hid ((hr.below hb1).below hb)
      have Hb := Lib.hid hb
      have Ho := Lib.hid hown
      have hsz := hb.size
      have x0 : (wr.alloc (.cells #[.int .i64 us[k].1, .int .i64 us[k].2] 41)).cell? ⟨wr.heap.size, 0, none⟩ = some (.int .i64 us[k].1) := by simp
      have x1 : (wr.alloc (.cells #[.int .i64 us[k].1, .int .i64 us[k].2] 41)).cell? ⟨wr.heap.size, 1, none⟩ = some (.int .i64 us[k].2) := by simp
      clear hc hr hb hown hru
      by_cases hin : us[k] ∈ ts
      · have hge : decide (0 ≤ placeI ts (us[k].1, us[k].2)) = true := decide_eq_true (placeI_nonneg.2 hin)
        cases b
        · have hst := Lib.hid (pickTo_no (ts := ts) (b := false) hlt (by simp [pickB, hin]))
          clear hin
          go_wp2_with (first | (go_at_call 34; refine (c_tiPlace _ _ ts _ _ _ (hr'.out.below (by go_grown)) (by omega)).mono ?_; rintro e w2 ⟨rfl, hb2⟩; have y0 := keepc hb2 x0; have y1 := keepc hb2 x1; have hz2 := hb2.size; simp only [World.size_alloc] at hz2; have Ho2 := Lib.hid ((own_keep (Ho.out.alloc (.cells #[.int .i64 us[k].1, .int .i64 us[k].2] 41)) hb2).alloc (.cells #[.int .i64 us[k].1, .int .i64 us[k].2] 41))) | (at_builtin; refine wp_append_tile rfl _ _ rfl w1.heap.size _ _ rfl Ho2.out us[k].1 us[k].2 w2.heap.size rfl (by simp) (by simp) (by omega) (by simp; omega) ?_; intro A2 c2 w3 hown3 hg3))
          go_roundw
          case rel => exact ⟨k + 1, A', c', by omega, by go_num, by rw [hst.out], by rw [hst.out]; exact own_keep (Ho.out.alloc _) hb2, bstep (by have hb0 := Hb.out; have hz0 := hb0.size; go_grown) hb2⟩
          case measure => simp [intOf]; omega
        · have hst := Lib.hid (pickTo_yes (ts := ts) (b := true) hlt (by simp [pickB, hin]))
          clear hin
          go_wp2_with (first | (go_at_call 34; refine (c_tiPlace _ _ ts _ _ _ (hr'.out.below (by go_grown)) (by omega)).mono ?_; rintro e w2 ⟨rfl, hb2⟩; have y0 := keepc hb2 x0; have y1 := keepc hb2 x1; have hz2 := hb2.size; simp only [World.size_alloc] at hz2; have Ho2 := Lib.hid ((own_keep (Ho.out.alloc (.cells #[.int .i64 us[k].1, .int .i64 us[k].2] 41)) hb2).alloc (.cells #[.int .i64 us[k].1, .int .i64 us[k].2] 41))) | (at_builtin; refine wp_append_tile rfl _ _ rfl w1.heap.size _ _ rfl Ho2.out us[k].1 us[k].2 w2.heap.size rfl (by simp) (by simp) (by omega) (by simp; omega) ?_; intro A2 c2 w3 hown3 hg3))
          go_roundw
          case rel =>
            refine ⟨k + 1, A2, c2, by omega, by go_num, by rw [hst.out, List.length_append]; rfl, ?_, ?_⟩
            · rw [hst.out, List.length_append]; exact hown3
            · have hb3 : Below w1.heap.size w1 w2 := bstep (by have hb0 := Hb.out; have hz0 := hb0.size; go_grown) hb2
              have hz3 := hb3.size
              exact Below.grown (by go_grown) hg3 (by simp; omega) (fun g hg => (Ho2.out.lt g hg).1)
          case measure => simp [intOf]; omega
      · have hge : decide (0 ≤ placeI ts (us[k].1, us[k].2)) = false := decide_eq_false fun h => hin (placeI_nonneg.1 h)
        cases b
        · have hst := Lib.hid (pickTo_yes (ts := ts) (b := false) hlt (by simp [pickB, hin]))
          clear hin
          go_wp2_with (first | (go_at_call 34; refine (c_tiPlace _ _ ts _ _ _ (hr'.out.below (by go_grown)) (by omega)).mono ?_; rintro e w2 ⟨rfl, hb2⟩; have y0 := keepc hb2 x0; have y1 := keepc hb2 x1; have hz2 := hb2.size; simp only [World.size_alloc] at hz2; have Ho2 := Lib.hid ((own_keep (Ho.out.alloc (.cells #[.int .i64 us[k].1, .int .i64 us[k].2] 41)) hb2).alloc (.cells #[.int .i64 us[k].1, .int .i64 us[k].2] 41))) | (at_builtin; refine wp_append_tile rfl _ _ rfl w1.heap.size _ _ rfl Ho2.out us[k].1 us[k].2 w2.heap.size rfl (by simp) (by simp) (by omega) (by simp; omega) ?_; intro A2 c2 w3 hown3 hg3))
          go_roundw
          case rel =>
            refine ⟨k + 1, A2, c2, by omega, by go_num, by rw [hst.out, List.length_append]; rfl, ?_, ?_⟩
            · rw [hst.out, List.length_append]; exact hown3
            · have hb3 : Below w1.heap.size w1 w2 := bstep (by have hb0 := Hb.out; have hz0 := hb0.size; go_grown) hb2
              have hz3 := hb3.size
              exact Below.grown (by go_grown) hg3 (by simp; omega) (fun g hg => (Ho2.out.lt g hg).1)
          case measure => simp [intOf]; omega
        · have hst := Lib.hid (pickTo_no (ts := ts) (b := true) hlt (by simp [pickB, hin]))
          clear hin
          go_wp2_with (first | (go_at_call 34; refine (c_tiPlace _ _ ts _ _ _ (hr'.out.below (by go_grown)) (by omega)).mono ?_; rintro e w2 ⟨rfl, hb2⟩; have y0 := keepc hb2 x0; have y1 := keepc hb2 x1; have hz2 := hb2.size; simp only [World.size_alloc] at hz2; have Ho2 := Lib.hid ((own_keep (Ho.out.alloc (.cells #[.int .i64 us[k].1, .int .i64 us[k].2] 41)) hb2).alloc (.cells #[.int .i64 us[k].1, .int .i64 us[k].2] 41))) | (at_builtin; refine wp_append_tile rfl _ _ rfl w1.heap.size _ _ rfl Ho2.out us[k].1 us[k].2 w2.heap.size rfl (by simp) (by simp) (by omega) (by simp; omega) ?_; intro A2 c2 w3 hown3 hg3))
          go_roundw
          case rel => exact ⟨k + 1, A', c', by omega, by go_num, by rw [hst.out], by rw [hst.out]; exact own_keep (Ho.out.alloc _) hb2, bstep (by have hb0 := Hb.out; have hz0 := hb0.size; go_grown) hb2⟩
          case measure => simp [intOf]; omega
    · have : k = us.length := by omega
      subst this
      go_wp2
      go_ret
      exact ⟨A', c', rfl, own_base hown hb1.size, bstep hb1 hb⟩

/-- Block b is a map that holds just the tiles of a list. -/
def mset (w : World) (b n : Nat) (ts : List (Int × Int)) : Prop := ∃ D : DataW Unit, w.ownsMap Try.prog 41 (plainElem (H := Unit) Try.prog 4) b n D ∧ ∀ t, wfT t → has D (kl t) = decide (t ∈ ts)
theorem mset.of {w : World} {b n : Nat} {ts : List (Int × Int)} (h : setM w b n ts) (hg : ∀ t ∈ ts, goodB t.1 t.2 = true) : mset w b n ts := ⟨_, h, has_set hg⟩
theorem mset.lt {w : World} {b n : Nat} {ts : List (Int × Int)} (h : mset w b n ts) : b < w.heap.size := by obtain ⟨D, h, _⟩ := h; exact h.lt
theorem mset.below {w w' : World} {b n B : Nat} {ts : List (Int × Int)} (h : mset w b n ts) (hb : Below B w w') (hB : b < B) : mset w' b n ts := by
  obtain ⟨D, ⟨es, clock, he, r⟩, hD⟩ := h
  exact ⟨D, ⟨es, clock, (hb.block b hB).trans he, r⟩, hD⟩
theorem mset.alloc {w : World} {b n : Nat} {ts : List (Int × Int)} (h : mset w b n ts) (o : Obj) : mset (w.alloc o) b n ts := by
  obtain ⟨D, h, hD⟩ := h
  exact ⟨D, h.alloc o, hD⟩
theorem mset_sorted {b n : Nat} {ts : List (Int × Int)} {w : World} (h : mset w b n ts) (hn : n ≤ 1048576) (hg : ∀ t ∈ ts, goodB t.1 t.2 = true) :
    Calls Try.prog 59 #[.map (some b)] w (RetL w (sortL ts)) := by
  obtain ⟨D, h, hD⟩ := h
  exact c_sortedTiles b n D ts w h hn hD hg

/-- 'delete(m, t)' -/
theorem wp_del_tile {w : World} {ops : Array Oper} {rest : List Oper} {o : Oper} {a : Act} {Q : Exit → Act → World → Prop} (hg : o.guard = none) (m x : Operand)
    (hop : o.op = Op.call { callee := Callee.builtin Builtin.delete, args := #[m, x], argTypes := #[83, 41] }) (b n : Nat) (ts : List (Int × Int)) (hm : a.eval m = .map (some b)) (hown : mset w b n ts)
    (p q : Int) (hx : a.eval x = .agg #[.int .i64 p, .int .i64 q]) (hpq : wfT (p, q)) (hK : ∀ w', mset w' b n (ts.filter fun t => decide (t ≠ (p, q))) → w.grownBy w' (some b) → wpList Try.prog ops Q rest (a.put o.dst (.tuple #[])) w') :
    wpList Try.prog ops Q (o :: rest) a w := by
  obtain ⟨D, hown, hD⟩ := hown
  refine wpList_delete_own _ hg m x 83 41 hop 4 lawT Try.underlying83 _ b n D hm hown (tv (p, q)) (kl (p, q)) hx (keyOf_tile hpq) fun w' h1 h2 => hK w' ⟨_, h1, fun t ht => ?_⟩ h2.grown
  by_cases e : t = (p, q)
  · subst e
    rw [has_del_same]
    simp
  · rw [has_del_other (fun h => e (kl_inj ht hpq h)), hD t ht]
    simp [e]

/-- 'm[t] = true' -/
theorem wp_put_tile {w : World} {ops : Array Oper} {rest : List Oper} {o : Oper} {a : Act} {Q : Exit → Act → World → Prop} (hg : o.guard = none) (m x v : Operand)
    (hop : o.op = Op.mapUpdate 83 m x v) (b n : Nat) (ts : List (Int × Int)) (hm : a.eval m = .map (some b)) (hown : mset w b n ts) (hn : n ≤ 4194304)
    (p q : Int) (hx : a.eval x = .agg #[.int .i64 p, .int .i64 q]) (hv : a.eval v = .bool true) (hpq : wfT (p, q)) (hK : ∀ w', mset w' b (n + 1) (ts ++ [(p, q)]) → w.grownBy w' (some b) → wpList Try.prog ops Q rest (a.put o.dst undef) w') :
    wpList Try.prog ops Q (o :: rest) a w := by
  obtain ⟨D, hown, hD⟩ := hown
  refine wpList_mapUpdate_own _ hg m x v 83 hop 41 4 lawT Try.underlying83 _ b n D hm hown (by unfold maxLen; omega) (tv (p, q)) (.bool true) (kl (p, q)) hx hv (keyOf_tile hpq) _ [] (plainElem_bool Try.underlying4 true) fun w' h1 h2 => hK w' ⟨_, h1, fun t ht => ?_⟩ h2
  by_cases e : t = (p, q)
  · subst e
    rw [has_put_same hown.isMap (isKeyLit_kl hpq)]
    simp
  · rw [has_put_other (fun h => e (kl_inj ht hpq h)), hD t ht]
    simp [e]

def lessTo (a b : List (Int × Int)) (k : Nat) : List (Int × Int) := a.filter fun t => decide (t ∉ b.take k)
theorem lessTo_step {a b : List (Int × Int)} {k : Nat} (h : k < b.length) : (lessTo a b k).filter (fun t => decide (t ≠ (b[k].1, b[k].2))) = lessTo a b (k + 1) := by
  have hm : ∀ t, t ∈ b.take (k + 1) ↔ t ∈ b.take k ∨ t = b[k] := fun t => by rw [List.take_succ_eq_append_getElem h, List.mem_append, List.mem_singleton]
  unfold lessTo
  rw [List.filter_filter]
  refine List.filter_congr fun t _ => ?_
  rw [Bool.eq_iff_iff, Bool.and_eq_true, decide_eq_true_eq, decide_eq_true_eq, decide_eq_true_eq, hm]
  exact ⟨fun ⟨h1, h2⟩ h3 => h3.elim h2 h1, fun h1 => ⟨fun h2 => h1 (.inr h2), fun h2 => h1 (.inl h2)⟩⟩
theorem lessTo_zero (a b : List (Int × Int)) : lessTo a b 0 = a := List.filter_eq_self.2 (by simp)
theorem lessTo_all (a b : List (Int × Int)) : sortL (lessTo a b b.length) = thoseL a b false := by
  unfold thoseL lessTo
  rw [sort_filter, List.take_length]
  congr 1
  refine List.filter_congr fun t _ => ?_
  by_cases h : t ∈ b <;> simp [pickB, h]

def lessHL (a b : List (Int × Int)) : List (Int × Int) := if okAB a b then thoseL a b false else []
def bothHL (a b : List (Int × Int)) : List (Int × Int) := if okAB a b then thoseL a b true else []
def joinHL (a b : List (Int × Int)) : List (Int × Int) := if okAB a b then sortL (a ++ b) else []
theorem lessHL_len (a b : List (Int × Int)) : (lessHL a b).length ≤ 110 := by unfold lessHL; split; exact thoseL_len _ _ _; simp
theorem bothHL_len (a b : List (Int × Int)) : (bothHL a b).length ≤ 110 := by unfold bothHL; split; exact thoseL_len _ _ _; simp
theorem joinHL_len (a b : List (Int × Int)) : (joinHL a b).length ≤ 110 := by unfold joinHL; split; exact sortL_len _; simp

end Go.Proofs.Ytcofambcicnonaa

/- Layouts: the program's pairs. -/
import Derived.Test.YtnnkdnleencofaaDoorTabL
namespace Go.Proofs.YtnnkdnleencofaaDoor
open Go.RowKit
set_option linter.unusedVariables false

/-- The cell i and the one that it tells tell each other. -/
def layAt (W : Nat) (L : List UInt8) (i : Nat) : Bool :=
  match othU W L.length i (L.getD i 0) with
  | some j => decide ((L.getD j 0).toNat = backU (L.getD i 0))
  | none => false
def layB (W : Nat) (L : List UInt8) : Bool := (List.range L.length).all (layAt W L)
theorem getD_at {L : List UInt8} {i : Nat} (h : i < L.length) : L.getD i 0 = L[i] := by simp [h]
theorem layB_no {W : Nat} {L : List UInt8} {i : Nat} (h : i < L.length) (hl : layAt W L i = false) : layB W L = false := by
  cases hb : layB W L
  · rfl
  · unfold layB at hb
    rw [List.all_eq_true] at hb
    rw [hb i (List.mem_range.2 h)] at hl
    cases hl
theorem layB_yes {W : Nat} {L : List UInt8} (h : ∀ i, i < L.length → layAt W L i = true) : layB W L = true := by
  unfold layB
  rw [List.all_eq_true]
  intro i hi
  exact h i (List.mem_range.1 hi)
theorem layAt_none {W : Nat} {L : List UInt8} {i : Nat} (h : i < L.length) (hp : prB W L.length i L[i] = false) : layAt W L i = false := by
  unfold layAt
  rw [getD_at h]
  unfold prB at hp
  cases ho : othU W L.length i L[i] with
  | none => rfl
  | some j => rw [ho] at hp; cases hp
/-- The two cells of the pair that a cell tells: both tell one pair just where they tell each other. -/
theorem pr_same {W : Nat} {L : List UInt8} {i p q : Nat} (hW : 0 < W) (hr : ∃ H, L.length = H * W) (h : i < L.length) (hp : prB W L.length i L[i] = true) (he : prU W L.length i L[i] = (p, q)) :
    ∃ (hp1 : p < L.length) (hq1 : q < L.length), p < q ∧ (i = p ∨ i = q) ∧ ((prU W L.length p L[p] = prU W L.length q L[q]) ↔ layAt W L i = true) := by
  unfold prB at hp
  cases ho : othU W L.length i L[i] with
  | none => rw [ho] at hp; cases hp
  | some j =>
    obtain ⟨hj, hne⟩ := oth_lt hW hr h ho
    have hb := oth_back (b := L[j]) hW h hj ho
    have hlay : layAt W L i = true ↔ othU W L.length j L[j] = some i := by
      unfold layAt
      rw [getD_at h, ho]
      simp only
      rw [getD_at hj, decide_eq_true_eq, hb]
    have e1 : prU W L.length i L[i] = (min i j, max i j) := by unfold prU; rw [ho]
    rw [e1] at he
    injection he with ep eq
    have hpj : prU W L.length j L[j] = (p, q) ↔ othU W L.length j L[j] = some i := by
      unfold prU
      cases hoj : othU W L.length j L[j] with
      | none =>
        simp only [reduceCtorEq, iff_false]
        intro e
        injection e with a b
        omega
      | some j' =>
        simp only [Option.some.injEq, Prod.mk.injEq]
        omega
    have e1' : prU W L.length i L[i] = (p, q) := by rw [e1, ep, eq]
    have key : (prU W L.length i L[i] = prU W L.length j L[j]) ↔ layAt W L i = true := by
      rw [hlay, ← hpj, e1']
      exact ⟨fun e => e.symm, fun e => e.symm⟩
    rcases Nat.lt_or_ge i j with hij | hij
    · obtain rfl : p = i := by omega
      obtain rfl : q = j := by omega
      exact ⟨h, hj, hij, .inl rfl, key⟩
    · obtain rfl : p = j := by omega
      obtain rfl : q = i := by omega
      exact ⟨hj, h, by omega, .inr rfl, ⟨fun e => key.1 e.symm, fun e => (key.2 e).symm⟩⟩
/-- The pairs of the cells before k that are the lesser ones of theirs. -/
def prsTo (W : Nat) (L : List UInt8) (k : Nat) : List (Int × Int) := (List.range k).filterMap fun i => if (prU W L.length i (L.getD i 0)).1 = i then some (((prU W L.length i (L.getD i 0)).1 : Int), ((prU W L.length i (L.getD i 0)).2 : Int)) else none
theorem prsTo_zero (W : Nat) (L : List UInt8) : prsTo W L 0 = [] := rfl
theorem prsTo_yes {W : Nat} {L : List UInt8} {k p q : Nat} (h : k < L.length) (he : prU W L.length k L[k] = (p, q)) (hp : p = k) : prsTo W L (k + 1) = prsTo W L k ++ [((p : Int), (q : Int))] := by
  unfold prsTo
  rw [List.range_succ, List.filterMap_append]
  congr 1
  simp only [List.filterMap_cons, List.filterMap_nil]
  rw [getD_at h, he]
  simp [hp]
theorem prsTo_no {W : Nat} {L : List UInt8} {k p q : Nat} (h : k < L.length) (he : prU W L.length k L[k] = (p, q)) (hp : p ≠ k) : prsTo W L (k + 1) = prsTo W L k := by
  unfold prsTo
  rw [List.range_succ, List.filterMap_append]
  simp only [List.filterMap_cons, List.filterMap_nil]
  rw [getD_at h, he]
  simp [hp]
theorem prsTo_len (W : Nat) (L : List UInt8) (k : Nat) : (prsTo W L k).length ≤ k := by
  unfold prsTo
  exact Nat.le_trans (List.length_filterMap_le _ _) (by simp)

theorem Tryd.info_pair : (Tryd.prog.info? 113).map (fun i => (i.zero, i.size, i.bytes)) = some (some (.agg #[.int .i64 0, .int .i64 0]), 2, 16) := by kernel_rfl
/-- Two pairs compared. -/
theorem Tryd.eq_pair (a b c d : Int) (w : World) : (Op.equalIn 10000 113 (.agg #[.int .i64 a, .int .i64 b]) (.agg #[.int .i64 c, .int .i64 d])).run Tryd.prog w = .ok (a == c && b == d) w := by
  have h1 := Tryd.underlying3
  have h2 := Tryd.isAgg3
  have h3 := Tryd.sizeOf3
  rw [show (10000 : Nat) = 9999 + 1 from rfl, Op.equalIn]
  simp only [Sem.run_bind, run_underlying Tryd.underlying113, Result.andThen_ok]
  simp only [Std.Legacy.Range.forIn_eq_forIn_range', Std.Legacy.Range.size, Nat.sub_zero, Nat.add_sub_cancel, Nat.div_one, List.range'_succ, List.range'_zero, List.forIn_cons, List.forIn_nil]
  go_simp
  by_cases e1 : a = c <;> by_cases e2 : b = d <;> simp [e1, e2]
/-- One pair appended to a row of the call's own. -/
theorem wp_append_pair {w : World} {ops : Array Oper} {rest : List Oper} {o : Oper} {a : Act} {Q : Exit → Act → World → Prop} (hgd : o.guard = none) (s x : Operand)
    (ho : o.op = .call { callee := .builtin .append, args := #[s, x], argTypes := #[76, 76] }) (base : Nat) (v : Value) (ts : List (Int × Int)) (hs : a.eval s = v)
    (hown : w.ownsRow base 113 2 v ts.length (cellsT ts)) (p q : Int) (g : Nat) (hx : a.eval x = .slice (some ⟨g, 0, none⟩) 1 1)
    (h0 : w.cell? ⟨g, 0, none⟩ = some (.int .i64 p)) (h1 : w.cell? ⟨g, 1, none⟩ = some (.int .i64 q)) (hlen : ts.length ≤ 4194304) (hbase : base ≤ w.heap.size)
    (h : ∀ A c w', w'.ownsRow base 113 2 (.slice A (ts.length + 1) c) (ts.length + 1) (cellsT (ts ++ [(p, q)])) → w.grownBy w' v.ownBlock → wpList Tryd.prog ops Q rest (a.put o.dst (.slice A (ts.length + 1) c)) w') :
    wpList Tryd.prog ops Q (o :: rest) a w := by
  obtain ⟨i0, hi, hz0, hz1, hz2⟩ := info_parts Tryd.info_pair
  refine wpList_append_own w hgd s x 76 ho base 113 i0 _ 2 16 Tryd.underlying76 hi hz0 hz1 hz2 rfl (by decide) v ts.length (cellsT ts) hs hown ⟨g, 0, none⟩ 1 1 [.int .i64 p, .int .i64 q] hx rfl ?_ ?_ (by unfold maxLen; omega) (by omega) hbase ?_
  · intro j u hj
    match j, hj with
    | 0, hj => simp at hj; subst hj; simpa [Addr.add] using h0
    | 1, hj => simp at hj; subst hj; simpa [Addr.add] using h1
  · intro u hu
    simp at hu
    rcases hu with rfl | rfl <;> rfl
  · intro v' w' h1 h2 _
    have h1' := h1
    obtain ⟨_, ⟨_, hn⟩ | ⟨g', cap, cur, rfl, _⟩⟩ := h1'
    · omega
    refine h _ _ w' ?_ h2
    rw [cellsT_append]
    exact h1
/-- A row of pairs, read. -/
theorem ownP_at {w : World} {base : Nat} {A : Option Addr} {c : Nat} {ts : List (Int × Int)} (h : w.ownsRow base 113 2 (.slice A ts.length c) ts.length (cellsT ts)) (h0 : 0 < ts.length) :
    ∃ g, A = some ⟨g, 0, none⟩ ∧ base ≤ g ∧ g < w.heap.size ∧ ∀ k (hk : k < ts.length), w.cell? ⟨g, k * 2, none⟩ = some (.int .i64 ts[k].1) ∧ w.cell? ⟨g, k * 2 + 1, none⟩ = some (.int .i64 ts[k].2) := by
  have h' := h
  obtain ⟨hl, ⟨hv, hn⟩ | ⟨g, cap, cur, hv, hb, hh, r⟩⟩ := h'
  · omega
  · cases hv
    refine ⟨g, rfl, hb, (Array.getElem?_eq_some_iff.1 hh).1, fun k hk => ?_⟩
    have := cellsT_get ts k hk
    exact ⟨(h.cellAt (k * 2) (by omega)).trans this.1, (h.cellAt (k * 2 + 1) (by omega)).trans this.2⟩

def prsB (b : Bool) (W : Nat) (L : List UInt8) : List (Int × Int) := if b then prsTo W L L.length else []
def RetPr (w : World) (W : Nat) (L : List UInt8) (b : Bool) (e : Ending) (w' : World) : Prop :=
  ∃ A c, e = .returned (.tuple #[.slice A (prsB b W L).length c, .bool b]) ∧ w'.ownsRow w.heap.size 113 2 (.slice A (prsB b W L).length c) (prsB b W L).length (cellsT (prsB b W L)) ∧ Below w.heap.size w w'

set_option maxRecDepth 100000 in
set_option maxHeartbeats 2000000 in
theorem c_pairs (A : Option Addr) (c : Nat) (W : Nat) (L : List UInt8) (w : World) (hr : RdU w A L) (hW : 0 < W) (hrow : ∃ H, L.length = H * W) (k30 : L.length ≤ 60) (hW30 : W ≤ 60) :
    Calls Tryd.prog 92 #[.agg #[.slice A L.length c, .int .i64 W]] w (RetPr w W L (layB W L)) := by
  have conA := Lib.hid (fun k (hk : k < L.length) W0 (hb : Below w.heap.size w W0) => c_pairAt W k A c L W0 (hr.below hb) hW hk k30 hW30)
  have hbad := Lib.hid (fun i (h : i < L.length) hl => layB_no (W := W) (L := L) (i := i) h hl)
  have hgood := Lib.hid (fun h => layB_yes (W := W) (L := L) h)
  have hsame := Lib.hid (fun i p q (h : i < L.length) h1 h2 => pr_same (p := p) (q := q) hW hrow h h1 h2)
  have hnone := Lib.hid (fun i (h : i < L.length) hp => layAt_none (W := W) h hp)
  have heq := Tryd.eq_pair
  have hret := Lib.hid (show ∀ b, layB W L = b → RetPr w W L (layB W L) = RetPr w W L b from fun b h => by rw [h])
  go_enter Tryd.func92, Tryd.ntmps92
  go_wp2
  obtain ⟨w0, hw0⟩ : ∃ w0, w0 = w.alloc (.cells #[.slice A L.length c, .int .i64 W] 67) := ⟨_, rfl⟩
  rw [← hw0]
  have b0 : w0.cell? ⟨w.heap.size, 0, none⟩ = some (.slice A L.length c) := by rw [hw0]; simp
  have b1 : w0.cell? ⟨w.heap.size, 1, none⟩ = some (.int .i64 W) := by rw [hw0]; simp
  have Hb0 := Lib.hid (show Below w.heap.size w w0 by rw [hw0]; exact (Below.refl _ _).alloc (Nat.le_refl _) _)
  have hz0 := Hb0.out.size
  clear hw0 hr
  go_loopw [4, 15] (fun v i wr => ∃ (k : Nat) (A2 : Option Addr) (c2 : Nat), k ≤ L.length ∧ i = .int .i64 k ∧ v = .slice A2 (prsTo W L k).length c2 ∧ (∀ i, i < k → layAt W L i = true) ∧ wr.ownsRow w0.heap.size 113 2 (.slice A2 (prsTo W L k).length c2) (prsTo W L k).length (cellsT (prsTo W L k)) ∧ Below w0.heap.size w0 wr) (fun _ i _ => L.length - (intOf i).toNat)
  case atStart => exact ⟨0, none, 0, Nat.zero_le _, rfl, rfl, by omega, World.ownsRow_nil _ _ _ _, Below.refl _ _⟩
  case round =>
    obtain ⟨k, A2, c2, hk, rfl, rfl, hall, ho, hb⟩ := hrel
    have d0 := keepc hb b0
    have d1 := keepc hb b1
    have hzd : w.heap.size < wr.heap.size := block_lt d0
    have hlen := prsTo_len W L k
    have Ho := Lib.hid ho
    have Hb := Lib.hid hb
    have Hall := Lib.hid hall
    by_cases hlt : k < L.length
    · have con1 := conA.out k hlt wr (bstep Hb0.out hb)
      obtain ⟨p, hp⟩ : ∃ p, (prU W L.length k L[k]).1 = p := ⟨_, rfl⟩
      obtain ⟨q, hq⟩ : ∃ q, (prU W L.length k L[k]).2 = q := ⟨_, rfl⟩
      have hpq : prU W L.length k L[k] = (p, q) := Prod.ext hp hq
      rw [hp, hq] at con1
      cases hok : prB W L.length k L[k]
      · rw [hok] at con1
        have Con1 := Lib.hid con1
        have hf := Lib.hid (hbad.out k hlt (hnone.out k hlt hok))
        clear con1 hok hpq hp hq hall ho hb
        go_wp2_with fail
        refine Con1.out.mono ?_
        rintro e w2 ⟨rfl, hb2⟩
        have Hb2 := Lib.hid (bstep (bstep Hb0.out Hb.out) hb2)
        clear hb2
        go_wp2
        go_ret2
        rw [hret.out false hf.out]
        exact ⟨none, 0, rfl, World.ownsRow_nil _ _ _ _, Hb2.out.alloc Hb2.out.size _⟩
      · rw [hok] at con1
        obtain ⟨hp1, hq1, hpq2, hik, hiff⟩ := hsame.out k p q hlt hok hpq
        have con2 := Lib.hid (fun W0 hb => conA.out p hp1 W0 hb)
        have con3 := Lib.hid (fun W0 hb => conA.out q hq1 W0 hb)
        obtain ⟨f1, hf1⟩ : ∃ f1, (prU W L.length p L[p]).1 = f1 := ⟨_, rfl⟩
        obtain ⟨f2, hf2⟩ : ∃ f2, (prU W L.length p L[p]).2 = f2 := ⟨_, rfl⟩
        obtain ⟨s1, hs1⟩ : ∃ s1, (prU W L.length q L[q]).1 = s1 := ⟨_, rfl⟩
        obtain ⟨s2, hs2⟩ : ∃ s2, (prU W L.length q L[q]).2 = s2 := ⟨_, rfl⟩
        rw [hf1, hf2] at con2
        rw [hs1, hs2] at con3
        have hfs : (prU W L.length p L[p] = prU W L.length q L[q]) ↔ (f1 = s1 ∧ f2 = s2) := by
          rw [← hf1, ← hf2, ← hs1, ← hs2]
          constructor
          · intro e; rw [e]; exact ⟨rfl, rfl⟩
          · rintro ⟨a, b⟩; exact Prod.ext a b
        rw [hfs] at hiff
        have Hiff := Lib.hid hiff
        have Con1 := Lib.hid con1
        have hyes := Lib.hid (fun h => prsTo_yes (W := W) hlt hpq h)
        have hno := Lib.hid (fun h => prsTo_no (W := W) hlt hpq h)
        have hlayno := Lib.hid (fun h => hbad.out k hlt h)
        generalize prB W L.length p L[p] = o1 at con2
        generalize prB W L.length q L[q] = o2 at con3
        clear con1 hok hpq hp hq hall ho hb hiff hfs hf1 hf2 hs1 hs2
        go_wp2_with fail
        refine Con1.out.mono ?_
        rintro e w2 ⟨rfl, hb2⟩
        have e0 := keepc hb2 d0
        have e1 := keepc hb2 d1
        have Hb2 := Lib.hid (bstep Hb.out hb2)
        have Ho2 := Lib.hid (own_keep Ho.out hb2)
        clear hb2 d0 d1
        have hz2 : w.heap.size < w2.heap.size := block_lt e0
        go_wp2_with fail
        refine (con2.out _ (by have := bstep Hb0.out Hb2.out; exact this.alloc this.size _)).mono ?_
        rintro e w3 ⟨rfl, hb3⟩
        obtain ⟨wa, hwa⟩ : ∃ wa, wa = w2.alloc (.cells #[.int .i64 (p : Int), .int .i64 (q : Int)] 113) := ⟨_, rfl⟩
        rw [← hwa] at hb3
        have hba : Below w2.heap.size w2 wa := by rw [hwa]; exact (Below.refl _ _).alloc (Nat.le_refl _) _
        have t0 : wa.cell? ⟨w2.heap.size, 0, none⟩ = some (.int .i64 (p : Int)) := by rw [hwa]; simp
        have t1 : wa.cell? ⟨w2.heap.size, 1, none⟩ = some (.int .i64 (q : Int)) := by rw [hwa]; simp
        clear hwa
        have hb23 := bstep hba hb3
        have e0 := keepc hb23 e0
        have e1 := keepc hb23 e1
        have t0 := keepc hb3 t0
        have t1 := keepc hb3 t1
        have Hb3 := Lib.hid (bstep Hb2.out hb23)
        have Ho3 := Lib.hid (own_keep Ho2.out hb23)
        have hz3 : w.heap.size < w3.heap.size := block_lt e0
        have hz3t : w2.heap.size < w3.heap.size := block_lt t0
        clear hba hb3 hb23
        go_wp2_with fail
        refine (con3.out _ (by have := bstep Hb0.out Hb3.out; exact this.alloc this.size _)).mono ?_
        rintro e w4 ⟨rfl, hb4⟩
        obtain ⟨wb, hwb⟩ : ∃ wb, wb = w3.alloc (.cells #[.int .i64 (f1 : Int), .int .i64 (f2 : Int)] 113) := ⟨_, rfl⟩
        rw [← hwb] at hb4
        have hbb : Below w3.heap.size w3 wb := by rw [hwb]; exact (Below.refl _ _).alloc (Nat.le_refl _) _
        have u0 : wb.cell? ⟨w3.heap.size, 0, none⟩ = some (.int .i64 (f1 : Int)) := by rw [hwb]; simp
        have u1 : wb.cell? ⟨w3.heap.size, 1, none⟩ = some (.int .i64 (f2 : Int)) := by rw [hwb]; simp
        clear hwb
        have hb34 := bstep hbb hb4
        have t0 := keepc hb34 t0
        have t1 := keepc hb34 t1
        have u0 := keepc hb4 u0
        have u1 := keepc hb4 u1
        have Hb4 := Lib.hid (bstep Hb3.out hb34)
        have Ho4 := Lib.hid (own_keep Ho3.out hb34)
        have hz4t : w2.heap.size < w4.heap.size := block_lt t0
        have hz4u : w3.heap.size < w4.heap.size := block_lt u0
        clear hbb hb4 hb34 e0 e1
        by_cases hsame : f1 = s1 ∧ f2 = s2
        · have hl := Lib.hid (Hiff.out.1 hsame)
          obtain ⟨rfl, rfl⟩ := hsame
          by_cases hpk : p = k
          · have hq1 : ((p : Int) == (k : Int)) = true := by simp [hpk]
            have Hy := Lib.hid (hyes.out hpk)
            clear hyes hno hpk
            go_wp2_with (at_builtin; refine wp_append_pair rfl _ _ rfl w0.heap.size _ (prsTo W L k) rfl ((Ho4.out.alloc _).alloc _) (p : Int) (q : Int) (w4.heap.size + 1) rfl (by simp) (by simp) (by omega) (by have := Hb4.out.size; simp; omega) ?_; intro A5 c5 w5 ho5 hg5)
            go_roundw
            case rel =>
              refine ⟨k + 1, A5, c5, by omega, by go_num, by rw [Hy.out, List.length_append]; rfl, fun i hi => ?_, by rw [Hy.out, List.length_append]; exact ho5, ?_⟩
              · rcases Nat.lt_succ_iff_lt_or_eq.1 hi with h | rfl
                · exact Hall.out i h
                · exact hl.out
              · exact Below.grown ((Hb4.out.alloc Hb4.out.size _).alloc (Nat.le_trans Hb4.out.size (by simp)) _) hg5 (by have := Hb4.out.size; simp; omega) (fun g hg => (Ho4.out.lt g hg).1)
            case measure => simp [intOf]; omega
          · have hq1 : ((p : Int) == (k : Int)) = false := by simp; omega
            have Hy := Lib.hid (hno.out hpk)
            clear hyes hno hpk
            go_wp2
            go_roundw
            case rel =>
              refine ⟨k + 1, A2, c2, by omega, by go_num, by rw [Hy.out], fun i hi => ?_, by rw [Hy.out]; exact Ho4.out.alloc _, Hb4.out.alloc Hb4.out.size _⟩
              rcases Nat.lt_succ_iff_lt_or_eq.1 hi with h | rfl
              · exact Hall.out i h
              · exact hl.out
            case measure => simp [intOf]; omega
        · have hl : layAt W L k = false := by
            cases h : layAt W L k
            · rfl
            · exact absurd (Hiff.out.2 h) hsame
          have hf := Lib.hid (hlayno.out hl)
          have Hbf := Lib.hid (bstep Hb0.out Hb4.out)
          clear hl hyes hno
          by_cases h1 : f1 = s1
          · have h2 : f2 ≠ s2 := fun h => hsame ⟨h1, h⟩
            have y1 : ((f1 : Int) == (s1 : Int)) = true := by simp [h1]
            have y2 : ((f2 : Int) == (s2 : Int)) = false := by simp; omega
            clear h1 h2 hsame
            go_wp2
            go_ret2
            rw [hret.out false hf.out]
            exact ⟨none, 0, rfl, World.ownsRow_nil _ _ _ _, by first | exact (Hbf.out.alloc Hbf.out.size _).alloc (Nat.le_trans Hbf.out.size (by simp)) _ | exact Hbf.out.alloc Hbf.out.size _⟩
          · have y1 : ((f1 : Int) == (s1 : Int)) = false := by simp; omega
            clear h1 hsame
            go_wp2
            go_ret2
            rw [hret.out false hf.out]
            exact ⟨none, 0, rfl, World.ownsRow_nil _ _ _ _, by first | exact (Hbf.out.alloc Hbf.out.size _).alloc (Nat.le_trans Hbf.out.size (by simp)) _ | exact Hbf.out.alloc Hbf.out.size _⟩
    · have hke : k = L.length := by omega
      subst hke
      have hf := Lib.hid (hgood.out hall)
      clear hall ho hb
      go_wp2
      go_ret2
      rw [hret.out true hf.out]
      exact ⟨A2, c2, rfl, own_base Ho.out hz0, bstep Hb0.out Hb.out⟩
end Go.Proofs.YtnnkdnleencofaaDoor

/- slices.Values of a row of tiles; slices.AppendSeq, Collect and SortedFunc of it. -/
import Derived.Test.YtjdnkcdnppcbhaaIterB
import Derived.Test.YtjdnkcdnppcbhaaSort
import Derived.Test.YtjdnkcdnppcbhaaApp
import Derived.Test.YtjdnkcdnppcbhaaGamB
import Derived.LoopIn
import Derived.TacticsIn
import Derived.Maps.OwnIn
import Derived.Shelf.SlSortCmp.NoneTotal
namespace Go.Proofs.Ytjdnkcdnppcbhaa
open Go Go.RowKit
set_option linter.unusedVariables false

set_option maxRecDepth 100000 in
set_option maxHeartbeats 2000000 in
theorem iters_values (n₀ B : Nat) (A : Option Addr) (c : Nat) (ts : List (Int × Int)) (w0 : World) (hB : w0.cell? ⟨B, 0, none⟩ = some (.slice A ts.length c)) (hBn : B < n₀) (hn : n₀ ≤ w0.heap.size) (hr : RdT w0 A ts) (hrn : ts ≠ [] → ∀ a, A = some a → a.block < n₀) (hl : ts.length ≤ 1048576) :
    Iters Try.prog n₀ (fun _ => False) 152 #[.pointer (some ⟨B, 0, none⟩)] (fun (x : Int × Int) v T A => v = #[.agg #[.int .i64 x.1, .int .i64 x.2]]) ts w0 := by
  intro m l J Jx W hW hJ hJx hY h0
  have hBW := (hW.cell (p := ⟨B, 0, none⟩) (block_lt hB)).trans hB
  have hrW := hr.below hW
  have hnW : n₀ ≤ W.heap.size := Nat.le_trans hn hW.size
  clear hW hr hB hn
  refine callsIn_of_wp Try.func152 rfl trivial ?_
  simp only [Try.ntmps152, List.size_toArray, List.length_cons, List.length_nil, Nat.reduceAdd, Nat.reduceSub, Array.replicate_succ, Array.replicate_zero, List.push_toArray, List.append_toArray, List.nil_append, List.cons_append]
  gi_wp2
  gi_loopw [7] (fun i wr => ∃ k : Nat, k ≤ ts.length ∧ i = .int .i64 k ∧ J (fun _ => False) (ts.take k) wr ∧ Below n₀ W wr) (fun i _ => ts.length - (intOf i).toNat)
  case atStart => exact ⟨0, Nat.zero_le _, rfl, by simpa using h0, Below.refl _ _⟩
  case round =>
    obtain ⟨k, hk, rfl, hj, hb⟩ := hrel
    have hz := hb.size
    by_cases hlt : k < ts.length
    · obtain ⟨bk, off, rfl, hbk, hc⟩ := hrW.at_ hlt
      have hbn : bk < n₀ := hrn (by rintro rfl; simp at hlt) ⟨bk, off, none⟩ rfl
      have g0 := (hb.cell (p := ⟨bk, _, none⟩) hbn).trans (hc k hlt).1
      have g1 := (hb.cell (p := ⟨bk, _, none⟩) hbn).trans (hc k hlt).2
      have hpre : ts.take k ++ [ts[k]] = ts.take (k + 1) := by rw [List.take_succ_eq_append_getElem hlt]
      have hp : ts.take k ++ [ts[k]] <+: ts := by rw [hpre]; exact List.take_prefix _ _
      obtain ⟨A1, hA1⟩ : ∃ A1, A1 = wr.alloc (.cells #[.int .i64 ts[k].1, .int .i64 ts[k].2] 82) := ⟨_, rfl⟩
      have b1 : Below wr.heap.size wr A1 := by rw [hA1]; exact (Below.refl _ _).alloc (Nat.le_refl _) _
      have j1 := hJ (fun _ => False) (fun _ => False) (ts.take k) wr A1 hj (fun _ h => h.elim) (by omega) (Turn.of_below b1) (fun _ h => .inl h)
      obtain ⟨fn, tmps, assign, body, hy, hR⟩ := hY (fun _ => False) (ts.take k) ts[k] _ A1 (m - 1) j1 hp (fun _ h => h.elim) (by have := b1.size; omega) rfl
      have Hb := Lib.hid hb
      have Hpre := Lib.hid hpre
      have B1 := Lib.hid b1
      have Hp := Lib.hid hp
      have z1 := b1.size
      clear hc hb hpre j1 hj hp b1
      rw [hA1] at hy
      gi_wp2
      rw [← hA1]
      refine ⟨fun h => by simp [Fence.wide] at h, hR.mono ?_⟩
      rintro e W3 (⟨rfl, hj3, hk3⟩ | ⟨rfl, hj3, hk3⟩)
      · have hb3 : Below n₀ W W3 := (Hb.out.trans (B1.out.mono (by omega))).trans (hk3.below (by omega) (fun k h => h.1))
        gi_wp2
        go_roundw
        case rel => exact ⟨k + 1, by omega, by go_num, by rw [← Hpre.out]; exact hj3, hb3⟩
        case measure => simp [intOf]; omega
      · have z3 := hk3.size
        gi_wp2
        refine bodyPost_ret (results_none rfl _ _ _) rfl ?_
        exact ⟨⟨_, rfl⟩, by omega, .inr ⟨_, _, Hp.out, hj3, fun _ h => h.elim⟩⟩
    · have : k = ts.length := by omega
      subst this
      rw [List.take_length] at hj
      gi_wp2
      go_end0
      exact ⟨⟨_, rfl⟩, hz, .inl ⟨_, hj, fun _ h => h.elim⟩⟩

/-- What AppendSeq keeps between two rounds: its box holds the row of what has come. -/
def ApI (n₀ : Nat) (w : World) (T : Nat → Prop) (pre : List (Int × Int)) (A : World) : Prop :=
  ¬ T n₀ ∧ (∀ m, A.frozen? ⟨n₀, m, none⟩ = false) ∧ Below n₀ w A ∧ ∃ A' c', A.cell? ⟨n₀, 0, none⟩ = some (.slice A' pre.length c') ∧ A.ownsRow (n₀ + 1) 82 2 (.slice A' pre.length c') pre.length (cellsT pre) ∧ ∀ g, (Value.slice A' pre.length c').ownBlock = some g → ¬ T g

theorem frozen_of_block {w w' : World} {b m : Nat} (h : w'.heap[b]? = w.heap[b]?) : w'.frozen? ⟨b, m, none⟩ = w.frozen? ⟨b, m, none⟩ := by
  unfold World.frozen?
  simp only [h]

theorem ApI.abides (n₀ : Nat) (w : World) : AbT n₀ (ApI n₀ w) := by
  rintro T T' s A B ⟨h1, h2, h3, A', c', h4, h5, h6⟩ hT hn ht hT'
  have hb := block_lt h4
  have eb : B.heap[n₀]? = A.heap[n₀]? := ht.block n₀ hb h1
  refine ⟨fun h => ?_, fun m => (frozen_of_block eb).trans (h2 m), h3.trans (ht.below (by have := h3.size; omega) (fun k hk => (hT k hk).1)), A', c', (World.cell?_of_block (a := ⟨n₀, 0, none⟩) eb).trans h4, ?_, fun g hg h => ?_⟩
  · rcases hT' _ h with h | h
    · exact h1 h
    · simp only at hb; omega
  · obtain ⟨e1, e2⟩ := h5
    refine ⟨e1, ?_⟩
    rcases e2 with e2 | ⟨g, cap, cur, hv, hg, hh, r⟩
    · exact .inl e2
    · refine .inr ⟨g, cap, cur, hv, hg, (ht.block g (Array.getElem?_eq_some_iff.1 hh).1 (h6 g (by rw [hv]; rfl))).trans hh, r⟩
  · rcases hT' _ h with h | h
    · exact h6 g hg h
    · have := (h5.lt g hg).2; omega

theorem wpI_append_tile {F : Fence} {n : Nat} {w : World} {ops : Array Oper} {rest : List Oper} {o : Oper} {a : Act} {Q : Exit → Act → World → Prop} (hgd : o.guard = none) (s x : Operand)
    (ho : o.op = .call { callee := .builtin .append, args := #[s, x], argTypes := #[28, 28] }) (base : Nat) (v : Value) (ts : List (Int × Int)) (hs : a.eval s = v)
    (hown : w.ownsRow base 82 2 v ts.length (cellsT ts)) (p q : Int) (g : Nat) (hx : a.eval x = .slice (some ⟨g, 0, none⟩) 1 1)
    (h0 : w.cell? ⟨g, 0, none⟩ = some (.int .i64 p)) (h1 : w.cell? ⟨g, 1, none⟩ = some (.int .i64 q)) (hlen : ts.length ≤ 4194304) (hbase : base ≤ w.heap.size)
    (h : ∀ A c w', w'.ownsRow base 82 2 (.slice A (ts.length + 1) c) (ts.length + 1) (cellsT (ts ++ [(p, q)])) → w.grownBy w' v.ownBlock → ((Value.slice A (ts.length + 1) c).ownBlock = v.ownBlock ∨ (Value.slice A (ts.length + 1) c).ownBlock = some w.heap.size) → wpListIn F n Try.prog ops Q rest (a.put o.dst (.slice A (ts.length + 1) c)) w') :
    wpListIn F n Try.prog ops Q (o :: rest) a w := by
  obtain ⟨i0, hi, hz0, hz1, hz2⟩ := info_parts Try.info_tile
  refine wpListIn_append_own_at w hgd s x 28 ho base 82 i0 _ 2 16 Try.underlying28 hi hz0 hz1 hz2 rfl (by decide) v ts.length (cellsT ts) hs hown ⟨g, 0, none⟩ 1 1 [.int .i64 p, .int .i64 q] hx rfl ?_ ?_ (by unfold maxLen; omega) (by omega) hbase ?_
  · intro j u hj
    match j, hj with
    | 0, hj => simp at hj; subst hj; simpa [Addr.add] using h0
    | 1, hj => simp at hj; subst hj; simpa [Addr.add] using h1
  · intro u hu
    simp at hu
    rcases hu with rfl | rfl <;> rfl
  · intro v' w' h1 h2 _ h3
    have h1' := h1
    obtain ⟨_, ⟨_, hn⟩ | ⟨g', cap, cur, rfl, _⟩⟩ := h1'
    · omega
    refine h _ _ w' ?_ h2 h3
    rw [cellsT_append]
    exact h1

theorem enters_values (args : Array Value) (w : World) : (callFunc 152 args).run Try.prog w = .ok (.enter 152 args) w := by
  have h1 : Try.f152.name ≠ "runtime.NumGoroutine" := beq_eq_false_iff_ne.1 (by kernel_rfl)
  have h2 : Try.f152.body ≠ none := by intro h; cases h
  simp [callFunc, go_sem, h1, h2]

def apAct (B n₀ : Nat) (v : Array Value) (W : World) : Act :=
  { tmps := #[.slice none 0 0, .func (.func 152) #[] #[.pointer (some ⟨B, 0, none⟩)], .pointer (some ⟨n₀, 0, none⟩), undef, .slice none 0 0, .pointer (some ⟨W.heap.size, 0, none⟩), .func (.func 152) #[] #[.pointer (some ⟨B, 0, none⟩)], v.getD 0 undef, undef, undef, undef, undef, undef], defers := [] }
def apAsg (v : Array Value) (W : World) : World := W.alloc (.cells (match v.getD 0 undef with | .agg cs => cs | _ => #[]) 82)

set_option maxRecDepth 100000 in
set_option maxHeartbeats 4000000 in
theorem c_appendSeq (B : Nat) (A : Option Addr) (c : Nat) (ts : List (Int × Int)) (w : World) (hB : w.cell? ⟨B, 0, none⟩ = some (.slice A ts.length c)) (hr : RdT w A ts) (hl : ts.length ≤ 1048576) :
    Calls Try.prog 170 #[.slice none 0 0, .func (.func 152) #[] #[.pointer (some ⟨B, 0, none⟩)]] w (RetL w ts) := by
  refine (callsIn_wide (n := 5)).1 ?_
  refine callsIn_of_wp_marks Try.func170 rfl trivial ?_
  simp only [Try.ntmps170, List.size_toArray, List.length_cons, List.length_nil, Nat.reduceAdd, Nat.reduceSub, Array.replicate_succ, Array.replicate_zero, List.push_toArray, List.append_toArray, List.nil_append, List.cons_append]
  gi_wp2
  have hBlt := block_lt hB
  have hb0 : Below w.heap.size w (w.alloc (.cells #[.slice none 0 0] 28)) := (Below.refl _ _).alloc (Nat.le_refl _) _
  have hB0 := (hb0.cell (p := ⟨B, 0, none⟩) hBlt).trans hB
  have hs0 : (w.alloc (.cells #[.slice none 0 0] 28)).heap.size = w.heap.size + 1 := by simp
  have hc0 : (w.alloc (.cells #[.slice none 0 0] 28)).cell? ⟨w.heap.size, 0, none⟩ = some (.slice none 0 0) := by simp
  have hf0 : ∀ m, (w.alloc (.cells #[.slice none 0 0] 28)).frozen? ⟨w.heap.size, m, none⟩ = false := fun m => by unfold World.frozen? World.alloc; simp
  have hrA : ts ≠ [] → ∀ a, A = some a → a.block < w.heap.size := fun hne a ha => by
    obtain ⟨bk, off, hA, hbk, _⟩ := hr.at_ (List.length_pos_iff.2 hne)
    rw [hA] at ha; cases ha; exact hbk
  obtain ⟨W0, hW0⟩ : ∃ W0, W0 = w.alloc (.cells #[.slice none 0 0] 28) := ⟨_, rfl⟩
  rw [← hW0] at hb0 hB0 hs0 hc0 hf0 ⊢
  have hr0 := hr.below hb0
  clear hW0 hr hB
  refine wp_rangeIterB (gf := 152) (lb := #[.pointer (some ⟨B, 0, none⟩)]) rfl (fun args w => enters_values args w) (n₀ := w.heap.size) (T0 := fun _ => False) (iters_values w.heap.size B A c ts W0 hB0 hBlt (by omega) hr0 hrA hl) (by omega) (fun _ h => h.elim) ?hps ?hE
    (ApI w.heap.size w) (fun _ _ _ _ => False) (ApI.abides _ _) (fun _ _ _ _ _ _ h _ _ _ _ => h.elim) ?h0 (apAct B w.heap.size) apAsg ?hasg (fun x v W A => v = #[.agg #[.int .i64 x.1, .int .i64 x.2]] ∧ A.cell? ⟨W.heap.size, 0, none⟩ = some (.int .i64 x.1) ∧ A.cell? ⟨W.heap.size, 1, none⟩ = some (.int .i64 x.2)) ?hFx0 ?hFx ?hassign ?hbody ?hdone ?hstop
  case hps => rintro x v T A rfl; rfl
  case hE => rintro x v T A B rfl _ _; rfl
  case h0 => exact ⟨fun h => h, hf0, hb0, none, 0, hc0, World.ownsRow_nil _ _ _ _, fun g hg => by simp [Value.ownBlock] at hg⟩
  case hasg => exact fun v W => Turn.of_below ((Below.refl _ _).alloc (Nat.le_refl _) _)
  case hFx0 => rintro x v T W rfl; exact ⟨rfl, by simp [apAsg], by simp [apAsg]⟩
  case hFx =>
    rintro x v W A B l ⟨rfl, h1, h2⟩ ht hl
    exact ⟨rfl, ht.cell (by simp; omega) h1, ht.cell (by simp; omega) h2⟩
  case hassign =>
    rintro l m x v T W K rfl hK
    gi_wp2_with (rw [Oper.semAt_eq _ _ _ (fun c h => by cases h)]; go_simp; try go_bits)
    exact hK
  case hbody =>
    rintro l m T Ti pre x v W A1 ⟨h1, h2, h3, A', c', h4, h5, h6⟩ ⟨rfl, e0, e1⟩ hp hT hn _ _
    have f0 := h2 0
    have hz := h3.size
    have hlen : pre.length + 1 ≤ ts.length := by have := hp.length_le; simpa using this
    have n1 : w.heap.size < A1.heap.size := block_lt h4
    have bA : Below A1.heap.size A1 (A1.alloc (.cells #[.int .i64 x.1, .int .i64 x.2] 82)) := (Below.refl _ _).alloc (Nat.le_refl _) _
    unfold apAct
    gi_wp2_with (first
      | (gi_at_builtin; refine wpI_append_tile rfl _ _ rfl (w.heap.size + 1) _ pre rfl (own_keep h5 ((Below.refl _ _).alloc (Nat.le_refl _) _)) x.1 x.2 A1.heap.size rfl (by simp) (by simp) (by omega) (by simp; omega) ?_; intro A4 c4 w4 ho4 hg4 hat4; have hk4 := hg4.block w.heap.size (by simp; omega) (fun e => by have := (h5.lt _ e.symm).1; omega); have y4 := (World.cell?_of_block (a := ⟨w.heap.size, 0, none⟩) hk4).trans (keepc bA h4); have f4 := (frozen_of_block (m := 0) hk4).trans ((bA.frozen (p := ⟨w.heap.size, 0, none⟩) n1).trans f0))
      | (rw [Oper.semAt_eq _ _ _ (fun c h => by cases h)]; go_simp; try go_bits))
    have t1 : Turn (fun k => w.heap.size ≤ k ∧ ¬ T k) A1 (A1.alloc (.cells #[.int .i64 x.1, .int .i64 x.2] 82)) := Turn.of_below bA
    have t2 : Turn (fun k => w.heap.size ≤ k ∧ ¬ T k) (A1.alloc (.cells #[.int .i64 x.1, .int .i64 x.2] 82)) w4 := Turn.of_grown hg4 (fun k e => ⟨by have := (h5.lt _ e).1; omega, h6 k e⟩)
    have t3 : Turn (fun k => w.heap.size ≤ k ∧ ¬ T k) w4 (w4.setCell ⟨w.heap.size, 0, none⟩ (.slice A4 (pre.length + 1) c4)) := Turn.setCell _ _ ⟨Nat.le_refl _, h1⟩
    have t13 := (t1.trans t2 (fun k _ h => h)).trans t3 (fun k _ h => h)
    have fz4 : ∀ m, (w4.setCell ⟨w.heap.size, 0, none⟩ (.slice A4 (pre.length + 1) c4)).frozen? ⟨w.heap.size, m, none⟩ = false := fun m => by
      rw [World.frozen?_setCell]
      exact (frozen_of_block (m := m) hk4).trans ((bA.frozen (p := ⟨w.heap.size, m, none⟩) n1).trans (h2 m))
    refine ⟨t13, h1, fz4, h3.trans (t13.below hn (fun k h => h.1)), A4, c4, ?_, ?_, ?_⟩
    · rw [List.length_append, List.length_singleton]
      exact World.cell?_setCell_same _ _ _ y4
    · rw [List.length_append, List.length_singleton]
      exact own_box ho4 (by omega)
    · intro g hg hT'
      rw [List.length_append, List.length_singleton] at hg
      rcases hat4 with h | h
      · rw [h] at hg
        exact h6 g hg hT'
      · rw [h] at hg
        have := (hT g hT').2
        have e := Option.some.inj hg
        simp at e
        omega
  case hstop => exact fun _ _ _ _ _ _ _ _ h => h.elim
  case hdone =>
    rintro D T W hD hTD ⟨h1, h2, h3, A', c', h4, h5, h6⟩ hz hK
    gi_wp2
    refine ⟨by simp, .inl ⟨_, _, rfl, run_takeDeferred hK, ?_⟩⟩
    exact ⟨_, results_tmp rfl _ _ _, A', c', rfl, own_base (own_blockG h5 (fun g hg => World.putObj_heap_other (fun e => h6 g hg (e ▸ hTD)))) (by omega), h3.grown (grownBy_putObj' _ _ _) h3.size (fun k e => by cases e; omega)⟩

set_option maxHeartbeats 1000000 in
theorem c_collect (B : Nat) (A : Option Addr) (c : Nat) (ts : List (Int × Int)) (w : World) (hB : w.cell? ⟨B, 0, none⟩ = some (.slice A ts.length c)) (hr : RdT w A ts) (hl : ts.length ≤ 1048576) :
    Calls Try.prog 150 #[.func (.func 152) #[] #[.pointer (some ⟨B, 0, none⟩)]] w (RetL w ts) := by
  have con := Lib.hid (c_appendSeq B A c ts w hB hr hl)
  clear hr hB
  go_enter Try.func150, Try.ntmps150
  go_wp2_with fail
  refine con.out.mono ?_
  rintro e w1 ⟨A1, c1, rfl, o1, h1⟩
  go_wp2
  go_ret
  exact ⟨A1, c1, rfl, o1, h1⟩

theorem c_sortNone (p : Option Addr) (cap : Nat) (fv : Value) (w : World) : Calls Try.prog 151 #[.slice p 0 cap, fv] w fun e w' => e = .returned (.tuple #[]) ∧ Below w.heap.size w w' := by
  have h : Calls Try.prog 151 #[.slice p 0 cap, fv] w _ := AnyF.slices_SortFunc_none sortT p cap fv w
  exact h.mono fun e w' h => ⟨h.1, by rw [h.2]; exact Below.refl _ _⟩

set_option maxHeartbeats 1000000 in
theorem c_sortedFunc (B : Nat) (A : Option Addr) (c : Nat) (ts : List (Int × Int)) (w : World) (hB : w.cell? ⟨B, 0, none⟩ = some (.slice A ts.length c)) (hr : RdT w A ts) (hh : handB ts = true) :
    Calls Try.prog 125 #[.func (.func 152) #[] #[.pointer (some ⟨B, 0, none⟩)], .func (.func 65) #[] #[]] w (RetL w (sortL ts)) := by
  have hp := of_decide_eq_true hh
  have con := Lib.hid (c_collect B A c ts w hB hr (by have := hp.1; omega))
  by_cases h0 : ts = []
  · subst h0
    have e0 : sortL [] = [] := by decide +kernel
    rw [e0]
    clear hr hB hh hp
    go_enter Try.func125, Try.ntmps125
    go_wp2_with fail
    refine con.out.mono ?_
    rintro e w1 ⟨A1, c1, rfl, o1, h1⟩
    go_wp2_with fail
    refine (c_sortNone _ _ _ _).mono ?_
    rintro e w2 ⟨rfl, h2⟩
    go_wp2
    go_ret
    exact ⟨A1, c1, rfl, own_keep o1 h2, bstep h1 h2⟩
  · have hl := hp.1
    have hgd := Lib.hid hp.2.1
    have hnd := Lib.hid hp.2.2
    clear hr hB hh hp
    go_enter Try.func125, Try.ntmps125
    go_wp2_with fail
    refine con.out.mono ?_
    rintro e w1 ⟨A1, c1, rfl, o1, h1⟩
    obtain ⟨g1, rfl⟩ : ∃ g, A1 = some ⟨g, 0, none⟩ := by
      obtain ⟨_, ⟨hv, hn⟩ | ⟨g, cap, cur, hv, _⟩⟩ := o1
      · exact absurd (List.eq_nil_of_length_eq_zero hn) h0
      · injection hv with e1; exact ⟨g, e1⟩
    go_wp2_with fail
    refine (c_sortFunc g1 c1 w.heap.size ts ts w1 o1 (by omega) hgd.out hnd.out (fun _ => Iff.rfl)).mono ?_
    rintro e w2 ⟨rfl, hl2, o2, h2⟩
    go_wp2
    go_ret
    rw [hl2] at o2
    exact ⟨some ⟨g1, 0, none⟩, c1, rfl, o2, h1.trans (below_of_grown h2 h1.size (fun g hg => by cases hg; exact (o1.lt g1 rfl).1))⟩

set_option maxHeartbeats 1000000 in
theorem c_inOrder (A : Option Addr) (c : Nat) (ts : List (Int × Int)) (w : World) (hr : RdT w A ts) (hh : handB ts = true) :
    Calls Try.prog 82 #[.slice A ts.length c] w (RetL w (sortL ts)) := by
  have con := Lib.hid (fun W B (hb : Below w.heap.size w W) (hB : W.cell? ⟨B, 0, none⟩ = some (.slice A ts.length c)) => c_sortedFunc B A c ts W hB (hr.below hb) hh)
  have conV : Hid (∀ W, Calls Try.prog 126 #[.slice A ts.length c] W fun e W' => e = .returned (.func (.func 152) #[] #[.pointer (some ⟨W.heap.size, 0, none⟩)]) ∧ W' = W.alloc (.cells #[.slice A ts.length c] 28)) := Lib.hid (by
    intro W
    clear con hr hh
    go_enter Try.func126, Try.ntmps126
    go_wp2
    go_ret
    exact ⟨rfl, rfl⟩)
  clear hr hh
  go_enter Try.func82, Try.ntmps82
  go_wp2_with fail
  refine (conV.out _).mono ?_
  rintro e w1 ⟨rfl, rfl⟩
  go_wp2_with fail
  refine (con.out _ _ ((Below.refl _ _).alloc (Nat.le_refl _) _) (by simp)).mono ?_
  rintro e w2 ⟨A2, c2, rfl, o2, h2⟩
  go_wp2
  go_ret
  exact ⟨A2, c2, rfl, own_base o2 (by simp), bstep ((Below.refl _ _).alloc (Nat.le_refl _) _) h2⟩

end Go.Proofs.Ytjdnkcdnppcbhaa

/- All chains that have all tiles of a hand: the program's own. -/
import Derived.Test.YtjhedjokifnofaaCsL
import Derived.Test.YtjhedjokifnofaaOwnP
import Derived.Test.YtjhedjokifnofaaRegR
namespace Go.Proofs.Ytjhedjokifnofaa
open Go Go.RowKit
set_option linter.unusedVariables false

/-- The chains that have more numbers than a hand has tiles. -/
def fullL (m : Nat) (L : List (List Int)) : List (List Int) := L.filter fun c => decide (m < c.length)
theorem fullL_yes {m : Nat} {L : List (List Int)} {x : List Int} (h : m < x.length) : fullL m (L ++ [x]) = fullL m L ++ [x] := by
  unfold fullL
  rw [List.filter_append]
  simp [h]
theorem fullL_no {m : Nat} {L : List (List Int)} {x : List Int} (h : ¬ m < x.length) : fullL m (L ++ [x]) = fullL m L := by
  unfold fullL
  rw [List.filter_append]
  simp [h]
theorem fullL_pre {m : Nat} {L M : List (List Int)} (h : L <+: M) : (fullL m L).length ≤ (fullL m M).length := (h.filter _).length_le
/-- What comes back: the rows, and whether they were not too many. -/
def wholeL (M : Nat) (H : List (Int × Int)) : List (List Int) := if H.length = 0 then [] else if (fullL H.length (allC H)).length ≤ M then fullL H.length (allC H) else []
def wholeB (M : Nat) (H : List (Int × Int)) : Bool := decide (H.length = 0) || decide ((fullL H.length (allC H)).length ≤ M)
/-- Five boxes made one behind the other. -/
theorem five_new (w : World) (v1 v2 v3 v4 v5 : Value) (t1 t2 t3 t4 t5 : Nat) (h1 : v1.oneCell' = true) : ∀ w5, w5 = (((((w.alloc (.cells #[v1] t1)).alloc (.cells #[v2] t2)).alloc (.cells #[v3] t3)).alloc (.cells #[v4] t4)).alloc (.cells #[v5] t5)) →
    w5.heap.size = w.heap.size + 5 ∧ Below w.heap.size w w5 ∧ w5.cell? ⟨w.heap.size, 0, none⟩ = some v1 ∧ w5.cell? ⟨w.heap.size + 1, 0, none⟩ = some v2 ∧ w5.cell? ⟨w.heap.size + 2, 0, none⟩ = some v3 ∧ w5.cell? ⟨w.heap.size + 3, 0, none⟩ = some v4 ∧ w5.cell? ⟨w.heap.size + 4, 0, none⟩ = some v5 ∧
      ∀ k j, w.heap.size ≤ k → k < w.heap.size + 5 → w5.frozen? ⟨k, j, none⟩ = false := by
  rintro w5 rfl
  have nw : ∀ (W : World) (v : Value) (t n : Nat), W.heap.size = n → (W.alloc (.cells #[v] t)).cell? ⟨n, 0, none⟩ = some v ∧ (∀ j, (W.alloc (.cells #[v] t)).frozen? ⟨n, j, none⟩ = false) ∧ (W.alloc (.cells #[v] t)).heap.size = n + 1 := fun W v t n hn => by
    subst hn
    exact ⟨by simp, fun j => frozen_new W _ _ j, by simp⟩
  have kp : ∀ (W : World) (o : Obj) (k : Nat) (v : Value), W.cell? ⟨k, 0, none⟩ = some v → (∀ j, W.frozen? ⟨k, j, none⟩ = false) → (W.alloc o).cell? ⟨k, 0, none⟩ = some v ∧ ∀ j, (W.alloc o).frozen? ⟨k, j, none⟩ = false := fun W o k v h1 h2 => by
    have hb : Below W.heap.size W (W.alloc o) := (Below.refl _ _).alloc (Nat.le_refl _) _
    exact ⟨keepc hb h1, fun j => (hb.frozen (p := ⟨k, j, none⟩) (show k < _ from (block_lt h1 : k < W.heap.size))).trans (h2 j)⟩
  obtain ⟨a1, a2, a3⟩ := nw w v1 t1 _ rfl
  obtain ⟨b1, b2, b3⟩ := nw _ v2 t2 _ a3
  obtain ⟨c1, c2, c3⟩ := nw _ v3 t3 _ b3
  obtain ⟨d1, d2, d3⟩ := nw _ v4 t4 _ c3
  obtain ⟨e1, e2, e3⟩ := nw _ v5 t5 _ d3
  obtain ⟨a1, a2⟩ := kp _ (.cells #[v2] t2) _ _ a1 a2
  obtain ⟨a1, a2⟩ := kp _ (.cells #[v3] t3) _ _ a1 a2
  obtain ⟨b1, b2⟩ := kp _ (.cells #[v3] t3) _ _ b1 b2
  obtain ⟨a1, a2⟩ := kp _ (.cells #[v4] t4) _ _ a1 a2
  obtain ⟨b1, b2⟩ := kp _ (.cells #[v4] t4) _ _ b1 b2
  obtain ⟨c1, c2⟩ := kp _ (.cells #[v4] t4) _ _ c1 c2
  obtain ⟨a1, a2⟩ := kp _ (.cells #[v5] t5) _ _ a1 a2
  obtain ⟨b1, b2⟩ := kp _ (.cells #[v5] t5) _ _ b1 b2
  obtain ⟨c1, c2⟩ := kp _ (.cells #[v5] t5) _ _ c1 c2
  obtain ⟨d1, d2⟩ := kp _ (.cells #[v5] t5) _ _ d1 d2
  refine ⟨e3, ?_, a1, b1, c1, d1, e1, fun k j h1 h2 => ?_⟩
  · exact (((((Below.refl _ w).alloc (Nat.le_refl _) _).alloc (by simp) _).alloc (by simp; omega) _).alloc (by simp; omega) _).alloc (by simp; omega) _
  · rcases (by omega : k = w.heap.size ∨ k = w.heap.size + 1 ∨ k = w.heap.size + 1 + 1 ∨ k = w.heap.size + 1 + 1 + 1 ∨ k = w.heap.size + 1 + 1 + 1 + 1) with e | e | e | e | e
    · subst e; exact a2 j
    · subst e; exact b2 j
    · subst e; exact c2 j
    · subst e; exact d2 j
    · subst e; exact e2 j

/-- What is kept between two rounds: the five boxes (from block n on), and the rows. -/
structure WlI (m M n : Nat) (A0 : Option Addr) (c0 : Nat) (w : World) (T : Nat → Prop) (pre : List (List Int)) (A : World) : Prop where
  nt : ∀ k, n ≤ k → k < n + 5 → ¬ T k
  sz : n + 5 ≤ A.heap.size
  bl : Below n w A
  k2 : A.cell? ⟨n, 0, none⟩ = some (.slice A0 m c0)
  k3 : A.cell? ⟨n + 1, 0, none⟩ = some (.int .i64 (M : Int))
  k4 : A.cell? ⟨n + 2, 0, none⟩ = some (.slice none 0 0)
  k5 : A.cell? ⟨n + 3, 0, none⟩ = some (.bool false)
  fz : ∀ k j, n ≤ k → k < n + 5 → A.frozen? ⟨k, j, none⟩ = false
  le : (fullL m pre).length ≤ M
  ls : ∃ Ag cg, A.cell? ⟨n + 4, 0, none⟩ = some (.slice Ag (fullL m pre).length cg) ∧ OwnPP 34 3 1 cellsI A (n + 5) (fun g => n + 5 ≤ g ∧ ¬ T g) (.slice Ag (fullL m pre).length cg) (fullL m pre)
theorem WlI.abides (m M n : Nat) (A0 : Option Addr) (c0 : Nat) (w : World) (hn : n ≤ w.heap.size) : AbT n (WlI m M n A0 c0 w) := by
  rintro T T' s A B h hT hnA ht hT'
  obtain ⟨Ag, cg, h5, h6⟩ := h.ls
  have eb : ∀ k, n ≤ k → k < n + 5 → B.heap[k]? = A.heap[k]? := fun k h1 h2 => ht.block k (by have := h.sz; omega) (h.nt k h1 h2)
  have ec : ∀ k, n ≤ k → k < n + 5 → ∀ v, A.cell? ⟨k, 0, none⟩ = some v → B.cell? ⟨k, 0, none⟩ = some v := fun k h1 h2 v hv => (World.cell?_of_block (a := ⟨k, 0, none⟩) (eb k h1 h2)).trans hv
  refine ⟨fun k h1 h2 hk => ?_, Nat.le_trans h.sz ht.size, h.bl.trans (ht.below hnA (fun k hk => (hT k hk).1)), ec _ (by omega) (by omega) _ h.k2, ec _ (by omega) (by omega) _ h.k3, ec _ (by omega) (by omega) _ h.k4, ec _ (by omega) (by omega) _ h.k5, fun k j h1 h2 => (frozen_of_blk (eb k h1 h2)).trans (h.fz k j h1 h2), h.le, Ag, cg, ec _ (by omega) (by omega) _ h5, ?_⟩
  · rcases hT' _ hk with h3 | h3
    · exact h.nt k h1 h2 h3
    · have := h.sz; omega
  · exact h6.move (fun g hg hp => ht.block g hg hp.2) (fun g hg hp => ⟨hp.1, fun hk => by
      rcases hT' _ hk with h3 | h3
      · exact hp.2 h3
      · omega⟩)
/-- What is left behind when there are too many. -/
structure WlX (m M n : Nat) (w : World) (c : Code) (T : Nat → Prop) (pre : List (List Int)) (A : World) : Prop where
  co : c = .ret
  nt : ∀ k, n ≤ k → k < n + 5 → ¬ T k
  sz : n + 5 ≤ A.heap.size
  bl : Below n w A
  k4 : A.cell? ⟨n + 2, 0, none⟩ = some (.slice none 0 0)
  k5 : A.cell? ⟨n + 3, 0, none⟩ = some (.bool false)
  gt : M < (fullL m pre).length
theorem WlX.abides (m M n : Nat) (w : World) (c : Code) (hn : n ≤ w.heap.size) : AbT n (WlX m M n w c) := by
  rintro T T' s A B h hT hnA ht hT'
  have eb : ∀ k, n ≤ k → k < n + 5 → B.heap[k]? = A.heap[k]? := fun k h1 h2 => ht.block k (by have := h.sz; omega) (h.nt k h1 h2)
  have ec : ∀ k, n ≤ k → k < n + 5 → ∀ v, A.cell? ⟨k, 0, none⟩ = some v → B.cell? ⟨k, 0, none⟩ = some v := fun k h1 h2 v hv => (World.cell?_of_block (a := ⟨k, 0, none⟩) (eb k h1 h2)).trans hv
  refine ⟨h.co, fun k h1 h2 hk => ?_, Nat.le_trans h.sz ht.size, h.bl.trans (ht.below hnA (fun k hk => (hT k hk).1)), ec _ (by omega) (by omega) _ h.k4, ec _ (by omega) (by omega) _ h.k5, h.gt⟩
  rcases hT' _ hk with h3 | h3
  · exact h.nt k h1 h2 h3
  · have := h.sz; omega
def wlAct (A : Option Addr) (m c M n : Nat) (v : Array Value) : Act :=
  { tmps := #[.slice A m c, .int .i64 (M : Int), .pointer (some ⟨n, 0, none⟩), .pointer (some ⟨n + 1, 0, none⟩), .pointer (some ⟨n + 2, 0, none⟩), .pointer (some ⟨n + 3, 0, none⟩), .pointer (some ⟨n + 4, 0, none⟩), v.getD 0 undef, .slice A m c, .int .i64 (m : Int), .bool false, .slice A m c, .func (.func 56) #[] #[.pointer (some ⟨n + 5, 0, none⟩)], v.getD 0 undef, undef, undef, undef, undef, undef, undef, undef, undef, undef, undef, undef, undef, undef, undef, undef], defers := [] }

set_option maxRecDepth 100000 in
set_option maxHeartbeats 4000000 in
theorem c_wholeChains (M : Nat) (A : Option Addr) (c : Nat) (H : List (Int × Int)) (w : World) (hr : RdT w A H) (hc : chB H = true) (hM : M ≤ 1000000) :
    Calls Try.prog 35 #[.slice A H.length c, .int .i64 (M : Int)] w (RetII w (wholeL M H) (wholeB M H)) := by
  have hc2 := hc
  unfold chB at hc2
  rw [Bool.and_eq_true, decide_eq_true_eq] at hc2
  obtain ⟨hh, hl8⟩ := hc2
  by_cases h0 : H.length = 0
  · have j0 : ((H.length : Int) == 0) = true := by rw [h0]; rfl
    have e1 : wholeL M H = [] := by unfold wholeL; rw [if_pos h0]
    have e2 : wholeB M H = true := by unfold wholeB; rw [decide_eq_true h0]; rfl
    rw [e1, e2]
    clear e1 e2 hr hh hc
    go_enter Try.func35, Try.ntmps35
    go_wp2
    refine bodyPost_ret (v := .tuple #[.slice none 0 0, .bool true]) (by simp [results, Try.results35, go_sem]) rfl ?_
    exact ⟨none, 0, rfl, OwnRR.nil _ _ _, (((((Below.refl _ w).alloc (Nat.le_refl _) _).alloc (by simp) _).alloc (by simp; omega) _).alloc (by simp; omega) _)⟩
  · have j0 : ((H.length : Int) == 0) = false := by rw [beq_eq_false_iff_ne]; omega
    refine (callsIn_wide (n := 5)).1 ?_
    refine callsIn_of_wp_marks Try.func35 rfl trivial ?_
    simp only [Try.ntmps35, List.size_toArray, List.length_cons, List.length_nil, Nat.reduceAdd, Nat.reduceSub, Array.replicate_succ, Array.replicate_zero, List.push_toArray, List.append_toArray, List.nil_append, List.cons_append]
    gi_wp2_with fail
    simp only [Nat.add_assoc, Nat.reduceAdd]
    obtain ⟨w5, hw5⟩ : ∃ w5, w5 = (((((w.alloc (.cells #[.slice A H.length c] 27)).alloc (.cells #[.int .i64 (M : Int)] 3)).alloc (.cells #[.slice none 0 0] 24)).alloc (.cells #[.bool false] 4)).alloc (.cells #[.slice none 0 0] 24)) := ⟨_, rfl⟩
    have H5 := Lib.hid (five_new w _ _ _ _ _ _ _ _ _ _ rfl w5 hw5)
    rw [← hw5]
    clear hw5
    refine ⟨trivial, callsIn_wide.2 ((c_chainsFrom A H.length c w5).mono ?_)⟩
    rintro e w6 ⟨rfl, hw6⟩
    have HW6 := Lib.hid hw6
    clear hw6
    gi_wp2_with fail
    obtain ⟨s5, b5, x2, x3, x4, x5, x6, f5⟩ := H5.out
    have hw6 := HW6.out
    clear H5 HW6
    have s6 : w6.heap.size = w.heap.size + 6 := by rw [hw6]; simp; omega
    have b56 : Below w5.heap.size w5 w6 := by rw [hw6]; exact (Below.refl _ _).alloc (Nat.le_refl _) _
    have xB : w6.cell? ⟨w.heap.size + 5, 0, none⟩ = some (.slice A H.length c) := by rw [hw6, ← s5]; simp
    rw [s5]
    obtain ⟨n, hn⟩ : ∃ n, n = w.heap.size := ⟨_, rfl⟩
    rw [← hn] at s5 x2 x3 x4 x5 x6 f5 s6 xB ⊢
    have b06 : Below n w w6 := by rw [hn]; exact bstep b5 b56
    have hr6 := hr.below (by rw [← hn]; exact b06)
    have W0 : WlI H.length M n A c w (fun k => k = n + 5) [] w6 := ⟨fun k h1 h2 h3 => by omega, by omega, b06, keepc b56 x2, keepc b56 x3, keepc b56 x4, keepc b56 x5, fun k j h1 h2 => (b56.frozen (p := ⟨k, j, none⟩) (by simp only; omega)).trans (f5 k j h1 h2), Nat.zero_le _, none, 0, keepc b56 x6, OwnPP.nil _ _ _⟩
    have hnw : n ≤ w.heap.size := by omega
    have HN := Lib.hid hn
    clear hw6 b56 x2 x3 x4 x5 x6 f5 b5 hr hn
    refine wp_rangeIter (gf := 56) (lb := #[.pointer (some ⟨n + 5, 0, none⟩)]) rfl (fun args w => enters_chains args w) (n₀ := n) (T0 := fun k => k = n + 5) (iters_chains w6 n (n + 5) (fun k => k = n + 5) (by rintro k rfl; omega) A c H xB (by omega) hr6 hh) (by omega) (by rintro k rfl; omega) ?hps ?hE
      (WlI H.length M n A c w) (WlX H.length M n w) (WlI.abides _ _ _ _ _ _ (by omega)) (fun c => WlX.abides _ _ _ _ c (by omega)) W0 (wlAct A H.length c M n) ?hassign ?hbody ?hdone ?hstop
    case hps => rintro x v T A ⟨_, _, rfl, _⟩; rfl
    case hE => exact fun x v T A B h1 h2 h3 => enc_keep h1 h2 h3
    case hassign =>
      rintro l m x v T W K ⟨Ax, cx, rfl, _⟩ hK
      gi_wp2_with (rw [Oper.semAt_eq _ _ _ (fun c h => by cases h)]; go_simp; try go_bits)
      exact hK
    case hstop =>
      rintro D c2 T pre W hD hTD hp ⟨rfl, nt, sz, bl, k4, k5, gt⟩ hz hK
      gi_wp2
      have hD5 : ∀ k, n ≤ k → k < n + 5 → k ≠ D := fun k h1 h2 e => by subst e; exact nt _ h1 h2 hTD
      have tp : Turn (fun k => k = D) W (W.putObj D (.deferred none)) := Turn.putObj _ rfl
      have r0 : (W.putObj D (.deferred none)).cell? ⟨n + 2, 0, none⟩ = some (.slice none 0 0) := tp.cell (hD5 _ (by simp) (by simp)) k4
      have r1 : (W.putObj D (.deferred none)).cell? ⟨n + 3, 0, none⟩ = some (.bool false) := tp.cell (hD5 _ (by simp) (by simp)) k5
      have hgt : ¬ (fullL H.length (allC H)).length ≤ M := by have := fullL_pre (m := H.length) hp; omega
      refine ⟨by simp, .inl ⟨_, _, rfl, run_takeDeferred hK, ?_⟩⟩
      refine ⟨.tuple #[.slice none 0 0, .bool false], by simp [results, Try.results35, go_sem, r0, r1], ?_⟩
      unfold wholeL wholeB
      rw [if_neg h0, if_neg hgt, decide_eq_false h0, decide_eq_false hgt]
      have hb : Below w.heap.size w (W.putObj D (.deferred none)) := by
        have h7 := HN.out
        rw [← h7]
        exact bl.trans (tp.below (by omega) (fun k hk => by omega))
      exact ⟨none, 0, rfl, OwnRR.nil _ _ _, hb⟩
    case hbody =>
      rintro l m T Ti pre x v A1 I1 hp hT hn1 _ ⟨Ax, cx, rfl, hrx, htx⟩
      have hmem : x ∈ allC H := hp.subset (by simp)
      have hxl := (all_ok hmem).1.len
      obtain ⟨Ag, cg, y6, o6⟩ := I1.ls
      have y2 := I1.k2
      have y3 := I1.k3
      have y4 := I1.k4
      have y5 := I1.k5
      have f4 := I1.fz (n + 2) 0 (by omega) (by omega)
      have f5 := I1.fz (n + 3) 0 (by omega) (by omega)
      have f6 := I1.fz (n + 4) 0 (by omega) (by omega)
      have hle := I1.le
      have hsz := I1.sz
      have IH := Lib.hid I1
      have HH := Lib.hid hh
      have OH := Lib.hid o6
      have HP := Lib.hid hp
      clear I1 hh o6 hp hmem xB hr6 W0 hc
      obtain ⟨F, hF⟩ : ∃ F, F = (fullL H.length pre).length := ⟨_, rfl⟩
      rw [← hF] at y6 hle
      have HF := Lib.hid hF
      clear hF
      unfold wlAct
      by_cases hx1 : H.length < x.length
      · have j1 : ¬ (x.length : Int) ≤ (H.length : Int) := by omega
        by_cases hx2 : F = M
        · have j2 : ((F : Int) == (M : Int)) = true := by rw [beq_iff_eq]; omega
          gi_wp2_with (rw [Oper.semAt_eq _ _ _ (fun c h => by cases h)]; go_simp; try go_bits)
          have I := IH.out
          have nt := I.nt
          exact ⟨(Turn.setCell _ _ ⟨by simp, nt _ (by simp) (by simp)⟩).trans (Turn.setCell _ _ ⟨by simp, nt _ (by simp) (by simp)⟩) (fun k _ h => h), rfl, nt, by simpa [World.setCell] using hsz, (I.bl.setCell (by simp) _).setCell (by simp) _,
            (World.cell?_setCell_other _ _ _ _ (by simp)).trans (World.cell?_setCell_same _ _ _ y4), World.cell?_setCell_same _ _ _ ((World.cell?_setCell_other _ _ _ _ (by simp)).trans y5), by rw [fullL_yes hx1, List.length_append, List.length_singleton, ← HF.out]; omega⟩
        · have j2 : ((F : Int) == (M : Int)) = false := by rw [beq_eq_false_iff_ne]; omega
          gi_wp2_with (rw [Oper.semAt_eq _ _ _ (fun c h => by cases h)]; go_simp; try go_bits)
          have hbd : Below A1.heap.size A1 A1.drew := ⟨rfl, rfl, rfl, Nat.le_refl _, fun _ _ => rfl⟩
          refine wpIn_regK (k0 := 4) (S := fun w' => w'.cell? ⟨n + 4, 0, none⟩ = some (.slice Ag F cg)) (by kernel_rfl) (by kernel_rfl) (fun ⟨_, _, h⟩ => h) y6 (fun hH0 => ?_)
          refine regK_take 0 rfl (by kernel_rfl) (by kernel_rfl) (by kernel_rfl) (by kernel_rfl) (by kernel_rfl) (fun _ _ _ h => h) (by rfl) (fun w hSw => by (try dsimp only at hSw); first | (go_simp; done) | (go_simp; with_reducible rfl)) (by assumption) ?_
          try simp only [Act.put, List.setIfInBounds_toArray, List.set_cons_zero, List.set_cons_succ, List.getElem_toArray, List.getElem_cons_zero]
          refine regK_one 1 rfl (by kernel_rfl) (fun K hK => ?_)
          go_simp
          refine regK_go hK hH0 (fun hH1 => ?_)
          clear hK K
          try simp only [Act.put, List.setIfInBounds_toArray, List.set_cons_zero, List.set_cons_succ, List.getElem_toArray, List.getElem_cons_zero, List.getElem_cons_succ]
          refine regK_one 2 rfl (by kernel_rfl) (fun K hK => ?_)
          go_simp
          refine (c_cloneC Ax cx x A1.drew hrx (by omega)).mono ?_
          rintro e w7 ⟨A7, c7, rfl, o7, h7⟩
          have y7 : w7.cell? ⟨n + 4, 0, none⟩ = some (.slice Ag F cg) := keepc h7 hH0
          refine regK_go hK y7 (fun hH2 => ?_)
          clear hK K
          try simp only [Act.put, List.setIfInBounds_toArray, List.set_cons_zero, List.set_cons_succ, List.getElem_toArray, List.getElem_cons_zero, List.getElem_cons_succ]
          refine regK_one 3 rfl (by kernel_rfl) (fun K hK => ?_)
          go_simp
          have al := (Below.refl w7.heap.size w7).alloc (Nat.le_refl _) (.cells #[.slice A7 x.length c7] 34)
          have y8 := keepc al y7
          refine regK_go hK y8 (fun hH3 => ?_)
          clear hK K
          try simp only [Act.put, List.setIfInBounds_toArray, List.set_cons_zero, List.set_cons_succ, List.getElem_toArray, List.getElem_cons_zero, List.getElem_cons_succ]
          have b18 : Below A1.heap.size A1 (w7.alloc (.cells #[.slice A7 x.length c7] 34)) := (hbd.trans h7).trans (al.mono (by have := h7.size; simpa using this))
          have OH2 := OH.out
          obtain ⟨B, d, q1, _⟩ := OH2
          rw [← HF.out] at q1
          have q2 := own_keep q1 b18
          refine regK_one 4 rfl (by kernel_rfl) (fun K hK => ?_)
          refine step_append_rowG rfl _ _ rfl (n + 5) (.slice Ag F cg) F _ rfl q2 A7 x.length c7 w7.heap.size rfl (by simp) (by omega) (by have := b18.size; omega) ?_
          intro A9 c9 w9 q3 hg9 hat9
          refine regK_on hK (by kernel_rfl) ?_
          clear hK K
          try simp only [Act.put, List.setIfInBounds_toArray, List.set_cons_zero, List.set_cons_succ, List.getElem_toArray, List.getElem_cons_zero, List.getElem_cons_succ]
          have nt := IH.out.nt
          have own : ∀ k, (Value.slice Ag F cg).ownBlock = some k → n + 5 ≤ k ∧ ¬ T k := fun k hk => OH.out.has k (by rw [← HF.out]; exact hk)
          have t9 : Turn (fun k => (Value.slice Ag F cg).ownBlock = some k) A1 w9 := (Turn.of_below b18).trans (Turn.of_grown hg9 (fun k hk => hk)) (fun k _ h => h)
          have hno : ∀ k, k < n + 5 → ¬ (Value.slice Ag F cg).ownBlock = some k := fun k hk h => by have := (own k h).1; omega
          have z6 : w9.cell? ⟨n + 4, 0, none⟩ = some (.slice Ag F cg) := t9.cell (hno _ (by simp)) y6
          have fz9 : ∀ k j, n ≤ k → k < n + 5 → w9.frozen? ⟨k, j, none⟩ = false := fun k j h1 h2 => (frozen_of_blk (t9.block k (by omega) (hno k h2))).trans (IH.out.fz k j h1 h2)
          have g6 := fz9 (n + 4) 0 (by omega) (by omega)
          have OWN := Lib.hid own
          have HNO := Lib.hid hno
          have FZ9 := Lib.hid fz9
          clear own hno fz9
          refine regK_one 5 rfl (by kernel_rfl) (fun K hK => ?_)
          go_simp
          refine regK_on hK (by kernel_rfl) ?_
          clear hK K
          try simp only [Act.put, List.setIfInBounds_toArray, List.set_cons_zero, List.set_cons_succ, List.getElem_toArray, List.getElem_cons_zero, List.getElem_cons_succ]
          refine regK_done (by kernel_rfl) ?_ _
          gi_wp2
          have I := IH.out
          have hfl := fullL_yes (L := pre) hx1
          have hln : (fullL H.length (pre ++ [x])).length = F + 1 := by rw [hfl, List.length_append, List.length_singleton, ← HF.out]
          have sz9 := t9.size
          have ec : ∀ k v, n ≤ k → k < n + 4 → A1.cell? ⟨k, 0, none⟩ = some v → (w9.setCell ⟨n + 4, 0, none⟩ (.slice A9 (F + 1) c9)).cell? ⟨k, 0, none⟩ = some v := fun k v h1 h2 hv => (World.cell?_setCell_other _ _ _ _ (by first | (simp; done) | (simp; omega))).trans (t9.cell (HNO.out k (by omega)) hv)
          have keep9 : Turn (fun k => n ≤ k ∧ ¬ T k) A1 (w9.setCell ⟨n + 4, 0, none⟩ (.slice A9 (F + 1) c9)) := (t9.mono (fun k _ hk => ⟨by have := (OWN.out k hk).1; omega, (OWN.out k hk).2⟩)).trans (Turn.setCell _ _ ⟨by simp, nt _ (by simp) (by simp)⟩) (fun k _ h => h)
          have pp : OwnPP 34 3 1 cellsI w9 (n + 5) (fun g => n + 5 ≤ g ∧ ¬ T g) (.slice A9 (F + 1) c9) (fullL H.length pre ++ [x]) := OwnPP.push (v := .slice Ag F cg) (by have := OH.out; rw [← HF.out] at this; exact this) b18 ((own_base o7 (Nat.le_refl _)).alloc _) (by omega) (fun g hg => ⟨by omega, fun h => by have := (hT g h).2; omega⟩) (fun ys hys => by rw [← HF.out] at hys ⊢; rw [← own_unique q2 hys]; exact q3) hg9 hat9
          refine ⟨keep9, nt, by simpa [World.setCell] using Nat.le_trans hsz sz9, I.bl.trans (keep9.below hn1 (fun k hk => hk.1)), ec _ _ (by omega) (by omega) y2, ec _ _ (by omega) (by omega) y3, ec _ _ (by omega) (by omega) y4, ec _ _ (by omega) (by omega) y5, fun k j h1 h2 => by simpa using FZ9.out k j h1 h2, by rw [hln]; omega, A9, c9, ?_, ?_⟩
          · rw [hln]; exact World.cell?_setCell_same _ _ _ z6
          · rw [hln, hfl]; exact pp.set (fun h => by have := h.1; omega)
      · have j1 : (x.length : Int) ≤ (H.length : Int) := by omega
        have hfl := Lib.hid (fullL_no (L := pre) hx1)
        gi_wp2_with (rw [Oper.semAt_eq _ _ _ (fun c h => by cases h)]; go_simp; try go_bits)
        have I := IH.out
        exact ⟨Turn.refl _ _, I.nt, I.sz, I.bl, I.k2, I.k3, I.k4, I.k5, I.fz, by rw [hfl.out]; exact I.le, by rw [hfl.out]; exact I.ls⟩
    case hdone =>
      rintro D T W hD hTD I hz hK
      obtain ⟨Ag, cg, y6, o6⟩ := I.ls
      have y4 := I.k4
      have y5 := I.k5
      have f4 := I.fz (n + 2) 0 (by omega) (by omega)
      have f5 := I.fz (n + 3) 0 (by omega) (by omega)
      have IH := Lib.hid I
      have OH := Lib.hid o6
      clear I o6
      gi_wp2
      have I := IH.out
      have hD5 : ∀ k, n ≤ k → k < n + 5 → k ≠ D := fun k h1 h2 e => by subst e; exact I.nt _ h1 h2 hTD
      obtain ⟨W2, hW2⟩ : ∃ W2, W2 = (W.setCell ⟨n + 2, 0, none⟩ (.slice Ag (fullL H.length (allC H)).length cg)).setCell ⟨n + 3, 0, none⟩ (.bool true) := ⟨_, rfl⟩
      have t2 : Turn (fun k => k = n + 2 ∨ k = n + 3) W W2 := by rw [hW2]; exact (Turn.setCell _ _ (.inl rfl)).trans (Turn.setCell _ _ (.inr rfl)) (fun k _ h => h)
      have z4 : W2.cell? ⟨n + 2, 0, none⟩ = some (.slice Ag (fullL H.length (allC H)).length cg) := by rw [hW2]; exact (World.cell?_setCell_other _ _ _ _ (by simp)).trans (World.cell?_setCell_same _ _ _ y4)
      have z5 : W2.cell? ⟨n + 3, 0, none⟩ = some (.bool true) := by rw [hW2]; exact World.cell?_setCell_same _ _ _ ((World.cell?_setCell_other _ _ _ _ (by simp)).trans y5)
      have o2 : OwnPP 34 3 1 cellsI W2 (n + 5) (fun g => n + 5 ≤ g ∧ ¬ T g) (.slice Ag (fullL H.length (allC H)).length cg) (fullL H.length (allC H)) := by
        rw [hW2]
        exact (OH.out.set (fun h => by have := h.1; omega)).set (fun h => by have := h.1; omega)
      have hKs : D < W.heap.size := (Array.getElem?_eq_some_iff.1 hK).1
      have hK2 : W2.heap[D]? = some (.deferred (some [])) := (t2.block D hKs (fun h => by rcases h with h | h <;> exact hD5 _ (by omega) (by omega) h.symm)).trans hK
      rw [← hW2]
      have tp : Turn (fun k => k = D) W2 (W2.putObj D (.deferred none)) := Turn.putObj _ rfl
      have r0 := tp.cell (hD5 _ (by simp) (by simp)) z4
      have r1 := tp.cell (hD5 _ (by simp) (by simp)) z5
      have o3 := o2.move (w' := W2.putObj D (.deferred none)) (P' := fun _ => True) (fun g hg hp => tp.block g hg (fun e => hp.2 (e ▸ hTD))) (fun _ _ _ => trivial)
      have hle := I.le
      refine ⟨by simp, .inl ⟨_, _, rfl, run_takeDeferred hK2, ?_⟩⟩
      refine ⟨.tuple #[.slice Ag (fullL H.length (allC H)).length cg, .bool true], by simp [results, Try.results35, go_sem, r0, r1], ?_⟩
      unfold wholeL wholeB
      rw [if_neg h0, if_pos hle, decide_eq_false h0, decide_eq_true hle]
      have hb : Below w.heap.size w (W2.putObj D (.deferred none)) := by
        have h7 := HN.out
        have h8 := I.sz
        have h9 := t2.size
        rw [← h7]
        exact (I.bl.trans (t2.below (by omega) (fun k hk => by omega))).trans (tp.below (by omega) (fun k hk => by omega))
      exact ⟨Ag, cg, rfl, o3.toRR.base (by have := HN.out; omega), hb⟩

def allHL (H : List (Int × Int)) : List (List Int) := if chB H then wholeL 300 H else []
def allHB (H : List (Int × Int)) : Bool := chB H && wholeB 300 H

set_option maxRecDepth 100000 in
set_option maxHeartbeats 2000000 in
theorem c_implAll (A : Option Addr) (c : Nat) (H : List (Int × Int)) (w : World) (hr : RdT w A H) (hl : H.length ≤ 1048576) :
    Calls Try.prog 12 #[.slice A H.length c] w (RetII w (allHL H) (allHB H)) := by
  have con := c_isChained A c H w hr hl
  unfold allHL allHB
  cases hc : chB H
  · rw [hc] at con
    have Con := Lib.hid con
    clear con hc hr
    go_enter Try.func12, Try.ntmps12
    go_wp2_with fail
    refine Con.out.mono ?_
    rintro e w1 ⟨rfl, h1⟩
    go_wp2
    go_ret2
    exact ⟨none, 0, rfl, OwnRR.nil _ _ _, h1⟩
  · rw [hc] at con
    have Con := Lib.hid con
    have con2 := fun (W : World) (hb : Below w.heap.size w W) => c_wholeChains 300 A c H W (hr.below hb) hc (by omega)
    have Con2 := Lib.hid con2
    clear con hc hr con2
    rw [if_pos rfl, Bool.true_and]
    go_enter Try.func12, Try.ntmps12
    go_wp2_with (first | (go_at_call 34; refine Con.out.mono ?_; rintro e w1 ⟨rfl, h1⟩) | (go_at_call 35; refine (Con2.out _ h1).mono ?_; rintro e w2 ⟨A2, c2, rfl, o2, h2⟩))
    go_ret2
    exact ⟨A2, c2, rfl, o2.base h1.size, h1.trans (h2.mono h1.size)⟩

end Go.Proofs.Ytjhedjokifnofaa

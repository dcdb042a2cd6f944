/- Magic blocks: makesRows, everyMagic; CountMagic counts. -/
import Derived.Test.YtbanpgifhnbjoaaLbK
import Derived.Test.YtbanpgifhnbjoaaMap
namespace Go.Proofs.Ytbanpgifhnbjoaa
open Go Go.RowKit
set_option linter.unusedVariables false

theorem flatMap_len {β γ : Type} (g : β → List γ) (n : Nat) : ∀ (L : List β), (∀ x ∈ L, (g x).length ≤ n) → (L.flatMap g).length ≤ L.length * n
  | [], _ => by simp
  | x :: L, h => by
    have h1 := flatMap_len g n L (fun y hy => h y (.tail _ hy))
    have h2 := h x (.head _)
    rw [List.flatMap_cons, List.length_append, List.length_cons, Nat.succ_mul]
    omega
theorem wlL_len : ∀ (t : Nat) (M : Nat → Nat → Bool), (wlL t M).length ≤ 100 ^ t
  | 0, _ => by simp [wlL]
  | t + 1, M => by
    rw [wlL_succ]
    have h := flatMap_len (wlJ t M) (100 ^ t) (List.range 100) (fun p _ => by
      unfold wlJ
      split
      · rw [List.length_map]; exact wlL_len t _
      · simp)
    rw [List.length_range] at h
    rw [Nat.pow_succ, Nat.mul_comm]
    exact h
/-- Does a hand make so many rows, of one or of two tiles? -/
def mrB (H : List (Int × Int)) (r : Int) : Bool := handB H && decide (1 ≤ r) && decide (r ≤ 3) && (decide ((H.length : Int) = r) || decide ((H.length : Int) = 2 * r))
/-- How many magic blocks? -/
def cmN (H : List (Int × Int)) (r : Int) : Nat := (magL r.toNat (2 * H.length / r.toNat) (allWl H H.length)).length
def cmV (H : List (Int × Int)) (r : Int) : Int := if mrB H r then cmN H r else 0
theorem cmN_le {H : List (Int × Int)} (r : Int) (hl : H.length ≤ 6) : cmN H r ≤ 1000000000000 := by
  refine Nat.le_trans (List.length_filter_le _ _) (Nat.le_trans (wlL_len _ _) ?_)
  exact Nat.le_trans (Nat.pow_le_pow_right (by omega) hl) (by decide)
theorem mrB_yes {H : List (Int × Int)} {r : Int} (h : mrB H r = true) : ∃ R W : Nat, r = (R : Int) ∧ handB H = true ∧ 1 ≤ R ∧ R ≤ 3 ∧ H.length ≤ 6 ∧ 2 * H.length = R * W ∧ 0 < W ∧ W ≤ 4 ∧ 2 * H.length / R = W := by
  unfold mrB at h
  simp only [Bool.and_eq_true, Bool.or_eq_true, decide_eq_true_eq] at h
  obtain ⟨⟨⟨h1, h2⟩, h3⟩, h4⟩ := h
  obtain ⟨R, rfl⟩ : ∃ R : Nat, r = (R : Int) := ⟨r.toNat, by omega⟩
  rcases h4 with h4 | h4
  · refine ⟨R, 2, rfl, h1, by omega, by omega, by omega, by omega, by omega, by omega, ?_⟩
    rw [show H.length = R from by omega]
    exact Nat.mul_div_cancel _ (by omega)
  · refine ⟨R, 4, rfl, h1, by omega, by omega, by omega, by omega, by omega, by omega, ?_⟩
    rw [show 2 * H.length = 4 * R from by omega]
    exact Nat.mul_div_cancel _ (by omega)

theorem c_everyMagic (A : Option Addr) (n c : Nat) (r : Int) (w : World) : Calls Try.prog 31 #[.slice A n c, .int .i64 r] w fun e w' => e = .returned (.func (.func 48) #[] #[.pointer (some ⟨w.heap.size, 0, none⟩), .pointer (some ⟨w.heap.size + 1, 0, none⟩)]) ∧ w' = (w.alloc (.cells #[.slice A n c] 26)).alloc (.cells #[.int .i64 r] 3) := by
  go_enter Try.func31, Try.ntmps31
  go_wp2
  go_ret
  exact ⟨rfl, rfl⟩
theorem enters_magic (args : Array Value) (w : World) : (callFunc 48 args).run Try.prog w = .ok (.enter 48 args) w := by
  have h1 : Try.f48.name ≠ "runtime.NumGoroutine" := beq_eq_false_iff_ne.1 (by kernel_rfl)
  have h2 : Try.f48.body ≠ none := by intro h; cases h
  simp [callFunc, go_sem, h1, h2]

set_option maxHeartbeats 1000000 in
theorem c_makesRows (A : Option Addr) (c : Nat) (H : List (Int × Int)) (r : Int) (w : World) (hr : RdT w A H) (hl : H.length ≤ 1048576) :
    Calls Try.prog 30 #[.slice A H.length c, .int .i64 r] w fun e w' => e = .returned (.bool (mrB H r)) ∧ Below w.heap.size w w' := by
  have con := c_implIsHand A c H w hr (by omega)
  unfold mrB
  cases hh : handB H
  · rw [hh] at con
    have Con := Lib.hid con
    clear con hh hr
    go_enter Try.func30, Try.ntmps30
    go_wp2_with fail
    refine Con.out.mono ?_
    rintro e w1 ⟨rfl, h1⟩
    go_wp2
    go_ret
    exact ⟨rfl, h1⟩
  · rw [hh] at con
    have Con := Lib.hid con
    clear con hh hr
    by_cases h1 : 1 ≤ r
    · by_cases h3 : r ≤ 3
      · have iw : IntKind.i64.wrap (2 * r) = 2 * r := IntWalk.i64_in _ (by omega)
        by_cases h4 : (H.length : Int) = r
        · have d4 : ((H.length : Int) == r) = true := by simp [h4]
          have e4 : decide ((H.length : Int) = r) = true := by simp [h4]
          have d1 : decide (1 ≤ r) = true := by simp [h1]
          have d3 : decide (r ≤ 3) = true := by simp [h3]
          rw [e4, d1, d3]
          have D4 := Lib.hid h4
          clear h4 e4 d1 d3
          go_enter Try.func30, Try.ntmps30
          go_wp2_with fail
          refine Con.out.mono ?_
          rintro e w1 ⟨rfl, hw⟩
          go_wp2
          go_ret
          exact ⟨rfl, hw⟩
        · have d4 : ((H.length : Int) == r) = false := by simp [h4]
          have d1 : decide (1 ≤ r) = true := by simp [h1]
          have d3 : decide (r ≤ 3) = true := by simp [h3]
          have e4 : decide ((H.length : Int) = r) = false := by simp [h4]
          rw [e4, d1, d3]
          clear e4 d1 d3
          go_enter Try.func30, Try.ntmps30
          go_wp2_with fail
          refine Con.out.mono ?_
          rintro e w1 ⟨rfl, hw⟩
          go_wp2
          go_ret
          exact ⟨ret_b (by rw [Bool.eq_iff_iff]; simp), hw⟩
      · have d1 : decide (1 ≤ r) = true := by simp [h1]
        have d3 : decide (r ≤ 3) = false := by simp [h3]
        rw [d1, d3]
        clear d1 d3
        go_enter Try.func30, Try.ntmps30
        go_wp2_with fail
        refine Con.out.mono ?_
        rintro e w1 ⟨rfl, hw⟩
        go_wp2
        go_ret
        exact ⟨rfl, hw⟩
    · have d1 : decide (1 ≤ r) = false := by simp [h1]
      rw [d1]
      clear d1
      go_enter Try.func30, Try.ntmps30
      go_wp2_with fail
      refine Con.out.mono ?_
      rintro e w1 ⟨rfl, hw⟩
      go_wp2
      go_ret
      exact ⟨rfl, hw⟩

/-- What is kept between two rounds: the count. -/
structure MiI (gb : Nat) (w : World) (T : Nat → Prop) (pre : List (List Int)) (A : World) : Prop where
  nt : ¬ T gb
  bl : Below gb w A
  fz : ∀ m, A.frozen? ⟨gb, m, none⟩ = false
  c : A.cell? ⟨gb, 0, none⟩ = some (.int .i64 (pre.length : Int))
theorem MiI.abides (gb : Nat) (w : World) : AbT gb (MiI gb w) := by
  rintro T T' s A B h hT hnA ht hT'
  have lt : gb < A.heap.size := block_lt h.c
  have eb : B.heap[gb]? = A.heap[gb]? := ht.block gb lt h.nt
  refine ⟨fun hk => ?_, h.bl.trans (ht.below hnA (fun k hk => (hT k hk).1)), fun m => (World.frozen?_of_block (a := ⟨gb, m, none⟩) eb).trans (h.fz m), ht.cell h.nt h.c⟩
  rcases hT' _ hk with hk | hk
  · exact h.nt hk
  · omega
theorem enc_keepB {W : Nat} {x : List Int} {v : Array Value} {T : Nat → Prop} {A B : World} (h : EncB W x v T A) (hs : A.heap.size ≤ B.heap.size) (hb : ∀ k, T k → B.heap[k]? = A.heap[k]?) : EncB W x v T B := by
  obtain ⟨Ax, cx, e, h1, h2, hr, ht⟩ := h
  obtain ⟨Ay, cy, ey, hcy, hry, hty⟩ := enc_keepN (⟨Ax, cx, rfl, ⟨h1, h2⟩, hr, ht⟩ : EncN x #[.slice Ax x.length cx] T A) hs hb
  cases ey
  exact ⟨Ax, cx, e, h1, h2, hry, ht⟩

def miAct (A : Option Addr) (n c : Nat) (r : Int) (gb B : Nat) (v : Array Value) : Act :=
  { tmps := #[.slice A n c, .int .i64 r, undef, undef, .int .i64 0, .bool false, .pointer (some ⟨gb, 0, none⟩), .slice A n c, .int .i64 r, .bool true, .bool false, .slice A n c, .int .i64 r, .func (.func 48) #[] #[.pointer (some ⟨B, 0, none⟩), .pointer (some ⟨B + 1, 0, none⟩)], v.getD 0 undef, undef, undef, undef], defers := [] }

set_option maxRecDepth 100000 in
set_option maxHeartbeats 4000000 in
theorem c_implMagicNot (A : Option Addr) (c : Nat) (H : List (Int × Int)) (r : Int) (w : World) (hr : RdT w A H) (hl : H.length ≤ 1048576) (hg : mrB H r = false) : Calls Try.prog 11 #[.slice A H.length c, .int .i64 r] w fun e w' => e = .returned (.tuple #[.int .i64 0, .bool false]) ∧ Below w.heap.size w w' := by
  have con := c_makesRows A c H r w hr hl
  rw [hg] at con
  have Con := Lib.hid con
  clear con hr hg
  go_enter Try.func11, Try.ntmps11
  go_wp2_with fail
  refine Con.out.mono ?_
  rintro e w1 ⟨rfl, h1⟩
  go_wp2
  go_ret2
  exact ⟨rfl, h1⟩

set_option maxRecDepth 100000 in
set_option maxHeartbeats 4000000 in
theorem c_implMagicYes (A : Option Addr) (c : Nat) (H : List (Int × Int)) (R W : Nat) (w : World) (hr : RdT w A H) (hg : mrB H (R : Int) = true) (hh : handB H = true) (h1 : 1 ≤ R) (h3 : R ≤ 3) (h6 : H.length ≤ 6) (hW : 2 * H.length = R * W) (hW0 : 0 < W) (hW4 : W ≤ 4) (hm : (magL R W (allWl H H.length)).length ≤ 1000000000000) :
    Calls Try.prog 11 #[.slice A H.length c, .int .i64 (R : Int)] w fun e w' => e = .returned (.tuple #[.int .i64 ((magL R W (allWl H H.length)).length : Int), .bool true]) ∧ Below w.heap.size w w' := by
  have con := c_makesRows A c H (R : Int) w hr (by omega)
  rw [hg] at con
  have Con := Lib.hid con
  clear con hg
  refine (callsIn_wide (n := 5)).1 ?_
  refine callsIn_of_wp_marks Try.func11 rfl trivial ?_
  simp only [Try.ntmps11, List.size_toArray, List.length_cons, List.length_nil, Nat.reduceAdd, Nat.reduceSub, Array.replicate_succ, Array.replicate_zero, List.push_toArray, List.append_toArray, List.nil_append, List.cons_append]
  gi_wp2_with fail
  refine ⟨trivial, callsIn_wide.2 (Con.out.mono ?_)⟩
  rintro e w1 ⟨rfl, hb1⟩
  gi_wp2_with fail
  obtain ⟨w3, hw3⟩ : ∃ w3, w3 = w1.alloc (.cells #[.int .i64 0] 3) := ⟨_, rfl⟩
  rw [← hw3]
  obtain ⟨gb, hgb⟩ : ∃ gb, gb = w1.heap.size := ⟨_, rfl⟩
  have s3 : w3.heap.size = w1.heap.size + 1 := by rw [hw3]; simp
  have x3 : w3.cell? ⟨gb, 0, none⟩ = some (.int .i64 0) := by rw [hw3, hgb]; simp
  have fz3 : ∀ m, w3.frozen? ⟨gb, m, none⟩ = false := fun m => by rw [hw3, hgb]; exact frozen_new w1 _ _ m
  have b13 : Below w1.heap.size w1 w3 := by rw [hw3]; exact (Below.refl _ _).alloc (Nat.le_refl _) _
  have b03 : Below w.heap.size w w3 := bstep hb1 b13
  have b0g : Below gb w1 w3 := by rw [hgb]; exact b13
  have HB1 := Lib.hid hb1
  have HGB := Lib.hid hgb
  have fg : w.heap.size ≤ gb := by rw [hgb]; exact hb1.size
  have FZ3 := Lib.hid fz3
  have B03 := Lib.hid b03
  have B0G := Lib.hid b0g
  have HS := Lib.hid (show gb + 1 = w3.heap.size by omega)
  try rw [← hgb]
  clear hw3 fz3 b13 b03 b0g hb1 hgb s3
  have hr3 := hr.below B03.out
  gi_wp2_with fail
  refine ⟨trivial, callsIn_wide.2 ((c_everyMagic A H.length c (R : Int) w3).mono ?_)⟩
  rintro e w5 ⟨rfl, hw5⟩
  have HW5 := Lib.hid hw5
  clear hw5
  gi_wp2_with fail
  have hw5 := HW5.out
  clear HW5
  obtain ⟨B, hB⟩ : ∃ B, B = w3.heap.size := ⟨_, rfl⟩
  have hs := HS.out
  have b35 : Below w3.heap.size w3 w5 := by rw [hw5]; exact ((Below.refl _ _).alloc (Nat.le_refl _) _).alloc (by simp) _
  have s5 : w5.heap.size = w3.heap.size + 2 := by rw [hw5]; simp
  have yH : w5.cell? ⟨B, 0, none⟩ = some (.slice A H.length c) := by
    rw [hw5, hB]
    exact keepc ((Below.refl _ _).alloc (Nat.le_refl _) _) (by simp)
  have yT : w5.cell? ⟨B + 1, 0, none⟩ = some (.int .i64 (R : Int)) := by
    rw [hw5, hB]
    have h7 := (cell_of_row ((w3.alloc (.cells #[.slice A H.length c] 26)).alloc (.cells #[.int .i64 (R : Int)] 3)) (w3.alloc (.cells #[.slice A H.length c] 26)).heap.size 0 _ _ _ (heap_alloc_new _ _))
    rw [World.size_alloc] at h7
    exact h7
  have x5 := keepc b35 x3
  have fz5 : ∀ m, w5.frozen? ⟨gb, m, none⟩ = false := fun m => (b35.frozen (p := ⟨gb, m, none⟩) (by show gb < _; omega)).trans (FZ3.out m)
  have b05 : Below gb w1 w5 := B0G.out.trans (b35.mono (by omega))
  have hr5 := hr3.below b35
  rw [← hB]
  have f1 : gb ≤ B := by omega
  have f2 : B + 1 < w5.heap.size := by omega
  have f3 : gb < B := by omega
  clear hw5 b35 s5 hB hs x3 HS FZ3 B03 B0G hr hr3 Con
  refine wp_rangeIter (gf := 48) (lb := #[.pointer (some ⟨B, 0, none⟩), .pointer (some ⟨B + 1, 0, none⟩)]) rfl (fun args w => enters_magic args w) (n₀ := gb) (T0 := fun k => k = B ∨ k = B + 1) (iters_magic w5 gb B (B + 1) R W A c H yH yT (by omega) (by omega) (by omega) hr5 hh h1 h3 hW hW0 hW4) (by omega) (by rintro k (rfl | rfl) <;> omega) ?hps ?hE
    (MiI gb w1) (fun _ _ _ _ => False) (MiI.abides _ _) (fun _ _ _ _ _ _ h _ _ _ _ => h.elim) ⟨by omega, b05, fz5, x5⟩ (miAct A H.length c (R : Int) gb B) ?hassign ?hbody ?hdone ?hstop
  case hps => rintro x v T A ⟨_, _, rfl, _⟩; rfl
  case hE => exact fun x v T A B h1 h2 h3 => enc_keepB h1 h2 h3
  case hassign =>
    rintro l m x v T W K ⟨Ax, cx, rfl, _⟩ hK
    gi_wp2_with (rw [Oper.semAt_eq _ _ _ (fun c h => by cases h)]; go_simp; try go_bits)
    unfold miAct at hK
    first | (simp; exact hK) | simpa using hK
  case hstop => exact fun _ _ _ _ _ _ _ _ h => h.elim
  case hbody =>
    rintro l m T Ti pre x v A1 ⟨h1, h4, hf, h5⟩ hp hT hn _ ⟨Ax, cx, rfl, hrx, htx⟩
    have hpl : pre.length + 1 ≤ 1000000000000 := by
      have h7 := hp.length_le
      rw [List.length_append, List.length_singleton] at h7
      omega
    have f0 := hf 0
    have jw : IntKind.i64.wrap ((pre.length : Int) + 1) = (pre.length : Int) + 1 := IntWalk.i64_in _ (by omega)
    have H4 := Lib.hid h4
    have HF := Lib.hid hf
    clear h4 hf hp
    unfold miAct
    gi_wp2_with (rw [Oper.semAt_eq _ _ _ (fun c h => by cases h)]; go_simp; try go_bits)
    exact ⟨Turn.setCell _ _ ⟨Nat.le_refl _, h1⟩, h1, H4.out.setCell (Nat.le_refl _) _, fun m => by simp [HF.out], by rw [List.length_append, List.length_singleton]; exact World.cell?_setCell_same _ _ _ h5⟩
  case hdone =>
    rintro D T W hD hTD ⟨h1, h4, hf, h5⟩ hz hK
    gi_wp2
    refine ⟨by simp, .inl ⟨_, _, rfl, run_takeDeferred hK, ?_⟩⟩
    have hb : Below w.heap.size w W := bstep HB1.out (h4.mono (by rw [HGB.out]; exact Nat.le_refl _))
    exact ⟨_, results_tmp2 rfl _ _ _, rfl, hb.grown (grownBy_putObj' _ _ _) hb.size (fun k e => by cases e; omega)⟩

theorem c_implMagic (A : Option Addr) (c : Nat) (H : List (Int × Int)) (r : Int) (w : World) (hr : RdT w A H) (hl : H.length ≤ 1048576) :
    Calls Try.prog 11 #[.slice A H.length c, .int .i64 r] w fun e w' => e = .returned (.tuple #[.int .i64 (cmV H r), .bool (mrB H r)]) ∧ Below w.heap.size w w' := by
  unfold cmV
  cases hg : mrB H r
  · exact c_implMagicNot A c H r w hr hl hg
  · obtain ⟨R, W, rfl, hh, h1, h3, h6, hW, hW0, hW4, hd⟩ := mrB_yes hg
    have hm := cmN_le (H := H) (R : Int) h6
    unfold cmN at hm ⊢
    rw [Int.toNat_natCast, hd] at hm ⊢
    exact c_implMagicYes A c H R W w hr hg hh h1 h3 h6 hW hW0 hW4 hm

end Go.Proofs.Ytbanpgifhnbjoaa

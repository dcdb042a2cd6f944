/- Layouts: the program's iterator over all of them; CountTilings. -/
import Derived.Test.YtmijbgkfkaijjaaTlF
namespace Go.Proofs.Ytmijbgkfkaijjaa
open Go Go.RowKit
set_option linter.unusedVariables false

/-- All layouts of H rows of W cells. -/
def allLay (W n : Nat) : List (List (Int × Int)) := layL W n 0 (fun _ => false)

set_option maxRecDepth 100000 in
set_option maxHeartbeats 2000000 in
theorem iters_layouts (w0 : World) (n₀ B H W n : Nat) (G : Option Addr) (cg : Nat) (T0 : Nat → Prop) (hT0 : ∀ k, T0 k → n₀ ≤ k ∧ k < w0.heap.size) (hB0 : w0.cell? ⟨B, 0, none⟩ = some (.slice G n cg)) (hB1 : w0.cell? ⟨B, 1, none⟩ = some (.int .i64 W))
    (hn₀ : n₀ ≤ w0.heap.size) (hW : 0 < W) (hn : n = H * W) (hn30 : n ≤ 30) (hW30 : W ≤ 30) :
    Iters Try.prog n₀ T0 12 #[.pointer (some ⟨B, 0, none⟩)] EncP (allLay W n) w0 := by
  intro m l J Jx V hV hJ hJx hY h0
  have hb0 := (hV.cell (p := ⟨B, 0, none⟩) (block_lt hB0)).trans hB0
  have hb1 := (hV.cell (p := ⟨B, 1, none⟩) (block_lt hB1)).trans hB1
  have hnV : n₀ ≤ V.heap.size := Nat.le_trans hn₀ hV.size
  have hT1 : ∀ k, T0 k → n₀ ≤ k ∧ k < V.heap.size := fun k h => ⟨(hT0 k h).1, Nat.lt_of_lt_of_le (hT0 k h).2 hV.size⟩
  have con := lay_from H W n G cg l n₀ J Jx (allLay W n) hW hn hn30 hW30 hJ hY (n + 1) 0 (fun _ => false) [] none 0 T0 [] V (m - 1) (by omega) (Nat.zero_le _) h0 hT1 hnV ⟨World.ownsRow_nil _ _ _ _, fun b hb => by simp [Value.ownBlock] at hb⟩ (by simp [allLay]) (by simp)
  rw [z30_eq] at con
  have eo : ([] : List (List (Int × Int))) ++ (layL W n 0 (fun _ => false)).map (([] : List (Int × Int)) ++ ·) = allLay W n := by simp [allLay]
  rw [eo] at con
  have Con := Lib.hid con
  clear hV hB0 hB1 hT0 con hY h0 hJ hJx eo hn
  refine callsIn_of_wp Try.func12 rfl trivial ?_
  simp only [Try.ntmps12, List.size_toArray, List.length_cons, List.length_nil, Nat.reduceAdd, Nat.reduceSub, Array.replicate_succ, Array.replicate_zero, List.push_toArray, List.append_toArray, List.nil_append, List.cons_append]
  gi_wp2_with fail
  refine ⟨trivial, fun h => by simp [Fence.wide] at h, Con.out.mono ?_⟩
  rintro e w1 ⟨hz, _, (⟨rfl, T6, j6, s6, bd6, row6⟩ | ⟨rfl, T6, q6, hq6, jx6, bd6⟩)⟩
  · have HJ6 := Lib.hid j6
    have HB6 := Lib.hid bd6
    clear j6 s6 bd6 row6
    gi_wp2
    go_end0
    exact ⟨⟨_, rfl⟩, hz, .inl ⟨T6, HJ6.out, HB6.out⟩⟩
  · have HJ6 := Lib.hid jx6
    have HB6 := Lib.hid bd6
    have HQ6 := Lib.hid hq6
    clear jx6 bd6 hq6
    gi_wp2
    go_end0
    exact ⟨⟨_, rfl⟩, hz, .inr ⟨T6, q6, HQ6.out, HJ6.out, HB6.out⟩⟩
theorem enters_layouts (args : Array Value) (w : World) : (callFunc 12 args).run Try.prog w = .ok (.enter 12 args) w := by
  have h1 : Try.f12.name ≠ "runtime.NumGoroutine" := beq_eq_false_iff_ne.1 (by kernel_rfl)
  have h2 : Try.f12.body ≠ none := by intro h; cases h
  simp [callFunc, go_sem, h1, h2]

theorem c_everyLayout (G : Option Addr) (n c W : Nat) (w : World) : Calls Try.prog 9 #[.agg #[.slice G n c, .int .i64 W]] w fun e w' => e = .returned (.func (.func 12) #[] #[.pointer (some ⟨w.heap.size, 0, none⟩)]) ∧ w' = w.alloc (.cells #[.slice G n c, .int .i64 W] 39) := by
  go_enter Try.func9, Try.ntmps9
  go_wp2
  go_ret
  exact ⟨rfl, rfl⟩

theorem Try.info_u8 : (Try.prog.info? 5).map (fun i => (i.zero, i.size, i.bytes)) = some (some (.int .u8 0), 1, 1) := by kernel_rfl

set_option maxRecDepth 100000 in
theorem c_blankGrid (W H n : Nat) (w : World) (hn : (W : Int) * (H : Int) = (n : Int)) (hn30 : n ≤ 30) : Calls Try.prog 8 #[.int .i64 W, .int .i64 H] w fun e w' => ∃ G c, e = .returned (.agg #[.slice G n c, .int .i64 W]) ∧ Below w.heap.size w w' := by
  obtain ⟨i0, hi, hz0, hz1, hz2⟩ := info_parts Try.info_u8
  have i4 : IntKind.i64.wrap ((W : Int) * (H : Int)) = (n : Int) := by rw [hn]; exact IntWalk.i64_in _ (by omega)
  have b0 := fun w : World => (show Below w.heap.size w (w.alloc (.cells #[.slice none 0 0, .int .i64 0] 39)) from (Below.refl _ _).alloc (Nat.le_refl _) _)
  clear hn
  go_enter Try.func8, Try.ntmps8
  go_wp2_with (refine wpList_make_full _ rfl _ _ _ rfl w.heap.size 5 i0 _ 1 Try.underlying30 hi hz0 hz1 .i64 .i64 _ _ n rfl rfl rfl rfl (by rw [hz2]; omega) (by unfold maxLen; omega) (by simp) ?_; intro w1 hown1 hg1; have hb1 := below_of_grown hg1 (Nat.le_refl _) (by simp); have x1 := (Bx2.fresh w (.slice none 0 0) (.int .i64 0) 39).keep hb1; have y0 := x1.c0; have y1 := x1.c1; have f0 := x1.fz 0; have f1 := x1.fz 1; have hb2 := bstep (b0 w) hb1; clear hown1 hg1)
  refine bodyPost_ret (v := .agg #[.slice (some ⟨w.heap.size + 1, 0, none⟩) n n, .int .i64 W]) (by simp [results, Try.results8, go_sem, x1.c0, x1.c1]) rfl ⟨some ⟨w.heap.size + 1, 0, none⟩, n, rfl, Bx2.stored hb2⟩

def gTil (w h : Int) : Bool := decide (1 ≤ w ∧ 1 ≤ h ∧ w * h ≤ 30)
/-- How many tilings there are. -/
def tilN (w h : Int) : Nat := (allLay w.toNat (h.toNat * w.toNat)).length
def mTil (w h : Int) : Int := if gTil w h then (tilN w h : Int) else 0
theorem allLay_le {W n : Nat} (h : n ≤ 30) : (allLay W n).length ≤ 1073741824 := by
  have h1 := lay_len W n (n + 1 - 0) 0 (fun _ => false)
  have h2 : 2 ^ (n - 0) ≤ 2 ^ 30 := Nat.pow_le_pow_right (by omega) (by omega)
  unfold allLay layL
  omega
theorem til_nat {w h : Int} (hg : gTil w h = true) : ∃ W H : Nat, w = W ∧ h = H ∧ 0 < W ∧ 0 < H ∧ H * W ≤ 30 ∧ W ≤ 30 ∧ H ≤ 30 := by
  have h1 := of_decide_eq_true hg
  obtain ⟨W, rfl⟩ : ∃ W : Nat, w = W := ⟨w.toNat, by omega⟩
  obtain ⟨H, rfl⟩ : ∃ H : Nat, h = H := ⟨h.toNat, by omega⟩
  have h2 : H * W ≤ 30 := by
    have h3 := h1.2.2
    rw [← Int.natCast_mul] at h3
    rw [Nat.mul_comm]
    omega
  have hW : 0 < W := by omega
  have hH : 0 < H := by omega
  refine ⟨W, H, rfl, rfl, hW, hH, h2, Nat.le_trans (Nat.le_mul_of_pos_left W hH) h2, Nat.le_trans (Nat.le_mul_of_pos_right H hW) h2⟩
theorem quo30 {h : Int} (h1 : 1 ≤ h) : ∃ q : Nat, IntKind.i64.wrap ((30 : Int).tdiv h) = (q : Int) ∧ q = 30 / h.toNat ∧ q ≤ 30 := by
  obtain ⟨H, rfl⟩ : ∃ H : Nat, h = H := ⟨h.toNat, by omega⟩
  refine ⟨30 / H, ?_, rfl, Nat.div_le_self _ _⟩
  have : (30 : Int).tdiv (H : Int) = ((30 / H : Nat) : Int) := rfl
  rw [this]
  have h2 := Nat.div_le_self 30 H
  generalize 30 / H = d at h2
  exact IntWalk.i64_in _ (by omega)
theorem quo_gt {W H : Nat} (hH : 0 < H) : (W ≤ 30 / H ↔ H * W ≤ 30) := by
  rw [Nat.le_div_iff_mul_le hH, Nat.mul_comm]

/-- What is kept between two rounds: the count. -/
structure TiI (gb : Nat) (w : World) (T : Nat → Prop) (pre : List (List (Int × Int))) (A : World) : Prop where
  nt : ¬ T gb
  bl : Below gb w A
  fz : ∀ m, A.frozen? ⟨gb, m, none⟩ = false
  c : A.cell? ⟨gb, 0, none⟩ = some (.int .i64 (pre.length : Int))
theorem TiI.abides (gb : Nat) (w : World) : AbT gb (TiI gb w) := by
  rintro T T' s A B h hT hnA ht hT'
  have lt : gb < A.heap.size := block_lt h.c
  have eb : B.heap[gb]? = A.heap[gb]? := ht.block gb lt h.nt
  refine ⟨fun hk => ?_, h.bl.trans (ht.below hnA (fun k hk => (hT k hk).1)), fun m => (World.frozen?_of_block (a := ⟨gb, m, none⟩) eb).trans (h.fz m), ht.cell h.nt h.c⟩
  rcases hT' _ hk with hk | hk
  · exact h.nt hk
  · omega

set_option maxRecDepth 100000 in
set_option maxHeartbeats 4000000 in
theorem c_implTilingsNot (x y : Int) (w : World) (hg : gTil x y = false) : Calls Try.prog 5 #[.int .i64 x, .int .i64 y] w fun e w' => e = .returned (.tuple #[.int .i64 0, .bool false]) ∧ Below w.heap.size w w' := by
  have h1 := of_decide_eq_false hg
  by_cases a1 : x < 1
  · clear hg h1
    go_enter Try.func5, Try.ntmps5
    go_wp2
    go_ret2
    exact ⟨rfl, Below.refl _ _⟩
  by_cases a2 : y < 1
  · clear hg h1
    go_enter Try.func5, Try.ntmps5
    go_wp2
    go_ret2
    exact ⟨rfl, Below.refl _ _⟩
  obtain ⟨q, hq, hq2, hq30⟩ := quo30 (h := y) (by omega)
  have a3 : (q : Int) < x := by
    obtain ⟨X, rfl⟩ : ∃ X : Nat, x = X := ⟨x.toNat, by omega⟩
    obtain ⟨Y, rfl⟩ : ∃ Y : Nat, y = Y := ⟨y.toNat, by omega⟩
    have hY : 0 < Y := by omega
    rw [Int.toNat_natCast] at hq2
    have h2 := quo_gt (W := X) hY
    rw [← Int.natCast_mul] at h1
    have h3 : ¬ Y * X ≤ 30 := fun h => h1 ⟨by omega, by omega, by rw [Nat.mul_comm] at h; omega⟩
    have : ¬ X ≤ q := fun h => h3 (h2.1 (by omega))
    omega
  have a4 : (y == 0) = false := by simp; omega
  have a5 : ¬ y = 0 := by omega
  clear hg h1 hq2
  go_enter Try.func5, Try.ntmps5
  go_wp2
  go_ret2
  exact ⟨rfl, Below.refl _ _⟩

def tiAct (W H q gb : Nat) (G : Option Addr) (n c B : Nat) (v : Array Value) : Act :=
  { tmps := #[.int .i64 W, .int .i64 H, undef, undef, .int .i64 0, .bool false, .pointer (some ⟨gb, 0, none⟩), .int .i64 W, .bool false, .bool false, .int .i64 H, .bool false, .bool false, .bool false, .int .i64 W, .int .i64 H, .int .i64 q, .bool false, .bool false, .int .i64 W, .int .i64 H, .agg #[.slice G n c, .int .i64 W], .func (.func 12) #[] #[.pointer (some ⟨B, 0, none⟩)], v.getD 0 undef, undef, undef, undef], defers := [] }
theorem enc_keepP {x : List (Int × Int)} {v : Array Value} {T : Nat → Prop} {A B : World} (h : EncP x v T A) (hs : A.heap.size ≤ B.heap.size) (hb : ∀ k, T k → B.heap[k]? = A.heap[k]?) : EncP x v T B := by
  obtain ⟨Ax, cx, e, ⟨b, off, h1, h2⟩, ht⟩ := h
  refine ⟨Ax, cx, e, ⟨b, off, h1, fun k hk => ?_⟩, ht⟩
  have hx : x ≠ [] := fun e => by rw [e] at hk; simp at hk
  have hT := ht hx _ (h1 hx)
  have := h2 k hk
  exact ⟨(World.cell?_of_block (a := ⟨b, _, none⟩) (hb b hT)).trans this.1, (World.cell?_of_block (a := ⟨b, _, none⟩) (hb b hT)).trans this.2⟩

set_option maxRecDepth 100000 in
set_option maxHeartbeats 4000000 in
theorem c_implTilings (W H : Nat) (w : World) (hW : 0 < W) (hH : 0 < H) (h30 : H * W ≤ 30) (hW30 : W ≤ 30) (hH30 : H ≤ 30) : Calls Try.prog 5 #[.int .i64 W, .int .i64 H] w fun e w' => e = .returned (.tuple #[.int .i64 ((allLay W (H * W)).length : Int), .bool true]) ∧ Below w.heap.size w w' := by
  have hal := allLay_le (W := W) h30
  obtain ⟨q, hq, hq2, hq30⟩ := quo30 (h := (H : Int)) (by omega)
  have a3 : ¬ (q : Int) < (W : Int) := by
    rw [Int.toNat_natCast] at hq2
    have := (quo_gt hH).2 h30
    omega
  have a1 : ¬ (W : Int) < 1 := by omega
  have a2 : ¬ (H : Int) < 1 := by omega
  have a4 : ((H : Int) == 0) = false := by simp; omega
  have a5 : ¬ (H : Int) = 0 := by omega
  obtain ⟨n, hn⟩ : ∃ n, n = H * W := ⟨_, rfl⟩
  rw [← hn] at hal h30 ⊢
  have hnW : (W : Int) * (H : Int) = (n : Int) := by rw [hn, Int.natCast_mul, Int.mul_comm]
  have HN := Lib.hid hn
  have HNW := Lib.hid hnW
  clear hn hnW hq2
  refine (callsIn_wide (n := 5)).1 ?_
  refine callsIn_of_wp_marks Try.func5 rfl trivial ?_
  simp only [Try.ntmps5, List.size_toArray, List.length_cons, List.length_nil, Nat.reduceAdd, Nat.reduceSub, Array.replicate_succ, Array.replicate_zero, List.push_toArray, List.append_toArray, List.nil_append, List.cons_append]
  gi_wp2_with fail
  obtain ⟨w3, hw3⟩ : ∃ w3, w3 = w.alloc (.cells #[.int .i64 0] 3) := ⟨_, rfl⟩
  rw [← hw3]
  have s3 : w3.heap.size = w.heap.size + 1 := by rw [hw3]; simp
  have x3 : w3.cell? ⟨w.heap.size, 0, none⟩ = some (.int .i64 0) := by rw [hw3]; simp
  have fz3 : ∀ m, w3.frozen? ⟨w.heap.size, m, none⟩ = false := fun m => by rw [hw3]; exact bx2_frozen w _ _ m
  have b13 : Below w.heap.size w w3 := by rw [hw3]; exact (Below.refl _ _).alloc (Nat.le_refl _) _
  clear hw3
  refine ⟨trivial, callsIn_wide.2 ((c_blankGrid W H n w3 HNW.out h30).mono ?_)⟩
  rintro e w4 ⟨G, c, rfl, b34⟩
  have x4 := keepc b34 x3
  have fz4 : ∀ m, w4.frozen? ⟨w.heap.size, m, none⟩ = false := fun m => (b34.frozen (p := ⟨w.heap.size, m, none⟩) (by show w.heap.size < _; omega)).trans (fz3 m)
  have b14 := bstep b13 b34
  have s4 : w.heap.size + 1 ≤ w4.heap.size := by have := b34.size; omega
  have FZ4 := Lib.hid fz4
  clear x3 fz3 b13 b34 s3 fz4
  gi_wp2_with fail
  refine ⟨trivial, callsIn_wide.2 ((c_everyLayout G n c W w4).mono ?_)⟩
  rintro e w5 ⟨rfl, hw5⟩
  have HW5 := Lib.hid hw5
  clear hw5
  gi_wp2_with fail
  have hw5 := HW5.out
  clear HW5
  obtain ⟨gb, hgb⟩ : ∃ gb, gb = w.heap.size := ⟨_, rfl⟩
  obtain ⟨B, hB⟩ : ∃ B, B = w4.heap.size := ⟨_, rfl⟩
  have s5 : w5.heap.size = w4.heap.size + 1 := by rw [hw5]; simp
  have b45 : Below w4.heap.size w4 w5 := by rw [hw5]; exact (Below.refl _ _).alloc (Nat.le_refl _) _
  have xB : Bx2 w5 B (.slice G n c) (.int .i64 W) := by rw [hw5, hB]; exact Bx2.fresh _ _ _ _
  have b15 : Below w.heap.size w w5 := bstep b14 b45
  have x5 := keepc b45 x4
  have fz5 : ∀ m, w5.frozen? ⟨w.heap.size, m, none⟩ = false := fun m => (b45.frozen (p := ⟨w.heap.size, m, none⟩) (by show w.heap.size < _; omega)).trans (FZ4.out m)
  have HGB := Lib.hid hgb
  rw [← hgb] at x5 fz5 b15
  have f2 : gb < B := by omega
  have f3 : B < w5.heap.size := by omega
  rw [← hgb, ← hB]
  clear hw5 x4 b45 b14 FZ4 hgb
  refine wp_rangeIter (gf := 12) (lb := #[.pointer (some ⟨B, 0, none⟩)]) rfl (fun args w => enters_layouts args w) (n₀ := gb) (T0 := fun k => k = B) (iters_layouts w5 gb B H W n G c (fun k => k = B) (by rintro k rfl; omega) xB.c0 xB.c1 (by omega) hW HN.out h30 hW30) (by omega) (by rintro k rfl; omega) ?hps ?hE
    (TiI gb w) (fun _ _ _ _ => False) (TiI.abides _ _) (fun _ _ _ _ _ _ h _ _ _ _ => h.elim) ⟨by omega, b15, fz5, x5⟩ (tiAct W H q gb G n c B) ?hassign ?hbody ?hdone ?hstop
  case hps => rintro x v T A ⟨_, _, rfl, _⟩; rfl
  case hE => exact fun x v T A B h1 h2 h3 => enc_keepP h1 h2 h3
  case hassign =>
    rintro l m x v T W K ⟨Ax, cx, rfl, _⟩ hK
    gi_wp2_with (rw [Oper.semAt_eq _ _ _ (fun c h => by cases h)]; go_simp; try go_bits)
    unfold tiAct at hK
    first | (simp; exact hK) | simpa using hK
  case hstop => exact fun _ _ _ _ _ _ _ _ h => h.elim
  case hbody =>
    rintro l m T Ti pre x v A1 ⟨h1, h4, hf, h5⟩ hp hT hn _ ⟨Ax, cx, rfl, hrx, htx⟩
    have hpl : pre.length + 1 ≤ 1073741824 := by
      have h7 := hp.length_le
      rw [List.length_append, List.length_singleton] at h7
      omega
    have f0 := hf 0
    have jw : IntKind.i64.wrap ((pre.length : Int) + 1) = (pre.length : Int) + 1 := IntWalk.i64_in _ (by omega)
    have H4 := Lib.hid h4
    have HF := Lib.hid hf
    clear h4 hf hp
    unfold tiAct
    gi_wp2_with (rw [Oper.semAt_eq _ _ _ (fun c h => by cases h)]; go_simp; try go_bits)
    exact ⟨Turn.setCell _ _ ⟨Nat.le_refl _, h1⟩, h1, H4.out.setCell (Nat.le_refl _) _, fun m => by simp [HF.out], by rw [List.length_append, List.length_singleton]; exact World.cell?_setCell_same _ _ _ h5⟩
  case hdone =>
    rintro D T W hD hTD ⟨h1, h4, hf, h5⟩ hz hK
    gi_wp2
    refine ⟨by simp, .inl ⟨_, _, rfl, run_takeDeferred hK, ?_⟩⟩
    have hb : Below w.heap.size w W := h4.mono (by rw [HGB.out]; exact Nat.le_refl _)
    exact ⟨_, results_tmp2 rfl _ _ _, rfl, hb.grown (grownBy_putObj' _ _ _) hb.size (fun k e => by cases e; omega)⟩

theorem c_implTil (x y : Int) (w : World) : Calls Try.prog 5 #[.int .i64 x, .int .i64 y] w fun e w' => e = .returned (.tuple #[.int .i64 (mTil x y), .bool (gTil x y)]) ∧ Below w.heap.size w w' := by
  cases hg : gTil x y
  · have em : mTil x y = 0 := by unfold mTil; rw [hg]; rfl
    rw [em]
    exact c_implTilingsNot x y w hg
  · obtain ⟨W, H, rfl, rfl, hW, hH, h1, h2, h3⟩ := til_nat hg
    have em : mTil (W : Int) (H : Int) = ((allLay W (H * W)).length : Int) := by unfold mTil tilN; rw [hg, if_pos rfl, Int.toNat_natCast, Int.toNat_natCast]
    rw [em]
    exact c_implTilings W H w hW hH h1 h2 h3

end Go.Proofs.Ytmijbgkfkaijjaa

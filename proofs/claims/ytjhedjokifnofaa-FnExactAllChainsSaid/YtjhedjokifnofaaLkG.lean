/- All chains of a hand by the specification: from every number of the hand on, with the list of full chains; AllChains. -/
import Derived.Test.YtjhedjokifnofaaLkT
import Derived.Test.YtjhedjokifnofaaLkH
import Derived.Test.YtjhedjokifnofaaCsW
namespace Go.Proofs.Ytjhedjokifnofaa
open Go.RowKit
set_option linter.unusedVariables false

/-- The search's struct, its counts and its list, with no marks yet. -/
structure Lop2 (H : List (Int × Int)) (lo pb gc M : Nat) (AH : Option Addr) (cH : Nat) (s : S3) (ls : List (List Int)) (AL : Option Addr) (cL : Nat) (w : World) : Prop where
  h1 : lo ≤ pb
  h2 : lo ≤ gc
  n1 : pb ≠ gc
  c0 : w.cell? ⟨pb, 0, none⟩ = some (.slice AH H.length cH)
  c1 : w.cell? ⟨pb, 1, none⟩ = some (.int .i64 (M : Int))
  c2 : w.cell? ⟨pb, 2, none⟩ = some (.int .i64 (s.n : Int))
  c3 : w.cell? ⟨pb, 3, none⟩ = some (.slice (some ⟨gc, 0, none⟩) H.length H.length)
  c4 : w.cell? ⟨pb, 4, none⟩ = some (.slice AL ls.length cL)
  c5 : ∃ AG cG, w.cell? ⟨pb, 5, none⟩ = some (.slice AG s.L.length cG)
  fz : ∀ m, w.frozen? ⟨pb, m, none⟩ = false
  len : s.C.length = H.length
  cnt : w.ownsRow lo 3 1 (.slice (some ⟨gc, 0, none⟩) H.length H.length) H.length (cellsI s.C)
  lst : OwnPP 34 3 1 cellsI w lo (fun g => g ≠ pb ∧ g ≠ gc) (.slice AL ls.length cL) ls
section
variable {H : List (Int × Int)} {lo pb gc gu M cH cL : Nat} {AH AL : Option Addr} {c : List Int} {s : S3} {ls : List (List Int)} {w w' : World}
theorem Lo2.drop (h : Lo2 H lo pb gc gu M AH cH c s ls AL cL w) : Lop2 H lo pb gc M AH cH s ls AL cL w :=
  ⟨h.h1, h.h2, h.n1, h.c0, h.c1, h.c2, h.c3, h.c4, h.c5, h.fz, h.len, h.cnt, h.lst.mono (fun g _ hp => ⟨fun e => hp (.inl e), fun e => hp (.inr (.inl e))⟩)⟩
theorem Lop2.lt (h : Lop2 H lo pb gc M AH cH s ls AL cL w) : pb < w.heap.size := block_lt h.c0
theorem Lop2.ltc (h : Lop2 H lo pb gc M AH cH s ls AL cL w) : gc < w.heap.size := (h.cnt.lt gc rfl).2
theorem Lop2.keep (h : Lop2 H lo pb gc M AH cH s ls AL cL w) (hb : Below w.heap.size w w') : Lop2 H lo pb gc M AH cH s ls AL cL w' := by
  obtain ⟨AG, cG, k3⟩ := h.c5
  exact { h with
    c0 := keepc hb h.c0, c1 := keepc hb h.c1, c2 := keepc hb h.c2, c3 := keepc hb h.c3, c4 := keepc hb h.c4, c5 := ⟨AG, cG, keepc hb k3⟩
    fz := fun m => (hb.frozen (p := ⟨pb, m, none⟩) h.lt).trans (h.fz m), cnt := own_keep h.cnt hb, lst := h.lst.keep hb }
/-- Marks in new memory. -/
theorem Lop2.put (h : Lop2 H lo pb gc M AH cH s ls AL cL w) (hb : Below w.heap.size w w') (hlo : lo ≤ w.heap.size) (hgu : w.heap.size ≤ gu) (usd : ∀ i (h : i < H.length), w'.cell? ⟨gu, i, none⟩ = some (.bool (decide (H[i] ∈ tilesC c)))) (fu : ∀ m, w'.frozen? ⟨gu, m, none⟩ = false) : Lo2 H lo pb gc gu M AH cH c s ls AL cL w' := by
  have l1 := h.lt
  have l2 := h.ltc
  have h' := h.keep hb
  exact { h1 := h.h1, h2 := h.h2, h3 := by omega, n1 := h.n1, n2 := by omega, n3 := by omega, c0 := h'.c0, c1 := h'.c1, c2 := h'.c2, c3 := h'.c3, c4 := h'.c4, c5 := h'.c5, fz := h'.fz, len := h.len, cnt := h'.cnt, usd := usd, fu := fu
          lst := (h.lst.mono (P' := fun g => ¬ LkT pb gc gu g) (fun g hg hp => by rintro (e | e | e); exact hp.1 e; exact hp.2 e; omega)).keep hb }
theorem Lop2.start {t : Nat} (hown : w.ownsRow lo 3 1 (.slice (some ⟨gc, 0, none⟩) H.length H.length) H.length (madeCells (Value.int .i64 0).cells (H.length * 1)).toList) :
    Lop2 H lo w.heap.size gc M AH cH (zero3 H.length) [] none 0 (w.alloc (.cells #[.slice AH H.length cH, .int .i64 (M : Int), .int .i64 0, .slice (some ⟨gc, 0, none⟩) H.length H.length, .slice none 0 0, .slice none 0 0] t)) := by
  have hg := hown.lt gc rfl
  have hz : (madeCells (Value.int .i64 0).cells (H.length * 1)).toList = cellsI (List.replicate H.length 0) := by
    rw [Nat.mul_one, show (madeCells (Value.int .i64 0).cells H.length).toList = List.replicate H.length (Value.int .i64 0) from toList_madeCells_one (.int .i64 0) H.length]
    unfold cellsI
    rw [List.map_replicate]
  rw [hz] at hown
  exact { h1 := by omega, h2 := hg.1, n1 := by omega, c0 := by simp, c1 := by simp, c2 := by simp [zero3], c3 := by simp, c4 := by simp, c5 := ⟨none, 0, by simp [zero3]⟩, fz := fun m => frozen_new w _ _ m, len := by simp [zero3], cnt := hown.alloc _, lst := OwnPP.nil _ _ _ }
end
/-- What the specification keeps when it has begun with all numbers below q, its list too. -/
structure InvV (M : Nat) (H : List (Int × Int)) (q : Nat) (s : S3) (ls : List (List Int)) : Prop where
  a : InvA H q s
  v : ls = foldV M H.length [] (allTo H q)
theorem InvV.zero (M : Nat) (H : List (Int × Int)) : InvV M H 0 (zero3 H.length) [] := ⟨InvA.zero H, rfl⟩
theorem InvV.more {M : Nat} {H : List (Int × Int)} {q : Nat} {s : S3} {ls : List (List Int)} (h : InvV M H q s ls) : InvV M H (q + 1) (fold3 H.length s (enumS H (H.length + 1) [(q : Int)])) (foldV M H.length ls (enumS H (H.length + 1) [(q : Int)])) :=
  ⟨h.a.more, by rw [allTo_step, foldV_app, ← h.v]⟩
theorem InvV.lone {M : Nat} {H : List (Int × Int)} {q : Nat} {s : S3} {ls : List (List Int)} (h : InvV M H q s ls) (hq : ¬ 0 < timesI H (q : Int)) (h0 : H.length ≠ 0) : InvV M H (q + 1) s ls :=
  ⟨h.a.lone hq h0, by rw [allTo_step, foldV_app, ← h.v, enum_lone hq]; simp [foldV, stepV, h0]⟩
theorem fullL_cons (m : Nat) (c : List Int) (L : List (List Int)) : fullL m (c :: L) = if m < c.length then c :: fullL m L else fullL m L := by
  unfold fullL
  rw [List.filter_cons]
  simp
theorem foldV_full (M m : Nat) : ∀ (L acc : List (List Int)), (∀ x ∈ L, x.length ≤ m + 1) → acc.length + (fullL m L).length ≤ M → foldV M m acc L = acc ++ fullL m L
  | [], acc, _, _ => by simp [foldV, fullL]
  | c :: L, acc, hx, hl => by
    have hc := hx c List.mem_cons_self
    rw [fullL_cons] at hl ⊢
    show foldV M m (stepV M m acc c) L = _
    unfold stepV
    by_cases h : m < c.length
    · rw [if_pos h] at hl ⊢
      rw [List.length_cons] at hl
      rw [if_pos (by omega), if_pos (by omega), foldV_full M m L _ (fun x h => hx x (List.mem_cons_of_mem _ h)) (by rw [List.length_append, List.length_singleton]; omega)]
      simp
    · rw [if_neg h] at hl ⊢
      rw [if_neg (by omega)]
      exact foldV_full M m L acc (fun x h => hx x (List.mem_cons_of_mem _ h)) hl
theorem fold_n (m : Nat) : ∀ (L : List (List Int)) (k : Nat), (∀ x ∈ L, x.length ≤ m + 1) → L.foldl (fun n c => if c.length = m + 1 then n + 1 else n) k = k + (fullL m L).length
  | [], k, _ => by simp [fullL]
  | c :: L, k, hx => by
    have hc := hx c List.mem_cons_self
    rw [List.foldl_cons, fold_n m L _ (fun x h => hx x (List.mem_cons_of_mem _ h)), fullL_cons]
    by_cases h : m < c.length
    · rw [if_pos h, if_pos (by omega), List.length_cons]; omega
    · rw [if_neg h, if_neg (by omega)]
theorem invV_end {M : Nat} {H : List (Int × Int)} {s : S3} {ls : List (List Int)} (hi : H.length ≠ 0 → InvV M H 10 s ls) (hz : H.length = 0 → s = zero3 0 ∧ ls = []) :
    (s.n ≤ M → wholeL M H = ls ∧ wholeB M H = true) ∧ (¬ s.n ≤ M → wholeL M H = [] ∧ wholeB M H = false) := by
  unfold wholeL wholeB
  by_cases h0 : H.length = 0
  · obtain ⟨rfl, rfl⟩ := hz h0
    rw [if_pos h0, decide_eq_true h0]
    exact ⟨fun _ => ⟨rfl, rfl⟩, fun h => absurd (Nat.zero_le _) h⟩
  · have h1 := hi h0
    have hx : ∀ x ∈ allC H, x.length ≤ H.length + 1 := fun x hx => (all_ok hx).1.len
    have hn : s.n = (fullL H.length (allC H)).length := by
      rw [h1.a.n, allTo_all, fold3_n, fold_n _ _ _ hx]
      simp [zero3]
    rw [if_neg h0, decide_eq_false h0, Bool.false_or, ← hn]
    refine ⟨fun h => ?_, fun h => ?_⟩
    · rw [if_pos h, decide_eq_true h, h1.v, allTo_all, foldV_full M _ _ _ hx (by rw [← hn]; simpa using h)]
      exact ⟨by simp, rfl⟩
    · rw [if_neg h, decide_eq_false h]
      exact ⟨rfl, rfl⟩
/-- What haAll gives back. -/
def HaP (A : Option Addr) (cH M : Nat) (H : List (Int × Int)) (w : World) (e : Ending) (w' : World) : Prop :=
  ∃ pb gc s ls AL cL, e = .returned (.pointer (some ⟨pb, 0, none⟩)) ∧ Lop2 H w.heap.size pb gc M A cH s ls AL cL w' ∧ (H.length ≠ 0 → InvV M H 10 s ls) ∧ (H.length = 0 → s = zero3 0 ∧ ls = []) ∧ Below w.heap.size w w'

set_option maxRecDepth 100000 in
set_option maxHeartbeats 4000000 in
theorem c_haAllV (A : Option Addr) (cH M : Nat) (H : List (Int × Int)) (w : World) (hr : RdT w A H) (hh : handB H = true) (h8 : H.length ≤ 8) (hM : M ≤ 1000000) :
    Calls Try.prog 32 #[.slice A H.length cH, .int .i64 (M : Int)] w (HaP A cH M H w) := by
  obtain ⟨i0, hi0, hz0, hz1, hz2⟩ := info_parts Try.info_int
  obtain ⟨i1, hi1, hy0, hy1, hy2⟩ := info_parts Try.info_boolC
  have HR := Lib.hid hr
  have HH := Lib.hid hh
  have con := fun (q : Int) (W : World) (hb : Below w.heap.size w W) => c_tiTimes A cH H q W (hr.below hb) (by omega)
  have Con := Lib.hid con
  clear con hr hh
  go_enter Try.func32, Try.ntmps32
  go_wp2_with (refine wpList_make_full _ rfl _ _ _ rfl w.heap.size 3 i0 _ 1 Try.underlying34 hi0 hz0 hz1 .i64 .i64 _ _ H.length rfl rfl rfl rfl (by rw [hz2]; omega) (by unfold maxLen; omega) (Nat.le_refl _) ?_; intro w1 hown1 hg1; have L0 := Lib.hid (fun t => Lop2.start (AH := A) (cH := cH) (t := t) (M := M) hown1); have hq1 : Below w.heap.size w w1 := below_of_grown hg1 (Nat.le_refl _) (by simp))
  go_loopw [6] (fun i wr => ∃ (q : Nat) (s : S3) (ls : List (List Int)) (k : Nat) (AL : Option Addr) (cL : Nat), q ≤ 10 ∧ i = .int .i64 q ∧ Bnd s k ∧ k ≤ q * 2357947691 ∧ Lop2 H w.heap.size w1.heap.size w.heap.size M A cH s ls AL cL wr ∧ (H.length ≠ 0 → InvV M H q s ls) ∧ (H.length = 0 → s = zero3 0 ∧ ls = []) ∧ Below w.heap.size w wr) (fun i _ => 10 - (intOf i).toNat)
  case atStart => exact ⟨0, zero3 H.length, [], 0, none, 0, Nat.zero_le _, rfl, Bnd.zero _, Nat.zero_le _, L0.out _, fun _ => InvV.zero M H, fun h => by rw [h]; exact ⟨rfl, rfl⟩, hq1.alloc hq1.size _⟩
  case round =>
    obtain ⟨q, s, ls, k, AL, cL, hq, rfl, hb, hk, hl, hi, hz, bl⟩ := hrel
    have LL := Lib.hid hl
    have BL := Lib.hid bl
    have HI := Lib.hid hi
    have HZ := Lib.hid hz
    have HB := Lib.hid hb
    have lsz := bl.size
    clear hl hi hz hb bl
    by_cases hlt : q ≤ 9
    · by_cases hH : H.length = 0
      · have j1 : ¬ (0 : Int) < (H.length : Int) := by omega
        go_wp2
        go_roundw
        case rel => exact ⟨q + 1, s, ls, k, AL, cL, by omega, by go_num, HB.out, Nat.le_trans hk (Nat.mul_le_mul_right _ (Nat.le_succ q)), LL.out, fun h => absurd hH h, HZ.out, BL.out⟩
        case measure => simp [intOf]; omega
      · have j1 : (0 : Int) < (H.length : Int) := by omega
        by_cases ht : 0 < timesI H (q : Int)
        · obtain ⟨k3, hk3⟩ : ∃ k3, k3 = k + (enumS H (H.length + 1) [(q : Int)]).length := ⟨_, rfl⟩
          have hes := enum_small h8 (q : Int)
          have hfu : fuelC H [(q : Int)] = H.length + 1 := by unfold fuelC; simp
          have hok : OkC H [(q : Int)] := (OkC.nil H).snoc (x := (q : Int)) (by unfold numB; simp; omega) rfl
          have ih := fun gu AC cC W => c_lookV H w.heap.size w1.heap.size w.heap.size gu cH M A w HR.out rfl HH.out h8 hM (H.length + 1) [(q : Int)] s ls k AC cC AL cL W (by simp) hok (by simp) HB.out (by rw [hfu]; omega)
          rw [hfu] at ih
          have Ih := Lib.hid ih
          have HK := Lib.hid hk3
          clear ih hok hfu hk3
          go_wp2_with (first | (go_at_call 53; refine (Con.out _ _ BL.out).mono ?_; rintro e w2 ⟨rfl, hb2⟩; have hz2' := hb2.size) | (refine wpList_make_full _ rfl _ _ _ rfl (w2.alloc (.cells #[.int .i64 (q : Int)] 3)).heap.size 4 i1 _ 1 Try.underlying69 hi1 hy0 hy1 .i64 .i64 _ _ H.length rfl rfl rfl rfl (by rw [hy2]; omega) (by unfold maxLen; omega) (Nat.le_refl _) ?_; intro w3 hown3 hg3) | (go_at_call 54; go_loud (have h23 : Below (w2.alloc (.cells #[.int .i64 (q : Int)] 3)).heap.size (w2.alloc (.cells #[.int .i64 (q : Int)] 3)) w3 := below_of_grown hg3 (Nat.le_refl _) (by simp); have hB3 : Below w2.heap.size w2 w3 := ((Below.refl _ _).alloc (Nat.le_refl _) _).trans (h23.mono (by simp)); have ha2 : (w2.alloc (.cells #[.int .i64 (q : Int)] 3)).heap.size = w2.heap.size + 1 := (by simp); have L2 := LL.out.keep hb2; have e3 : w3.cell? ⟨w2.heap.size, 0, none⟩ = some (.int .i64 (q : Int)) := keepc h23 (by simp); have r3 : RdI w3 (some ⟨w2.heap.size, 0, none⟩) [(q : Int)] := ⟨w2.heap.size, 0, fun _ => rfl, fun j hj => by have : j = 0 := (by simp at hj; omega); subst this; exact e3⟩; have B3 : Hid (Below w.heap.size w w3) := Lib.hid ((BL.out.trans (hb2.mono lsz)).trans (hB3.mono (by omega))); have L3 := L2.put (gu := w2.heap.size + 1) (c := [(q : Int)]) hB3 (by omega) (by omega) (fun i h => by have := hown3.cellAt i (by omega); rw [ha2] at this; rw [tilesC_sing]; simpa using this.trans (made_no h)) (fun m => by have := hown3.frozenAt m; rw [ha2] at this; exact this); have g3 := (hown3.lt _ rfl).2; rw [ha2] at g3; refine (Ih.out (w2.heap.size + 1) _ 1 w3 L3 B3.out r3 (fun a ha hT => by cases ha; have q1 := L2.lt; have q2 := L2.ltc; rcases hT with (e | e | e) | ⟨a3, e, e2⟩ <;> first | (simp only at e; omega) | (subst e; have q4 := (L2.lst.lt a3.block rfl).2; simp only at e2; omega)) g3).mono ?_; rintro e w4 ⟨rfl, AL4, cL4, l4, t4⟩; have L4 := Lib.hid l4.drop; have T4 : Hid (Below w.heap.size w3 w4) := Lib.hid (t4.tu.below (by have := B3.out.size; omega) L3.low))))
          go_roundw
          case rel => exact ⟨q + 1, _, _, k3, AL4, cL4, by omega, by go_num, by rw [HK.out]; exact Bnd.fold _ _ _ _ HB.out, by rw [HK.out, Nat.succ_mul]; exact Nat.add_le_add hk hes, L4.out, fun h => (HI.out h).more, fun h => absurd h hH, B3.out.trans T4.out⟩
          case measure => simp [intOf]; omega
        · have HT := Lib.hid ht
          go_wp2_with (go_at_call 53; refine (Con.out _ _ BL.out).mono ?_; rintro e w2 ⟨rfl, hb2⟩)
          go_roundw
          case rel => exact ⟨q + 1, s, ls, k, AL, cL, by omega, by go_num, HB.out, Nat.le_trans hk (Nat.mul_le_mul_right _ (Nat.le_succ q)), LL.out.keep hb2, fun h => (HI.out h).lone (by have := HT.out; omega) h, HZ.out, BL.out.trans (hb2.mono lsz)⟩
          case measure => simp [intOf]; omega
    · have : q = 10 := by omega
      subst this
      go_wp2
      go_ret
      exact ⟨_, _, s, ls, AL, cL, rfl, LL.out, HI.out, HZ.out, BL.out⟩

set_option maxRecDepth 100000 in
set_option maxHeartbeats 2000000 in
theorem c_specAll (A : Option Addr) (c : Nat) (H : List (Int × Int)) (w : World) (hr : RdT w A H) (hl : H.length ≤ 1048576) (hcap : H.length ≤ c) :
    Calls Try.prog 10 #[.slice A H.length c] w (RetII w (allHL H) (allHB H)) := by
  have con := c_haSmall A c H w hr hl hcap
  unfold allHL allHB
  cases hc : chB H
  · rw [hc] at con
    have Con := Lib.hid con
    clear con hc hr
    go_enter Try.func10, Try.ntmps10
    go_wp2_with fail
    refine Con.out.mono ?_
    rintro e w1 ⟨rfl, h1⟩
    go_wp2
    go_ret2
    exact ⟨none, 0, rfl, OwnRR.nil _ _ _, h1⟩
  · rw [hc] at con
    have Con := Lib.hid con
    have hc2 := hc
    unfold chB at hc2
    rw [Bool.and_eq_true, decide_eq_true_eq] at hc2
    obtain ⟨hh, h8⟩ := hc2
    rw [if_pos rfl, Bool.true_and]
    have con2 := fun (W : World) (hb : Below w.heap.size w W) => c_haAllV A c 300 H W (hr.below hb) hh h8 (by omega)
    have Con2 := Lib.hid con2
    obtain ⟨R, hR⟩ : ∃ R, R = wholeL 300 H := ⟨_, rfl⟩
    obtain ⟨b, hb⟩ : ∃ b, b = wholeB 300 H := ⟨_, rfl⟩
    rw [← hR, ← hb]
    have HR := Lib.hid hR
    have HB := Lib.hid hb
    clear con hc con2 hr hh hR hb
    go_enter Try.func10, Try.ntmps10
    go_upto_if 14 with (first | (go_at_call 31; refine Con.out.mono ?_; rintro e w1 ⟨rfl, h1⟩) | (go_at_call 32; refine (Con2.out _ h1).mono ?_; rintro e w2 ⟨pb, gc, s, ls, AL, cL, rfl, hl, hi, hz, h2⟩; have x2 := hl.c2; have x4 := hl.c4; have LL := Lib.hid hl; have HE := Lib.hid (invV_end hi hz); clear hl hi hz))
    by_cases h0 : s.n ≤ 300
    · obtain ⟨k1, k2⟩ := HE.out.1 h0
      have j1 : ¬ (300 : Int) < (s.n : Int) := by omega
      have K1 := Lib.hid k1
      have K2 := Lib.hid k2
      clear k1 k2
      go_wp2
      go_ret2
      rw [HR.out, HB.out, K1.out, K2.out]
      exact ⟨AL, cL, rfl, LL.out.lst.toRR.base h1.size, h1.trans (h2.mono h1.size)⟩
    · obtain ⟨k1, k2⟩ := HE.out.2 h0
      have j1 : (300 : Int) < (s.n : Int) := by omega
      have K1 := Lib.hid k1
      have K2 := Lib.hid k2
      clear k1 k2
      go_wp2
      go_ret2
      rw [HR.out, HB.out, K1.out, K2.out]
      exact ⟨none, 0, rfl, OwnRR.nil _ _ _, h1.trans (h2.mono h1.size)⟩

theorem sumTo_small {m : Nat} (tss : List (List Int)) (h : ∀ x ∈ tss, x.length ≤ m) : ∀ k, k ≤ tss.length → sumTo tss k ≤ k * m
  | 0, _ => by simp [sumTo]
  | k + 1, hk => by
    rw [sumTo_step (by omega)]
    have h1 := sumTo_small tss h k (by omega)
    have h2 : (tss.getD k []).length ≤ m := by
      rw [List.getD_eq_getElem?_getD, List.getElem?_eq_getElem (by omega)]
      exact h _ (List.getElem_mem _)
    rw [Nat.succ_mul]
    omega
theorem allHL_bd (H : List (Int × Int)) : (allHL H).length ≤ 300 ∧ sumTo (allHL H) (allHL H).length ≤ 2700 := by
  unfold allHL wholeL
  by_cases hc : chB H = true
  · rw [if_pos hc]
    unfold chB at hc
    rw [Bool.and_eq_true, decide_eq_true_eq] at hc
    by_cases h0 : H.length = 0
    · rw [if_pos h0]; exact ⟨by simp, by simp [sumTo]⟩
    · rw [if_neg h0]
      by_cases h1 : (fullL H.length (allC H)).length ≤ 300
      · rw [if_pos h1]
        refine ⟨h1, ?_⟩
        have := sumTo_small (m := 9) (fullL H.length (allC H)) (fun x hx => by
          have h2 : x ∈ allC H := (List.mem_filter.1 hx).1
          have := (all_ok h2).1.len
          omega) _ (Nat.le_refl _)
        omega
      · rw [if_neg h1]; exact ⟨by simp, by simp [sumTo]⟩
  · rw [if_neg hc]; exact ⟨by simp, by simp [sumTo]⟩
end Go.Proofs.Ytjhedjokifnofaa

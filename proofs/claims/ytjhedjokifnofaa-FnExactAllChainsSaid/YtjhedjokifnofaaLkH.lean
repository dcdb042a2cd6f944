/- All chains of a hand by the specification: from every number of the hand on (its list of chains at most one long), and two functions that ask for them. -/
import Derived.Test.YtjhedjokifnofaaLkS
import Derived.Test.YtjhedjokifnofaaLkA
namespace Go.Proofs.Ytjhedjokifnofaa
open Go.RowKit
set_option linter.unusedVariables false

/-- The search's struct and its counts, with no marks yet. -/
structure Lop (H : List (Int × Int)) (lo pb gc : Nat) (AH : Option Addr) (cH : Nat) (s : S3) (w : World) : Prop where
  h1 : lo ≤ pb
  h2 : lo ≤ gc
  n1 : pb ≠ gc
  c0 : w.cell? ⟨pb, 0, none⟩ = some (.slice AH H.length cH)
  c1 : w.cell? ⟨pb, 1, none⟩ = some (.int .i64 0)
  c2 : w.cell? ⟨pb, 2, none⟩ = some (.int .i64 (s.n : Int))
  c3 : w.cell? ⟨pb, 3, none⟩ = some (.slice (some ⟨gc, 0, none⟩) H.length H.length)
  c4 : ∃ AL nL cL, w.cell? ⟨pb, 4, none⟩ = some (.slice AL nL cL) ∧ (nL = 0 → AL = none ∧ cL = 0)
  c5 : ∃ AG cG, w.cell? ⟨pb, 5, none⟩ = some (.slice AG s.L.length cG) ∧ w.ownsRow lo 3 1 (.slice AG s.L.length cG) s.L.length (cellsI s.L) ∧ ∀ g, (Value.slice AG s.L.length cG).ownBlock = some g → g ≠ pb ∧ g ≠ gc
  fz : ∀ m, w.frozen? ⟨pb, m, none⟩ = false
  len : s.C.length = H.length
  cnt : w.ownsRow lo 3 1 (.slice (some ⟨gc, 0, none⟩) H.length H.length) H.length (cellsI s.C)
section
variable {H : List (Int × Int)} {lo pb gc gu cH : Nat} {AH : Option Addr} {c : List Int} {s : S3} {w w' : World}
theorem Loo.drop (h : Loo H lo pb gc gu AH cH c s w) : Lop H lo pb gc AH cH s w := by
  obtain ⟨AG, cG, k3, k4, k5⟩ := h.c5
  exact ⟨h.h1, h.h2, h.n1, h.c0, h.c1, h.c2, h.c3, h.c4, ⟨AG, cG, k3, k4, fun g hg => ⟨(k5 g hg).1, (k5 g hg).2.1⟩⟩, h.fz, h.len, h.cnt⟩
theorem Lop.lt (h : Lop H lo pb gc AH cH s w) : pb < w.heap.size := block_lt h.c0
theorem Lop.ltc (h : Lop H lo pb gc AH cH s w) : gc < w.heap.size := (h.cnt.lt gc rfl).2
theorem Lop.keep (h : Lop H lo pb gc AH cH s w) (hb : Below w.heap.size w w') : Lop H lo pb gc AH cH s w' := by
  obtain ⟨AL, nL, cL, k1, k2⟩ := h.c4
  obtain ⟨AG, cG, k3, k4, k5⟩ := h.c5
  exact { h with
    c0 := keepc hb h.c0, c1 := keepc hb h.c1, c2 := keepc hb h.c2, c3 := keepc hb h.c3, c4 := ⟨AL, nL, cL, keepc hb k1, k2⟩, c5 := ⟨AG, cG, keepc hb k3, own_keep k4 hb, k5⟩
    fz := fun m => (hb.frozen (p := ⟨pb, m, none⟩) h.lt).trans (h.fz m), cnt := own_keep h.cnt hb }
/-- Marks in new memory. -/
theorem Lop.put (h : Lop H lo pb gc AH cH s w) (hb : Below w.heap.size w w') (hlo : lo ≤ w.heap.size) (hgu : w.heap.size ≤ gu) (usd : ∀ i (h : i < H.length), w'.cell? ⟨gu, i, none⟩ = some (.bool (decide (H[i] ∈ tilesC c)))) (fu : ∀ m, w'.frozen? ⟨gu, m, none⟩ = false) : Loo H lo pb gc gu AH cH c s w' := by
  have l1 := h.lt
  have l2 := h.ltc
  obtain ⟨AG, cG, k3, k4, k5⟩ := h.c5
  have h' := h.keep hb
  exact { h1 := h.h1, h2 := h.h2, h3 := by omega, n1 := h.n1, n2 := by omega, n3 := by omega, c0 := h'.c0, c1 := h'.c1, c2 := h'.c2, c3 := h'.c3, c4 := h'.c4, c5 := ⟨AG, cG, keepc hb k3, own_keep k4 hb, fun g hg => ⟨(k5 g hg).1, (k5 g hg).2, by have := (k4.lt g hg).2; omega⟩⟩, fz := h'.fz, len := h.len, cnt := h'.cnt, usd := usd, fu := fu }
/-- The struct as it is made. -/
theorem Lop.start {t : Nat} {w0 : World} (hown : w.ownsRow lo 3 1 (.slice (some ⟨gc, 0, none⟩) H.length H.length) H.length (madeCells (Value.int .i64 0).cells (H.length * 1)).toList) :
    Lop H lo w.heap.size gc AH cH (zero3 H.length) (w.alloc (.cells #[.slice AH H.length cH, .int .i64 0, .int .i64 0, .slice (some ⟨gc, 0, none⟩) H.length H.length, .slice none 0 0, .slice none 0 0] t)) := by
  have hg := hown.lt gc rfl
  have hz : (madeCells (Value.int .i64 0).cells (H.length * 1)).toList = cellsI (List.replicate H.length 0) := by
    rw [Nat.mul_one, show (madeCells (Value.int .i64 0).cells H.length).toList = List.replicate H.length (Value.int .i64 0) from toList_madeCells_one (.int .i64 0) H.length]
    unfold cellsI
    rw [List.map_replicate]
  rw [hz] at hown
  exact { h1 := by omega, h2 := hg.1, n1 := by omega, c0 := by simp, c1 := by simp, c2 := by simp [zero3], c3 := by simp, c4 := ⟨none, 0, 0, by simp, fun _ => ⟨rfl, rfl⟩⟩, c5 := ⟨none, 0, by simp [zero3], World.ownsRow_nil _ _ _ _, fun g hg => by simp [Value.ownBlock] at hg⟩, fz := fun m => frozen_new w _ _ m, len := by simp [zero3], cnt := hown.alloc _ }
end
theorem Bnd.mono {s : S3} {k k' : Nat} (h : Bnd s k) (hk : k ≤ k') : Bnd s k' := ⟨Nat.le_trans h.1 hk, fun j => ⟨(h.2 j).1, Int.le_trans (h.2 j).2 (by omega)⟩⟩
theorem Bnd.zero (n : Nat) : Bnd (zero3 n) 0 := ⟨Nat.le_refl _, fun j => by
  have : (List.replicate n (0 : Int)).getD j 0 = 0 := by
    rw [List.getD_eq_getElem?_getD, List.getElem?_replicate]
    split <;> rfl
  show 0 ≤ (List.replicate n (0 : Int)).getD j 0 ∧ (List.replicate n (0 : Int)).getD j 0 ≤ _
  rw [this]; exact ⟨Int.le_refl _, Int.le_refl _⟩⟩
theorem Try.info_boolC : (Try.prog.info? 4).map (fun i => (i.zero, i.size, i.bytes)) = some (some (.bool false), 1, 1) := by kernel_rfl
theorem made_no {N k : Nat} (h : k < N) : (madeCells (Value.bool false).cells (N * 1)).toList[k]? = some (.bool false) := by
  rw [Nat.mul_one, show (madeCells (Value.bool false).cells N).toList = List.replicate N (Value.bool false) from toList_madeCells_one (.bool false) N]
  rw [List.getElem?_replicate, if_pos h]
theorem enum_small {H : List (Int × Int)} (h8 : H.length ≤ 8) (q : Int) : (enumS H (H.length + 1) [q]).length ≤ 2357947691 :=
  Nat.le_trans (enum_len H (H.length + 1) [q]) (Nat.le_trans (Nat.pow_le_pow_right (by omega) (show H.length + 1 ≤ 9 by omega)) (by decide))

set_option maxRecDepth 100000 in
set_option maxHeartbeats 4000000 in
theorem c_haAll0 (A : Option Addr) (cH : Nat) (H : List (Int × Int)) (w : World) (hr : RdT w A H) (hh : handB H = true) (h8 : H.length ≤ 8) :
    Calls Try.prog 32 #[.slice A H.length cH, .int .i64 0] w fun e w' => ∃ pb gc s, e = .returned (.pointer (some ⟨pb, 0, none⟩)) ∧ Lop H w.heap.size pb gc A cH s w' ∧ (H.length ≠ 0 → InvA H 10 s) ∧ (H.length = 0 → s = zero3 0) ∧ Below w.heap.size w w' := by
  obtain ⟨i0, hi0, hz0, hz1, hz2⟩ := info_parts Try.info_int
  obtain ⟨i1, hi1, hy0, hy1, hy2⟩ := info_parts Try.info_boolC
  have HR := Lib.hid hr
  have HH := Lib.hid hh
  have con := fun (q : Int) (W : World) (hb : Below w.heap.size w W) => c_tiTimes A cH H q W (hr.below hb) (by omega)
  have Con := Lib.hid con
  clear con hr hh
  go_enter Try.func32, Try.ntmps32
  go_wp2_with (refine wpList_make_full _ rfl _ _ _ rfl w.heap.size 3 i0 _ 1 Try.underlying34 hi0 hz0 hz1 .i64 .i64 _ _ H.length rfl rfl rfl rfl (by rw [hz2]; omega) (by unfold maxLen; omega) (Nat.le_refl _) ?_; intro w1 hown1 hg1; have L0 := Lib.hid (fun t => Lop.start (AH := A) (cH := cH) (t := t) (w0 := w) hown1); have hq1 : Below w.heap.size w w1 := below_of_grown hg1 (Nat.le_refl _) (by simp))
  go_loopw [6] (fun i wr => ∃ (q : Nat) (s : S3) (k : Nat), q ≤ 10 ∧ i = .int .i64 q ∧ Bnd s k ∧ k ≤ q * 2357947691 ∧ Lop H w.heap.size w1.heap.size w.heap.size A cH s wr ∧ (H.length ≠ 0 → InvA H q s) ∧ (H.length = 0 → s = zero3 0) ∧ Below w.heap.size w wr) (fun i _ => 10 - (intOf i).toNat)
  case atStart => exact ⟨0, zero3 H.length, 0, Nat.zero_le _, rfl, Bnd.zero _, Nat.zero_le _, L0.out _, fun _ => InvA.zero H, fun h => by rw [h], hq1.alloc hq1.size _⟩
  case round =>
    obtain ⟨q, s, k, hq, rfl, hb, hk, hl, hi, hz, bl⟩ := hrel
    have LL := Lib.hid hl
    have BL := Lib.hid bl
    have HI := Lib.hid hi
    have HZ := Lib.hid hz
    have HB := Lib.hid hb
    have lsz := bl.size
    clear hl hi hz hb bl
    by_cases hlt : q ≤ 9
    · by_cases hH : H.length = 0
      · have j1 : ¬ (0 : Int) < (H.length : Int) := by omega
        go_wp2
        go_roundw
        case rel => exact ⟨q + 1, s, k, by omega, by go_num, HB.out, Nat.le_trans hk (Nat.mul_le_mul_right _ (Nat.le_succ q)), LL.out, fun h => absurd hH h, HZ.out, BL.out⟩
        case measure => simp [intOf]; omega
      · have j1 : (0 : Int) < (H.length : Int) := by omega
        by_cases ht : 0 < timesI H (q : Int)
        · obtain ⟨k3, hk3⟩ : ∃ k3, k3 = k + (enumS H (H.length + 1) [(q : Int)]).length := ⟨_, rfl⟩
          have hes := enum_small h8 (q : Int)
          have hfu : fuelC H [(q : Int)] = H.length + 1 := by unfold fuelC; simp
          have hok : OkC H [(q : Int)] := (OkC.nil H).snoc (x := (q : Int)) (by unfold numB; simp; omega) rfl
          have ih := fun gu AC cC W => c_look0 H w.heap.size w1.heap.size w.heap.size gu cH A w HR.out rfl HH.out h8 (H.length + 1) [(q : Int)] s k AC cC W (by simp) hok (by simp) HB.out (by rw [hfu]; omega)
          rw [hfu] at ih
          have Ih := Lib.hid ih
          have HK := Lib.hid hk3
          clear ih hok hfu hk3
          go_wp2_with (first | (go_at_call 53; refine (Con.out _ _ BL.out).mono ?_; rintro e w2 ⟨rfl, hb2⟩; have hz2' := hb2.size) | (refine wpList_make_full _ rfl _ _ _ rfl (w2.alloc (.cells #[.int .i64 (q : Int)] 3)).heap.size 4 i1 _ 1 Try.underlying69 hi1 hy0 hy1 .i64 .i64 _ _ H.length rfl rfl rfl rfl (by rw [hy2]; omega) (by unfold maxLen; omega) (Nat.le_refl _) ?_; intro w3 hown3 hg3) | (go_at_call 54; go_loud (have h23 : Below (w2.alloc (.cells #[.int .i64 (q : Int)] 3)).heap.size (w2.alloc (.cells #[.int .i64 (q : Int)] 3)) w3 := below_of_grown hg3 (Nat.le_refl _) (by simp); have hB3 : Below w2.heap.size w2 w3 := ((Below.refl _ _).alloc (Nat.le_refl _) _).trans (h23.mono (by simp)); have ha2 : (w2.alloc (.cells #[.int .i64 (q : Int)] 3)).heap.size = w2.heap.size + 1 := (by simp); have L2 := LL.out.keep hb2; have e3 : w3.cell? ⟨w2.heap.size, 0, none⟩ = some (.int .i64 (q : Int)) := keepc h23 (by simp); have r3 : RdI w3 (some ⟨w2.heap.size, 0, none⟩) [(q : Int)] := ⟨w2.heap.size, 0, fun _ => rfl, fun j hj => by have : j = 0 := (by simp at hj; omega); subst this; exact e3⟩; have B3 : Hid (Below w.heap.size w w3) := Lib.hid ((BL.out.trans (hb2.mono lsz)).trans (hB3.mono (by omega))); have L3 := L2.put (gu := w2.heap.size + 1) (c := [(q : Int)]) hB3 (by omega) (by omega) (fun i h => by have := hown3.cellAt i (by omega); rw [ha2] at this; rw [tilesC_sing]; simpa using this.trans (made_no h)) (fun m => by have := hown3.frozenAt m; rw [ha2] at this; exact this); have g3 := (hown3.lt _ rfl).2; rw [ha2] at g3; refine (Ih.out (w2.heap.size + 1) _ 1 w3 L3 B3.out r3 (fun a ha hT => by cases ha; have q1 := L2.lt; have q2 := L2.ltc; rcases hT with e | e | e <;> (simp only at e; omega)) g3).mono ?_; rintro e w4 ⟨rfl, l4, t4⟩; have L4 := Lib.hid l4.drop; have T4 : Hid (Below w.heap.size w3 w4) := Lib.hid (t4.below (by have := B3.out.size; omega) (fun k hk => by have q1 := L3.h1; have q2 := L3.h2; rcases hk with e | e | e <;> omega)))))
          go_roundw
          case rel => exact ⟨q + 1, _, k3, by omega, by go_num, by rw [HK.out]; exact Bnd.fold _ _ _ _ HB.out, by rw [HK.out, Nat.succ_mul]; exact Nat.add_le_add hk hes, L4.out, fun h => (HI.out h).more, fun h => absurd h hH, B3.out.trans T4.out⟩
          case measure => simp [intOf]; omega
        · have HT := Lib.hid ht
          go_wp2_with (go_at_call 53; refine (Con.out _ _ BL.out).mono ?_; rintro e w2 ⟨rfl, hb2⟩)
          go_roundw
          case rel => exact ⟨q + 1, s, k, by omega, by go_num, HB.out, Nat.le_trans hk (Nat.mul_le_mul_right _ (Nat.le_succ q)), LL.out.keep hb2, fun h => (HI.out h).lone (by have := HT.out; omega) h, HZ.out, BL.out.trans (hb2.mono lsz)⟩
          case measure => simp [intOf]; omega
    · have : q = 10 := by omega
      subst this
      go_wp2
      go_ret
      exact ⟨_, _, s, rfl, LL.out, HI.out, HZ.out, BL.out⟩

/-- What the specification's search ends with, against all chains. -/
theorem inv_end {H : List (Int × Int)} (hh : handB H = true) {s : S3} (hi : H.length ≠ 0 → InvA H 10 s) (hz : H.length = 0 → s = zero3 0) : s.C = cntL H.length (allC H) ∧ (H.length ≠ 0 → s.L = lngL (allC H) ∧ s.L.length ≠ 0) ∧ (H.length = 0 → s.L = [] ∧ lngL (allC H) = [0]) := by
  by_cases h0 : H.length = 0
  · have e : H = [] := List.eq_nil_of_length_eq_zero h0
    have hs := hz h0
    subst e
    subst hs
    exact ⟨by rfl, fun h => absurd rfl h, fun _ => ⟨rfl, by rfl⟩⟩
  · have h1 := hi h0
    refine ⟨?_, fun _ => ?_, fun h => absurd h h0⟩
    · have := h1.C
      rw [fold3_C, allTo_all] at this
      exact this
    · have := h1.L
      rw [fold3_L, allTo_all] at this
      exact lng_end hh this h0

set_option maxHeartbeats 1000000 in
theorem c_haSmall (A : Option Addr) (c : Nat) (ts : List (Int × Int)) (w : World) (hr : RdT w A ts) (hl : ts.length ≤ 1048576) (hcap : ts.length ≤ c) :
    Calls Try.prog 31 #[.slice A ts.length c] w fun e w' => e = .returned (.bool (chB ts)) ∧ Below w.heap.size w w' := by
  have con := c_tiHand A c ts w hr (by omega) hcap
  unfold chB
  cases hh : handB ts
  · rw [hh] at con
    have Con := Lib.hid con
    clear con hh hr
    go_enter Try.func31, Try.ntmps31
    go_wp2_with fail
    refine Con.out.mono ?_
    rintro e w1 ⟨rfl, h1⟩
    go_wp2
    go_ret
    exact ⟨rfl, h1⟩
  · rw [hh] at con
    have Con := Lib.hid con
    have hd : decide ((ts.length : Int) ≤ 8) = decide (ts.length ≤ 8) := by rw [Bool.eq_iff_iff, decide_eq_true_eq, decide_eq_true_eq]; omega
    have HD := Lib.hid hd
    clear con hh hr hd
    go_enter Try.func31, Try.ntmps31
    go_wp2_with fail
    refine Con.out.mono ?_
    rintro e w1 ⟨rfl, h1⟩
    go_wp2
    go_ret
    exact ⟨ret_b (by first | exact HD.out | simp), h1⟩

set_option maxRecDepth 100000 in
set_option maxHeartbeats 2000000 in
theorem c_specCountBy (A : Option Addr) (c : Nat) (H : List (Int × Int)) (w : World) (hr : RdT w A H) (hl : H.length ≤ 1048576) (hcap : H.length ≤ c) :
    Calls Try.prog 18 #[.slice A H.length c] w (RetI w (if chB H then cntL H.length (allC H) else []) (chB H)) := by
  have con := c_haSmall A c H w hr hl hcap
  cases hc : chB H
  · rw [hc] at con
    have Con := Lib.hid con
    clear con hc hr
    go_enter Try.func18, Try.ntmps18
    go_wp2_with fail
    refine Con.out.mono ?_
    rintro e w1 ⟨rfl, h1⟩
    go_wp2
    go_ret2
    exact ⟨none, 0, rfl, World.ownsRow_nil _ _ _ _, h1⟩
  · rw [hc] at con
    have Con := Lib.hid con
    have hc2 := hc
    unfold chB at hc2
    rw [Bool.and_eq_true, decide_eq_true_eq] at hc2
    obtain ⟨hh, h8⟩ := hc2
    rw [if_pos rfl]
    have con2 := fun (W : World) (hb : Below w.heap.size w W) => c_haAll0 A c H W (hr.below hb) hh h8
    have Con2 := Lib.hid con2
    have HH := Lib.hid hh
    clear con hc con2 hr hh
    go_enter Try.func18, Try.ntmps18
    go_wp2_with (first | (go_at_call 31; refine Con.out.mono ?_; rintro e w1 ⟨rfl, h1⟩) | (go_at_call 32; refine (Con2.out _ h1).mono ?_; rintro e w2 ⟨pb, gc, s, rfl, hl, hi, hz, h2⟩; have x3 := hl.c3; have LL := Lib.hid hl; have HI := Lib.hid hi; have HZ := Lib.hid hz; clear hl hi hz))
    go_ret2
    have e1 := (inv_end HH.out HI.out HZ.out).1
    have e2 := LL.out.cnt
    have e3 := LL.out.len
    rw [e1] at e2 e3
    refine ⟨some ⟨gc, 0, none⟩, H.length, by rw [e3]; rfl, ?_, h1.trans (h2.mono h1.size)⟩
    rw [e3]
    exact own_base e2 h1.size

set_option maxRecDepth 100000 in
set_option maxHeartbeats 2000000 in
theorem c_specLongest (A : Option Addr) (c : Nat) (H : List (Int × Int)) (w : World) (hr : RdT w A H) (hl : H.length ≤ 1048576) (hcap : H.length ≤ c) :
    Calls Try.prog 23 #[.slice A H.length c] w (RetI w (if chB H then lngL (allC H) else []) (chB H)) := by
  have con := c_haSmall A c H w hr hl hcap
  cases hc : chB H
  · rw [hc] at con
    have Con := Lib.hid con
    clear con hc hr
    go_enter Try.func23, Try.ntmps23
    go_wp2_with fail
    refine Con.out.mono ?_
    rintro e w1 ⟨rfl, h1⟩
    go_wp2
    go_ret2
    exact ⟨none, 0, rfl, World.ownsRow_nil _ _ _ _, h1⟩
  · rw [hc] at con
    have Con := Lib.hid con
    have hc2 := hc
    unfold chB at hc2
    rw [Bool.and_eq_true, decide_eq_true_eq] at hc2
    obtain ⟨hh, h8⟩ := hc2
    rw [if_pos rfl]
    have con2 := fun (W : World) (hb : Below w.heap.size w W) => c_haAll0 A c H W (hr.below hb) hh h8
    have Con2 := Lib.hid con2
    have HH := Lib.hid hh
    clear con hc con2 hr hh
    go_enter Try.func23, Try.ntmps23
    go_upto_if 15 with (first | (go_at_call 31; refine Con.out.mono ?_; rintro e w1 ⟨rfl, h1⟩) | (go_at_call 32; refine (Con2.out _ h1).mono ?_; rintro e w2 ⟨pb, gc, s, rfl, hl, hi, hz, h2⟩; obtain ⟨AG, cG, x5, o5, n5⟩ := hl.c5; have O5 := Lib.hid o5; have HE := Lib.hid (inv_end HH.out hi hz); clear hl hi hz o5 n5))
    by_cases h0 : H.length = 0
    · obtain ⟨k1, k2⟩ := HE.out.2.2 h0
      rw [k2]
      have j1 : ((s.L.length : Int) == 0) = true := by rw [k1]; rfl
      clear k1 k2 O5
      go_wp2
      go_ret2
      exact ⟨some ⟨w2.heap.size, 0, none⟩, 1, rfl, World.ownsRow_lit w2 _ 1 (by have := h1.size; have := h2.size; omega) (by unfold maxLen; omega) rfl, (h1.trans (h2.mono h1.size)).alloc (by have := h1.size; have := h2.size; omega) _⟩
    · obtain ⟨k1, k2⟩ := HE.out.2.1 h0
      have j1 : ((s.L.length : Int) == 0) = false := by rw [beq_eq_false_iff_ne]; omega
      have K1 := Lib.hid k1
      clear k1
      go_wp2
      go_ret2
      have o5 := O5.out
      rw [← K1.out]
      exact ⟨AG, cG, rfl, own_base o5 h1.size, h1.trans (h2.mono h1.size)⟩

def cntHL (H : List (Int × Int)) : List Int := if chB H then cntL H.length (allC H) else []
def lngHL (H : List (Int × Int)) : List Int := if chB H then lngL (allC H) else []
theorem cntHL_len (H : List (Int × Int)) : (cntHL H).length ≤ 10 := by
  unfold cntHL chB
  split
  · rename_i h
    rw [Bool.and_eq_true, decide_eq_true_eq] at h
    rw [(cntL_inv H.length (allC H)).1]
    omega
  · simp
theorem lng_le : ∀ (L : List (List Int)) (a : List Int), a.length ≤ 9 → (∀ x ∈ L, x.length ≤ 9) → (L.foldl lngStep a).length ≤ 9
  | [], a, h, _ => h
  | x :: L, a, h, hx => by
    rw [List.foldl_cons]
    refine lng_le L _ ?_ (fun y hy => hx y (List.mem_cons_of_mem _ hy))
    have := hx x List.mem_cons_self
    unfold lngStep
    split <;> omega
theorem lngHL_len (H : List (Int × Int)) : (lngHL H).length ≤ 10 := by
  unfold lngHL chB
  split
  · rename_i h
    rw [Bool.and_eq_true, decide_eq_true_eq] at h
    have := lng_le (allC H) [] (by simp) (fun x hx => by have := (all_ok hx).1.len; omega)
    show (List.foldl lngStep [] (allC H)).length ≤ 10
    omega
  · simp

theorem c_specCountHL (A : Option Addr) (c : Nat) (H : List (Int × Int)) (w : World) (hr : RdT w A H) (hl : H.length ≤ 1048576) (hcap : H.length ≤ c) : Calls Try.prog 18 #[.slice A H.length c] w (RetI w (cntHL H) (chB H)) := by
  unfold cntHL; exact c_specCountBy A c H w hr hl hcap
theorem c_implCountHL (A : Option Addr) (c : Nat) (H : List (Int × Int)) (w : World) (hr : RdT w A H) (hl : H.length ≤ 1048576) : Calls Try.prog 19 #[.slice A H.length c] w (RetI w (cntHL H) (chB H)) := by
  unfold cntHL; exact c_implCountBy A c H w hr hl

theorem c_specLongestHL (A : Option Addr) (c : Nat) (H : List (Int × Int)) (w : World) (hr : RdT w A H) (hl : H.length ≤ 1048576) (hcap : H.length ≤ c) : Calls Try.prog 23 #[.slice A H.length c] w (RetI w (lngHL H) (chB H)) := by
  unfold lngHL; exact c_specLongest A c H w hr hl hcap
theorem c_implLongestHL (A : Option Addr) (c : Nat) (H : List (Int × Int)) (w : World) (hr : RdT w A H) (hl : H.length ≤ 1048576) : Calls Try.prog 24 #[.slice A H.length c] w (RetI w (lngHL H) (chB H)) := by
  unfold lngHL; exact c_implLongest A c H w hr hl

end Go.Proofs.Ytjhedjokifnofaa

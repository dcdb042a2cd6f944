/- How many chains of a hand have so many tiles: the program's own. -/
import Derived.Test.YtjhedjokifnofaaCsF
import Derived.Test.YtjhedjokifnofaaMap
namespace Go.Proofs.Ytjhedjokifnofaa
open Go Go.RowKit
set_option linter.unusedVariables false

def chB (H : List (Int × Int)) : Bool := handB H && decide (H.length ≤ 8)
def cntStep (cs : List Int) (c : List Int) : List Int := if 1 < c.length then cs.set (c.length - 2) (cs.getD (c.length - 2) 0 + 1) else cs
def cntL (n : Nat) (L : List (List Int)) : List Int := L.foldl cntStep (List.replicate n 0)
theorem cntL_snoc (n : Nat) (L : List (List Int)) (c : List Int) : cntL n (L ++ [c]) = cntStep (cntL n L) c := by
  unfold cntL
  rw [List.foldl_append]
  rfl
theorem cntStep_len (cs c : List Int) : (cntStep cs c).length = cs.length := by
  unfold cntStep
  split <;> simp
theorem cnt_inv (n : Nat) : ∀ (L : List (List Int)) (cs : List Int) (k : Nat), cs.length = n → (∀ j, 0 ≤ cs.getD j 0 ∧ cs.getD j 0 ≤ k) → (L.foldl cntStep cs).length = n ∧ ∀ j, 0 ≤ (L.foldl cntStep cs).getD j 0 ∧ (L.foldl cntStep cs).getD j 0 ≤ k + L.length
  | [], cs, k, h1, h2 => ⟨h1, fun j => by simpa using h2 j⟩
  | c :: L, cs, k, h1, h2 => by
    have h3 : ∀ j, 0 ≤ (cntStep cs c).getD j 0 ∧ (cntStep cs c).getD j 0 ≤ ((k + 1 : Nat) : Int) := by
      intro j
      have := h2 j
      unfold cntStep
      split
      · by_cases e : j = c.length - 2
        · subst e
          by_cases hlt : c.length - 2 < cs.length
          · rw [List.getD_eq_getElem?_getD, List.getElem?_set_self hlt]
            simp only [Option.getD_some]
            omega
          · rw [List.set_eq_of_length_le (by omega)]
            omega
        · rw [List.getD_eq_getElem?_getD, List.getElem?_set_ne (fun h => e h.symm), ← List.getD_eq_getElem?_getD]
          omega
      · omega
    have h4 := cnt_inv n L (cntStep cs c) (k + 1) (by rw [cntStep_len]; exact h1) h3
    refine ⟨h4.1, fun j => ?_⟩
    have := h4.2 j
    rw [List.length_cons]
    show 0 ≤ (L.foldl cntStep (cntStep cs c)).getD j 0 ∧ (L.foldl cntStep (cntStep cs c)).getD j 0 ≤ _
    push_cast at this ⊢
    omega
theorem cntL_inv (n : Nat) (L : List (List Int)) : (cntL n L).length = n ∧ ∀ j, 0 ≤ (cntL n L).getD j 0 ∧ (cntL n L).getD j 0 ≤ (L.length : Int) := by
  have := cnt_inv n L (List.replicate n 0) 0 (by simp) (fun j => by
    rw [List.getD_eq_getElem?_getD]
    by_cases h : j < n
    · simp [h]
    · rw [List.getElem?_eq_none (by simp; omega)]; simp)
  unfold cntL
  simpa using this

set_option maxHeartbeats 1000000 in
theorem c_chainsFrom (A : Option Addr) (n c : Nat) (w : World) : Calls Try.prog 37 #[.slice A n c] w fun e w' => e = .returned (.func (.func 56) #[] #[.pointer (some ⟨w.heap.size, 0, none⟩)]) ∧ w' = w.alloc (.cells #[.slice A n c] 27) := by
  go_enter Try.func37, Try.ntmps37
  go_wp2
  go_ret
  exact ⟨rfl, rfl⟩

theorem enters_chains (args : Array Value) (w : World) : (callFunc 56 args).run Try.prog w = .ok (.enter 56 args) w := by
  have h1 : Try.f56.name ≠ "runtime.NumGoroutine" := beq_eq_false_iff_ne.1 (by kernel_rfl)
  have h2 : Try.f56.body ≠ none := by intro h; cases h
  simp [callFunc, go_sem, h1, h2]

set_option maxHeartbeats 1000000 in
theorem c_isChained (A : Option Addr) (c : Nat) (ts : List (Int × Int)) (w : World) (hr : RdT w A ts) (hl : ts.length ≤ 1048576) :
    Calls Try.prog 34 #[.slice A ts.length c] w fun e w' => e = .returned (.bool (chB ts)) ∧ Below w.heap.size w w' := by
  have con := c_implIsHand A c ts w hr (by omega)
  unfold chB
  cases hh : handB ts
  · rw [hh] at con
    have Con := Lib.hid con
    clear con hh hr
    go_enter Try.func34, Try.ntmps34
    go_wp2_with fail
    refine Con.out.mono ?_
    rintro e w1 ⟨rfl, h1⟩
    go_wp2
    go_ret
    exact ⟨rfl, h1⟩
  · rw [hh] at con
    have Con := Lib.hid con
    have hd : decide ((ts.length : Int) ≤ 8) = decide (ts.length ≤ 8) := by rw [Bool.eq_iff_iff, decide_eq_true_eq, decide_eq_true_eq]; omega
    have HD := Lib.hid hd
    clear con hh hr hd
    go_enter Try.func34, Try.ntmps34
    go_wp2_with fail
    refine Con.out.mono ?_
    rintro e w1 ⟨rfl, h1⟩
    go_wp2
    go_ret
    exact ⟨ret_b (by first | exact HD.out | simp), h1⟩

/-- What is kept between two rounds: the row of counts. -/
def CtI (n₀ n gc gb : Nat) (w : World) (T : Nat → Prop) (pre : List (List Int)) (A : World) : Prop :=
  ¬ T gc ∧ ¬ T gb ∧ gb < A.heap.size ∧ Below n₀ w A ∧ A.cell? ⟨gb, 0, none⟩ = some (.slice (some ⟨gc, 0, none⟩) n n) ∧ A.ownsRow n₀ 3 1 (.slice (some ⟨gc, 0, none⟩) n n) n (cellsI (cntL n pre))
theorem CtI.abides (n₀ n gc gb : Nat) (w : World) (hn : n₀ ≤ w.heap.size) : AbT n₀ (CtI n₀ n gc gb w) := by
  rintro T T' s A B ⟨h1, h2, h3, h4, h5, h6⟩ hT hnA ht hT'
  have eb : B.heap[gb]? = A.heap[gb]? := ht.block gb h3 h2
  have gl := (h6.lt gc rfl).2
  have ec : B.heap[gc]? = A.heap[gc]? := ht.block gc gl h1
  refine ⟨fun h => ?_, fun h => ?_, Nat.lt_of_lt_of_le h3 ht.size, h4.trans (ht.below hnA (fun k hk => (hT k hk).1)), (World.cell?_of_block (a := ⟨gb, 0, none⟩) eb).trans h5, own_blockG h6 (fun g hg => by cases hg; exact ec)⟩
  · rcases hT' _ h with h | h
    · exact h1 h
    · omega
  · rcases hT' _ h with h | h
    · exact h2 h
    · omega

theorem enc_keep {x : List Int} {v : Array Value} {T : Nat → Prop} {A B : World} (h : EncC x v T A) (hs : A.heap.size ≤ B.heap.size) (hb : ∀ k, T k → B.heap[k]? = A.heap[k]?) : EncC x v T B := by
  obtain ⟨Ax, cx, hv, hr, ht⟩ := h
  refine ⟨Ax, cx, hv, ?_, ht⟩
  by_cases hx : x = []
  · subst hx; exact RdI.nil_
  · obtain ⟨bk, off, hA, hbk, hc⟩ := hr.at_ (List.length_pos_iff.2 hx)
    subst hA
    have h1 := hb bk (ht hx _ rfl)
    refine ⟨bk, off, fun _ => rfl, fun k hk => ?_⟩
    exact (World.cell?_of_block (a := ⟨bk, off + k, none⟩) h1).trans (hc k hk)
def ctAct (A : Option Addr) (n c gc gb B : Nat) (v : Array Value) : Act :=
  { tmps := #[.slice A n c, undef, .slice none 0 0, .bool false, .pointer (some ⟨gb, 0, none⟩), v.getD 0 undef, undef, .slice A n c, .bool true, .bool false, .slice A n c, .int .i64 (n : Int), .slice (some ⟨gc, 0, none⟩) n n, .slice A n c, .func (.func 56) #[] #[.pointer (some ⟨B, 0, none⟩)], v.getD 0 undef, undef, undef, undef, undef, undef, undef, undef, undef, undef, undef, undef, undef, undef], defers := [] }

set_option maxRecDepth 100000 in
set_option maxHeartbeats 4000000 in
theorem c_implCountBy (A : Option Addr) (c : Nat) (H : List (Int × Int)) (w : World) (hr : RdT w A H) (hl : H.length ≤ 1048576) :
    Calls Try.prog 19 #[.slice A H.length c] w (RetI w (if chB H then cntL H.length (allC H) else []) (chB H)) := by
  have con := c_isChained A c H w hr hl
  cases hc : chB H
  · rw [hc] at con
    have Con := Lib.hid con
    clear con hc hr
    go_enter Try.func19, Try.ntmps19
    go_wp2_with fail
    refine Con.out.mono ?_
    rintro e w1 ⟨rfl, h1⟩
    go_wp2
    go_ret2
    exact ⟨none, 0, rfl, World.ownsRow_nil _ _ _ _, h1⟩
  · rw [hc] at con
    have Con := Lib.hid con
    have hc2 := hc
    unfold chB at hc2
    rw [Bool.and_eq_true, decide_eq_true_eq] at hc2
    obtain ⟨hh, hl8⟩ := hc2
    rw [if_pos rfl]
    clear con hc
    obtain ⟨i0, hi0, hz0, hz1, hz2⟩ := info_parts Try.info_int
    refine (callsIn_wide (n := 5)).1 ?_
    refine callsIn_of_wp_marks Try.func19 rfl trivial ?_
    simp only [Try.ntmps19, List.size_toArray, List.length_cons, List.length_nil, Nat.reduceAdd, Nat.reduceSub, Array.replicate_succ, Array.replicate_zero, List.push_toArray, List.append_toArray, List.nil_append, List.cons_append]
    gi_wp2_with fail
    refine ⟨trivial, callsIn_wide.2 (Con.out.mono ?_)⟩
    rintro e w1 ⟨rfl, h1⟩
    gi_wp2
    obtain ⟨w2, hrun, hown1, hg1⟩ := run_make_full (P := Try.prog) w1 w1.heap.size 34 3 i0 _ 1 Try.underlying34 hi0 hz0 hz1 .i64 .i64 H.length (by rw [hz2]; omega) (by unfold maxLen; omega) (Nat.le_refl _)
    rw [hrun]
    have hq : Below w1.heap.size w1 w2 := below_of_grown hg1 (Nat.le_refl _) (by simp)
    have hgl := (hown1.lt w1.heap.size rfl).2
    clear hrun hi0 hz0 hz1 hz2 hg1
    gi_wp2_with fail
    obtain ⟨w3, hw3⟩ : ∃ w3, w3 = w2.alloc (.cells #[.slice (some ⟨w1.heap.size, 0, none⟩) H.length H.length] 34) := ⟨_, rfl⟩
    rw [← hw3]
    have HW3 := Lib.hid hw3
    clear hw3
    refine ⟨trivial, callsIn_wide.2 ((c_chainsFrom A H.length c w3).mono ?_)⟩
    rintro e w4 ⟨rfl, hw4⟩
    have HW4 := Lib.hid hw4
    clear hw4
    gi_wp2_with fail
    have hw3 := HW3.out
    have hw4 := HW4.out
    clear HW3 HW4
    obtain ⟨gc, hgc⟩ : ∃ gc, gc = w1.heap.size := ⟨_, rfl⟩
    obtain ⟨gb, hgb⟩ : ∃ gb, gb = w2.heap.size := ⟨_, rfl⟩
    obtain ⟨B, hB⟩ : ∃ B, B = w3.heap.size := ⟨_, rfl⟩
    have s3 : w3.heap.size = w2.heap.size + 1 := by rw [hw3]; simp
    have s4 : w4.heap.size = w3.heap.size + 1 := by rw [hw4]; simp
    have x3 : w3.cell? ⟨gb, 0, none⟩ = some (.slice (some ⟨gc, 0, none⟩) H.length H.length) := by rw [hw3, hgb, hgc]; simp
    have b23 : Below w2.heap.size w2 w3 := by rw [hw3]; exact (Below.refl _ _).alloc (Nat.le_refl _) _
    have b34 : Below w3.heap.size w3 w4 := by rw [hw4]; exact (Below.refl _ _).alloc (Nat.le_refl _) _
    have xB : w4.cell? ⟨B, 0, none⟩ = some (.slice A H.length c) := by rw [hw4, hB]; simp
    have b14 : Below w1.heap.size w1 w4 := bstep (bstep hq b23) b34
    have hr4 := (hr.below h1).below b14
    have x4 := keepc b34 x3
    have o4 := own_keep (own_keep hown1 b23) b34
    have hz : (madeCells (Value.int .i64 0).cells (H.length * 1)).toList = cellsI (List.replicate H.length 0) := by
      rw [Nat.mul_one, show (madeCells (Value.int .i64 0).cells H.length).toList = List.replicate H.length (Value.int .i64 0) from toList_madeCells_one (.int .i64 0) H.length]
      simp [cellsI]
    rw [hz] at o4
    rw [← hgc, ← hgb, ← hB]
    rw [← hgc] at o4 hgl b14
    have h01 := h1
    have bw4 : Below w.heap.size w w4 := bstep h1 (hgc ▸ b14)
    have f1 : gc < gb := by omega
    have f2 : gb < B := by omega
    have f3 : B < w4.heap.size := by omega
    have f4 : w1.heap.size ≤ gc := by omega
    have f5 : gc ≤ w1.heap.size := by omega
    have f6 : w.heap.size ≤ gc := by have := h1.size; omega
    clear hw3 hw4 hown1 hz hq b23 b34 x3 hr Con hgc hgb hB s3 s4 hgl
    refine wp_rangeIter (gf := 56) (lb := #[.pointer (some ⟨B, 0, none⟩)]) rfl (fun args w => enters_chains args w) (n₀ := gc) (T0 := fun k => k = B) (iters_chains w4 gc B (fun k => k = B) (by rintro k rfl; omega) A c H xB (by omega) hr4 hh) (by omega) (by rintro k rfl; omega) ?hps ?hE
      (CtI gc H.length gc gb w1) (fun _ _ _ _ => False) (CtI.abides _ _ _ _ _ (by omega)) (fun _ _ _ _ _ _ h _ _ _ _ => h.elim) ?h0 (ctAct A H.length c gc gb B) ?hassign ?hbody ?hdone ?hstop
    case hps => rintro x v T A ⟨_, _, rfl, _⟩; rfl
    case hE => exact fun x v T A B h1 h2 h3 => enc_keep h1 h2 h3
    case h0 => exact ⟨by omega, by omega, by omega, b14, x4, o4⟩
    case hassign =>
      rintro l m x v T W K ⟨Ax, cx, rfl, _⟩ hK
      gi_wp2_with (rw [Oper.semAt_eq _ _ _ (fun c h => by cases h)]; go_simp; try go_bits)
      exact hK
    case hstop => exact fun _ _ _ _ _ _ _ _ h => h.elim
    case hbody =>
      rintro l m T Ti pre x v A1 ⟨h1, h2, h3, h4, h5, h6⟩ hp hT hn _ ⟨Ax, cx, rfl, hrx, htx⟩
      have hmem : x ∈ allC H := hp.subset (by simp)
      obtain ⟨hox, hx0⟩ := all_ok hmem
      have hxl := hox.len
      have hcount : pre.length ≤ 23579476910 := by
        have h1 := hp.length_le
        have h2 := all_len hl8
        simp at h1
        omega
      obtain ⟨hcl, hcb⟩ := cntL_inv H.length pre
      have hst := cntL_snoc H.length pre x
      unfold cntStep at hst
      generalize hC : cntL H.length pre = C at *
      have lc := h6.lt gc rfl
      unfold ctAct
      by_cases hx1 : 1 < x.length
      · obtain ⟨k, hk⟩ : ∃ k, x.length = k + 2 := ⟨x.length - 2, by omega⟩
        rw [if_pos hx1, show x.length - 2 = k from by omega] at hst
        have hkn : k < H.length := by omega
        have hv0 := hcb k
        have hcell : (cellsI C)[k]? = some (.int .i64 (C.getD k 0)) := by
          unfold cellsI
          rw [List.getElem?_map, List.getD_eq_getElem?_getD, List.getElem?_eq_getElem (by omega)]
          rfl
        have c1 := (h6.cellAt k (by omega)).trans hcell
        have fr1 := h6.frozenAt k
        have hset : (cellsI C).set k (.int .i64 (C.getD k 0 + 1)) = cellsI (C.set k (C.getD k 0 + 1)) := by
          unfold cellsI
          rw [List.map_set]
        generalize C.getD k 0 = v0 at *
        have j1 : IntKind.i64.wrap ((x.length : Int) - 1) = (k : Int) + 1 := by rw [IntWalk.i64_in _ (by omega)]; omega
        have j2 : IntKind.i64.wrap ((k : Int) + 1 - 1) = (k : Int) := by rw [IntWalk.i64_in _ (by omega)]; omega
        have j3 : IntKind.i64.wrap (k : Int) = (k : Int) := IntWalk.i64_in _ (by omega)
        have j4 : (0 : Int) < (k : Int) + 1 := by omega
        have j5 : (0 : Int) ≤ (k : Int) := by omega
        have j6 : (k : Int) < (H.length : Int) := by omega
        have j7 : IntKind.i64.wrap (v0 + 1) = v0 + 1 := IntWalk.i64_in _ (by omega)
        have H6 := Lib.hid h6
        have H4 := Lib.hid h4
        have HST := Lib.hid hst
        have HSET := Lib.hid hset
        have H5 := Lib.hid h5
        clear h6 h4 hst hset hk hx1 hp hmem hox hcb hcell hC hv0 hcount
        gi_wp2_with (rw [Oper.semAt_eq _ _ _ (fun c h => by cases h)]; go_simp; try go_bits)
        exact ⟨Turn.setCell _ _ ⟨Nat.le_refl _, h1⟩, h1, h2, by simpa [World.setCell] using h3, H4.out.setCell (Nat.le_refl _) _, (World.cell?_setCell_other _ _ _ _ (by first | (simp; omega) | simp)).trans H5.out, by rw [HST.out, ← HSET.out]; exact (H6.out.stored k _).1⟩
      · have hk : x.length = 1 := by omega
        rw [if_neg hx1] at hst
        have j1 : IntKind.i64.wrap ((x.length : Int) - 1) = 0 := by rw [IntWalk.i64_in _ (by omega)]; omega
        have H6 := Lib.hid h6
        have H4 := Lib.hid h4
        have HST := Lib.hid hst
        have H5 := Lib.hid h5
        clear h6 h4 hst hk hx1 hp hmem hox hcb hC hcount
        gi_wp2_with (rw [Oper.semAt_eq _ _ _ (fun c h => by cases h)]; go_simp; try go_bits)
        exact ⟨Turn.refl _ _, h1, h2, h3, H4.out, H5.out, by rw [HST.out]; exact H6.out⟩
    case hdone =>
      rintro D T W hD hTD ⟨h1, h2, h3, h4, h5, h6⟩ hz hK
      gi_wp2
      refine ⟨by simp, .inl ⟨_, _, rfl, run_takeDeferred hK, ?_⟩⟩
      have hlc := (cntL_inv H.length (allC H)).1
      have hb : Below w.heap.size w W := h01.trans (h4.mono f6)
      exact ⟨_, results_tmp2 rfl _ _ _, some ⟨gc, 0, none⟩, H.length, by rw [hlc]; rfl, by rw [hlc]; exact own_base (own_blockG h6 (fun g hg => World.putObj_heap_other (fun e => by cases hg; exact h1 (by have e' : gc = D := e; rw [e']; exact hTD)))) f6, hb.grown (grownBy_putObj' _ _ _) hb.size (fun k e => by cases e; omega)⟩

end Go.Proofs.Ytjhedjokifnofaa

/- The longest chain of a hand: the program's own. -/
import Derived.Test.YtjhedjokifnofaaCsC
import Derived.Test.YtjhedjokifnofaaTurn
import Derived.Test.YtjhedjokifnofaaCat
namespace Go.Proofs.Ytjhedjokifnofaa
open Go Go.RowKit
set_option linter.unusedVariables false

theorem frozen_of_blk {w w' : World} {b m : Nat} (h : w'.heap[b]? = w.heap[b]?) : w'.frozen? ⟨b, m, none⟩ = w.frozen? ⟨b, m, none⟩ := by
  unfold World.frozen?
  simp only [h]

def lngStep (a x : List Int) : List Int := if a.length < x.length then x else a
def lngL (L : List (List Int)) : List Int := L.foldl lngStep []
theorem lngL_snoc (L : List (List Int)) (x : List Int) : lngL (L ++ [x]) = lngStep (lngL L) x := by
  unfold lngL
  rw [List.foldl_append]
  rfl

set_option maxRecDepth 100000 in
set_option maxHeartbeats 2000000 in
theorem c_cloneC (A : Option Addr) (c : Nat) (xs : List Int) (w : World) (hr : RdI w A xs) (hl : xs.length ≤ 1048576) : Calls Try.prog 38 #[.slice A xs.length c] w (RetN w xs) := by
  by_cases hne : 0 < xs.length
  · exact c_clone A c xs w hr hl hne
  · have e0 : xs = [] := List.eq_nil_of_length_eq_zero (by omega)
    subst e0
    have ho0 : (w.alloc (.cells #[] 3)).ownsRow w.heap.size 3 1 (.slice (some ⟨w.heap.size, 0, none⟩) 0 0) 0 (cellsI []) := World.ownsRow_lit w #[] 0 (Nat.le_refl _) (by unfold maxLen; omega) rfl
    have hb0 : Below w.heap.size w (w.alloc (.cells #[] 3)) := (Below.refl _ _).alloc (Nat.le_refl _) _
    have q : ∀ (w : World) (a : Option Addr) (n c n' c' : Nat), (binOp .eql 34 (.slice a n c) (.slice none n' c')).run Try.prog w = .ok (.bool a.isNone) w := fun w a n c n' c' => Lib.run_eql_slice_nil w _ _ a n c n' c' Try.underlying34
    cases A with
    | none =>
      go_enter Try.func38, Try.ntmps38
      go_wp2
      go_ret
      exact ⟨none, 0, rfl, World.ownsRow_nil _ _ _ _, Below.refl _ _⟩
    | some ad =>
      go_enter Try.func38, Try.ntmps38
      go_wp2_with (at_builtin; refine wp_append_ints rfl _ _ rfl w.heap.size _ [] rfl ho0 _ c [] rfl (hr.below hb0) (by simp) (by simp) (by simp) ⟨_, _, rfl⟩ ?_; intro A4 c4 w4 ho4 hg4; have hb4 : Below w.heap.size w w4 := hb0.trans (below_of_grown hg4 hb0.size (fun g hg => by cases hg; exact Nat.le_refl _)); simp only [List.nil_append] at ho4)
      go_ret
      exact ⟨A4, c4, rfl, ho4, hb4⟩

/-- What is kept between two rounds: the longest chain so far. -/
def LgI (gb : Nat) (w : World) (T : Nat → Prop) (pre : List (List Int)) (A : World) : Prop :=
  ¬ T gb ∧ gb < A.heap.size ∧ Below gb w A ∧ (∀ m, A.frozen? ⟨gb, m, none⟩ = false) ∧ ∃ Ag cg, A.cell? ⟨gb, 0, none⟩ = some (.slice Ag (lngL pre).length cg) ∧ A.ownsRow gb 3 1 (.slice Ag (lngL pre).length cg) (lngL pre).length (cellsI (lngL pre)) ∧ ∀ g, (Value.slice Ag (lngL pre).length cg).ownBlock = some g → ¬ T g ∧ g ≠ gb
theorem LgI.abides (gb : Nat) (w : World) (hn : gb ≤ w.heap.size) : AbT gb (LgI gb w) := by
  rintro T T' s A B ⟨h1, h3, h4, hf, Ag, cg, h5, h6, h7⟩ hT hnA ht hT'
  have eb : B.heap[gb]? = A.heap[gb]? := ht.block gb h3 h1
  refine ⟨fun h => ?_, Nat.lt_of_lt_of_le h3 ht.size, h4.trans (ht.below hnA (fun k hk => (hT k hk).1)), fun m => (frozen_of_blk eb).trans (hf m), Ag, cg, (World.cell?_of_block (a := ⟨gb, 0, none⟩) eb).trans h5, own_blockG h6 (fun g hg => ht.block g (h6.lt g hg).2 (h7 g hg).1), fun g hg => ⟨fun h => ?_, (h7 g hg).2⟩⟩
  · rcases hT' _ h with h | h
    · exact h1 h
    · omega
  · rcases hT' _ h with h | h
    · exact (h7 g hg).1 h
    · have := (h6.lt g hg).2; omega
def lgAct (A : Option Addr) (n c gb B : Nat) (v : Array Value) : Act :=
  { tmps := #[.slice A n c, undef, .slice none 0 0, .bool false, .pointer (some ⟨gb, 0, none⟩), v.getD 0 undef, .slice A n c, .bool true, .bool false, .slice A n c, .func (.func 56) #[] #[.pointer (some ⟨B, 0, none⟩)], v.getD 0 undef, undef, undef, undef, undef, undef, undef, undef, undef], defers := [] }

set_option maxRecDepth 100000 in
set_option maxHeartbeats 4000000 in
theorem c_implLongest (A : Option Addr) (c : Nat) (H : List (Int × Int)) (w : World) (hr : RdT w A H) (hl : H.length ≤ 1048576) :
    Calls Try.prog 24 #[.slice A H.length c] w (RetI w (if chB H then lngL (allC H) else []) (chB H)) := by
  have con := c_isChained A c H w hr hl
  cases hc : chB H
  · rw [hc] at con
    have Con := Lib.hid con
    clear con hc hr
    go_enter Try.func24, Try.ntmps24
    go_wp2_with fail
    refine Con.out.mono ?_
    rintro e w1 ⟨rfl, h1⟩
    go_wp2
    go_ret2
    exact ⟨none, 0, rfl, World.ownsRow_nil _ _ _ _, h1⟩
  · rw [hc] at con
    have Con := Lib.hid con
    have hc2 := hc
    unfold chB at hc2
    rw [Bool.and_eq_true, decide_eq_true_eq] at hc2
    obtain ⟨hh, hl8⟩ := hc2
    rw [if_pos rfl]
    clear con hc
    refine (callsIn_wide (n := 5)).1 ?_
    refine callsIn_of_wp_marks Try.func24 rfl trivial ?_
    simp only [Try.ntmps24, List.size_toArray, List.length_cons, List.length_nil, Nat.reduceAdd, Nat.reduceSub, Array.replicate_succ, Array.replicate_zero, List.push_toArray, List.append_toArray, List.nil_append, List.cons_append]
    gi_wp2_with fail
    refine ⟨trivial, callsIn_wide.2 (Con.out.mono ?_)⟩
    rintro e w1 ⟨rfl, h1⟩
    gi_wp2_with fail
    obtain ⟨w3, hw3⟩ : ∃ w3, w3 = w1.alloc (.cells #[.slice none 0 0] 34) := ⟨_, rfl⟩
    rw [← hw3]
    have HW3 := Lib.hid hw3
    clear hw3
    refine ⟨trivial, callsIn_wide.2 ((c_chainsFrom A H.length c w3).mono ?_)⟩
    rintro e w4 ⟨rfl, hw4⟩
    have HW4 := Lib.hid hw4
    clear hw4
    gi_wp2_with fail
    have hw3 := HW3.out
    have hw4 := HW4.out
    clear HW3 HW4
    obtain ⟨gb, hgb⟩ : ∃ gb, gb = w1.heap.size := ⟨_, rfl⟩
    obtain ⟨B, hB⟩ : ∃ B, B = w3.heap.size := ⟨_, rfl⟩
    have s3 : w3.heap.size = w1.heap.size + 1 := by rw [hw3]; simp
    have s4 : w4.heap.size = w3.heap.size + 1 := by rw [hw4]; simp
    have x3 : w3.cell? ⟨gb, 0, none⟩ = some (.slice none 0 0) := by rw [hw3, hgb]; simp
    have fz3 : ∀ m, w3.frozen? ⟨gb, m, none⟩ = false := fun m => by rw [hw3, hgb]; exact frozen_new w1 _ _ m
    have b13 : Below w1.heap.size w1 w3 := by rw [hw3]; exact (Below.refl _ _).alloc (Nat.le_refl _) _
    have b34 : Below w3.heap.size w3 w4 := by rw [hw4]; exact (Below.refl _ _).alloc (Nat.le_refl _) _
    have xB : w4.cell? ⟨B, 0, none⟩ = some (.slice A H.length c) := by rw [hw4, hB]; simp
    have b14 : Below w1.heap.size w1 w4 := bstep b13 b34
    have hr4 := (hr.below h1).below b14
    have x4 := keepc b34 x3
    have fz4 : ∀ m, w4.frozen? ⟨gb, m, none⟩ = false := fun m => (b34.frozen (p := ⟨gb, m, none⟩) (show gb < _ from (block_lt x3 : gb < w3.heap.size))).trans (fz3 m)
    rw [← hgb, ← hB]
    rw [← hgb] at b14
    have h01 := h1
    have f2 : gb < B := by omega
    have f3 : B < w4.heap.size := by omega
    have f4 : w1.heap.size ≤ gb := by omega
    have f5 : gb ≤ w1.heap.size := by omega
    have f6 : w.heap.size ≤ gb := by have := h1.size; omega
    clear hw3 hw4 b13 b34 x3 fz3 hr Con hgb hB s3 s4
    refine wp_rangeIter (gf := 56) (lb := #[.pointer (some ⟨B, 0, none⟩)]) rfl (fun args w => enters_chains args w) (n₀ := gb) (T0 := fun k => k = B) (iters_chains w4 gb B (fun k => k = B) (by rintro k rfl; omega) A c H xB (by omega) hr4 hh) (by omega) (by rintro k rfl; omega) ?hps ?hE
      (LgI gb w1) (fun _ _ _ _ => False) (LgI.abides _ _ (by omega)) (fun _ _ _ _ _ _ h _ _ _ _ => h.elim) ?h0 (lgAct A H.length c gb B) ?hassign ?hbody ?hdone ?hstop
    case hps => rintro x v T A ⟨_, _, rfl, _⟩; rfl
    case hE => exact fun x v T A B h1 h2 h3 => enc_keep h1 h2 h3
    case h0 => exact ⟨by omega, by omega, b14, fz4, none, 0, x4, World.ownsRow_nil _ _ _ _, fun g hg => by simp [Value.ownBlock] at hg⟩
    case hassign =>
      rintro l m x v T W K ⟨Ax, cx, rfl, _⟩ hK
      gi_wp2_with (rw [Oper.semAt_eq _ _ _ (fun c h => by cases h)]; go_simp; try go_bits)
      exact hK
    case hstop => exact fun _ _ _ _ _ _ _ _ h => h.elim
    case hbody =>
      rintro l m T Ti pre x v A1 ⟨h1, h3, h4, hf, Ag, cg, h5, h6, h7⟩ hp hT hn _ ⟨Ax, cx, rfl, hrx, htx⟩
      have hmem : x ∈ allC H := hp.subset (by simp)
      have hxl := (all_ok hmem).1.len
      have hst := lngL_snoc pre x
      unfold lngStep at hst
      generalize hC : lngL pre = C at *
      have f0 := hf 0
      unfold lgAct
      by_cases hx1 : C.length < x.length
      · rw [if_pos hx1] at hst
        have j1 : (C.length : Int) < (x.length : Int) := by omega
        have con := c_cloneC Ax cx x A1 hrx (by omega)
        have Con := Lib.hid con
        have H4 := Lib.hid h4
        have HST := Lib.hid hst
        have HF := Lib.hid hf
        clear h4 hst hx1 hp hmem hC con h6 h7 hf
        gi_wp2_with (rw [Oper.semAt_eq _ _ _ (fun c h => by cases h)]; go_simp; try go_bits)
        refine ⟨trivial, fun h => by simp [Fence.wide] at h, CallsIn.inRound l (callsIn_wide.2 (Con.out.mono ?_))⟩
        rintro e w5 ⟨A5, c5, rfl, o5, h5b⟩
        have y5 := keepc h5b h5
        have fy : ∀ m, w5.frozen? ⟨gb, m, none⟩ = false := fun m => (h5b.frozen (p := ⟨gb, m, none⟩) h3).trans (HF.out m)
        have f5' := fy 0
        have n5 : gb < w5.heap.size := block_lt y5
        have hlo := fun g h => o5.lt g h
        have O5 := Lib.hid (own_base o5 hn)
        have H5B := Lib.hid h5b
        have FY := Lib.hid fy
        clear o5 h5b fy h5 f0
        gi_wp2_with (rw [Oper.semAt_eq _ _ _ (fun c h => by cases h)]; go_simp; try go_bits)
        have hne : ∀ g, (Value.slice A5 x.length c5).ownBlock = some g → ¬ T g ∧ g ≠ gb := fun g hg => by
          have h8 := hlo g hg
          exact ⟨fun ht => by have := (hT g ht).2; omega, by omega⟩
        exact ⟨(Turn.of_below H5B.out).trans (Turn.setCell _ _ ⟨Nat.le_refl _, h1⟩) (fun k _ h => h), h1, by simpa [World.setCell] using n5, (H4.out.trans (H5B.out.mono hn)).setCell (Nat.le_refl _) _, fun m => by simp [FY.out], A5, c5, by rw [HST.out]; exact World.cell?_setCell_same _ _ _ y5, by rw [HST.out]; exact own_off2 O5.out (fun g hg => (hne g hg).2), by rw [HST.out]; exact hne⟩
      · rw [if_neg hx1] at hst
        have j1 : ¬ (C.length : Int) < (x.length : Int) := by omega
        have H6 := Lib.hid h6
        have H4 := Lib.hid h4
        have HST := Lib.hid hst
        have HF := Lib.hid hf
        have H5 := Lib.hid h5
        have H7 := Lib.hid h7
        clear h6 h4 hst hx1 hp hmem hC h7 hf
        gi_wp2_with (rw [Oper.semAt_eq _ _ _ (fun c h => by cases h)]; go_simp; try go_bits)
        exact ⟨Turn.refl _ _, h1, h3, H4.out, HF.out, Ag, cg, by rw [HST.out]; exact H5.out, by rw [HST.out]; exact H6.out, by rw [HST.out]; exact H7.out⟩
    case hdone =>
      rintro D T W hD hTD ⟨h1, h3, h4, hf, Ag, cg, h5, h6, h7⟩ hz hK
      gi_wp2
      refine ⟨by simp, .inl ⟨_, _, rfl, run_takeDeferred hK, ?_⟩⟩
      have hb : Below w.heap.size w W := h01.trans (h4.mono f6)
      exact ⟨_, results_tmp2 rfl _ _ _, Ag, cg, rfl, own_base (own_blockG h6 (fun g hg => World.putObj_heap_other (fun e => (h7 g hg).1 (by have e' : g = D := e; rw [e']; exact hTD)))) f6, hb.grown (grownBy_putObj' _ _ _) hb.size (fun k e => by cases e; omega)⟩

end Go.Proofs.Ytjhedjokifnofaa

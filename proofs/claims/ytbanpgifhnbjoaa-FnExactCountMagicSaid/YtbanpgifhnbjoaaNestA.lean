/- Slices of slices of numbers as arguments: read, measured, copied. -/
import Derived.Test.YtbanpgifhnbjoaaNest
import Derived.Test.YtbanpgifhnbjoaaLawI
import Derived.Deep.Matrix
namespace Go.Proofs.Ytbanpgifhnbjoaa
open Go.ChangeShapes Go.WideShapes Go.ChangeAt Go.RowKit Go.Joins
set_option linter.unusedVariables false

theorem Try.cells_ints : Try.prog.cellsOf 39 = 1 := by kernel_rfl

section
variable {H : Type} {enc : TypeId × Value → H}
set_option maxRecDepth 100000 in
theorem open_numss {W : World} {r : Reach} {b0 : Nat} {v : Value} {d : DataW H} {p : List MemPlace}
    (hv : Value.okWide Try.prog W r b0 30 v) (h : DataW.Trod enc Try.prog W 0 (fun _ => true) true 30 v d p) :
    ∃ (A : Option Addr) (c : Nat) (tss : List (List Int)), v = .slice A tss.length c ∧ RdII W A tss ∧ tss.length ≤ 9223372036854775807 ∧ ∀ k, k < tss.length → (tss.getD k []).length ≤ 9223372036854775807 := by
  obtain ⟨a0, len0, cap0, rfl⟩ := okWide_slice Try.underlying30 hv
  obtain ⟨fuel, h⟩ := h
  rcases Deep.open_int_rows Try.underlying30 Try.underlying39 Try.underlying3 Try.cells_ints Try.cells_int h with ⟨h1, _⟩ | ⟨a, len, cap, A, L, C, Z, h1, _, hlc, hcm, _, hi⟩
  · simp only [Value.cells, List.cons.injEq, Value.slice.injEq, and_true] at h1
    obtain ⟨rfl, rfl, rfl⟩ := h1
    exact ⟨none, 0, [], rfl, ⟨0, 0, fun _ => none, fun _ => 0, fun h => absurd rfl h, fun k hk => by simp at hk⟩, by simp, fun k hk => by simp at hk⟩
  · simp only [Value.cells, List.cons.injEq, Value.slice.injEq, and_true] at h1
    obtain ⟨rfl, rfl, rfl⟩ := h1
    have hg : ∀ k, k < len0 → ((List.range len0).map fun r => (Z r).take (L r)).getD k [] = (Z k).take (L k) := fun k hk => by simp [hk]
    have hl : ∀ k, k < len0 → ((Z k).take (L k)).length = L k := fun k hk => by
      obtain ⟨_, r1, _, r3, _⟩ := hi k (by omega)
      rw [List.length_take]; omega
    refine ⟨some a, cap0, (List.range len0).map fun r => (Z r).take (L r), by simp, ⟨a.block, a.off, A, C, fun hne => ?_, fun k hk => ?_⟩, by simp; unfold maxLen at hcm; omega, fun k hk => ?_⟩
    · have h0 : 0 < len0 := by
        rcases Nat.eq_zero_or_pos len0 with h | h
        · subst h; simp at hne
        · exact h
      have := (hi 0 (by omega)).1
      rw [show a.add 0 = a from by simp [Addr.add]] at this
      exact congrArg some (plain_of_cell this)
    · simp only [List.length_map, List.length_range] at hk
      obtain ⟨r0, r1, r2, r3, _, r5, r6⟩ := hi k (by omega)
      refine ⟨?_, ?_⟩
      · unfold rowV
        rw [hg k hk, hl k hk]
        exact cell_add_plain r0
      · rw [hg k hk]
        cases hA : A k with
        | none =>
          have := r5 hA
          have e : (Z k).take (L k) = [] := List.eq_nil_of_length_eq_zero (by rw [hl k hk]; omega)
          rw [e]
          exact RdI.nil_
        | some a' =>
          have hc := (r6 a' hA).2
          refine ⟨a'.block, a'.off, fun hne => ?_, fun j hj => ?_⟩
          · have h0 : 0 < L k := by
              have := List.length_pos_iff.2 hne
              rw [hl k hk] at this
              exact this
            have := hc 0 (by omega)
            rw [show a'.add 0 = a' from by simp [Addr.add]] at this
            exact congrArg some (plain_of_cell this)
          · rw [hl k hk] at hj
            have h1 := cell_add_plain (hc j (by omega))
            rw [h1, List.getElem_take]
            simp [List.getD, List.getElem?_eq_getElem (show j < (Z k).length by omega)]
    · simp only [List.length_map, List.length_range] at hk
      rw [hg k hk, hl k hk]
      obtain ⟨_, r1, r2, _⟩ := hi k (by omega)
      unfold maxLen at r2
      omega
end

section
variable {α : Type} {oe e sz : Nat} {cells : List α → List Value} {w : World} {lo hi : Nat} {tss : List (List α)}

/-- A row made anew stored into the outer row. -/
theorem OwnRR.fill {g cp k lo2 c : Nat} {A : Option Addr} {ts : List α} (h : OwnRR oe e sz cells w lo hi (.slice (some ⟨g, 0, none⟩) tss.length cp) tss) (hk : k < tss.length)
    (hrow : w.ownsRow lo2 e sz (.slice A ts.length c) ts.length (cells ts)) (hlo : lo ≤ lo2) (hhi : hi ≤ lo2) :
    OwnRR oe e sz cells (w.setCell ⟨g, k, none⟩ (.slice A ts.length c)) lo w.heap.size (.slice (some ⟨g, 0, none⟩) tss.length cp) (tss.set k ts) := by
  obtain ⟨B, d, h1, h2, h3, h4⟩ := h
  have hgh : g < hi := h2 g rfl
  have hu : ∀ x, (Value.slice A ts.length c).ownBlock = some x → lo2 ≤ x ∧ x < w.heap.size := hrow.lt
  have hg : w.grownBy (w.setCell ⟨g, k, none⟩ (.slice A ts.length c)) (some g) := grown_set (World.grownBy.refl w _) k _
  have hsz : (w.setCell ⟨g, k, none⟩ (.slice A ts.length c)).heap.size = w.heap.size := by simp [World.setCell]
  have len : (tss.set k ts).length = tss.length := by simp
  have gk : (tss.set k ts).getD k [] = ts := by simp [hk]
  have gj : ∀ j, j ≠ k → (tss.set k ts).getD j [] = tss.getD j [] := fun j hj => by simp [List.getElem?_set_ne (Ne.symm hj)]
  have er : ∀ j, j ≠ k → rowV (fun j => if j = k then A else B j) (fun j => if j = k then c else d j) (tss.set k ts) j = rowV B d tss j := fun j hj => by
    show Value.slice (if j = k then A else B j) ((tss.set k ts).getD j []).length (if j = k then c else d j) = rowV B d tss j
    rw [if_neg hj, if_neg hj, gj j hj]
    rfl
  have ek : rowV (fun j => if j = k then A else B j) (fun j => if j = k then c else d j) (tss.set k ts) k = .slice A ts.length c := by
    show Value.slice (if k = k then A else B k) ((tss.set k ts).getD k []).length (if k = k then c else d k) = _
    rw [if_pos rfl, if_pos rfl, gk]
  have apk : Apart (.slice A ts.length c) (.slice (some ⟨g, 0, none⟩) tss.length cp) := Apart.of_gt (m := hi) (fun x hx => by have := (hu x hx).1; omega) (fun x hx => by cases hx; exact hgh)
  refine ⟨fun j => if j = k then A else B j, fun j => if j = k then c else d j, ?_, fun x hx => by cases hx; exact (h1.lt g rfl).2, fun j hj => ?_, fun i j hij hj => ?_⟩
  · have st := (h1.stored k (.slice A ts.length c)).1
    have e0 : ((List.range tss.length).map (rowV B d tss)).set k (.slice A ts.length c) = (List.range (tss.set k ts).length).map (rowV (fun j => if j = k then A else B j) (fun j => if j = k then c else d j) (tss.set k ts)) := by
      apply List.ext_getElem
      · simp
      · intro i i1 i2
        rw [List.getElem_set]
        by_cases e1 : k = i
        · subst e1
          rw [if_pos rfl]
          simp only [List.getElem_map, List.getElem_range]
          exact ek.symm
        · rw [if_neg e1]
          simp only [List.getElem_map, List.getElem_range]
          exact (er i (fun h => e1 h.symm)).symm
    rw [← e0, len]
    exact st
  · rw [len] at hj
    by_cases e1 : j = k
    · subst e1
      rw [ek, gk]
      exact ⟨own_base (hrow.kept hg apk) hlo, fun x hx => (hu x hx).2, apk⟩
    · rw [er j e1, gj j e1]
      exact ⟨(h3 j hj).1.kept hg (h3 j hj).2.2, fun x hx => ((h3 j hj).1.lt x hx).2, (h3 j hj).2.2⟩
  · rw [len] at hj
    by_cases e1 : j = k
    · subst e1
      rw [ek, er i (by omega)]
      exact Apart.of_lt (m := hi) (fun x hx => (h3 i (by omega)).2.1 x hx) (fun x hx => by have := (hu x hx).1; omega)
    · by_cases e2 : i = k
      · subst e2
        rw [ek, er j e1]
        exact Apart.of_gt (m := hi) (fun x hx => by have := (hu x hx).1; omega) (fun x hx => (h3 j hj).2.1 x hx)
      · rw [er i e2, er j e1]
        exact h4 i j hij hj
end

/-- The first k rows copied, behind them nothing but nil. -/
def fillTo (tss : List (List Int)) (k : Nat) : List (List Int) := tss.take k ++ List.replicate (tss.length - k) []
theorem fillTo_len {tss : List (List Int)} {k : Nat} (h : k ≤ tss.length) : (fillTo tss k).length = tss.length := by simp [fillTo]; omega
theorem fillTo_all (tss : List (List Int)) : fillTo tss tss.length = tss := by simp [fillTo]
theorem fillTo_step {tss : List (List Int)} {k : Nat} (h : k < tss.length) : (fillTo tss k).set k (tss.getD k []) = fillTo tss (k + 1) := by
  have h1 : tss.take (k + 1) = tss.take k ++ [tss[k]] := List.take_succ_eq_append_getElem h
  have h2 : tss.length - k = (tss.length - (k + 1)) + 1 := by omega
  have h3 : tss.getD k [] = tss[k] := by simp [h]
  unfold fillTo
  rw [h3, h1, h2, List.replicate_succ, List.set_append_right _ _ (by simp; omega), List.length_take, Nat.min_eq_left (by omega), Nat.sub_self, List.set_cons_zero, List.append_assoc, List.singleton_append]
theorem fillTo_zero (tss : List (List Int)) (k : Nat) : (fillTo tss 0).getD k [] = [] := by
  unfold fillTo
  rw [List.take_zero, List.nil_append, List.getD_eq_getElem?_getD, List.getElem?_replicate]
  split <;> rfl

/-- An owned row stays where its block stays. -/
theorem own_block {w w' : World} {base e size n : Nat} {v : Value} {cs : List Value} (h : w.ownsRow base e size v n cs) (heq : ∀ g, v.ownBlock = some g → w'.heap[g]? = w.heap[g]?) : w'.ownsRow base e size v n cs := by
  obtain ⟨h1, h2⟩ := h
  refine ⟨h1, ?_⟩
  rcases h2 with h2 | ⟨g, cap, cur, hv, hg, hh, r⟩
  · exact .inl h2
  · exact .inr ⟨g, cap, cur, hv, hg, (heq g (by subst hv; rfl)).trans hh, r⟩

/-- Rows of rows stay where all blocks from lo on stay. -/
theorem OwnRR.moved {α : Type} {oe e sz : Nat} {cells : List α → List Value} {w w' : World} {lo hi : Nat} {v : Value} {tss : List (List α)} (h : OwnRR oe e sz cells w lo hi v tss) (heq : ∀ g, lo ≤ g → g < w.heap.size → w'.heap[g]? = w.heap[g]?) : OwnRR oe e sz cells w' lo hi v tss := by
  obtain ⟨B, d, h1, h2, h3, h4⟩ := h
  exact ⟨B, d, own_block h1 (fun g hg => heq g (h1.lt g hg).1 (h1.lt g hg).2), h2, fun k hk => ⟨own_block (h3 k hk).1 (fun g hg => heq g ((h3 k hk).1.lt g hg).1 ((h3 k hk).1.lt g hg).2), (h3 k hk).2⟩, h4⟩

set_option maxRecDepth 100000 in
set_option maxHeartbeats 1000000 in
theorem c_markIntSSx (A : Option Addr) (c lo hi : Nat) (tss : List (List Int)) (q : Int) (w : World) (hr : OwnII w lo hi (.slice A tss.length c) tss) (hlo : lo ≤ w.heap.size) (h0 : 0 ≤ q) (h1 : q + (sumTo tss tss.length : Int) ≤ 9223372036854775807) (lx : tss.length ≤ 9223372036854775807) :
    Calls Try.prog 17 #[.slice A tss.length c, .int .i64 q] w fun e w' => e = .returned (.int .i64 (q + (sumTo tss tss.length : Int))) ∧
      OwnII w' lo hi (.slice A tss.length c) (markII q tss tss.length) ∧ Below lo w w' ∧ (∀ b, hi ≤ b → b < w.heap.size → w'.heap[b]? = w.heap[b]?) := by
  go_enter Try.func17, Try.ntmps17
  go_wp2
  go_loopw [1, 5] (fun p i wr => ∃ k : Nat, k ≤ tss.length ∧ i = .int .i64 k ∧ p = .int .i64 (q + (sumTo tss k : Int)) ∧ OwnII wr lo hi (.slice A tss.length c) (markII q tss k) ∧ Below lo w wr ∧ (∀ b, hi ≤ b → b < w.heap.size → wr.heap[b]? = w.heap[b]?)) (fun _ i _ => tss.length - (intOf i).toNat)
  case atStart => exact ⟨0, Nat.zero_le _, rfl, by simp [sumTo], by rw [markII_zero]; exact hr, Below.refl _ _, fun _ _ _ => rfl⟩
  case round =>
    obtain ⟨k, hk, rfl, rfl, hown, hb, hx⟩ := hrel
    clear hr
    have hs := sumTo_mono tss hk
    by_cases hlt : k < tss.length
    · have hrd := rdII_of (w := wr) (lo := lo) (hi := hi) (A := A) (c := c) (tss := markII q tss k) (by rw [markII_len]; exact hown)
      obtain ⟨B, d, o1, o2, o3, o4⟩ := hown
      have hk' : k < (markII q tss k).length := by rw [markII_len]; exact hlt
      have hgk : (markII q tss k).getD k [] = tss.getD k [] := by rw [markII_get _ _ _ _ hlt]; simp
      have hcell : wr.ownsRow lo 39 1 (.slice A tss.length c) tss.length ((List.range (markII q tss k).length).map (rowV B d (markII q tss k))) := by rw [markII_len] at o1 ⊢; exact o1
      obtain ⟨ga, hga⟩ : ∃ g, A = some ⟨g, 0, none⟩ := by
        obtain ⟨_, ⟨hv, hn⟩ | ⟨g, cap, cur, hv, _⟩⟩ := hcell
        · omega
        · injection hv with e1; exact ⟨g, e1⟩
      subst hga
      have g1 : wr.cell? ⟨ga, k, none⟩ = some (.slice (B k) (tss.getD k []).length (d k)) := by
        have := World.ownsRow.cells hcell (g := ga) rfl k (rowV B d (markII q tss k) k) (by simp [markII_len, hlt])
        unfold rowV at this
        rw [hgk] at this
        rw [← this]
        by_cases hz : k = 0 <;> simp [Addr.add, hz]
      have hin := (o3 k hk').1
      unfold rowV at hin
      rw [hgk] at hin
      have hst := sumTo_step hlt
      have hs1 := sumTo_mono tss (show k + 1 ≤ tss.length by omega)
      have con := c_markIntS (B k) (d k) lo (tss.getD k []) (q + (sumTo tss k : Int)) wr hin (by omega) (by omega)
      have hrv : rowV B d (markII q tss k) k = .slice (B k) (tss.getD k []).length (d k) := by unfold rowV; rw [hgk]
      have hl : (marksI (q + (sumTo tss k : Int)) (tss.getD k []).length).length = ((markII q tss k).getD k []).length := by rw [hgk]; exact marksI_length _ _
      have fin : ∀ w2, w2.ownsRow lo 3 1 (.slice (B k) (tss.getD k []).length (d k)) (tss.getD k []).length (cellsI (marksI (q + (sumTo tss k : Int)) (tss.getD k []).length)) → wr.grownBy w2 (Value.slice (B k) (tss.getD k []).length (d k)).ownBlock →
          OwnII w2 lo hi (.slice (some ⟨ga, 0, none⟩) tss.length c) (markII q tss (k + 1)) ∧ Below lo w w2 ∧ (∀ b, hi ≤ b → b < w.heap.size → w2.heap[b]? = w.heap[b]?) := fun w2 ho2 hg2 => by
        refine ⟨?_, hb.trans (below_of_grown hg2 (Nat.le_trans hlo hb.size) (fun g hg => (hin.lt g hg).1)), fun b h1 h2 => (hg2.block b (Nat.lt_of_lt_of_le h2 hb.size) (fun e => by have := (o3 k hk').2.1 b (by rw [hrv]; exact e.symm); omega)).trans (hx b h1 h2)⟩
        rw [← markII_step q hlt]
        exact OwnRR.put (oe := 39) (e := 3) (sz := 1) (cells := cellsI) (w := wr) (w' := w2) (lo := lo) (hi := hi) (v := .slice (some ⟨ga, 0, none⟩) tss.length c) (B := B) (d := d) hk' hl o1 o2 o3 o4
          (by rw [hrv, marksI_length]; exact ho2) (by rw [hrv]; exact hg2)
      obtain ⟨r, hr0⟩ : ∃ r, r = tss.getD k [] := ⟨_, rfl⟩
      obtain ⟨s, hs0⟩ : ∃ s, s = sumTo tss k := ⟨_, rfl⟩
      rw [← hr0, ← hs0] at con hst
      rw [← hr0] at g1
      rw [← hs0] at hs ⊢
      simp only [← hr0, ← hs0] at fin
      have Fin := Lib.hid fin
      have Con := Lib.hid con
      have Hst := Lib.hid hst
      have i0 : (0 : Int) ≤ (k : Int) := by omega
      have i1 : (k : Int) < (tss.length : Int) := by omega
      clear con hb hx o1 o2 o3 o4 hcell hin hrd fin hl hrv hr0 hs0 hgk hk' hst
      go_wp2_with (go_at_call 26; refine Con.out.mono ?_; rintro e w2 ⟨rfl, ho2, hg2⟩)
      go_roundw
      case rel =>
        have hf := Fin.out w2 ho2 hg2
        exact ⟨k + 1, by omega, by go_num, by rw [Hst.out]; go_num, hf.1, hf.2.1, hf.2.2⟩
      case measure => simp [intOf]; omega
    · have : k = tss.length := by omega
      subst this
      go_wp2
      go_ret
      exact ⟨rfl, hown, hb, hx⟩
end Go.Proofs.Ytbanpgifhnbjoaa

/- The groups of a hand: by the specification, least numbers handed on until nothing changes. -/
import Derived.Test.YteiiiceajpmndaaImpGroups
namespace Go.Proofs.Yteiiiceajpmndaa
open Go.RowKit
set_option linter.unusedVariables false

def sumN (F : Int → Int) : Nat := ((List.range 10).map fun m : Nat => (F (m : Int)).toNat).sum
def cellN : Option Value → Nat
  | some (.int _ n) => n.toNat
  | _ => 0
def sumW (w : World) (g : Nat) : Nat := ((List.range 10).map fun m : Nat => cellN (w.cell? ⟨g, m, none⟩)).sum
theorem sumW_ten {w : World} {g : Nat} {F : Int → Int} (h : Ten w g F) : sumW w g = sumN F := by
  unfold sumW sumN
  congr 1
  exact List.map_congr_left fun m hm => by rw [h.1 m (List.mem_range.1 hm)]; rfl
theorem sumN_congr {F G : Int → Int} (h : ∀ m : Nat, m < 10 → F m = G m) : sumN F = sumN G := by
  unfold sumN
  congr 1
  exact List.map_congr_left fun m hm => by rw [h m (List.mem_range.1 hm)]
theorem sum_mono : ∀ (xs : List Nat) (f g : Nat → Nat), (∀ m ∈ xs, f m ≤ g m) → (xs.map f).sum ≤ (xs.map g).sum
  | [], _, _, _ => Nat.le_refl _
  | x :: xs, f, g, h => by
    have h1 := sum_mono xs f g (fun m hm => h m (by simp [hm]))
    have h2 := h x (by simp)
    simp only [List.map_cons, List.sum_cons]
    omega
theorem sum_lt : ∀ (xs : List Nat) (f g : Nat → Nat), (∀ m ∈ xs, f m ≤ g m) → ∀ x ∈ xs, f x < g x → (xs.map f).sum < (xs.map g).sum
  | [], _, _, _, x, hx, _ => by simp at hx
  | y :: xs, f, g, h, x, hx, hlt => by
    have h2 := h y (by simp)
    simp only [List.map_cons, List.sum_cons]
    rcases List.mem_cons.1 hx with rfl | hx
    · have h1 := sum_mono xs f g (fun m hm => h m (by simp [hm]))
      omega
    · have h1 := sum_lt xs f g (fun m hm => h m (by simp [hm])) x hx hlt
      omega
theorem sumN_lt {F G : Int → Int} (hle : ∀ m : Nat, m < 10 → F m ≤ G m) (h0 : ∀ m : Nat, m < 10 → 0 ≤ F m) {x : Nat} (hx : x < 10) (hlt : F x < G x) : sumN F < sumN G :=
  sum_lt _ _ _ (fun m hm => by have := hle m (List.mem_range.1 hm); omega) x (List.mem_range.2 hx) (by have := h0 x hx; omega)

structure Fix (ts : List (Int × Int)) (F : Int → Int) : Prop where
  lo : ∀ m : Nat, m < 10 → 0 ≤ F m
  le : ∀ m : Nat, m < 10 → F m ≤ m
  eqv : ∀ h : Int → Int, (∀ t ∈ ts, h t.1 = h t.2) → ∀ m : Nat, m < 10 → h (F m) = h m
theorem Fix.done {ts : List (Int × Int)} {F : Int → Int} (hF : Fix ts F) (hg : ∀ t ∈ ts, goodB t.1 t.2 = true) (hc : ∀ t ∈ ts, F t.1 = F t.2) : ∀ m : Nat, m < 10 → F m = lfn ts m := by
  have hG : IsLeast ts (fun x => if 0 ≤ x ∧ x < 10 then F x else x) := {
    le := fun x => by
      by_cases h : 0 ≤ x ∧ x < 10
      · have := hF.le x.toNat (by omega)
        rw [show ((x.toNat : Nat) : Int) = x from by omega] at this
        simp only [h, and_self, if_true]; exact this
      · simp only [h, if_false]; exact Int.le_refl x
    eqv := fun k hk x => by
      by_cases h : 0 ≤ x ∧ x < 10
      · have := hF.eqv k hk x.toNat (by omega)
        rw [show ((x.toNat : Nat) : Int) = x from by omega] at this
        simp only [h, and_self, if_true]; exact this
      · simp only [h, if_false]
    con := fun t ht => by
      have hb := good_bd (hg t ht)
      have h1 : 0 ≤ t.1 ∧ t.1 < 10 := by omega
      have h2 : 0 ≤ t.2 ∧ t.2 < 10 := by omega
      simp only [h1, h2, and_self, if_true]
      exact hc t ht }
  intro m hm
  have e := congrFun (hG.unique (lfn_isLeast ts)) (m : Int)
  have h : (0 : Int) ≤ m ∧ (m : Int) < 10 := by omega
  simpa only [h, and_self, if_true] using e
def updF (F : Int → Int) (a : Nat) (v : Int) : Int → Int := fun x => if x = (a : Int) then v else F x
theorem updF_same (F : Int → Int) (a : Nat) (v : Int) : updF F a v a = v := by simp [updF]
theorem updF_other (F : Int → Int) {a m : Nat} (v : Int) (h : m ≠ a) : updF F a v m = F m := by
  have : ¬ (m : Int) = (a : Int) := by omega
  simp [updF, this]
theorem Ten.upd {w : World} {g a : Nat} {F : Int → Int} (h : Ten w g F) (ha : a < 10) (v : Int) : Ten (w.setCell ⟨g, a, none⟩ (.int .i64 v)) g (updF F a v) :=
  h.set ha v (updF_same F a v) (fun m _ hne => updF_other F v hne)
theorem Fix.upd {ts : List (Int × Int)} {F : Int → Int} (hF : Fix ts F) {a b : Nat} (ha : a < 10) (hb : b < 10) (hab : ∀ h : Int → Int, (∀ t ∈ ts, h t.1 = h t.2) → h a = h b) (hlt : F b < F a) : Fix ts (updF F a (F b)) where
  lo m hm := by
    by_cases e : m = a
    · subst e; rw [updF_same]; exact hF.lo b hb
    · rw [updF_other F _ e]; exact hF.lo m hm
  le m hm := by
    by_cases e : m = a
    · subst e; rw [updF_same]; have := hF.le m hm; omega
    · rw [updF_other F _ e]; exact hF.le m hm
  eqv h hh m hm := by
    by_cases e : m = a
    · subst e; rw [updF_same, hF.eqv h hh b hb]; exact (hab h hh).symm
    · rw [updF_other F _ e]; exact hF.eqv h hh m hm

/-- What one pass keeps: it begins with F0, is at tile j, and holds F now. -/
structure Pass (ts : List (Int × Int)) (F0 : Int → Int) (j : Nat) (ch : Bool) (F : Int → Int) : Prop where
  fix : Fix ts F
  le0 : ∀ m : Nat, m < 10 → F m ≤ F0 m
  less : ch = true → ∃ x : Nat, x < 10 ∧ F x < F0 x
  same : ch = false → (∀ m : Nat, m < 10 → F m = F0 m) ∧ ∀ t ∈ ts.take j, F t.1 = F t.2
theorem Pass.start {ts : List (Int × Int)} {F : Int → Int} (h : Fix ts F) : Pass ts F 0 false F := ⟨h, fun m _ => Int.le_refl _, fun h => (by cases h), fun _ => ⟨fun _ _ => rfl, by simp⟩⟩
theorem Pass.keep {ts : List (Int × Int)} {F0 F : Int → Int} {j : Nat} {ch : Bool} (h : Pass ts F0 j ch F) (hj : j < ts.length) (he : F ts[j].1 = F ts[j].2) : Pass ts F0 (j + 1) ch F :=
  ⟨h.fix, h.le0, h.less, fun hc => ⟨(h.same hc).1, fun t ht => by
    rw [List.take_succ_eq_append_getElem hj] at ht
    rcases List.mem_append.1 ht with h1 | h1
    · exact (h.same hc).2 t h1
    · rw [List.mem_singleton.1 h1]; exact he⟩⟩
theorem Pass.turn {ts : List (Int × Int)} {F0 F : Int → Int} {j : Nat} {ch : Bool} (h : Pass ts F0 j ch F) {a b : Nat} (ha : a < 10) (hb : b < 10) (hab : ∀ h : Int → Int, (∀ t ∈ ts, h t.1 = h t.2) → h a = h b) (hlt : F b < F a) : Pass ts F0 (j + 1) true (updF F a (F b)) where
  fix := h.fix.upd ha hb hab hlt
  le0 m hm := by
    have h1 := h.le0 m hm
    by_cases e : m = a
    · subst e; rw [updF_same]; omega
    · rw [updF_other F _ e]; exact h1
  less _ := ⟨a, ha, by rw [updF_same]; have := h.le0 a ha; omega⟩
  same hc := by cases hc

def grpS (f : Int → Int) (l : Int) (j : Nat) : List Int := ((List.range j).filter fun x : Nat => decide (f (x : Int) = l)).map fun x : Nat => (x : Int)
theorem grpS_yes {f : Int → Int} {l : Int} {k : Nat} (h : f k = l) : grpS f l (k + 1) = grpS f l k ++ [(k : Int)] := by
  unfold grpS
  rw [List.range_succ, List.filter_append, List.map_append]
  simp [h]
theorem grpS_no {f : Int → Int} {l : Int} {k : Nat} (h : ¬ f k = l) : grpS f l (k + 1) = grpS f l k := by
  unfold grpS
  rw [List.range_succ, List.filter_append]
  simp [h]
theorem grpS_len (f : Int → Int) (l : Int) (k : Nat) : (grpS f l k).length ≤ k := by
  unfold grpS
  rw [List.length_map]
  exact Nat.le_trans (List.length_filter_le _ _) (by simp)
def headB (f : Int → Int) (ts : List (Int × Int)) (i : Nat) : Bool := decide (f (i : Int) = i) && !decide (timesI ts (i : Int) = 0)
def specTo (f : Int → Int) (ts : List (Int × Int)) (k : Nat) : List (List Int) := ((List.range k).filter (headB f ts)).map fun i : Nat => grpS f (i : Int) 10
theorem specTo_yes {f : Int → Int} {ts : List (Int × Int)} {k : Nat} (h : headB f ts k = true) : specTo f ts (k + 1) = specTo f ts k ++ [grpS f k 10] := by
  unfold specTo
  rw [List.range_succ, List.filter_append, List.map_append]
  simp [h]
theorem specTo_no {f : Int → Int} {ts : List (Int × Int)} {k : Nat} (h : headB f ts k = false) : specTo f ts (k + 1) = specTo f ts k := by
  unfold specTo
  rw [List.range_succ, List.filter_append]
  simp [h]
theorem specTo_len (f : Int → Int) (ts : List (Int × Int)) (k : Nat) : (specTo f ts k).length ≤ k := by
  unfold specTo
  rw [List.length_map]
  exact Nat.le_trans (List.length_filter_le _ _) (by simp)

theorem hit_le : ∀ (ts : List (Int × Int)) (t : Int × Int) (q : Int), t ∈ ts → hitI t q ≤ timesI ts q
  | s :: ts, t, q, h => by
    have e : timesI (s :: ts) q = hitI s q + timesI ts q := by simp [timesI]
    have h1 := hitI_bd s q
    have h2 := (timesI_bd ts q ts.length (Nat.le_refl _)).1
    rw [List.take_length] at h2
    rcases List.mem_cons.1 h with rfl | h
    · omega
    · have := hit_le ts t q h
      omega
theorem alone {ts : List (Int × Int)} {x : Int} (h : ¬ 0 < timesI ts x) (y : Int) (hy : lfn ts y = x) : y = x := by
  have hno : ∀ t ∈ ts, t.1 ≠ x ∧ t.2 ≠ x := fun t ht => by
    have h1 := hit_le ts t x ht
    unfold hitI at h1
    refine ⟨fun e => ?_, fun e => ?_⟩
    · rw [if_pos e] at h1; split at h1 <;> omega
    · rw [if_pos e] at h1; split at h1 <;> omega
  have e := (lfn_isLeast ts).eqv (fun z => if z = x then (1 : Int) else 0) (fun t ht => by simp [hno t ht]) y
  simp only [hy, if_true] at e
  by_cases h0 : y = x
  · exact h0
  · simp [h0] at e
theorem alone' {ts : List (Int × Int)} {x : Int} (h : ¬ 0 < timesI ts x) : lfn ts x = x := by
  have hno : ∀ t ∈ ts, t.1 ≠ x ∧ t.2 ≠ x := fun t ht => by
    have h1 := hit_le ts t x ht
    unfold hitI at h1
    refine ⟨fun e => ?_, fun e => ?_⟩
    · rw [if_pos e] at h1; split at h1 <;> omega
    · rw [if_pos e] at h1; split at h1 <;> omega
  have e := (lfn_isLeast ts).eqv (fun z => if z = x then (1 : Int) else 0) (fun t ht => by simp [hno t ht]) x
  simp only [if_true] at e
  by_cases h0 : lfn ts x = x
  · exact h0
  · simp [h0] at e
theorem groups_eq (ts : List (Int × Int)) : specTo (lfn ts) ts 10 = groupsL ts := by
  have hid := lfn_idem ts
  have hgrp : ∀ i : Nat, 0 < timesI ts i → grpL (lfn ts) (numsTo ts 10) i = grpS (lfn ts) i 10 := fun i hi => by
    unfold grpL grpS numsTo
    rw [List.filter_map, List.filter_filter]
    congr 1
    refine List.filter_congr fun x _ => ?_
    rw [Bool.eq_iff_iff]
    simp only [Function.comp, Bool.and_eq_true, decide_eq_true_eq]
    refine ⟨fun h => h.1, fun h => ⟨h, ?_⟩⟩
    by_cases h0 : 0 < timesI ts (x : Int)
    · exact h0
    · have := alone' h0
      rw [h] at this
      rw [this] at hi
      exact hi
  unfold groupsL grpTo specTo
  rw [List.take_length]
  have e1 : (numsTo ts 10).map (grpL (lfn ts) (numsTo ts 10)) = ((List.range 10).filter fun i : Nat => decide (0 < timesI ts (i : Int))).map fun i : Nat => grpL (lfn ts) (numsTo ts 10) (i : Int) := by
    conv => lhs; arg 2; unfold numsTo
    rw [List.map_map]; rfl
  rw [e1, List.filter_map, List.filter_filter]
  have e2 : (List.range 10).filter (headB (lfn ts) ts) = (List.range 10).filter (fun a : Nat => (((fun p : List Int => !p.isEmpty) ∘ fun i : Nat => grpL (lfn ts) (numsTo ts 10) (i : Int)) a) && decide (0 < timesI ts (a : Int))) := by
    refine List.filter_congr fun i hi => ?_
    have hi' := List.mem_range.1 hi
    have hnn := (timesI_bd ts (i : Int) ts.length (Nat.le_refl _)).1
    rw [List.take_length] at hnn
    unfold headB
    rw [Bool.eq_iff_iff]
    simp only [Function.comp, Bool.and_eq_true, Bool.not_eq_true', decide_eq_true_eq, decide_eq_false_iff_not, List.isEmpty_eq_false_iff]
    constructor
    · rintro ⟨h1, h2⟩
      have h3 : 0 < timesI ts (i : Int) := by omega
      refine ⟨fun h0 => ?_, h3⟩
      rw [hgrp i h3] at h0
      have : (i : Int) ∈ grpS (lfn ts) i 10 := by
        unfold grpS
        exact List.mem_map.2 ⟨i, List.mem_filter.2 ⟨hi, by simpa using h1⟩, rfl⟩
      rw [h0] at this
      simp at this
    · rintro ⟨h1, h2⟩
      refine ⟨?_, by omega⟩
      obtain ⟨x, xs, hx⟩ := List.exists_cons_of_ne_nil h1
      have hm : x ∈ grpL (lfn ts) (numsTo ts 10) i := by rw [hx]; simp
      have he := of_decide_eq_true (List.mem_filter.1 hm).2
      have := hid x
      rw [he] at this
      exact this
  rw [e2]
  refine List.map_congr_left fun i hi => ?_
  have h := (List.mem_filter.1 hi).2
  simp only [Bool.and_eq_true, decide_eq_true_eq] at h
  exact (hgrp i h.2).symm
end Go.Proofs.Yteiiiceajpmndaa

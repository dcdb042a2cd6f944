/- Whole chains counted: where there is a way to lay all tiles from a number on, the tiles hang together with it, and it is one of two odd numbers, or there are none. No function of the program is named here. -/
import Derived.Test.YtcofambcicnonaaWcM
import Derived.Test.YtcofambcicnonaaCan
import Derived.Test.YtcofambcicnonaaPzM
namespace Go.Proofs.Ytcofambcicnonaa
open Go.RowKit
set_option linter.unusedVariables false

/-- What the specification asks of a number before it goes on from there. -/
def fromB (P : List (Int × Int)) (x : Int) : Bool := decide (P.length = 0) || (decide ((partL P x).length = P.length) && (decide ((oddTo P 10).length = 0) || (decide ((oddTo P 10).length = 2) && decide (x ∈ oddTo P 10))))
theorem hand_woT {P : List (Int × Int)} (h : handB P = true) (t : Int × Int) : handB (woT P t) = true := by
  have hp : handP P := of_decide_eq_true h
  refine decide_eq_true ⟨Nat.le_trans (List.length_filter_le _ _) hp.1, fun u hu => hp.2.1 u (mem_woT.1 hu).1, hp.2.2.filter _⟩
theorem part_all {P : List (Int × Int)} (h : handB P = true) (x : Int) : (partL P x).length = P.length ↔ ∀ t ∈ P, lfn P t.1 = lfn P x := by
  unfold partL
  rw [← sortP_len h, List.length_filter_eq_length_iff]
  constructor
  · intro hh t ht
    have := hh t ((sortP_perm h).mem_iff.2 ht)
    simpa using this
  · intro hh t ht
    have := hh t ((sortP_perm h).mem_iff.1 ht)
    simpa using this
theorem times_woT : ∀ {P : List (Int × Int)} {t : Int × Int} (n : Int), P.Nodup → t ∈ P → timesI P n = hitI t n + timesI (woT P t) n
  | [], t, n, _, h => by simp at h
  | u :: P, t, n, hn, h => by
    rw [List.nodup_cons] at hn
    rw [times_cons]
    by_cases e : u = t
    · subst e
      have : woT (u :: P) u = P := by
        unfold woT
        rw [List.filter_cons_of_neg (by simp)]
        exact List.filter_eq_self.2 fun v hv => by rw [decide_eq_true_eq]; rintro rfl; exact hn.1 hv
      rw [this]
    · have : woT (u :: P) t = u :: woT P t := by
        unfold woT
        rw [List.filter_cons_of_pos (by simp [e])]
      rw [this, times_cons, times_woT n hn.2 ((List.mem_cons.1 h).resolve_left fun e2 => e e2.symm)]
      omega
/-- A property turned around at one place. -/
def tog (p : Nat → Bool) (a : Nat) (n : Nat) : Bool := if n = a then !p n else p n
theorem tog_out {p : Nat → Bool} {a : Nat} : ∀ {L : List Nat}, a ∉ L → L.filter (tog p a) = L.filter p := fun {L} h => List.filter_congr fun n hn => by
  unfold tog
  rw [if_neg]
  rintro rfl
  exact h hn
theorem tog_len {p : Nat → Bool} {a : Nat} : ∀ {L : List Nat}, L.Nodup → a ∈ L → (p a = true → (L.filter (tog p a)).length + 1 = (L.filter p).length) ∧ (p a = false → (L.filter (tog p a)).length = (L.filter p).length + 1)
  | [], _, h => by simp at h
  | n :: L, hn, h => by
    rw [List.nodup_cons] at hn
    by_cases e : n = a
    · subst e
      have h1 := tog_out (p := p) hn.1
      have h2 : tog p n n = !p n := by unfold tog; rw [if_pos rfl]
      refine ⟨fun hp => ?_, fun hp => ?_⟩
      · rw [List.filter_cons_of_neg (by rw [h2, hp]; simp), List.filter_cons_of_pos hp, h1, List.length_cons]
      · rw [List.filter_cons_of_pos (by rw [h2, hp]; rfl), List.filter_cons_of_neg (by rw [hp]; simp), h1, List.length_cons]
    · have ih := tog_len hn.2 ((List.mem_cons.1 h).resolve_left fun e2 => e e2.symm) (p := p)
      have h2 : tog p a n = p n := by unfold tog; rw [if_neg e]
      by_cases hp : p n = true
      · rw [List.filter_cons_of_pos (by rw [h2]; exact hp), List.filter_cons_of_pos hp, List.length_cons, List.length_cons]
        exact ⟨fun h => by have := ih.1 h; omega, fun h => by have := ih.2 h; omega⟩
      · rw [List.filter_cons_of_neg (by rw [h2]; exact hp), List.filter_cons_of_neg hp]
        exact ih
/-- The odd numbers below 10, as many. -/
def oc (P : List (Int × Int)) : Nat := ((List.range 10).filter fun i : Nat => oddB P (i : Int)).length
theorem oc_len (P : List (Int × Int)) : (oddTo P 10).length = oc P := by unfold oddTo oc; rw [List.length_map]
theorem mem_odd {P : List (Int × Int)} {x : Nat} (hx : x < 10) : (x : Int) ∈ oddTo P 10 ↔ oddB P (x : Int) = true := by
  unfold oddTo
  rw [List.mem_map]
  constructor
  · rintro ⟨i, hi, e⟩
    have : i = x := by omega
    subst this
    exact (List.mem_filter.1 hi).2
  · intro h
    exact ⟨x, List.mem_filter.2 ⟨List.mem_range.2 hx, h⟩, rfl⟩
theorem odd_back {P : List (Int × Int)} (hn : P.Nodup) {x y : Nat} (hx : x < 10) (hy : y < 10) (ht : tile2 (x : Int) (y : Int) ∈ P)
    (h : oc (woT P (tile2 (x : Int) (y : Int))) = 0 ∨ (oc (woT P (tile2 (x : Int) (y : Int))) = 2 ∧ oddB (woT P (tile2 (x : Int) (y : Int))) (y : Int) = true)) :
    oc P = 0 ∨ (oc P = 2 ∧ oddB P (x : Int) = true) := by
  obtain ⟨P', hP'⟩ : ∃ P', P' = woT P (tile2 (x : Int) (y : Int)) := ⟨_, rfl⟩
  have htm : ∀ n : Nat, timesI P (n : Int) = hitI (tile2 (x : Int) (y : Int)) (n : Int) + timesI P' (n : Int) := fun n => by rw [hP']; exact times_woT _ hn ht
  rw [← hP'] at h
  clear hP'
  have nn : ∀ n : Nat, 0 ≤ timesI P' (n : Int) := fun n => timesI_nonneg P' n
  by_cases hxy : x = y
  · subst hxy
    have e : ∀ n : Nat, oddB P (n : Int) = oddB P' (n : Int) := fun n => by
      unfold oddB
      rw [htm n]
      have : hitI (tile2 (x : Int) (x : Int)) (n : Int) % 2 = 0 := by
        unfold hitI tile2
        simp only [Int.min_self, Int.max_self]
        split <;> rfl
      rw [decide_eq_decide]
      omega
    have e2 : oc P = oc P' := by unfold oc; simp only [e]
    rw [e2, e]
    exact h
  · have hh : ∀ n : Nat, hitI (tile2 (x : Int) (y : Int)) (n : Int) = (if n = x then 1 else 0) + (if n = y then 1 else 0) := fun n => by
      unfold hitI tile2
      simp only
      repeat' split
      all_goals omega
    have e : ∀ n : Nat, oddB P (n : Int) = tog (tog (fun i : Nat => oddB P' (i : Int)) y) x n := fun n => by
      unfold tog oddB
      rw [htm n, hh n]
      have h0 := nn n
      by_cases h1 : n = x
      · have h2 : ¬ n = y := fun e => hxy (h1.symm.trans e)
        rw [if_pos h1, if_neg h2, if_pos h1, if_neg h2]
        rw [Bool.eq_iff_iff, Bool.not_eq_true', decide_eq_true_eq, decide_eq_false_iff_not]
        omega
      · by_cases h2 : n = y
        · rw [if_neg h1, if_pos h2, if_neg h1, if_pos h2]
          rw [Bool.eq_iff_iff, Bool.not_eq_true', decide_eq_true_eq, decide_eq_false_iff_not]
          omega
        · rw [if_neg h1, if_neg h2, if_neg h1, if_neg h2]
          rw [decide_eq_decide]
          omega
    have rn : (List.range 10).Nodup := List.nodup_range
    have t1 := tog_len (p := fun i : Nat => oddB P' (i : Int)) rn (List.mem_range.2 hy)
    have t2 := tog_len (p := tog (fun i : Nat => oddB P' (i : Int)) y) rn (List.mem_range.2 hx)
    have e2 : oc P = ((List.range 10).filter (tog (tog (fun i : Nat => oddB P' (i : Int)) y) x)).length := by unfold oc; simp only [e]
    have e3 : tog (fun i : Nat => oddB P' (i : Int)) y x = oddB P' (x : Int) := by unfold tog; rw [if_neg hxy]
    have e4 : oddB P (x : Int) = !oddB P' (x : Int) := by rw [e x]; show (if x = x then _ else _) = _; rw [if_pos rfl, e3]
    rw [e3] at t2
    rw [← e2] at t2
    have e5 : oc P' = ((List.range 10).filter fun i : Nat => oddB P' (i : Int)).length := rfl
    rw [← e5] at t1
    rw [e4]
    -- none of a list's elements has a property when none is left
    have hz : oc P' = 0 → ∀ n : Nat, n < 10 → oddB P' (n : Int) = false := fun h0 n hn' => by
      cases hb : oddB P' (n : Int) with
      | false => rfl
      | true =>
        have hm : n ∈ (List.range 10).filter fun i : Nat => oddB P' (i : Int) := List.mem_filter.2 ⟨List.mem_range.2 hn', hb⟩
        have hnil : ((List.range 10).filter fun i : Nat => oddB P' (i : Int)) = [] := List.eq_nil_of_length_eq_zero (by rw [← e5]; exact h0)
        rw [hnil] at hm
        simp at hm
    cases hbx : oddB P' (x : Int) with
    | true =>
      rcases h with h | ⟨h, hy1⟩
      · rw [hz h x hx] at hbx; cases hbx
      · have a1 := t1.1 hy1
        have a2 := t2.1 hbx
        exact .inl (by omega)
    | false =>
      refine .inr ⟨?_, rfl⟩
      have a2 := t2.2 hbx
      rcases h with h | ⟨h, hy1⟩
      · have a1 := t1.2 (hz h y hy)
        omega
      · have a1 := t1.1 hy1
        omega
theorem fromB_iff {P : List (Int × Int)} (h : handB P = true) {x : Nat} (hx : x < 10) : fromB P (x : Int) = true ↔ P.length = 0 ∨ ((∀ t ∈ P, lfn P t.1 = lfn P (x : Int)) ∧ (oc P = 0 ∨ (oc P = 2 ∧ oddB P (x : Int) = true))) := by
  unfold fromB
  rw [Bool.or_eq_true, Bool.and_eq_true, Bool.or_eq_true, Bool.and_eq_true, decide_eq_true_eq, decide_eq_true_eq, decide_eq_true_eq, decide_eq_true_eq, decide_eq_true_eq, part_all h, oc_len, mem_odd hx]
theorem from_back {P : List (Int × Int)} (h : handB P = true) {x y : Nat} (hx : x < 10) (hy : y < 10) (ht : tile2 (x : Int) (y : Int) ∈ P) (hf : fromB (woT P (tile2 (x : Int) (y : Int))) (y : Int) = true) : fromB P (x : Int) = true := by
  have hn := hand_nd h
  have hw := hand_woT h (tile2 (x : Int) (y : Int))
  rw [fromB_iff hw hy] at hf
  rw [fromB_iff h hx]
  have lc := (lfn_isLeast P).con
  have hxy : lfn P (x : Int) = lfn P (y : Int) := by
    have := lc _ ht
    unfold tile2 at this
    simp only at this
    rcases Nat.le_total x y with hl | hl
    · rw [Int.min_eq_left (by omega), Int.max_eq_right (by omega)] at this; exact this
    · rw [Int.min_eq_right (by omega), Int.max_eq_left (by omega)] at this; exact this.symm
  have htl : lfn P (tile2 (x : Int) (y : Int)).1 = lfn P (x : Int) := by
    unfold tile2
    simp only
    rcases Nat.le_total x y with hl | hl
    · rw [Int.min_eq_left (by omega)]
    · rw [Int.min_eq_right (by omega)]; exact hxy.symm
  refine .inr ⟨fun u hu => ?_, ?_⟩
  · by_cases e : u = tile2 (x : Int) (y : Int)
    · rw [e]; exact htl
    · have hu' : u ∈ woT P (tile2 (x : Int) (y : Int)) := mem_woT.2 ⟨hu, e⟩
      rcases hf with hf | ⟨hf, _⟩
      · rw [List.eq_nil_of_length_eq_zero hf] at hu'; simp at hu'
      · have h1 := (lfn_isLeast (woT P (tile2 (x : Int) (y : Int)))).eqv (lfn P) (fun t ht => lc t (mem_woT.1 ht).1)
        have h2 := hf u hu'
        rw [← h1 u.1, h2, h1]
        exact hxy.symm
  · refine odd_back hn hx hy ht ?_
    rcases hf with hf | ⟨_, hf⟩
    · refine .inl ?_
      rw [List.eq_nil_of_length_eq_zero hf]
      rfl
    · exact hf
/-- Where there is a way to lay all tiles, the specification goes on. -/
theorem trl_from : ∀ (f : Nat) {P : List (Int × Int)}, handB P = true → ∀ {x : Nat}, x < 10 → trl f P (x : Int) ≠ 0 → fromB P (x : Int) = true
  | 0, P, h, x, hx, hz => by
    unfold trl at hz
    rw [fromB_iff h hx]
    by_cases h0 : P.length = 0
    · exact .inl h0
    · rw [if_neg h0] at hz; exact absurd rfl hz
  | f + 1, P, h, x, hx, hz => by
    by_cases h0 : P.length = 0
    · rw [fromB_iff h hx]; exact .inl h0
    · unfold trl at hz
      rw [if_neg h0] at hz
      obtain ⟨y, hy, hne⟩ : ∃ y ∈ List.range 10, (if tile2 (x : Int) (y : Int) ∈ P then trl f (woT P (tile2 (x : Int) (y : Int))) (y : Int) else 0) ≠ 0 := by
        refine Classical.byContradiction fun hno => hz ?_
        have : ∀ y ∈ List.range 10, (if tile2 (x : Int) (y : Int) ∈ P then trl f (woT P (tile2 (x : Int) (y : Int))) (y : Int) else 0) = 0 := fun y hy => Classical.byContradiction fun h => hno ⟨y, hy, h⟩
        have h2 := sum_le_mul (m := 0) (List.range 10) (fun y : Nat => if tile2 (x : Int) (y : Int) ∈ P then trl f (woT P (tile2 (x : Int) (y : Int))) (y : Int) else 0) (fun y hy => Nat.le_of_eq (this y hy))
        omega
      have hy := List.mem_range.1 hy
      by_cases ht : tile2 (x : Int) (y : Int) ∈ P
      · rw [if_pos ht] at hne
        exact from_back h hx hy ht (trl_from f (hand_woT h _) hy hne)
      · rw [if_neg ht] at hne; exact absurd rfl hne
/-- .. and the program does. -/
theorem from_can {P : List (Int × Int)} (h : handB P = true) {x : Nat} (hx : x < 10) (hf : fromB P (x : Int) = true) : canV P false = true := by
  rw [fromB_iff h hx] at hf
  unfold canV canB
  rw [Bool.and_eq_true, decide_eq_true_eq, decide_eq_true_eq, oc_len]
  rcases hf with hf | ⟨h1, h2⟩
  · rw [List.eq_nil_of_length_eq_zero hf]
    exact ⟨by decide, by decide⟩
  · refine ⟨?_, by rcases h2 with h2 | h2 <;> simp <;> omega⟩
    unfold partsL partsTo
    rw [List.filter_map, List.length_map]
    have hall : ∀ i ∈ (List.range 10).filter ((fun p => !p.isEmpty) ∘ fun i : Nat => partAt P (i : Int)), (i : Int) = lfn P (x : Int) := fun i hi => by
      have h3 := (List.mem_filter.1 hi).2
      simp only [Function.comp] at h3
      cases hp : partAt P (i : Int) with
      | nil => rw [hp] at h3; simp at h3
      | cons t r =>
        have hm : t ∈ partAt P (i : Int) := by rw [hp]; exact List.mem_cons_self
        unfold partAt at hm
        obtain ⟨m1, m2⟩ := List.mem_filter.1 hm
        have m3 : lfn P t.1 = (i : Int) := by simpa using m2
        rw [← m3]
        exact h1 t ((sortP_perm h).mem_iff.1 m1)
    have hnd : ((List.range 10).filter ((fun p => !p.isEmpty) ∘ fun i : Nat => partAt P (i : Int))).Nodup := List.nodup_range.filter _
    generalize (List.range 10).filter ((fun p => !p.isEmpty) ∘ fun i : Nat => partAt P (i : Int)) = L at hall hnd
    match L, hall, hnd with
    | [], _, _ => simp
    | [_], _, _ => simp
    | a :: b :: L, hall, hnd =>
      have e1 := hall a List.mem_cons_self
      have e2 := hall b (List.mem_cons_of_mem _ List.mem_cons_self)
      have : a = b := by omega
      rw [List.nodup_cons] at hnd
      exact absurd (this ▸ List.mem_cons_self) hnd.1
/-- All whole chains of a hand. -/
def allN (P : List (Int × Int)) : Nat := ((List.range 10).map fun x : Nat => trl P.length P (x : Int)).sum
theorem allN_perm {P Q : List (Int × Int)} (h : P.Perm Q) : allN P = allN Q := by
  unfold allN
  rw [h.length_eq]
  congr 1
  exact List.map_congr_left fun x _ => trl_perm _ _ h
theorem allN_cannot {P : List (Int × Int)} (h : handB P = true) (hc : canV P false = false) : allN P = 0 := by
  unfold allN
  have h2 := sum_le_mul (m := 0) (List.range 10) (fun x : Nat => trl P.length P (x : Int)) (fun x hx => by
    refine Nat.le_of_eq (Classical.byContradiction fun hne => ?_)
    have := from_can h (List.mem_range.1 hx) (trl_from _ h (List.mem_range.1 hx) hne)
    rw [hc] at this
    cases this)
  omega
end Go.Proofs.Ytcofambcicnonaa

/- What hangs together in a hand: the least number of each group, by joining tile by tile; parts of a hand. No walk here. -/
import Derived.Test.YtcofambcicnonaaJoin
import Derived.Test.YtcofambcicnonaaCount
namespace Go.Proofs.Ytcofambcicnonaa
set_option linter.unusedVariables false

/-- One tile joins two groups. -/
def joinF (t : Int × Int) (f : Int → Int) : Int → Int := fun x => if f x = max (f t.1) (f t.2) then min (f t.1) (f t.2) else f x
/-- The least number that hangs together with a number. -/
def lfn (ts : List (Int × Int)) : Int → Int := ts.foldl (fun f t => joinF t f) id
theorem lfn_snoc (ts : List (Int × Int)) (t : Int × Int) : lfn (ts ++ [t]) = joinF t (lfn ts) := by simp [lfn, List.foldl_append]
theorem lfn_step {ts : List (Int × Int)} {k : Nat} (h : k < ts.length) : lfn (ts.take (k + 1)) = joinF ts[k] (lfn (ts.take k)) := by
  rw [List.take_succ_eq_append_getElem h, lfn_snoc]

structure IsLeast (ts : List (Int × Int)) (f : Int → Int) : Prop where
  le : ∀ x, f x ≤ x
  eqv : ∀ h : Int → Int, (∀ t ∈ ts, h t.1 = h t.2) → ∀ x, h (f x) = h x
  con : ∀ t ∈ ts, f t.1 = f t.2

theorem IsLeast.unique {ts : List (Int × Int)} {f g : Int → Int} (hf : IsLeast ts f) (hg : IsLeast ts g) : f = g := by
  funext x
  have h1 := hg.eqv f hf.con x
  have h2 := hf.le (g x)
  have h3 := hf.eqv g hg.con x
  have h4 := hg.le (f x)
  omega
theorem IsLeast.congr {ts us : List (Int × Int)} {f : Int → Int} (h : IsLeast ts f) (hm : ∀ t, t ∈ us ↔ t ∈ ts) : IsLeast us f :=
  ⟨h.le, fun k hk => h.eqv k (fun t ht => hk t ((hm t).2 ht)), fun t ht => h.con t ((hm t).1 ht)⟩
theorem isLeast_nil : IsLeast [] id := ⟨fun x => Int.le_refl x, fun _ _ _ => rfl, fun t h => by simp at h⟩
theorem isLeast_snoc {ts : List (Int × Int)} {f : Int → Int} (hf : IsLeast ts f) (t : Int × Int) : IsLeast (ts ++ [t]) (joinF t f) where
  le x := by
    have h0 := hf.le x
    unfold joinF
    split <;> omega
  eqv h hh x := by
    have h1 : ∀ s ∈ ts, h s.1 = h s.2 := fun s hs => hh s (by simp [hs])
    have ht := hh t (by simp)
    have e1 := hf.eqv h h1 t.1
    have e2 := hf.eqv h h1 t.2
    have e3 := hf.eqv h h1 x
    unfold joinF
    split
    · rename_i hx
      rw [hx] at e3
      rcases Int.le_total (f t.1) (f t.2) with hle | hle
      · rw [Int.min_eq_left hle]
        rw [Int.max_eq_right hle] at e3
        rw [e1, ht, ← e2, e3]
      · rw [Int.min_eq_right hle]
        rw [Int.max_eq_left hle] at e3
        rw [e2, ← ht, ← e1, e3]
    · exact e3
  con s hs := by
    rcases List.mem_append.1 hs with h | h
    · have := hf.con s h
      unfold joinF
      rw [this]
    · rw [List.mem_singleton.1 h]
      unfold joinF
      split <;> split <;> omega
theorem lfn_isLeast (ts : List (Int × Int)) : IsLeast ts (lfn ts) := by
  have aux : ∀ k, k ≤ ts.length → IsLeast (ts.take k) (lfn (ts.take k)) := by
    intro k
    induction k with
    | zero => intro _; exact isLeast_nil
    | succ k ih =>
      intro hk
      rw [lfn_step (by omega), List.take_succ_eq_append_getElem (by omega)]
      exact isLeast_snoc (ih (by omega)) _
  have := aux ts.length (Nat.le_refl _)
  rwa [List.take_length] at this
theorem lfn_idem (ts : List (Int × Int)) (x : Int) : lfn ts (lfn ts x) = lfn ts x := (lfn_isLeast ts).eqv _ (lfn_isLeast ts).con x
theorem lfn_congr {ts us : List (Int × Int)} (hm : ∀ t, t ∈ us ↔ t ∈ ts) : lfn us = lfn ts := (lfn_isLeast us).unique ((lfn_isLeast ts).congr hm)
theorem lfn_nonneg {ts : List (Int × Int)} (hg : ∀ t ∈ ts, goodB t.1 t.2 = true) {x : Int} (hx : 0 ≤ x) : 0 ≤ lfn ts x := by
  have h := (lfn_isLeast ts).eqv (fun z => if 0 ≤ z then 1 else 0) (fun t ht => by
    obtain ⟨h1, h2, h3⟩ := good_bd (hg t ht)
    have : 0 ≤ t.2 := by omega
    simp [h1, this]) x
  simp only [hx, if_true] at h
  by_cases h0 : 0 ≤ lfn ts x
  · exact h0
  · simp [h0] at h

/-- A list of numbers that holds n, what hangs together with n alone, and of each tile both numbers or none. -/
theorem reached_iff {ts : List (Int × Int)} {n : Int} {rs : List Int} (h1 : n ∈ rs) (h2 : ∀ y ∈ rs, lfn ts y = lfn ts n) (h3 : ∀ t ∈ ts, (t.1 ∈ rs ↔ t.2 ∈ rs)) (y : Int) : y ∈ rs ↔ lfn ts y = lfn ts n := by
  refine ⟨h2 y, fun h => ?_⟩
  have hc : ∀ t ∈ ts, (fun z => if z ∈ rs then (1 : Int) else 0) t.1 = (fun z => if z ∈ rs then (1 : Int) else 0) t.2 := fun t ht => by
    have := h3 t ht
    by_cases h0 : t.1 ∈ rs
    · simp [h0, this.1 h0]
    · have h00 : t.2 ∉ rs := fun hh => h0 (this.2 hh)
      simp [h0, h00]
  have e1 := (lfn_isLeast ts).eqv (fun z => if z ∈ rs then (1 : Int) else 0) hc y
  have e2 := (lfn_isLeast ts).eqv (fun z => if z ∈ rs then (1 : Int) else 0) hc n
  rw [h] at e1
  simp only [h1, if_true] at e2
  rw [e2] at e1
  by_cases h0 : y ∈ rs
  · exact h0
  · simp [h0] at e1

/-- The tiles that hang together with a number. -/
def partL (ts : List (Int × Int)) (n : Int) : List (Int × Int) := (sortL ts).filter fun t => decide (lfn ts t.1 = lfn ts n)
theorem partL_len (ts : List (Int × Int)) (n : Int) : (partL ts n).length ≤ 110 := Nat.le_trans (List.length_filter_le _ _) (sortL_len ts)
/-- The part with a least number. -/
def partAt (ts : List (Int × Int)) (l : Int) : List (Int × Int) := (sortL ts).filter fun t => decide (lfn ts t.1 = l)
theorem partAt_len (ts : List (Int × Int)) (l : Int) : (partAt ts l).length ≤ 110 := Nat.le_trans (List.length_filter_le _ _) (sortL_len ts)
/-- The parts whose least numbers are below k. -/
def partsTo (ts : List (Int × Int)) (k : Nat) : List (List (Int × Int)) := ((List.range k).map fun i : Nat => partAt ts (i : Int)).filter fun p => !p.isEmpty
theorem partsTo_no {ts : List (Int × Int)} {k : Nat} (h : partAt ts k = []) : partsTo ts (k + 1) = partsTo ts k := by
  unfold partsTo
  rw [List.range_succ, List.map_append, List.filter_append]
  simp [h]
theorem partsTo_yes {ts : List (Int × Int)} {k : Nat} (h : partAt ts k ≠ []) : partsTo ts (k + 1) = partsTo ts k ++ [partAt ts k] := by
  unfold partsTo
  rw [List.range_succ, List.map_append, List.filter_append]
  simp [h]
theorem partsTo_len (ts : List (Int × Int)) (k : Nat) : (partsTo ts k).length ≤ k := by
  unfold partsTo
  exact Nat.le_trans (List.length_filter_le _ _) (by simp)
theorem partsTo_skip {ts : List (Int × Int)} {m k : Nat} (hmk : m ≤ k) (h : ∀ i, m ≤ i → i < k → partAt ts i = []) : partsTo ts k = partsTo ts m := by
  obtain ⟨d, rfl⟩ := Nat.le.dest hmk
  induction d with
  | zero => rfl
  | succ d ih =>
    rw [show m + (d + 1) = (m + d) + 1 from rfl, partsTo_no (h _ (by omega) (by omega)), ih (by omega) (fun i h1 h2 => h i h1 (by omega))]
def partsL (ts : List (Int × Int)) : List (List (Int × Int)) := partsTo ts 10
def partsHL (ts : List (Int × Int)) : List (List (Int × Int)) := if handB ts then partsL ts else []

/-- The tiles whose groups' least numbers are not below m. -/
def fromL (ts : List (Int × Int)) (m : Nat) : List (Int × Int) := (sortL ts).filter fun t => decide ((m : Int) ≤ lfn ts t.1)
theorem fromL_len (ts : List (Int × Int)) (m : Nat) : (fromL ts m).length ≤ 110 := Nat.le_trans (List.length_filter_le _ _) (sortL_len ts)
section
variable {ts : List (Int × Int)} (hg : ∀ t ∈ ts, goodB t.1 t.2 = true)
include hg
theorem fromL_mem {m : Nat} {t : Int × Int} : t ∈ fromL ts m ↔ t ∈ ts ∧ (m : Int) ≤ lfn ts t.1 := by
  unfold fromL
  rw [List.mem_filter, mem_sortL hg, decide_eq_true_eq]
theorem fromL_good {m : Nat} : ∀ t ∈ fromL ts m, goodB t.1 t.2 = true := fun t ht => hg t ((fromL_mem hg).1 ht).1
theorem fromL_zero : fromL ts 0 = sortL ts := by
  unfold fromL
  refine List.filter_eq_self.2 fun t ht => ?_
  have ht' := (mem_sortL hg t).1 ht
  have := lfn_nonneg hg (good_bd (hg t ht')).1
  simpa using this
/-- The first tile that is left begins with its group's least number. -/
theorem fromL_first {m : Nat} {t : Int × Int} {rest : List (Int × Int)} (h : fromL ts m = t :: rest) : lfn ts t.1 = t.1 := by
  have hle := (lfn_isLeast ts).le t.1
  rcases Int.lt_or_le (lfn ts t.1) t.1 with hlt | hge
  · exfalso
    have hmem : t ∈ fromL ts m := by rw [h]; simp
    have ht := (fromL_mem hg).1 hmem
    have hsort : (fromL ts m).Pairwise ltT := (pickL_sorted ts true).filter _
    rw [h] at hsort
    have hfirst := (List.pairwise_cons.1 hsort).1
    have key : ∀ s ∈ ts, lfn ts s.1 = lfn ts t.1 → t.1 ≤ s.1 := fun s hs e => by
      have hs' : s ∈ fromL ts m := (fromL_mem hg).2 ⟨hs, by rw [e]; exact ht.2⟩
      rw [h] at hs'
      rcases List.mem_cons.1 hs' with e' | h'
      · rw [e']; exact Int.le_refl _
      · have := hfirst s h'
        unfold ltT at this
        omega
    have hid := lfn_idem ts t.1
    obtain ⟨v, hv⟩ : ∃ v, v = lfn ts t.1 := ⟨_, rfl⟩
    rw [← hv] at hid hlt key
    by_cases hex : ∃ s ∈ ts, s.1 = v ∨ s.2 = v
    · obtain ⟨s, hs, h1 | h2⟩ := hex
      · have := key s hs (by rw [h1]; exact hid)
        omega
      · have hb := good_bd (hg s hs)
        have := key s hs (by rw [(lfn_isLeast ts).con s hs, h2]; exact hid)
        omega
    · have hc : ∀ s ∈ ts, (fun z => if z = v then (1 : Int) else 0) s.1 = (fun z => if z = v then (1 : Int) else 0) s.2 := fun s hs => by
        have h1 : s.1 ≠ v := fun e => hex ⟨s, hs, .inl e⟩
        have h2 : s.2 ≠ v := fun e => hex ⟨s, hs, .inr e⟩
        simp [h1, h2]
      have e1 := (lfn_isLeast ts).eqv (fun z => if z = v then (1 : Int) else 0) hc t.1
      rw [← hv] at e1
      have : ¬ t.1 = v := by omega
      simp [this] at e1
  · omega
theorem sort_fromL (m : Nat) : sortL (fromL ts m) = fromL ts m :=
  sorted_ext (pickL_sorted _ true) ((pickL_sorted ts true).filter _) (fun x => mem_sortL (fromL_good hg) x)
theorem part_fromL {m : Nat} {t : Int × Int} {rest : List (Int × Int)} (h : fromL ts m = t :: rest) : partL (fromL ts m) t.1 = partAt ts t.1 := by
  have hf := fromL_first hg h
  have hmem : t ∈ fromL ts m := by rw [h]; simp
  have ht := (fromL_mem hg).1 hmem
  rw [hf] at ht
  refine sorted_ext ((pickL_sorted _ true).filter _) ((pickL_sorted ts true).filter _) (fun x => ?_)
  unfold partL partAt
  rw [List.mem_filter, List.mem_filter, mem_sortL (fromL_good hg), mem_sortL hg, fromL_mem hg, decide_eq_true_eq, decide_eq_true_eq]
  constructor
  · rintro ⟨⟨hx, hmx⟩, he⟩
    refine ⟨hx, ?_⟩
    have hc : ∀ s ∈ fromL ts m, lfn ts s.1 = lfn ts s.2 := fun s hs => (lfn_isLeast ts).con s ((fromL_mem hg).1 hs).1
    have e1 := (lfn_isLeast (fromL ts m)).eqv _ hc x.1
    have e2 := (lfn_isLeast (fromL ts m)).eqv _ hc t.1
    rw [he] at e1
    omega
  · rintro ⟨hx, he⟩
    refine ⟨⟨hx, by rw [he]; exact ht.2⟩, ?_⟩
    have hc : ∀ s ∈ ts, (fun z => if (m : Int) ≤ lfn ts z then lfn (fromL ts m) z else -1) s.1 = (fun z => if (m : Int) ≤ lfn ts z then lfn (fromL ts m) z else -1) s.2 := fun s hs => by
      have hcs := (lfn_isLeast ts).con s hs
      by_cases hm : (m : Int) ≤ lfn ts s.1
      · have hm2 : (m : Int) ≤ lfn ts s.2 := by omega
        have := (lfn_isLeast (fromL ts m)).con s ((fromL_mem hg).2 ⟨hs, hm⟩)
        simp [hm, hm2, this]
      · have hm2 : ¬ (m : Int) ≤ lfn ts s.2 := by omega
        simp [hm, hm2]
    have e1 := (lfn_isLeast ts).eqv (fun z => if (m : Int) ≤ lfn ts z then lfn (fromL ts m) z else -1) hc x.1
    have hm1 : (m : Int) ≤ lfn ts t.1 := by rw [hf]; exact ht.2
    have hm2 : (m : Int) ≤ lfn ts x.1 := by rw [he]; exact ht.2
    simp only [he, hm1, if_true, ht.2] at e1
    exact e1.symm
theorem fromL_next {m : Nat} {t : Int × Int} {rest : List (Int × Int)} (h : fromL ts m = t :: rest) : ∃ l : Nat, t.1 = l ∧ m ≤ l ∧ l ≤ 9 ∧ partAt ts l ≠ [] ∧ partsTo ts (l + 1) = partsTo ts m ++ [partAt ts l] ∧
    thoseL (fromL ts m) (partAt ts l) false = fromL ts (l + 1) := by
  have hf := fromL_first hg h
  have hmem : t ∈ fromL ts m := by rw [h]; simp
  have ht := (fromL_mem hg).1 hmem
  rw [hf] at ht
  have hb := good_bd (hg t ht.1)
  have hsort : (fromL ts m).Pairwise ltT := (pickL_sorted ts true).filter _
  rw [h] at hsort
  have hfirst := (List.pairwise_cons.1 hsort).1
  have key : ∀ s ∈ ts, (m : Int) ≤ lfn ts s.1 → t.1 ≤ lfn ts s.1 := fun s hs e => by
    have hs' : s ∈ fromL ts m := (fromL_mem hg).2 ⟨hs, e⟩
    -- the least number of s's group begins a tile too
    have hid := lfn_idem ts s.1
    obtain ⟨v, hv⟩ : ∃ v, v = lfn ts s.1 := ⟨_, rfl⟩
    rw [← hv] at hid e ⊢
    have low : ∀ u ∈ ts, lfn ts u.1 = v → t.1 ≤ u.1 := fun u hu eu => by
      have hu' : u ∈ fromL ts m := (fromL_mem hg).2 ⟨hu, by rw [eu]; exact e⟩
      rw [h] at hu'
      rcases List.mem_cons.1 hu' with e' | h'
      · rw [e']; exact Int.le_refl _
      · have := hfirst u h'
        unfold ltT at this
        omega
    by_cases hex : ∃ u ∈ ts, u.1 = v ∨ u.2 = v
    · obtain ⟨u, hu, h1 | h2⟩ := hex
      · have := low u hu (by rw [h1]; exact hid)
        omega
      · have hb := good_bd (hg u hu)
        have := low u hu (by rw [(lfn_isLeast ts).con u hu, h2]; exact hid)
        omega
    · have hc : ∀ u ∈ ts, (fun z => if z = v then (1 : Int) else 0) u.1 = (fun z => if z = v then (1 : Int) else 0) u.2 := fun u hu => by
        have h1 : u.1 ≠ v := fun e => hex ⟨u, hu, .inl e⟩
        have h2 : u.2 ≠ v := fun e => hex ⟨u, hu, .inr e⟩
        simp [h1, h2]
      have e1 := (lfn_isLeast ts).eqv (fun z => if z = v then (1 : Int) else 0) hc s.1
      rw [← hv] at e1
      have h1 : s.1 ≠ v := fun e => hex ⟨s, hs, .inl e⟩
      simp [h1] at e1
  refine ⟨t.1.toNat, by omega, by omega, by omega, ?_, ?_, ?_⟩
  all_goals rw [show ((t.1.toNat : Nat) : Int) = t.1 from by omega] <;> skip
  · intro h0
    have : t ∈ partAt ts t.1 := by
      unfold partAt
      rw [List.mem_filter, mem_sortL hg, decide_eq_true_eq]
      exact ⟨ht.1, hf⟩
    rw [h0] at this
    simp at this
  · rw [partsTo_yes]
    · rw [show ((t.1.toNat : Nat) : Int) = t.1 from by omega, partsTo_skip (m := m) (by omega)]
      intro i h1 h2
      refine List.filter_eq_nil_iff.2 fun s hs => ?_
      have hs' := (mem_sortL hg s).1 hs
      intro hd
      have hd' := of_decide_eq_true hd
      have := key s hs' (by omega)
      omega
    · rw [show ((t.1.toNat : Nat) : Int) = t.1 from by omega]
      intro h0
      have : t ∈ partAt ts t.1 := by
        unfold partAt
        rw [List.mem_filter, mem_sortL hg, decide_eq_true_eq]
        exact ⟨ht.1, hf⟩
      rw [h0] at this
      simp at this
  · refine sorted_ext ((pickL_sorted _ true).filter _) ((pickL_sorted ts true).filter _) (fun x => ?_)
    have e0 : x ∈ fromL ts (t.1.toNat + 1) ↔ x ∈ ts ∧ ((t.1.toNat + 1 : Nat) : Int) ≤ lfn ts x.1 := fromL_mem hg
    show x ∈ thoseL (fromL ts m) (partAt ts t.1) false ↔ x ∈ fromL ts (t.1.toNat + 1)
    rw [e0]
    unfold thoseL
    rw [List.mem_filter, mem_sortL (fromL_good hg), fromL_mem hg]
    unfold pickB partAt
    simp only [List.mem_filter, mem_sortL hg, beq_false, Bool.not_eq_true', decide_eq_false_iff_not, decide_eq_true_eq]
    constructor
    · rintro ⟨⟨h1, h2⟩, h3⟩
      have := key x h1 h2
      have h4 : lfn ts x.1 ≠ t.1 := fun e => h3 ⟨h1, e⟩
      exact ⟨h1, by omega⟩
    · rintro ⟨h1, h2⟩
      refine ⟨⟨h1, by omega⟩, fun h3 => ?_⟩
      have := h3.2
      omega
/-- Where no tile is left, all parts are told. -/
theorem fromL_done {m : Nat} (hm : m ≤ 10) (h : fromL ts m = []) : partsTo ts m = partsL ts := by
  unfold partsL
  rw [partsTo_skip (m := m) (k := 10) hm]
  intro i h1 h2
  refine List.filter_eq_nil_iff.2 fun s hs => ?_
  intro hd
  have hd' := of_decide_eq_true hd
  have : s ∈ fromL ts m := (fromL_mem hg).2 ⟨(mem_sortL hg s).1 hs, by omega⟩
  rw [h] at this
  simp at this
end
end Go.Proofs.Ytcofambcicnonaa

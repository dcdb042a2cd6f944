/- Numbers at the ends: the list of 0..9 that are among them; sorted and with each but once it is the same. -/
import Derived.Test.YtllfjffcogpaiaaSpread
import Derived.Lib.SlicesCompact
namespace Go.Proofs.Ytllfjffcogpaiaa
set_option linter.unusedVariables false

theorem strict_ext : ∀ {a b : List Int}, a.Pairwise (· < ·) → b.Pairwise (· < ·) → (∀ x, x ∈ a ↔ x ∈ b) → a = b
  | [], [], _, _, _ => rfl
  | [], y :: b, _, _, h => by have := (h y).2 (by simp); simp at this
  | x :: a, [], _, _, h => by have := (h x).1 (by simp); simp at this
  | x :: a, y :: b, ha, hb, h => by
    rw [List.pairwise_cons] at ha hb
    have hxy : x = y := by
      have h1 := (h x).1 (by simp)
      have h2 := (h y).2 (by simp)
      rcases List.mem_cons.1 h1 with e | e
      · exact e
      · rcases List.mem_cons.1 h2 with e' | e'
        · exact e'.symm
        · have := hb.1 x e; have := ha.1 y e'; omega
    subst hxy
    rw [strict_ext ha.2 hb.2 fun z => ?_]
    constructor
    · intro hz
      rcases List.mem_cons.1 ((h z).1 (List.mem_cons_of_mem _ hz)) with e | e
      · have := ha.1 z hz; omega
      · exact e
    · intro hz
      rcases List.mem_cons.1 ((h z).2 (List.mem_cons_of_mem _ hz)) with e | e
      · have := hb.1 z hz; omega
      · exact e

def numsL (es : List Int) (n : Nat) : List Int := ((List.range n).map fun k : Nat => (k : Int)).filter fun x => decide (x ∈ es)
theorem numsL_zero (es : List Int) : numsL es 0 = [] := rfl
theorem numsL_succ (es : List Int) (n : Nat) : numsL es (n + 1) = numsL es n ++ (if (n : Int) ∈ es then [(n : Int)] else []) := by
  unfold numsL
  rw [List.range_succ, List.map_append, List.filter_append]
  by_cases h : (n : Int) ∈ es <;> simp [h]
theorem numsL_mem {es : List Int} {n : Nat} {x : Int} : x ∈ numsL es n ↔ 0 ≤ x ∧ x < n ∧ x ∈ es := by
  unfold numsL
  simp only [List.mem_filter, List.mem_map, List.mem_range, decide_eq_true_eq]
  constructor
  · rintro ⟨⟨k, hk, rfl⟩, h⟩; exact ⟨by omega, by omega, h⟩
  · rintro ⟨h0, h1, h⟩; exact ⟨⟨x.toNat, by omega, by omega⟩, h⟩
theorem numsL_len (es : List Int) (n : Nat) : (numsL es n).length ≤ n := by
  unfold numsL
  exact Nat.le_trans (List.length_filter_le _ _) (by simp)
theorem numsL_strict (es : List Int) (n : Nat) : (numsL es n).Pairwise (· < ·) := by
  induction n with
  | zero => exact List.Pairwise.nil
  | succ n ih =>
    rw [numsL_succ, List.pairwise_append]
    refine ⟨ih, by split <;> simp, fun a ha b hb => ?_⟩
    have h1 := (numsL_mem.1 ha).2.1
    split at hb
    · simp at hb; omega
    · simp at hb

/-- Within the round of n, where j arms have been looked at. -/
def numsJ (es : List Int) (n j : Nat) : List Int := numsL es n ++ (if (n : Int) ∈ es.take j then [(n : Int)] else [])
theorem numsJ_zero (es : List Int) (n : Nat) : numsJ es n 0 = numsL es n := by simp [numsJ]
theorem numsJ_all (es : List Int) (n : Nat) : numsJ es n es.length = numsL es (n + 1) := by rw [numsJ, numsL_succ, List.take_length]
theorem numsJ_mem (es : List Int) (n j : Nat) : (n : Int) ∈ numsJ es n j ↔ (n : Int) ∈ es.take j := by
  unfold numsJ
  rw [List.mem_append, numsL_mem]
  constructor
  · rintro (h | h)
    · omega
    · split at h
      · assumption
      · simp at h
  · intro h; right; simp [h]
theorem numsJ_len (es : List Int) (n j : Nat) : (numsJ es n j).length ≤ n + 1 := by
  unfold numsJ
  rw [List.length_append]
  have := numsL_len es n
  split <;> simp <;> omega
theorem numsJ_other {es : List Int} {n j : Nat} (hj : j < es.length) (h : es[j] ≠ (n : Int)) : numsJ es n (j + 1) = numsJ es n j := by
  unfold numsJ
  rw [List.take_succ_eq_append_getElem hj]
  have : (n : Int) ∈ es.take j ++ [es[j]] ↔ (n : Int) ∈ es.take j := by
    rw [List.mem_append]; simp; intro e; exact absurd e.symm h
  simp only [this]
theorem numsJ_had {es : List Int} {n j : Nat} (hj : j < es.length) (h : (n : Int) ∈ numsJ es n j) : numsJ es n (j + 1) = numsJ es n j := by
  rw [numsJ_mem] at h
  unfold numsJ
  rw [List.take_succ_eq_append_getElem hj, if_pos h, if_pos (List.mem_append_left _ h)]
theorem numsJ_new {es : List Int} {n j : Nat} (hj : j < es.length) (h : es[j] = (n : Int)) (h' : (n : Int) ∉ numsJ es n j) : numsJ es n (j + 1) = numsJ es n j ++ [(n : Int)] := by
  rw [numsJ_mem] at h'
  unfold numsJ
  rw [List.take_succ_eq_append_getElem hj, if_neg h', if_pos (by rw [h]; simp), List.append_nil]

def srtL (es : List Int) : List Int := es.mergeSort fun x y => decide (x ≤ y)
theorem srtL_len (es : List Int) : (srtL es).length = es.length := List.length_mergeSort es
theorem srtL_mem (es : List Int) (x : Int) : x ∈ srtL es ↔ x ∈ es := (List.mergeSort_perm es _).mem_iff
theorem srtL_le (es : List Int) : (srtL es).Pairwise (fun x y => x ≤ y) := by
  have := List.pairwise_mergeSort (le := fun (x y : Int) => decide (x ≤ y)) (by intro a b c; simp; omega) (by intro a b; simp; omega) es
  exact this.imp (by simp)

theorem upTo_mem (s : List Int) (hs : s.Pairwise (fun x y => x ≤ y)) : ∀ m, m ≤ s.length →
    (Lib.compactUpTo s.toArray m).Pairwise (· < ·) ∧ ∀ x, x ∈ Lib.compactUpTo s.toArray m ↔ x ∈ s.take m
  | 0, _ => by simp [Lib.compactUpTo]
  | m + 1, hm => by
    obtain ⟨h1, h2⟩ := upTo_mem s hs m (by omega)
    have hgm : s.toArray[m]! = s[m] := by simp [show m < s.length by omega]
    rw [Lib.compactUpTo_succ, List.take_succ_eq_append_getElem (by omega : m < s.length)]
    rw [List.pairwise_iff_getElem] at hs
    rcases Nat.eq_zero_or_pos m with h0 | h0
    · subst h0
      rw [if_pos (Lib.keeps_lt_one _ 0 (by omega)), hgm]
      simp [Lib.compactUpTo]
    · have hgp : s.toArray[m - 1]! = s[m - 1] := by simp [show m - 1 < s.length by omega]
      have hle := hs (m - 1) m (by omega) (by omega) (by omega)
      by_cases he : s[m] = s[m - 1]
      · rw [if_neg (by rw [Lib.keeps_neg h0 (by rw [hgm, hgp, he])]; simp), List.append_nil]
        refine ⟨h1, fun x => ?_⟩
        rw [h2, List.mem_append]
        constructor
        · exact Or.inl
        · rintro (h | h)
          · exact h
          · rw [List.mem_singleton] at h
            subst h
            rw [he]
            exact List.mem_take_iff_getElem.2 ⟨m - 1, by omega, rfl⟩
      · rw [if_pos (Lib.keeps_pos (by rw [hgm, hgp]; exact he)), hgm]
        refine ⟨?_, fun x => by rw [List.mem_append, List.mem_append, h2]⟩
        rw [List.pairwise_append]
        refine ⟨h1, by simp, fun a ha b hb => ?_⟩
        rw [List.mem_singleton] at hb
        subst hb
        rw [h2] at ha
        obtain ⟨i, hi, rfl⟩ := List.mem_take_iff_getElem.1 ha
        have hi' : i < m := by omega
        by_cases e : i = m - 1
        · subst e; omega
        · have := hs i (m - 1) (by omega) (by omega) (by omega)
          omega

theorem open_same {es : List Int} (h : ∀ x ∈ es, 0 ≤ x ∧ x ≤ 9) : Lib.compact (srtL es) = numsL es 10 := by
  have := upTo_mem (srtL es) (srtL_le es) (srtL es).length (Nat.le_refl _)
  refine strict_ext this.1 (numsL_strict es 10) fun x => ?_
  rw [show Lib.compact (srtL es) = Lib.compactUpTo (srtL es).toArray (srtL es).length from rfl, this.2, List.take_length, srtL_mem, numsL_mem]
  constructor
  · intro hx; have := h x hx; exact ⟨by omega, by omega, hx⟩
  · exact fun hx => hx.2.2
end Go.Proofs.Ytllfjffcogpaiaa

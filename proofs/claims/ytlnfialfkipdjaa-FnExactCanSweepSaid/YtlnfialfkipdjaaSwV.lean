/- CanSweep: what the specification's search answers is what the program's does. -/
import Derived.Test.YtlnfialfkipdjaaSwA
import Derived.Test.YtlnfialfkipdjaaSwR
import Derived.Test.YtlnfialfkipdjaaSwe
namespace Go.Proofs.Ytlnfialfkipdjaa
open Go.RowKit
set_option linter.unusedVariables false

theorem swN_swH : ∀ (n : Nat) (F S : List (Int × Int)) (R : List Int) (t : Int), swInv (handG F S t) R → swN n F S R t = swH n (handG F S t) R
  | 0, _, _, _, _, _ => rfl
  | n + 1, F, S, R, t, hi => by
    unfold swN swH
    by_cases h0 : (handG F S t).length = 0
    · rw [if_pos h0, if_pos h0]
    rw [if_neg h0, if_neg h0]
    apply any_cong
    intro m hm
    obtain ⟨⟨x, y⟩, ht, hm2⟩ := (mem_laysL hi.2.1).1 hm
    have key : ∀ (a b : Int) (k : Nat), (a, b) ∈ handG F S t → ((k = 1 ∧ leftB R a b = true) ∨ (k = 2 ∧ rightB R a b = true)) → swN n (woL F a b) (woL S a b) (rowWL R a b k) t = swH n (woL (handG F S t) a b) (rowAfter R a b k) := by
      intro a b k hmem hk
      rw [rowWL_eq hi.1 (hand_gd hi.2.1 _ hmem) (hi.2.2 _ hmem) hk, ← sw_hand]
      exact swN_swH n _ _ _ t (by rw [sw_hand]; exact swInv_step hi hmem hk)
    rcases mem_layOf.1 hm2 with ⟨rfl, hk⟩ | ⟨rfl, hk⟩
    · exact key x y 1 ht (.inl ⟨rfl, hk⟩)
    · exact key x y 2 ht (.inr ⟨rfl, hk⟩)

def allS (H : List (Int × Int)) : Nat := 2 ^ H.length - 1
theorem all_bit (H : List (Int × Int)) (i : Nat) : (allS H).testBit i = decide (i < H.length) := Nat.testBit_two_pow_sub_one _ _
theorem all_lt (H : List (Int × Int)) : allS H < 2 ^ H.length := by
  have := Nat.two_pow_pos H.length
  unfold allS
  omega
theorem at_all (H : List (Int × Int)) : atS H (allS H) = List.range H.length := by
  unfold atS
  rw [List.filter_eq_self]
  intro i hi
  rw [all_bit]
  exact decide_eq_true (List.mem_range.1 hi)
theorem rem_all (H : List (Int × Int)) : remS H (allS H) = H := by
  unfold remS
  rw [at_all]
  apply List.ext_getElem
  · simp
  · intro i h1 h2
    rw [List.getElem_map, List.getElem_range, getD_in h2]
theorem sz_all (H : List (Int × Int)) (l r : Int) : szS H (allS H, l, r) = H.length := by
  show (atS H (allS H)).length = _
  rw [at_all, List.length_range]

/-- One tile alone on the table, at first. -/
def startS (H : List (Int × Int)) (i : Nat) : SwS := (clrS (allS H) i, (H.getD i (0, 0)).1, (H.getD i (0, 0)).2)
def startL (H : List (Int × Int)) (k : Nat) : List SwS := (List.range k).map (startS H)
theorem startL_step (H : List (Int × Int)) (k : Nat) : startL H (k + 1) = startL H k ++ [startS H k] := by
  unfold startL
  rw [List.range_succ, List.map_append]
  rfl
theorem startL_split {H : List (Int × Int)} {k : Nat} (h : k < H.length) : ∃ Z, startL H H.length = startL H k ++ (startS H k :: Z) := by
  obtain ⟨m, hm⟩ : ∃ m, H.length = (k + 1) + m := ⟨H.length - (k + 1), by omega⟩
  refine ⟨((List.range m).map (fun i => k + 1 + i)).map (startS H), ?_⟩
  unfold startL
  rw [hm, List.range_add, List.map_append, List.range_succ, List.map_append, List.append_assoc]
  rfl
def lkH (H : List (Int × Int)) : SwS → (SwS → Bool) → Bool × (SwS → Bool) := lkS (mvS H) (szS H) (H.length + 1)
def noneS : SwS → Bool := fun _ => false
def swpV (H : List (Int × Int)) (R : List Int) : Bool := if R.length = 0 then (anyS (lkH H) (startL H H.length) noneS).1 || decide (H.length = 0) else (lkH H (allS H, fstI R, lstI R) noneS).1
theorem start_sz {H : List (Int × Int)} {i : Nat} (h : i < H.length) : szS H (startS H i) < H.length := by
  have h1 := sz_clr (H := H) (s := allS H) (i := i) (mem_atS.2 ⟨h, by rw [all_bit]; exact decide_eq_true h⟩)
  rw [at_all, List.length_range] at h1
  exact h1
theorem lkH_way {H : List (Int × Int)} {s : SwS} (f : SwS → Bool) (hs : szS H s ≤ H.length) (hi : InvS (mvS H) (szS H) (szS H s) f) : OkS (mvS H) (szS H) s f (lkH H s f) :=
  lk_ok (mv_less) (H.length + 1) s f (by omega) hi
theorem inv_none (H : List (Int × Int)) (c : Nat) : InvS (mvS H) (szS H) c noneS := fun t h => by cases h
theorem swp_eq {H : List (Int × Int)} {R : List Int} {n : Nat} (hn : H.length < n) (hi : swInv H R) : swpV H R = swH n H R := by
  have hnd := hand_nd hi.2.1
  unfold swpV
  by_cases hR : R.length = 0
  · rw [if_pos hR]
    have hR2 : R = [] := List.eq_nil_of_length_eq_zero hR
    subst hR2
    have h1 := (any_ok (mv := mvS H) (sz := szS H) (g := lkH H) (k := H.length + 1) (f1 := noneS) (startL H H.length) noneS (fun c hc => by
      obtain ⟨i, hi2, rfl⟩ := List.mem_map.1 hc
      have hi3 := List.mem_range.1 hi2
      have hz := start_sz hi3
      exact ⟨by omega, fun f hf => lkH_way f (by omega) hf⟩) ⟨inv_none H _, fun t _ => rfl, fun t h => h⟩).1
    rw [h1, sw_none n hi hn, Bool.or_comm]
    congr 1
    have one : ∀ i (h : i < H.length), wayS (mvS H) (szS H) (startS H i) = swH (n - 1) (woL H H[i].1 H[i].2) [H[i].1, H[i].2] := by
      intro i h
      have hm : H[i] ∈ H := List.getElem_mem h
      have hs := swInv_step (a := H[i].1) (b := H[i].2) (k := 1) hi hm (.inl ⟨rfl, rfl⟩)
      have hw := woL_short (a := H[i].1) (b := H[i].2) hm
      have h2 := sw_iff (n - 1) (woL H H[i].1 H[i].2) [H[i].1, H[i].2] hs (by simp) (by omega)
      have h3 := way_iff hnd _ (startS H i) rfl
      have h4 := rem_clr hnd (s := allS H) (i := i) (mem_atS.2 ⟨h, by rw [all_bit]; exact decide_eq_true h⟩)
      rw [rem_all, getD_in h] at h4
      unfold startS at h3 ⊢
      rw [getD_in h] at h3 ⊢
      simp only at h3
      rw [h4] at h3
      rw [Bool.eq_iff_iff, h3, h2]
      exact Iff.rfl
    rw [Bool.eq_iff_iff, List.any_eq_true, List.any_eq_true]
    constructor
    · rintro ⟨c, hc, hw⟩
      obtain ⟨i, hi2, rfl⟩ := List.mem_map.1 hc
      have hi3 := List.mem_range.1 hi2
      exact ⟨H[i], List.getElem_mem hi3, by rw [← one i hi3]; exact hw⟩
    · rintro ⟨t, ht, hw⟩
      obtain ⟨i, hi3, rfl⟩ := List.getElem_of_mem ht
      exact ⟨startS H i, List.mem_map.2 ⟨i, List.mem_range.2 hi3, rfl⟩, by rw [one i hi3]; exact hw⟩
  · rw [if_neg hR]
    have h1 := (lkH_way (H := H) (s := (allS H, fstI R, lstI R)) noneS (by rw [sz_all]; omega) (inv_none H _)).1
    have h2 := sw_iff n H R hi hR hn
    have h3 := way_iff hnd _ (allS H, fstI R, lstI R) rfl
    simp only [rem_all] at h3
    rw [h1, Bool.eq_iff_iff, h3, h2]
end Go.Proofs.Ytlnfialfkipdjaa

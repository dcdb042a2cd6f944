/- The first tiles left out of a set: facts on the sets of 0 up to 9. No walk here. -/
import Derived.Test.YteiiiceajpmndaaCan
import Derived.Test.YteiiiceajpmndaaLeft
import Derived.Test.YteiiiceajpmndaaChain
namespace Go.Proofs.Yteiiiceajpmndaa
set_option linter.unusedVariables false

def leftN (n : Nat) : Nat := if n % 2 = 0 then 0 else (n - 1) / 2
theorem leftV_nat {n : Nat} (h : n ≤ 9) : leftV (n : Int) = (leftN n : Int) := by
  have : ∀ n : Fin 10, leftV (n.1 : Int) = (leftN n.1 : Int) := by decide
  exact this ⟨n, by omega⟩
theorem leftN_le {n : Nat} (h : n ≤ 9) : leftN n ≤ 4 := by unfold leftN; split <;> omega
/-- The first i tiles left out. -/
def outs (i : Nat) : List (Int × Int) := (List.range i).map fun j : Nat => (2 * (j : Int), 2 * (j : Int) + 1)
theorem outs_len (i : Nat) : (outs i).length = i := by simp [outs]
theorem outs_step (i : Nat) : outs (i + 1) = outs i ++ [(2 * (i : Int), 2 * (i : Int) + 1)] := by simp [outs, List.range_succ]
theorem outs_get {i j : Nat} (h : j < (outs i).length) : (outs i)[j] = (2 * (j : Int), 2 * (j : Int) + 1) := by simp [outs]
/-- Where the next one stands in the set. -/
def posN (n i : Nat) : Nat := (placeI (setL n) (2 * (i : Int), 2 * (i : Int) + 1)).toNat
/-- The numbers that are odd still. -/
def oddI (n i : Nat) : List Int := ((List.range (n + 1)).filter fun x => decide (2 * i ≤ x)).map fun x : Nat => (x : Int)

set_option maxRecDepth 100000 in
theorem odd_facts : ∀ n : Fin 10, ∀ i : Fin 5, i.1 < leftN n.1 → oddTo (thoseL (setL n.1) (outs i.1) false) 10 = oddI n.1 i.1 := by decide +kernel
set_option maxRecDepth 100000 in
theorem pos_facts : ∀ n : Fin 10, ∀ i : Fin 5, i.1 < leftN n.1 → posN n.1 i.1 < (setL n.1).length ∧ (setL n.1).getD (posN n.1 i.1) (0, 0) = (2 * (i.1 : Int), 2 * (i.1 : Int) + 1) ∧ (0 < i.1 → posN n.1 (i.1 - 1) < posN n.1 i.1) := by decide +kernel
set_option maxRecDepth 100000 in
theorem skip_facts : ∀ n : Fin 10, ∀ i : Fin 5, i.1 < leftN n.1 → ∀ k : Fin 55, k.1 < posN n.1 i.1 → (0 < i.1 ∧ k.1 ≤ posN n.1 (i.1 - 1)) ∨ ((setL n.1).getD k.1 (0, 0)).1 = ((setL n.1).getD k.1 (0, 0)).2 ∨ ((setL n.1).getD k.1 (0, 0)).1 < 2 * (i.1 : Int) := by decide +kernel
set_option maxRecDepth 100000 in
theorem odd_few : ∀ n : Fin 10, (oddTo (thoseL (setL n.1) (outs (leftN n.1)) false) 10).length ≤ 2 := by decide +kernel
set_option maxRecDepth 100000 in
theorem rest_facts : ∀ n : Fin 10, ∀ x : Fin 10, x.1 ≤ n.1 → x.1 ≠ 0 → ((0 : Int), (x.1 : Int)) ∈ thoseL (setL n.1) (outs (leftN n.1)) false ∨ (x.1 = 1 ∧ ((1 : Int), (2 : Int)) ∈ thoseL (setL n.1) (outs (leftN n.1)) false ∧ ((0 : Int), (2 : Int)) ∈ thoseL (setL n.1) (outs (leftN n.1)) false) := by decide +kernel
set_option maxRecDepth 100000 in
theorem set_small : ∀ n : Fin 10, ∀ t ∈ setL n.1, 0 ≤ t.1 ∧ t.1 ≤ t.2 ∧ t.2 ≤ (n.1 : Int) := by decide +kernel
set_option maxRecDepth 100000 in
theorem set_nodup : ∀ n : Fin 10, (setL n.1).Nodup := by decide +kernel

theorem oddI_mem {n i : Nat} {x : Int} : x ∈ oddI n i ↔ 2 * (i : Int) ≤ x ∧ x ≤ n := by
  unfold oddI
  rw [List.mem_map]
  constructor
  · rintro ⟨m, hm, rfl⟩
    have h1 := List.mem_range.1 (List.mem_filter.1 hm).1
    have h2 := of_decide_eq_true (List.mem_filter.1 hm).2
    omega
  · rintro ⟨h1, h2⟩
    exact ⟨x.toNat, List.mem_filter.2 ⟨List.mem_range.2 (by omega), decide_eq_true (by omega)⟩, by omega⟩
/-- A tile of the set stands where it stands. -/
theorem place_set {n k : Nat} (hn : n ≤ 9) (hk : k < (setL n).length) : placeI (setL n) (setL n)[k] = k :=
  placeI_found hk rfl (fun j hj hjk e => by
    have hnd : (setL n).Nodup := set_nodup ⟨n, by omega⟩
    exact (List.pairwise_iff_getElem.1 hnd) j k hj hk hjk e)
theorem rest_good {n : Nat} (hn : n ≤ 9) (i : Nat) : ∀ t ∈ thoseL (setL n) (outs i) false, goodB t.1 t.2 = true := by
  have hs := set_hand hn
  intro t ht
  unfold thoseL at ht
  exact (handB_good hs).2 t ((mem_sortL (handB_good hs).2 t).1 (List.mem_filter.1 ht).1)
theorem rest_can {n : Nat} (hn : n ≤ 9) : canV (thoseL (setL n) (outs (leftN n)) false) false = true := by
  have hg := rest_good hn (leftN n)
  have hf := rest_facts ⟨n, by omega⟩
  have ho := odd_few ⟨n, by omega⟩
  have hss := set_small ⟨n, by omega⟩
  simp only at hf ho hss
  have hsm : ∀ t ∈ thoseL (setL n) (outs (leftN n)) false, 0 ≤ t.1 ∧ t.1 ≤ t.2 ∧ t.2 ≤ (n : Int) := fun t ht => by
    unfold thoseL at ht
    have hs := set_hand hn
    exact hss t ((mem_sortL (handB_good hs).2 t).1 (List.mem_filter.1 ht).1)
  obtain ⟨U, hU⟩ : ∃ U, U = thoseL (setL n) (outs (leftN n)) false := ⟨_, rfl⟩
  rw [← hU] at hg hf ho hsm ⊢
  have hL : IsLeast U (fun x => if 0 ≤ x ∧ x ≤ n then 0 else x) := {
    le := fun x => by
      by_cases h : 0 ≤ x ∧ x ≤ (n : Int)
      · simp only [h, and_self, if_true]
      · simp only [h, if_false]; exact Int.le_refl x
    eqv := fun k hk x => by
      by_cases h : 0 ≤ x ∧ x ≤ (n : Int)
      · simp only [h, and_self, if_true]
        by_cases h0 : x = 0
        · rw [h0]
        · have h1 := hf ⟨x.toNat, by omega⟩ (by simp only; omega) (by simp only; omega)
          simp only at h1
          rw [show ((x.toNat : Nat) : Int) = x from by omega] at h1
          rcases h1 with h1 | ⟨h1, h2, h3⟩
          · exact hk _ h1
          · have e1 := hk _ h2
            have e2 := hk _ h3
            simp only at e1 e2
            have : x = 1 := by omega
            rw [this, e1, e2]
      · simp only [h, if_false]
    con := fun t ht => by
      have h1 := hsm t ht
      have h2 : 0 ≤ t.1 ∧ t.1 ≤ (n : Int) := by omega
      have h3 : 0 ≤ t.2 ∧ t.2 ≤ (n : Int) := by omega
      simp only [h2, h3, and_self, if_true] }
  have he := (lfn_isLeast U).unique hL
  have hp : (partsL U).length ≤ 1 := by
    unfold partsL
    rw [partsTo_skip (m := 1) (k := 10) (by omega)]
    · exact partsTo_len U 1
    · intro i h1 h2
      refine List.filter_eq_nil_iff.2 fun t ht => ?_
      have ht' := (mem_sortL hg t).1 ht
      have h3 := hsm t ht'
      have h4 : 0 ≤ t.1 ∧ t.1 ≤ (n : Int) := by omega
      rw [he]
      simp only [h4, and_self, if_true, decide_eq_true_eq]
      omega
  unfold canV canB
  simp [hp, ho]
theorem leftHL_len (n : Int) : (if numB n then outs (leftN n.toNat) else []).length ≤ 4 := by
  split
  · rename_i h
    obtain ⟨m, hm, rfl⟩ := numB_nat h
    rw [outs_len, Int.toNat_natCast]
    exact leftN_le hm
  · simp
def outHL (n : Int) : List (Int × Int) := if numB n then outs (leftN n.toNat) else []
theorem outHL_len (n : Int) : (outHL n).length ≤ 4 := leftHL_len n
end Go.Proofs.Yteiiiceajpmndaa

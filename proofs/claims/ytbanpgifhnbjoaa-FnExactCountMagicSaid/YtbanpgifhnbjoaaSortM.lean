/- Tiles in their order: what needs nothing of the library's sort. -/
import Derived.Test.YtbanpgifhnbjoaaPick
import Derived.Deep.RegionHeld3
namespace Go.Proofs.Ytbanpgifhnbjoaa
open Go.RowKit
set_option linter.unusedVariables false

def cmpI (a b : Int) : Int := if a < b then -1 else if b < a then 1 else 0
def cmpT (x y : Int × Int) : Int := if cmpI x.1 y.1 = 0 then cmpI x.2 y.2 else cmpI x.1 y.1

/-- Tiles in their order. -/
def ltT (x y : Int × Int) : Prop := x.1 < y.1 ∨ (x.1 = y.1 ∧ x.2 < y.2)
instance (x y : Int × Int) : Decidable (ltT x y) := by unfold ltT; infer_instance
theorem cmpT_lt (x y : Int × Int) : decide (cmpT x y < 0) = decide (ltT x y) := by
  unfold cmpT cmpI
  rw [Bool.eq_iff_iff, decide_eq_true_eq, decide_eq_true_eq]
  unfold ltT
  by_cases h1 : x.1 < y.1
  · simp [h1]
  · by_cases h2 : y.1 < x.1
    · have : ¬ x.1 = y.1 := by omega
      simp [h1, h2, this]
    · have h3 : x.1 = y.1 := by omega
      by_cases h4 : x.2 < y.2
      · simp [h3, h4]
      · by_cases h5 : y.2 < x.2 <;> simp [h3, h4, h5]

theorem sorted_ext : ∀ {l m : List (Int × Int)}, l.Pairwise ltT → m.Pairwise ltT → (∀ x, x ∈ l ↔ x ∈ m) → l = m
  | [], [], _, _, _ => rfl
  | [], y :: m, _, _, h => by have := (h y).2 (by simp); simp at this
  | x :: l, [], _, _, h => by have := (h x).1 (by simp); simp at this
  | x :: l, y :: m, hl, hm, h => by
    have hl' := List.pairwise_cons.1 hl
    have hm' := List.pairwise_cons.1 hm
    have irr : ∀ z : Int × Int, ¬ ltT z z := fun z hz => by simp [ltT] at hz
    have asym : ∀ u v : Int × Int, ltT u v → ¬ ltT v u := fun u v h1 h2 => by simp only [ltT] at h1 h2; omega
    have hxy : x = y := by
      have h1 := (h x).1 (by simp)
      have h2 := (h y).2 (by simp)
      rcases List.mem_cons.1 h1 with e | h1
      · exact e
      · rcases List.mem_cons.1 h2 with e | h2
        · exact e.symm
        · exact absurd (hl'.1 y h2) (asym _ _ (hm'.1 x h1))
    subst hxy
    rw [sorted_ext hl'.2 hm'.2 (fun z => ?_)]
    constructor
    · intro hz
      rcases List.mem_cons.1 ((h z).1 (by simp [hz])) with e | e
      · subst e; exact absurd (hl'.1 z hz) (irr z)
      · exact e
    · intro hz
      rcases List.mem_cons.1 ((h z).2 (by simp [hz])) with e | e
      · subst e; exact absurd (hm'.1 z hz) (irr z)
      · exact e

theorem set9_sorted : (setL 9).Pairwise ltT := by decide +kernel
theorem pickL_sorted (ts : List (Int × Int)) (b : Bool) : (pickL 9 ts b).Pairwise ltT := set9_sorted.filter _
theorem mem_set9 {t : Int × Int} : t ∈ setL 9 ↔ goodB t.1 t.2 = true := by
  constructor
  · intro h
    have : ∀ t ∈ setL 9, goodB t.1 t.2 = true := by decide +kernel
    exact this t h
  · intro h
    obtain ⟨a, b⟩ := t
    have h2 := h
    simp only [goodB, numB, Bool.and_eq_true, decide_eq_true_eq] at h2
    obtain ⟨m, hm, rfl⟩ : ∃ m : Nat, m ≤ 9 ∧ a = m := ⟨a.toNat, by omega, by omega⟩
    obtain ⟨n, hn, rfl⟩ : ∃ n : Nat, n ≤ 9 ∧ b = n := ⟨b.toNat, by omega, by omega⟩
    have key : ((List.range 10).all fun m => (List.range 10).all fun n => !(decide (m ≤ n)) || decide (((m : Int), (n : Int)) ∈ setL 9)) = true := by decide +kernel
    have k1 := List.all_eq_true.1 key m (List.mem_range.2 (by omega))
    have k2 := List.all_eq_true.1 k1 n (List.mem_range.2 (by omega))
    have hmn : m ≤ n := by omega
    simpa [hmn] using k2
theorem mem_sortL {ts : List (Int × Int)} (hg : ∀ t ∈ ts, goodB t.1 t.2 = true) (t : Int × Int) : t ∈ sortL ts ↔ t ∈ ts := by
  unfold sortL pickL
  rw [List.mem_filter]
  simp only [pickB, beq_true, decide_eq_true_eq]
  exact ⟨fun h => h.2, fun h => ⟨mem_set9.2 (hg t h), h⟩⟩

end Go.Proofs.Ytbanpgifhnbjoaa

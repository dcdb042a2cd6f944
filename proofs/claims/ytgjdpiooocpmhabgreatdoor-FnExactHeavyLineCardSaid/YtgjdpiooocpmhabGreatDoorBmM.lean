/- The best moves: the mathematics. -/
import Derived.Test.YtgjdpiooocpmhabGreatDoorBst
namespace Go.Proofs.YtgjdpiooocpmhabGreatDoor
open Go.RowKit
set_option linter.unusedVariables false

theorem snoc_ind {α : Type} {P : List α → Prop} (h0 : P []) (h1 : ∀ xs x, P xs → P (xs ++ [x])) (xs : List α) : P xs := by
  have h : ∀ ys : List α, P ys.reverse := fun ys => by
    induction ys with
    | nil => exact h0
    | cons y ys ih => rw [List.reverse_cons]; exact h1 _ _ ih
  have h2 := h xs.reverse
  rwa [List.reverse_reverse] at h2
def minI : Int := -9223372036854775808
/-- The choices so far: those that are worth most, and how much. -/
def chS (W : Mv → Int) (p : List Mv × Int) (m : Mv) : List Mv × Int := if p.2 < W m then ([m], W m) else if W m = p.2 then (p.1 ++ [m], p.2) else p
def chF (W : Mv → Int) (ms : List Mv) : List Mv × Int := ms.foldl (chS W) ([], minI)
theorem chF_nil (W : Mv → Int) : chF W [] = ([], minI) := rfl
theorem chF_snoc (W : Mv → Int) (ms : List Mv) (m : Mv) : chF W (ms ++ [m]) = chS W (chF W ms) m := by
  unfold chF
  rw [List.foldl_append]
  rfl
theorem chF_le (W : Mv → Int) : ∀ (ms : List Mv), (∀ m ∈ ms, minI < W m) → (∀ m ∈ ms, W m ≤ (chF W ms).2) ∧ (chF W ms).1 = ms.filter (fun m => decide (W m = (chF W ms).2)) ∧ (ms ≠ [] → minI < (chF W ms).2) := by
  intro ms
  induction ms using snoc_ind with
  | h0 => exact fun _ => ⟨fun m h => (by cases h), rfl, fun h => absurd rfl h⟩
  | h1 ms m ih =>
    intro h
    obtain ⟨i1, i2, i3⟩ := ih (fun x hx => h x (by simp [hx]))
    have hm := h m (by simp)
    rw [chF_snoc]
    generalize hp : chF W ms = p at *
    unfold chS
    by_cases h1 : p.2 < W m
    · rw [if_pos h1]
      refine ⟨fun x hx => ?_, ?_, fun _ => hm⟩
      · rcases List.mem_append.1 hx with hx | hx
        · have := i1 x hx
          show W x ≤ W m
          omega
        · rw [List.mem_singleton.1 hx]; exact Int.le_refl _
      · rw [List.filter_append]
        have e : ms.filter (fun x => decide (W x = W m)) = [] := List.filter_eq_nil_iff.2 fun x hx => by
          have := i1 x hx
          simp only [decide_eq_true_eq]
          omega
        show [m] = ms.filter (fun x => decide (W x = W m)) ++ [m].filter (fun x => decide (W x = W m))
        rw [e]
        simp
    · rw [if_neg h1]
      by_cases h2 : W m = p.2
      · rw [if_pos h2]
        refine ⟨fun x hx => ?_, ?_, fun _ => ?_⟩
        · rcases List.mem_append.1 hx with hx | hx
          · exact i1 x hx
          · rw [List.mem_singleton.1 hx]; show W m ≤ p.2; omega
        · rw [List.filter_append]
          show p.1 ++ [m] = ms.filter (fun x => decide (W x = p.2)) ++ [m].filter (fun x => decide (W x = p.2))
          rw [← i2]
          simp [h2]
        · show minI < p.2; omega
      · rw [if_neg h2]
        refine ⟨fun x hx => ?_, ?_, fun _ => ?_⟩
        · rcases List.mem_append.1 hx with hx | hx
          · exact i1 x hx
          · rw [List.mem_singleton.1 hx]; omega
        · rw [List.filter_append, ← i2]
          simp [h2]
        · omega
theorem chF_max (W : Mv → Int) (g : Mv → Int) {t : Int} (ht : t = 0 ∨ t = 1) : ∀ (ms : List Mv), (∀ m ∈ ms, W m = sidV t * g m ∧ minI < W m) → ms ≠ [] → (chF W ms).2 = sidV t * bstL t (ms.map g) := by
  intro ms
  induction ms using snoc_ind with
  | h0 => exact fun _ h => absurd rfl h
  | h1 ms m ih =>
    intro h _
    have hm := h m (by simp)
    rw [chF_snoc, List.map_append, List.map_singleton]
    by_cases h0 : ms = []
    · subst h0
      rw [chF_nil]
      unfold chS
      rw [if_pos hm.2]
      show W m = sidV t * g m
      exact hm.1
    · have i := ih (fun x hx => h x (by simp [hx])) h0
      rw [bstL_snoc t (by simpa using h0), ← sid_max ht, ← i, ← hm.1]
      unfold chS
      split
      · show W m = _; omega
      · split
        · show (chF W ms).2 = _; omega
        · omega
/-- What best play gives behind a move. -/
def gB (n : Nat) (F S : List (Int × Int)) (R : List Int) (t u : Int) (m : Mv) : Int := bstN n (behF F t m) (behS S t m) (behR R m) (1 - t) (behU u m)
def bmL (n : Nat) (F S : List (Int × Int)) (R : List Int) (t u : Int) : List Mv := (movesL F S R t u).filter fun m => decide (gB n F S R t u m = bstN (n + 1) F S R t u)
theorem choices_are {n : Nat} {F S : List (Int × Int)} {R : List Int} {t u : Int} (hg : gameB F S R t u = true) (ho : overB F.length S.length u = false) : (chF (fun m => sidV t * gB n F S R t u m) (movesL F S R t u)).1 = bmL n F S R t u := by
  obtain ⟨_, _, _, ht⟩ := game_len hg
  have hW : ∀ m ∈ movesL F S R t u, sidV t * gB n F S R t u m = sidV t * gB n F S R t u m ∧ minI < sidV t * gB n F S R t u m := fun m hm => by
    have hb := bstN_bd n (behind_good hg hm).1
    have := (sid_mul (x := gB n F S R t u m) ht hb.1 hb.2).2
    exact ⟨rfl, by unfold minI; omega⟩
  have h1 := chF_le (fun m => sidV t * gB n F S R t u m) (movesL F S R t u) (fun m hm => (hW m hm).2)
  have h2 := chF_max (fun m => sidV t * gB n F S R t u m) (gB n F S R t u) ht (movesL F S R t u) hW (moves_some ho)
  have e : bstN (n + 1) F S R t u = bstL t ((movesL F S R t u).map (gB n F S R t u)) := by rw [bstN, ho]; rfl
  rw [h1.2.1, h2, ← e]
  unfold bmL
  congr 1
  funext m
  have : sidV t * gB n F S R t u m = sidV t * bstN (n + 1) F S R t u ↔ gB n F S R t u m = bstN (n + 1) F S R t u := by
    rcases ht with rfl | rfl
    · show 1 * _ = 1 * _ ↔ _; omega
    · show -1 * _ = -1 * _ ↔ _; omega
  simp only [this]
end Go.Proofs.YtgjdpiooocpmhabGreatDoor

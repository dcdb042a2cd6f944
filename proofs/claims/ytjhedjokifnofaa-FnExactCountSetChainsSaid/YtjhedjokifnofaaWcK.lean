/- The whole chains of the set of four, counted. No function of the program is named here. -/
import Derived.Test.YtjhedjokifnofaaWcP
import Derived.Test.YtjhedjokifnofaaWcX
namespace Go.Proofs.Ytjhedjokifnofaa
open Go.RowKit
set_option linter.unusedVariables false

def k5L : List (Int × Int) := [(0, 1), (0, 2), (0, 3), (0, 4), (1, 2), (1, 3), (1, 4), (2, 3), (2, 4), (3, 4)]
theorem k5_one : trl 10 k5L 0 = 528 := by decide +kernel
theorem k5_rest : ((List.range 9).map fun x : Nat => trl 10 k5L ((x + 1 : Nat) : Int)).sum = 2112 := by decide +kernel
theorem k5_sum (F : Int → Nat) (h1 : F 0 = 528) (h2 : ((List.range 9).map fun x : Nat => F ((x + 1 : Nat) : Int)).sum = 2112) : ((List.range 10).map fun x : Nat => F (x : Int)).sum = 2640 := by
  have e : List.range 10 = 0 :: (List.range 9).map (· + 1) := by decide
  rw [e, List.map_cons, List.sum_cons, List.map_map]
  have h3 : F ((0 : Nat) : Int) = 528 := h1
  rw [h3]
  have h4 : (List.map ((fun x : Nat => F (x : Int)) ∘ fun x => x + 1) (List.range 9)).sum = 2112 := h2
  rw [h4]
theorem k5_all : allN k5L = 2640 := by
  have hl : k5L.length = 10 := rfl
  unfold allN
  rw [hl]
  exact k5_sum (trl 10 k5L) k5_one k5_rest
theorem prod48 {a b c d e : Nat} (h : (a = 3 ∧ b = 2 ∧ c = 2 ∧ d = 2 ∧ e = 2) ∨ (a = 2 ∧ b = 3 ∧ c = 2 ∧ d = 2 ∧ e = 2) ∨ (a = 2 ∧ b = 2 ∧ c = 3 ∧ d = 2 ∧ e = 2) ∨ (a = 2 ∧ b = 2 ∧ c = 2 ∧ d = 3 ∧ e = 2) ∨ (a = 2 ∧ b = 2 ∧ c = 2 ∧ d = 2 ∧ e = 3)) : 1 * a * b * c * d * e = 48 := by
  rcases h with ⟨rfl, rfl, rfl, rfl, rfl⟩ | ⟨rfl, rfl, rfl, rfl, rfl⟩ | ⟨rfl, rfl, rfl, rfl, rfl⟩ | ⟨rfl, rfl, rfl, rfl, rfl⟩ | ⟨rfl, rfl, rfl, rfl, rfl⟩ <;> rfl
theorem k5_ways {c : List Int} (h : c ∈ everyL k5L) : waysN [0, 1, 2, 3, 4] c = 48 := by
  have hh : handB k5L = true := by decide
  have hf : c ∈ fullL k5L.length (allC k5L) := by
    unfold everyL at h
    split at h
    · exact h
    · simp at h
  obtain ⟨ho, hl⟩ := full_ok hf
  have hc := cnt_full ho (hand_nd hh) hl
  have hl11 : c.length = 11 := hl
  -- the first number is none above 4
  have hm : tile2 (c.getD 0 0) (c.getD 1 0) ∈ k5L := ho.mem _ (by
    unfold tilesC tilesTo
    exact List.mem_map.2 ⟨0, List.mem_range.2 (by omega), rfl⟩)
  have hall : ∀ t ∈ k5L, 0 ≤ t.1 ∧ t.2 ≤ 4 := by decide
  have hb := hall _ hm
  unfold tile2 at hb
  simp only at hb
  obtain ⟨f, hfd⟩ : ∃ f, f = c.getD 0 0 := ⟨_, rfl⟩
  obtain ⟨l, hld⟩ : ∃ l, l = lastC c := ⟨_, rfl⟩
  rw [← hfd] at hb
  have t0 : timesI k5L 0 = 4 := by decide
  have t1 : timesI k5L 1 = 4 := by decide
  have t2 : timesI k5L 2 = 4 := by decide
  have t3 : timesI k5L 3 = 4 := by decide
  have t4 : timesI k5L 4 = 4 := by decide
  have c0 := hc 0
  have c1 := hc 1
  have c2 := hc 2
  have c3 := hc 3
  have c4 := hc 4
  rw [← hfd, ← hld] at c0 c1 c2 c3 c4
  rw [t0] at c0
  rw [t1] at c1
  rw [t2] at c2
  rw [t3] at c3
  rw [t4] at c4
  have hw : waysN [0, 1, 2, 3, 4] c = 1 * c.count 0 * c.count 1 * c.count 2 * c.count 3 * c.count 4 := rfl
  rw [hw]
  have hf5 : f = 0 ∨ f = 1 ∨ f = 2 ∨ f = 3 ∨ f = 4 := by omega
  have two : ∀ n : Nat, 4 + 0 + 0 = 2 * (n : Int) → n = 2 := fun n h => by omega
  have hlf : l = f := by
    rcases hf5 with rfl | rfl | rfl | rfl | rfl
    · rw [if_pos rfl] at c0; split at c0 <;> omega
    · rw [if_pos rfl] at c1; split at c1 <;> omega
    · rw [if_pos rfl] at c2; split at c2 <;> omega
    · rw [if_pos rfl] at c3; split at c3 <;> omega
    · rw [if_pos rfl] at c4; split at c4 <;> omega
  subst hlf
  obtain ⟨n0, h0⟩ : ∃ n, n = c.count 0 := ⟨_, rfl⟩
  obtain ⟨n1, h1⟩ : ∃ n, n = c.count 1 := ⟨_, rfl⟩
  obtain ⟨n2, h2⟩ : ∃ n, n = c.count 2 := ⟨_, rfl⟩
  obtain ⟨n3, h3⟩ : ∃ n, n = c.count 3 := ⟨_, rfl⟩
  obtain ⟨n4, h4⟩ : ∃ n, n = c.count 4 := ⟨_, rfl⟩
  rw [← h0] at c0 ⊢
  rw [← h1] at c1 ⊢
  rw [← h2] at c2 ⊢
  rw [← h3] at c3 ⊢
  rw [← h4] at c4 ⊢
  refine prod48 ?_
  clear h0 h1 h2 h3 h4 hw hc hall hm hl hl11 ho hf hh h t0 t1 t2 t3 t4
  split at c0 <;> split at c1 <;> split at c2 <;> split at c3 <;> split at c4 <;> omega
end Go.Proofs.Ytjhedjokifnofaa

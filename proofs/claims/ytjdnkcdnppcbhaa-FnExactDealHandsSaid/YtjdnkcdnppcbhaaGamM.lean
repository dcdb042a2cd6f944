/- Games: the mathematics of which ones there are. -/
import Derived.Test.YtjdnkcdnppcbhaaThose
import Derived.Test.YtjdnkcdnppcbhaaChain
namespace Go.Proofs.Ytjdnkcdnppcbhaa
open Go.RowKit
set_option linter.unusedVariables false

theorem mem_sortG {a : List (Int × Int)} {t : Int × Int} : t ∈ sortL a ↔ t ∈ setL 9 ∧ t ∈ a := by
  unfold sortL pickL
  rw [List.mem_filter]
  simp [pickB]

theorem those_nil {a b : List (Int × Int)} (ha : handB a = true) : thoseL a b true = [] ↔ ∀ t ∈ a, t ∉ b := by
  have hg := (of_decide_eq_true ha : handP a).2.1
  unfold thoseL
  rw [List.filter_eq_nil_iff]
  refine ⟨fun h t ht hb => ?_, fun h t ht => ?_⟩
  · have := h t (mem_sortG.2 ⟨good_mem9 (hg t ht), ht⟩)
    simp [pickB, hb] at this
  · have := h t (mem_sortG.1 ht).2
    simp [pickB, this]

theorem handB_apart {F S T : List (Int × Int)} (hT : handB T = true) :
    handB (F ++ (S ++ T)) = (handB F && (handB S && (decide ((thoseL F S true).length = 0) && (decide ((thoseL F T true).length = 0) && decide ((thoseL S T true).length = 0))))) := by
  have hT' := (of_decide_eq_true hT : handP T)
  cases hF : handB F
  · simp only [Bool.false_and]
    refine decide_eq_false fun h => ?_
    obtain ⟨h1, h2, h3⟩ := h
    have hn := (List.nodup_append.1 h3).1
    have hgd : ∀ t ∈ F, goodB t.1 t.2 = true := fun t ht => h2 t (by simp [ht])
    have : handB F = true := decide_eq_true ⟨good_len hgd hn, hgd, hn⟩
    rw [hF] at this; cases this
  cases hS : handB S
  · simp only [Bool.false_and, Bool.and_false]
    refine decide_eq_false fun h => ?_
    obtain ⟨h1, h2, h3⟩ := h
    have hn := (List.nodup_append.1 (List.nodup_append.1 h3).2.1).1
    have hgd : ∀ t ∈ S, goodB t.1 t.2 = true := fun t ht => h2 t (by simp [ht])
    have : handB S = true := decide_eq_true ⟨good_len hgd hn, hgd, hn⟩
    rw [hS] at this; cases this
  have hF' := (of_decide_eq_true hF : handP F)
  have hS' := (of_decide_eq_true hS : handP S)
  simp only [List.length_eq_zero_iff, Bool.true_and]
  rw [Bool.eq_iff_iff]
  simp only [Bool.and_eq_true, decide_eq_true_eq, those_nil hF, those_nil hS]
  constructor
  · intro h
    obtain ⟨h1, h2, h3⟩ := of_decide_eq_true h
    obtain ⟨n1, n2, n3⟩ := List.nodup_append.1 h3
    obtain ⟨m1, m2, m3⟩ := List.nodup_append.1 n2
    exact ⟨fun t ht hs => n3 t ht t (by simp [hs]) rfl, fun t ht hs => n3 t ht t (by simp [hs]) rfl, fun t ht hs => m3 t ht t hs rfl⟩
  · rintro ⟨h1, h2, h3⟩
    have hn : (F ++ (S ++ T)).Nodup := List.nodup_append.2 ⟨hF'.2.2, List.nodup_append.2 ⟨hS'.2.2, hT'.2.2, fun a ha b hb e => h3 a ha (e ▸ hb)⟩, fun a ha b hb e => by
      subst e
      rcases List.mem_append.1 hb with hb | hb
      · exact h1 a ha hb
      · exact h2 a ha hb⟩
    have hgd : ∀ t ∈ F ++ (S ++ T), goodB t.1 t.2 = true := fun t ht => by
      rcases List.mem_append.1 ht with ht | ht
      · exact hF'.2.1 t ht
      · rcases List.mem_append.1 ht with ht | ht
        · exact hS'.2.1 t ht
        · exact hT'.2.1 t ht
    exact decide_eq_true ⟨good_len hgd hn, hgd, hn⟩

/-- The tiles of a row: none where it is no chain. -/
def rowT (R : List Int) : List (Int × Int) := if chainB R then tilesC R else []
def rowB (R : List Int) : Bool := decide (R.length = 0) || (chainB R && decide (2 ≤ R.length))
def turnB (t u : Int) : Bool := decide (0 ≤ t) && (decide (t ≤ 1) && (decide (0 ≤ u) && decide (u ≤ 2)))
def gameB (F S : List (Int × Int)) (R : List Int) (t u : Int) : Bool := turnB t u && (rowB R && handB (F ++ (S ++ rowT R)))
theorem rowT_hand (R : List Int) : handB (rowT R) = true := by
  unfold rowT
  split
  · rename_i h; exact chain_hand h
  · exact decide_eq_true ⟨by simp, by simp, by simp⟩
theorem gameB_spec (F S : List (Int × Int)) (R : List Int) (t u : Int) : gameB F S R t u =
    (turnB t u && (rowB R && (handB F && (handB S && (decide ((thoseL F S true).length = 0) && (decide ((thoseL F (rowT R) true).length = 0) && decide ((thoseL S (rowT R) true).length = 0))))))) := by
  unfold gameB
  rw [handB_apart (rowT_hand R)]
theorem gameB_parts {F S : List (Int × Int)} {R : List Int} {t u : Int} (h : gameB F S R t u = true) :
    turnB t u = true ∧ rowB R = true ∧ handB F = true ∧ handB S = true ∧ (∀ x ∈ F, x ∉ S) ∧ (∀ x ∈ F, x ∉ rowT R) ∧ ∀ x ∈ S, x ∉ rowT R := by
  rw [gameB_spec] at h
  simp only [Bool.and_eq_true, decide_eq_true_eq, List.length_eq_zero_iff] at h
  obtain ⟨h1, h2, h3, h4, h5, h6, h7⟩ := h
  exact ⟨h1, h2, h3, h4, (those_nil h3).1 h5, (those_nil h3).1 h6, (those_nil h4).1 h7⟩
end Go.Proofs.Ytjdnkcdnppcbhaa

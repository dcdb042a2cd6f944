/- Puzzles: the mathematics of which ones there are. -/
import Derived.Test.YtbanpgifhnbjoaaSortM
namespace Go.Proofs.Ytbanpgifhnbjoaa
open Go.RowKit
set_option linter.unusedVariables false

theorem hand_nd {ts : List (Int × Int)} (h : handB ts = true) : ts.Nodup := (of_decide_eq_true h : handP ts).2.2
theorem hand_gd {ts : List (Int × Int)} (h : handB ts = true) : ∀ t ∈ ts, goodB t.1 t.2 = true := (of_decide_eq_true h : handP ts).2.1
theorem sortL_nd (ts : List (Int × Int)) : (sortL ts).Nodup := (pickL_sorted ts true).imp fun {a b} h e => by subst e; simp [ltT] at h
/-- A hand sorted has just its tiles. -/
theorem sortP_perm {ts : List (Int × Int)} (h : handB ts = true) : (sortL ts).Perm ts :=
  (List.perm_ext_iff_of_nodup (sortL_nd ts) (hand_nd h)).2 fun t => mem_sortL (hand_gd h) t
theorem sortP_len {ts : List (Int × Int)} (h : handB ts = true) : (sortL ts).length = ts.length := (sortP_perm h).length_eq

theorem ltT_trans {a b c : Int × Int} (h1 : ltT a b) (h2 : ltT b c) : ltT a c := by
  simp only [ltT] at *
  omega
theorem ltT_asymm {a b : Int × Int} (h1 : ltT a b) : ¬ ltT b a := by
  simp only [ltT] at *
  omega
theorem ltT_total {a b : Int × Int} (hne : a ≠ b) (h : ¬ ltT b a) : ltT a b := by
  obtain ⟨a1, a2⟩ := a
  obtain ⟨b1, b2⟩ := b
  have h2 : ¬ (a1 = b1 ∧ a2 = b2) := fun e => hne (by rw [e.1, e.2])
  simp only [ltT] at *
  omega
/-- A hand whose neighbours stand in order is sorted. -/
theorem adj_sorted {ts : List (Int × Int)} (hh : handB ts = true) (h : ∀ k (hk : k + 1 < ts.length), ¬ ltT ts[k + 1] ts[k]) : sortL ts = ts := by
  have hn := hand_nd hh
  refine sorted_ext (pickL_sorted ts true) ?_ (fun t => mem_sortL (hand_gd hh) t)
  have step : ∀ k (hk : k + 1 < ts.length), ltT ts[k] ts[k + 1] := fun k hk => ltT_total (fun e => by
    have := List.pairwise_iff_getElem.1 hn k (k + 1) (by omega) hk (by omega)
    exact this e) (h k hk)
  have far : ∀ d i (hi : i + 1 + d < ts.length), ltT ts[i] ts[i + 1 + d] := fun d => by
    induction d with
    | zero => intro i hi; exact step i hi
    | succ d ih => intro i hi; exact ltT_trans (ih i (by omega)) (step (i + 1 + d) (by omega))
  rw [List.pairwise_iff_getElem]
  intro i j hi hj hij
  obtain ⟨d, rfl⟩ : ∃ d, j = i + 1 + d := ⟨j - (i + 1), by omega⟩
  exact far d i hj
theorem sorted_adj {ts : List (Int × Int)} (h : sortL ts = ts) (k : Nat) (hk : k + 1 < ts.length) : ¬ ltT ts[k + 1] ts[k] := by
  have h1 := pickL_sorted ts true
  have h2 : (sortL ts).Pairwise ltT := h1
  rw [h] at h2
  exact ltT_asymm (List.pairwise_iff_getElem.1 h2 k (k + 1) (by omega) hk (by omega))

def gapB (x : Int) : Bool := decide (-1 ≤ x) && decide (x ≤ 9)
def inPz (n : Int) : Bool := decide (1 ≤ n) && decide (n ≤ 9)
/-- Which puzzles there are. -/
def pzB (T : List (Int × Int)) (C : List Int) : Bool :=
  inPz T.length && (handB T && (decide ((C.length : Int) = (T.length : Int) + 1) && (decide (∀ x ∈ C, gapB x = true) && decide (sortL T = T))))
theorem pzB_parts {T : List (Int × Int)} {C : List Int} (h : pzB T C = true) : 1 ≤ T.length ∧ T.length ≤ 9 ∧ handB T = true ∧ C.length = T.length + 1 ∧ (∀ x ∈ C, gapB x = true) ∧ sortL T = T := by
  unfold pzB inPz at h
  simp only [Bool.and_eq_true, decide_eq_true_eq] at h
  obtain ⟨⟨h1, h2⟩, h3, h4, h5, h6⟩ := h
  exact ⟨by omega, by omega, h3, by omega, h5, h6⟩
theorem gapB_neg {x : Int} (h : gapB x = true) : x < 0 ↔ x = -1 := by
  unfold gapB at h
  simp only [Bool.and_eq_true, decide_eq_true_eq] at h
  omega
theorem gapB_num {x : Int} (h : gapB x = true) (hx : ¬ x = -1) : numB x = true := by
  unfold gapB at h
  simp only [Bool.and_eq_true, decide_eq_true_eq] at h
  unfold numB
  simp only [Bool.and_eq_true, decide_eq_true_eq]
  omega
theorem gap_or {x : Int} : gapB x = (decide (x = -1) || numB x) := by
  unfold gapB numB
  rw [Bool.eq_iff_iff]
  simp only [Bool.and_eq_true, Bool.or_eq_true, decide_eq_true_eq]
  omega
/-- How many gaps are among the first k. -/
def gapsTo (C : List Int) (k : Nat) : Nat := ((C.take k).filter fun x => decide (x < 0)).length
theorem gapsTo_yes {C : List Int} {k : Nat} (hk : k < C.length) (h : C[k] < 0) : gapsTo C (k + 1) = gapsTo C k + 1 := by
  unfold gapsTo
  rw [List.take_succ_eq_append_getElem hk, List.filter_append]
  simp [h]
theorem gapsTo_no {C : List Int} {k : Nat} (hk : k < C.length) (h : ¬ C[k] < 0) : gapsTo C (k + 1) = gapsTo C k := by
  unfold gapsTo
  rw [List.take_succ_eq_append_getElem hk, List.filter_append]
  simp [h]
theorem gapsTo_le (C : List Int) (k : Nat) : gapsTo C k ≤ C.length := by
  unfold gapsTo
  exact Nat.le_trans (List.length_filter_le _ _) (by simp; omega)
def gapsN (T : List (Int × Int)) (C : List Int) : Int := if pzB T C then (gapsTo C C.length : Int) else 0
end Go.Proofs.Ytbanpgifhnbjoaa

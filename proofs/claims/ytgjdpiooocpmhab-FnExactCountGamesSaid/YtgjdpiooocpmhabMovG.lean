/- The game behind a move: it is one. -/
import Derived.Test.YtgjdpiooocpmhabMov
import Derived.Test.YtgjdpiooocpmhabMakS
import Derived.Test.YtgjdpiooocpmhabLay
import Derived.Test.YtgjdpiooocpmhabTurn
namespace Go.Proofs.Ytgjdpiooocpmhab
open Go.RowKit
set_option linter.unusedVariables false

theorem gameB_of {F S : List (Int × Int)} {R : List Int} {t u : Int} (h1 : turnB t u = true) (h2 : rowB R = true) (h3 : handB F = true) (h4 : handB S = true) (h5 : ∀ x ∈ F, x ∉ S) (h6 : ∀ x ∈ F, x ∉ rowT R) (h7 : ∀ x ∈ S, x ∉ rowT R) : gameB F S R t u = true := by
  rw [gameB_spec, h1, h2, h3, h4, (those_nil h3).2 h5, (those_nil h3).2 h6, (those_nil h4).2 h7]
  rfl
theorem woL_mem {ts : List (Int × Int)} {a b : Int} {x : Int × Int} : x ∈ woL ts a b ↔ x ∈ ts ∧ x ≠ (a, b) := by
  unfold woL isTB
  rw [List.mem_filter]
  obtain ⟨p, q⟩ := x
  simp only [Bool.not_eq_true', Bool.and_eq_false_iff, beq_eq_false_iff_ne, ne_eq, Prod.mk.injEq]
  constructor
  · rintro ⟨h, h2⟩
    exact ⟨h, fun ⟨e1, e2⟩ => h2.elim (fun h => h e1) (fun h => h e2)⟩
  · rintro ⟨h, h2⟩
    refine ⟨h, ?_⟩
    by_cases e : p = a
    · exact .inr fun e2 => h2 ⟨e, e2⟩
    · exact .inl e
theorem woL_hand {ts : List (Int × Int)} {a b : Int} (h : handB ts = true) : handB (woL ts a b) = true := by
  obtain ⟨h1, h2, h3⟩ := (of_decide_eq_true h : handP ts)
  exact decide_eq_true ⟨Nat.le_trans (woL_len _ _ _) h1, fun t ht => h2 t (List.mem_filter.1 ht).1, h3.sublist List.filter_sublist⟩

def rowAfter (R : List Int) (a b : Int) (k : Nat) : List Int := if R.length = 0 then [a, b] else layT R a b (k == 1)
theorem has_end {a b e : Int} (h : hasB a b e = true) : e = a ∨ e = b := by
  unfold hasB at h
  simp only [Bool.or_eq_true, beq_iff_eq] at h
  omega
theorem tile_other {a b e : Int} (hab : a ≤ b) (he : e = a ∨ e = b) : tile2 (otherI a b e) e = (a, b) := by
  unfold otherI tile2
  by_cases h1 : e = a
  · rw [if_pos h1, h1]; simp [Int.min_eq_right hab, Int.max_eq_left hab]
  · have h2 : e = b := by omega
    rw [if_neg h1, if_pos h2, h2]; simp [Int.min_eq_left hab, Int.max_eq_right hab]
theorem other_num {a b e : Int} (hg : goodB a b = true) (he : e = a ∨ e = b) : numB (otherI a b e) = true := by
  unfold goodB at hg
  simp only [Bool.and_eq_true] at hg
  unfold otherI
  by_cases h1 : e = a
  · rw [if_pos h1]; exact hg.2.1
  · rw [if_neg h1, if_pos (by omega)]; exact hg.1
theorem rowB_of {R : List Int} (h : chainB R = true) (h2 : 2 ≤ R.length) : rowB R = true := by unfold rowB; rw [h, decide_eq_true h2]; simp
theorem rowT_of {R : List Int} (h : chainB R = true) : rowT R = tilesC R := if_pos h

/-- A row with a tile more is one, and its tiles are the row's and that one. -/
theorem row_after {R : List Int} {a b : Int} {k : Nat} (hR : rowB R = true) (hg : goodB a b = true) (hx : (a, b) ∉ rowT R) (hk : (k = 1 ∧ leftB R a b = true) ∨ (k = 2 ∧ rightB R a b = true)) :
    rowB (rowAfter R a b k) = true ∧ ∀ x, x ∈ rowT (rowAfter R a b k) ↔ x = (a, b) ∨ x ∈ rowT R := by
  have hab : a ≤ b := by unfold goodB at hg; simp only [Bool.and_eq_true, decide_eq_true_eq] at hg; exact hg.2.2
  by_cases h0 : R.length = 0
  · have e1 : rowAfter R a b k = [a, b] := if_pos h0
    have e2 : rowT R = [] := by unfold rowT; rw [chain_empty h0]; rfl
    have et : tilesC [a, b] = [(a, b)] := by rw [tilesC_cons, tilesC_one]; unfold tile2; rw [Int.min_eq_left hab, Int.max_eq_right hab]
    have hc : chainB [a, b] = true := chain_good (by simp) (fun x hx => by
      unfold goodB at hg; simp only [Bool.and_eq_true] at hg
      simp only [List.mem_cons, List.not_mem_nil, or_false] at hx
      rcases hx with rfl | rfl
      · exact hg.1
      · exact hg.2.1) (by rw [et]; simp)
    rw [e1, e2]
    exact ⟨rowB_of hc (by simp), fun x => by rw [rowT_of hc, et]; simp⟩
  · have hR2 : chainB R = true ∧ 2 ≤ R.length := by
      unfold rowB at hR
      simpa [h0] using hR
    obtain ⟨hc, hl⟩ := hR2
    rw [rowT_of hc] at hx ⊢
    have e1 : rowAfter R a b k = layT R a b (k == 1) := if_neg h0
    rcases hk with ⟨rfl, hk⟩ | ⟨rfl, hk⟩
    · have he := has_end (e := fstI R) (by unfold leftB at hk; rw [decide_eq_false h0] at hk; simpa using hk)
      match R, hl, h0, hc, hx, he, e1 with
      | x :: r, hl, h0, hc, hx, he, e1 =>
        have ef : fstI (x :: r) = x := rfl
        rw [ef] at he
        have e2 : rowAfter (x :: r) a b 1 = otherI a b x :: x :: r := by rw [e1]; rfl
        have et : tilesC (otherI a b x :: x :: r) = (a, b) :: tilesC (x :: r) := by rw [tilesC_cons, tile_other hab he]
        have hc2 : chainB (otherI a b x :: x :: r) = true := chain_good (by simp) (fun y hy => by
          rcases List.mem_cons.1 hy with rfl | hy
          · exact other_num hg he
          · exact chain_num hc y hy) (by rw [et]; exact List.nodup_cons.2 ⟨hx, chain_nodup hc⟩)
        rw [e2]
        exact ⟨rowB_of hc2 (by simp), fun y => by rw [rowT_of hc2, et]; simp⟩
    · have he := has_end (e := lstI R) (by unfold rightB at hk; simp only [Bool.and_eq_true] at hk; exact hk.2)
      obtain ⟨xs, l, rfl⟩ : ∃ xs l, R = xs ++ [l] := ⟨R.dropLast, R.getLast (by rintro rfl; simp at h0), (List.dropLast_concat_getLast _).symm⟩
      have ef : lstI (xs ++ [l]) = l := by unfold lstI; simp
      rw [ef] at he
      have e2 : rowAfter (xs ++ [l]) a b 2 = (xs ++ [l]) ++ [otherI a b l] := by
        rw [e1]
        show layOut _ (otherI a b (endI (xs ++ [l]) false)) false = _
        have : endI (xs ++ [l]) false = l := by simp [endI]
        rw [this]
        rfl
      have et : tilesC ((xs ++ [l]) ++ [otherI a b l]) = tilesC (xs ++ [l]) ++ [(a, b)] := by
        rw [List.append_assoc]
        show tilesC (xs ++ l :: [otherI a b l]) = _
        rw [tilesC_join, tilesC_cons, tilesC_one, tile2_comm, tile_other hab he]
      have hc2 : chainB ((xs ++ [l]) ++ [otherI a b l]) = true := chain_good (by simp) (fun y hy => by
        rcases List.mem_append.1 hy with hy | hy
        · exact chain_num hc y hy
        · rw [List.mem_singleton.1 hy]; exact other_num hg he) (by
          rw [et]
          exact List.nodup_append.2 ⟨chain_nodup hc, by simp, fun x hx1 y hy e => by
            rw [List.mem_singleton.1 hy] at e
            exact hx (e ▸ hx1)⟩)
      rw [e2]
      exact ⟨rowB_of hc2 (by simp), fun y => by rw [rowT_of hc2, et, List.mem_append, List.mem_singleton]; exact Or.comm⟩

theorem turn_back {t u : Int} (h : turnB t u = true) (v : Int) (h0 : 0 ≤ v) (h2 : v ≤ 2) : turnB (1 - t) v = true := by
  unfold turnB at h ⊢
  simp only [Bool.and_eq_true, decide_eq_true_eq] at h ⊢
  omega

/-- Behind a tile laid out of the first hand, or out of the second one. -/
theorem behind_first {F S : List (Int × Int)} {R : List Int} {t u a b : Int} {k : Nat} (h : gameB F S R t u = true) (hm : (a, b) ∈ F) (hk : (k = 1 ∧ leftB R a b = true) ∨ (k = 2 ∧ rightB R a b = true)) :
    gameB (woL F a b) S (rowAfter R a b k) (1 - t) 0 = true := by
  obtain ⟨h1, h2, h3, h4, h5, h6, h7⟩ := gameB_parts h
  have hg := (of_decide_eq_true h3 : handP F).2.1 _ hm
  obtain ⟨r1, r2⟩ := row_after h2 hg (h6 _ hm) hk
  refine gameB_of (turn_back h1 0 (by omega) (by omega)) r1 (woL_hand h3) h4 (fun x hx => h5 x (woL_mem.1 hx).1) (fun x hx => ?_) (fun x hx => ?_)
  · rw [r2]
    rintro (e | e)
    · exact (woL_mem.1 hx).2 e
    · exact h6 x (woL_mem.1 hx).1 e
  · rw [r2]
    rintro (e | e)
    · exact h5 _ hm (e ▸ hx)
    · exact h7 x hx e
theorem behind_second {F S : List (Int × Int)} {R : List Int} {t u a b : Int} {k : Nat} (h : gameB F S R t u = true) (hm : (a, b) ∈ S) (hk : (k = 1 ∧ leftB R a b = true) ∨ (k = 2 ∧ rightB R a b = true)) :
    gameB F (woL S a b) (rowAfter R a b k) (1 - t) 0 = true := by
  obtain ⟨h1, h2, h3, h4, h5, h6, h7⟩ := gameB_parts h
  have hg := (of_decide_eq_true h4 : handP S).2.1 _ hm
  obtain ⟨r1, r2⟩ := row_after h2 hg (h7 _ hm) hk
  refine gameB_of (turn_back h1 0 (by omega) (by omega)) r1 h3 (woL_hand h4) (fun x hx hy => h5 x hx (woL_mem.1 hy).1) (fun x hx => ?_) (fun x hx => ?_)
  · rw [r2]
    rintro (e | e)
    · exact h5 x hx (e ▸ hm)
    · exact h6 x hx e
  · rw [r2]
    rintro (e | e)
    · exact (woL_mem.1 hx).2 e
    · exact h7 x (woL_mem.1 hx).1 e
theorem behind_pass {F S : List (Int × Int)} {R : List Int} {t u : Int} (h : gameB F S R t u = true) (hu : u ≤ 1) : gameB F S R (1 - t) (u + 1) = true := by
  obtain ⟨h1, h2, h3, h4, h5, h6, h7⟩ := gameB_parts h
  have h0 : 0 ≤ u := by unfold turnB at h1; simp only [Bool.and_eq_true, decide_eq_true_eq] at h1; omega
  exact gameB_of (turn_back h1 (u + 1) (by omega) (by omega)) h2 h3 h4 h5 h6 h7
end Go.Proofs.Ytgjdpiooocpmhab

/- Games counted: the mathematics. -/
import Derived.Test.YtgjdpiooocpmhabMovG
namespace Go.Proofs.Ytgjdpiooocpmhab
open Go.RowKit
set_option linter.unusedVariables false

theorem other_sub {a b e : Int} (he : e = a ∨ e = b) : otherI a b e = a + b - e := by
  unfold otherI
  by_cases h1 : e = a
  · rw [if_pos h1]; omega
  · rw [if_neg h1, if_pos (by omega)]; omega
/-- What the specification lays, by a sum. -/
theorem row_left {R : List Int} {a b : Int} (h0 : R.length ≠ 0) (h : leftB R a b = true) : rowAfter R a b 1 = [a + b - fstI R] ++ R := by
  have he := has_end (e := fstI R) (by unfold leftB at h; rw [decide_eq_false h0] at h; simpa using h)
  unfold rowAfter
  rw [if_neg h0, ← other_sub he]
  rfl
theorem row_right {R : List Int} {a b : Int} (h0 : R.length ≠ 0) (h : rightB R a b = true) : rowAfter R a b 2 = R ++ [a + b - lstI R] := by
  have he := has_end (e := lstI R) (by unfold rightB at h; simp only [Bool.and_eq_true] at h; exact h.2)
  unfold rowAfter
  rw [if_neg h0, ← other_sub he]
  rfl
def movB (R : List Int) (H : List (Int × Int)) (m : Mv) : Prop := (m.1, m.2.1) ∈ H ∧ ((m.2.2 = 1 ∧ leftB R m.1 m.2.1 = true) ∨ (m.2.2 = 2 ∧ rightB R m.1 m.2.1 = true))
theorem mem_lays {R : List Int} {H : List (Int × Int)} {m : Mv} (h : m ∈ laysL R H) : movB R H m := by
  unfold laysL laysTo at h
  obtain ⟨t, ht, hm⟩ := List.mem_flatMap.1 h
  have ht2 := (mem_sortG.1 (List.mem_of_mem_take ht)).2
  unfold layOf at hm
  rcases List.mem_append.1 hm with hm | hm
  · split at hm
    · rw [List.mem_singleton] at hm
      subst hm
      exact ⟨ht2, .inl ⟨rfl, by assumption⟩⟩
    · cases hm
  · split at hm
    · rw [List.mem_singleton] at hm
      subst hm
      exact ⟨ht2, .inr ⟨rfl, by assumption⟩⟩
    · cases hm
theorem mem_moves {F S : List (Int × Int)} {R : List Int} {t u : Int} {m : Mv} (h : m ∈ movesL F S R t u) : overB F.length S.length u = false ∧ (m = (0, 0, 0) ∨ movB R (handG F S t) m) := by
  unfold movesL at h
  split at h
  · cases h
  · rename_i ho
    refine ⟨by simpa using ho, ?_⟩
    split at h
    · exact .inl (List.mem_singleton.1 h)
    · exact .inr (mem_lays h)

/-- The game behind a move. -/
def behF (F : List (Int × Int)) (t : Int) (m : Mv) : List (Int × Int) := if m.2.2 = 0 then F else if t = 1 then F else woL F m.1 m.2.1
def behS (S : List (Int × Int)) (t : Int) (m : Mv) : List (Int × Int) := if m.2.2 = 0 then S else if t = 1 then woL S m.1 m.2.1 else S
def behR (R : List Int) (m : Mv) : List Int := if m.2.2 = 0 then R else rowAfter R m.1 m.2.1 m.2.2
def behU (u : Int) (m : Mv) : Int := if m.2.2 = 0 then u + 1 else 0
def sizG (F S : List (Int × Int)) (u : Int) : Nat := 3 * (F.length + S.length) + (2 - u).toNat
theorem woL_less {ts : List (Int × Int)} {a b : Int} (h : (a, b) ∈ ts) : (woL ts a b).length < ts.length := by
  unfold woL
  exact List.length_filter_lt_length_iff_exists.2 ⟨(a, b), h, by simp [isTB]⟩
theorem over_no {F S : List (Int × Int)} {R : List Int} {t u : Int} (h : gameB F S R t u = true) (ho : overB F.length S.length u = false) : 0 ≤ u ∧ u ≤ 1 := by
  have h1 := (gameB_parts h).1
  unfold turnB at h1
  simp only [Bool.and_eq_true, decide_eq_true_eq] at h1
  unfold overB at ho
  simp at ho
  omega
theorem behind_good {F S : List (Int × Int)} {R : List Int} {t u : Int} {m : Mv} (h : gameB F S R t u = true) (hm : m ∈ movesL F S R t u) : gameB (behF F t m) (behS S t m) (behR R m) (1 - t) (behU u m) = true ∧ sizG (behF F t m) (behS S t m) (behU u m) < sizG F S u := by
  obtain ⟨ho, hm⟩ := mem_moves hm
  have hu := over_no h ho
  rcases hm with rfl | hm
  · refine ⟨behind_pass h hu.2, ?_⟩
    show 3 * (F.length + S.length) + (2 - (u + 1)).toNat < 3 * (F.length + S.length) + (2 - u).toNat
    omega
  · obtain ⟨hm1, hk⟩ := hm
    have hk0 : m.2.2 ≠ 0 := by omega
    unfold behF behS behR behU
    simp only [if_neg hk0]
    unfold handG at hm1
    by_cases ht : t = 1
    · simp only [if_pos ht] at hm1 ⊢
      refine ⟨behind_second h hm1 hk, ?_⟩
      have := woL_less hm1
      unfold sizG
      omega
    · simp only [if_neg ht] at hm1 ⊢
      refine ⟨behind_first h hm1 hk, ?_⟩
      have := woL_less hm1
      unfold sizG
      omega

theorem foldl_same {α β : Type} {f g : β → α → β} : ∀ (L : List α) (x : β), (∀ m ∈ L, ∀ y, f y m = g y m) → L.foldl f x = L.foldl g x
  | [], _, _ => rfl
  | m :: L, x, h => by
    rw [List.foldl_cons, List.foldl_cons, h m (by simp) x]
    exact foldl_same L _ fun m' hm' => h m' (by simp [hm'])
/-- How many ways a game goes on, told with enough steps; sums as the program reckons them. -/
def cntN : Nat → List (Int × Int) → List (Int × Int) → List Int → Int → Int → Int
  | 0, _, _, _, _, _ => 0
  | n + 1, F, S, R, t, u => if overB F.length S.length u then 1 else (movesL F S R t u).foldl (fun c m => IntKind.i64.wrap (c + cntN n (behF F t m) (behS S t m) (behR R m) (1 - t) (behU u m))) 0
/-- How many moves the longest one has. -/
def lngN : Nat → List (Int × Int) → List (Int × Int) → List Int → Int → Int → Int
  | 0, _, _, _, _, _ => 0
  | n + 1, F, S, R, t, u => if overB F.length S.length u then 0 else (movesL F S R t u).foldl (fun c m => max c (lngN n (behF F t m) (behS S t m) (behR R m) (1 - t) (behU u m) + 1)) 0
theorem cntN_more : ∀ (n : Nat) {F S : List (Int × Int)} {R : List Int} {t u : Int}, gameB F S R t u = true → sizG F S u < n → cntN n F S R t u = cntN (n + 1) F S R t u
  | 0, _, _, _, _, _, _, h => by omega
  | n + 1, F, S, R, t, u, hg, h => by
    rw [cntN, cntN]
    split
    · rfl
    · refine foldl_same _ _ fun m hm c => ?_
      obtain ⟨h1, h2⟩ := behind_good hg hm
      rw [cntN_more n h1 (by omega)]
theorem lngN_more : ∀ (n : Nat) {F S : List (Int × Int)} {R : List Int} {t u : Int}, gameB F S R t u = true → sizG F S u < n → lngN n F S R t u = lngN (n + 1) F S R t u
  | 0, _, _, _, _, _, _, h => by omega
  | n + 1, F, S, R, t, u, hg, h => by
    rw [lngN, lngN]
    split
    · rfl
    · refine foldl_same _ _ fun m hm c => ?_
      obtain ⟨h1, h2⟩ := behind_good hg hm
      rw [lngN_more n h1 (by omega)]
theorem lngN_nat : ∀ (n : Nat) (F S : List (Int × Int)) (R : List Int) (t u : Int), 0 ≤ lngN n F S R t u ∧ lngN n F S R t u ≤ n
  | 0, _, _, _, _, _ => ⟨Int.le_refl _, Int.le_refl _⟩
  | n + 1, F, S, R, t, u => by
    rw [lngN]
    split
    · omega
    · have : ∀ (L : List Mv) (c : Int), 0 ≤ c ∧ c ≤ n + 1 → 0 ≤ L.foldl (fun c m => max c (lngN n (behF F t m) (behS S t m) (behR R m) (1 - t) (behU u m) + 1)) c ∧ L.foldl (fun c m => max c (lngN n (behF F t m) (behS S t m) (behR R m) (1 - t) (behU u m) + 1)) c ≤ n + 1 := fun L => by
        induction L with
        | nil => intro c h; exact h
        | cons m L ih =>
          intro c h
          rw [List.foldl_cons]
          have h1 := lngN_nat n (behF F t m) (behS S t m) (behR R m) (1 - t) (behU u m)
          exact ih _ (by omega)
      exact this _ 0 (by omega)
end Go.Proofs.Ytgjdpiooocpmhab

/- The game behind a move: it is one. Games counted: the mathematics. -/
import Derived.Test.YtlnfialfkipdjaaMovA
import Derived.Test.YtlnfialfkipdjaaMakS
import Derived.Test.YtlnfialfkipdjaaLayA
import Derived.Test.YtlnfialfkipdjaaChains
namespace Go.Proofs.Ytlnfialfkipdjaa
open Go.RowKit
set_option linter.unusedVariables false

theorem gameB_of {F S : List (Int × Int)} {R : List Int} {t u : Int} (h1 : turnB t u = true) (h2 : rowB R = true) (h3 : handB F = true) (h4 : handB S = true) (h5 : ∀ x ∈ F, x ∉ S) (h6 : ∀ x ∈ F, x ∉ rowT R) (h7 : ∀ x ∈ S, x ∉ rowT R) : gameB F S R t u = true := by
  rw [gameB_spec, h1, h2, h3, h4, (those_nil h3).2 h5, (those_nil h3).2 h6, (those_nil h4).2 h7]
  rfl
theorem woL_mem {ts : List (Int × Int)} {a b : Int} {x : Int × Int} : x ∈ woL ts a b ↔ x ∈ ts ∧ x ≠ (a, b) := by
  unfold woL isTB
  rw [List.mem_filter]
  obtain ⟨p, q⟩ := x
  simp only [Bool.not_eq_true', Bool.and_eq_false_iff, beq_eq_false_iff_ne, ne_eq, Prod.mk.injEq]
  constructor
  · rintro ⟨h, h2⟩
    exact ⟨h, fun ⟨e1, e2⟩ => h2.elim (fun h => h e1) (fun h => h e2)⟩
  · rintro ⟨h, h2⟩
    refine ⟨h, ?_⟩
    by_cases e : p = a
    · exact .inr fun e2 => h2 ⟨e, e2⟩
    · exact .inl e
theorem woL_hand {ts : List (Int × Int)} {a b : Int} (h : handB ts = true) : handB (woL ts a b) = true := by
  obtain ⟨h1, h2, h3⟩ := (of_decide_eq_true h : handP ts)
  exact decide_eq_true ⟨Nat.le_trans (woL_len _ _ _) h1, fun t ht => h2 t (List.mem_filter.1 ht).1, h3.sublist List.filter_sublist⟩

def rowAfter (R : List Int) (a b : Int) (k : Nat) : List Int := if R.length = 0 then [a, b] else layT R a b (k == 1)
theorem has_end {a b e : Int} (h : hasB a b e = true) : e = a ∨ e = b := by
  unfold hasB at h
  simp only [Bool.or_eq_true, beq_iff_eq] at h
  omega
theorem tile_other {a b e : Int} (hab : a ≤ b) (he : e = a ∨ e = b) : tile2 (otherI a b e) e = (a, b) := by
  unfold otherI tile2
  by_cases h1 : e = a
  · rw [if_pos h1, h1]; simp [Int.min_eq_right hab, Int.max_eq_left hab]
  · have h2 : e = b := by omega
    rw [if_neg h1, if_pos h2, h2]; simp [Int.min_eq_left hab, Int.max_eq_right hab]
theorem other_num {a b e : Int} (hg : goodB a b = true) (he : e = a ∨ e = b) : numB (otherI a b e) = true := by
  unfold goodB at hg
  simp only [Bool.and_eq_true] at hg
  unfold otherI
  by_cases h1 : e = a
  · rw [if_pos h1]; exact hg.2.1
  · rw [if_neg h1, if_pos (by omega)]; exact hg.1
theorem rowB_of {R : List Int} (h : chainB R = true) (h2 : 2 ≤ R.length) : rowB R = true := by unfold rowB; rw [h, decide_eq_true h2]; simp
theorem rowT_of {R : List Int} (h : chainB R = true) : rowT R = tilesC R := if_pos h

/-- A row with a tile more is one, and its tiles are the row's and that one. -/
theorem row_after {R : List Int} {a b : Int} {k : Nat} (hR : rowB R = true) (hg : goodB a b = true) (hx : (a, b) ∉ rowT R) (hk : (k = 1 ∧ leftB R a b = true) ∨ (k = 2 ∧ rightB R a b = true)) :
    rowB (rowAfter R a b k) = true ∧ ∀ x, x ∈ rowT (rowAfter R a b k) ↔ x = (a, b) ∨ x ∈ rowT R := by
  have hab : a ≤ b := by unfold goodB at hg; simp only [Bool.and_eq_true, decide_eq_true_eq] at hg; exact hg.2.2
  by_cases h0 : R.length = 0
  · have e1 : rowAfter R a b k = [a, b] := if_pos h0
    have e2 : rowT R = [] := by unfold rowT; rw [chain_empty h0]; rfl
    have et : tilesC [a, b] = [(a, b)] := by rw [tilesC_cons, tilesC_one]; unfold tile2; rw [Int.min_eq_left hab, Int.max_eq_right hab]
    have hc : chainB [a, b] = true := chain_good (by simp) (fun x hx => by
      unfold goodB at hg; simp only [Bool.and_eq_true] at hg
      simp only [List.mem_cons, List.not_mem_nil, or_false] at hx
      rcases hx with rfl | rfl
      · exact hg.1
      · exact hg.2.1) (by rw [et]; simp)
    rw [e1, e2]
    exact ⟨rowB_of hc (by simp), fun x => by rw [rowT_of hc, et]; simp⟩
  · have hR2 : chainB R = true ∧ 2 ≤ R.length := by
      unfold rowB at hR
      simpa [h0] using hR
    obtain ⟨hc, hl⟩ := hR2
    rw [rowT_of hc] at hx ⊢
    have e1 : rowAfter R a b k = layT R a b (k == 1) := if_neg h0
    rcases hk with ⟨rfl, hk⟩ | ⟨rfl, hk⟩
    · have he := has_end (e := fstI R) (by unfold leftB at hk; rw [decide_eq_false h0] at hk; simpa using hk)
      match R, hl, h0, hc, hx, he, e1 with
      | x :: r, hl, h0, hc, hx, he, e1 =>
        have ef : fstI (x :: r) = x := rfl
        rw [ef] at he
        have e2 : rowAfter (x :: r) a b 1 = otherI a b x :: x :: r := by rw [e1]; rfl
        have et : tilesC (otherI a b x :: x :: r) = (a, b) :: tilesC (x :: r) := by rw [tilesC_cons, tile_other hab he]
        have hc2 : chainB (otherI a b x :: x :: r) = true := chain_good (by simp) (fun y hy => by
          rcases List.mem_cons.1 hy with rfl | hy
          · exact other_num hg he
          · exact chain_num hc y hy) (by rw [et]; exact List.nodup_cons.2 ⟨hx, chain_nodup hc⟩)
        rw [e2]
        exact ⟨rowB_of hc2 (by simp), fun y => by rw [rowT_of hc2, et]; simp⟩
    · have he := has_end (e := lstI R) (by unfold rightB at hk; simp only [Bool.and_eq_true] at hk; exact hk.2)
      obtain ⟨xs, l, rfl⟩ : ∃ xs l, R = xs ++ [l] := ⟨R.dropLast, R.getLast (by rintro rfl; simp at h0), (List.dropLast_concat_getLast _).symm⟩
      have ef : lstI (xs ++ [l]) = l := by unfold lstI; simp
      rw [ef] at he
      have e2 : rowAfter (xs ++ [l]) a b 2 = (xs ++ [l]) ++ [otherI a b l] := by
        rw [e1]
        show layOut _ (otherI a b (endI (xs ++ [l]) false)) false = _
        have : endI (xs ++ [l]) false = l := by simp [endI]
        rw [this]
        rfl
      have et : tilesC ((xs ++ [l]) ++ [otherI a b l]) = tilesC (xs ++ [l]) ++ [(a, b)] := by
        rw [List.append_assoc]
        show tilesC (xs ++ l :: [otherI a b l]) = _
        rw [tilesC_join, tilesC_cons, tilesC_one, tile2_comm, tile_other hab he]
      have hc2 : chainB ((xs ++ [l]) ++ [otherI a b l]) = true := chain_good (by simp) (fun y hy => by
        rcases List.mem_append.1 hy with hy | hy
        · exact chain_num hc y hy
        · rw [List.mem_singleton.1 hy]; exact other_num hg he) (by
          rw [et]
          exact List.nodup_append.2 ⟨chain_nodup hc, by simp, fun x hx1 y hy e => by
            rw [List.mem_singleton.1 hy] at e
            exact hx (e ▸ hx1)⟩)
      rw [e2]
      exact ⟨rowB_of hc2 (by simp), fun y => by rw [rowT_of hc2, et, List.mem_append, List.mem_singleton]; exact Or.comm⟩

theorem turn_back {t u : Int} (h : turnB t u = true) (v : Int) (h0 : 0 ≤ v) (h2 : v ≤ 2) : turnB (1 - t) v = true := by
  unfold turnB at h ⊢
  simp only [Bool.and_eq_true, decide_eq_true_eq] at h ⊢
  omega

/-- Behind a tile laid out of the first hand, or out of the second one. -/
theorem behind_first {F S : List (Int × Int)} {R : List Int} {t u a b : Int} {k : Nat} (h : gameB F S R t u = true) (hm : (a, b) ∈ F) (hk : (k = 1 ∧ leftB R a b = true) ∨ (k = 2 ∧ rightB R a b = true)) :
    gameB (woL F a b) S (rowAfter R a b k) (1 - t) 0 = true := by
  obtain ⟨h1, h2, h3, h4, h5, h6, h7⟩ := gameB_parts h
  have hg := (of_decide_eq_true h3 : handP F).2.1 _ hm
  obtain ⟨r1, r2⟩ := row_after h2 hg (h6 _ hm) hk
  refine gameB_of (turn_back h1 0 (by omega) (by omega)) r1 (woL_hand h3) h4 (fun x hx => h5 x (woL_mem.1 hx).1) (fun x hx => ?_) (fun x hx => ?_)
  · rw [r2]
    rintro (e | e)
    · exact (woL_mem.1 hx).2 e
    · exact h6 x (woL_mem.1 hx).1 e
  · rw [r2]
    rintro (e | e)
    · exact h5 _ hm (e ▸ hx)
    · exact h7 x hx e
theorem behind_second {F S : List (Int × Int)} {R : List Int} {t u a b : Int} {k : Nat} (h : gameB F S R t u = true) (hm : (a, b) ∈ S) (hk : (k = 1 ∧ leftB R a b = true) ∨ (k = 2 ∧ rightB R a b = true)) :
    gameB F (woL S a b) (rowAfter R a b k) (1 - t) 0 = true := by
  obtain ⟨h1, h2, h3, h4, h5, h6, h7⟩ := gameB_parts h
  have hg := (of_decide_eq_true h4 : handP S).2.1 _ hm
  obtain ⟨r1, r2⟩ := row_after h2 hg (h7 _ hm) hk
  refine gameB_of (turn_back h1 0 (by omega) (by omega)) r1 h3 (woL_hand h4) (fun x hx hy => h5 x hx (woL_mem.1 hy).1) (fun x hx => ?_) (fun x hx => ?_)
  · rw [r2]
    rintro (e | e)
    · exact h5 x hx (e ▸ hm)
    · exact h6 x hx e
  · rw [r2]
    rintro (e | e)
    · exact (woL_mem.1 hx).2 e
    · exact h7 x (woL_mem.1 hx).1 e
theorem behind_pass {F S : List (Int × Int)} {R : List Int} {t u : Int} (h : gameB F S R t u = true) (hu : u ≤ 1) : gameB F S R (1 - t) (u + 1) = true := by
  obtain ⟨h1, h2, h3, h4, h5, h6, h7⟩ := gameB_parts h
  have h0 : 0 ≤ u := by unfold turnB at h1; simp only [Bool.and_eq_true, decide_eq_true_eq] at h1; omega
  exact gameB_of (turn_back h1 (u + 1) (by omega) (by omega)) h2 h3 h4 h5 h6 h7
end Go.Proofs.Ytlnfialfkipdjaa

namespace Go.Proofs.Ytlnfialfkipdjaa
open Go.RowKit
set_option linter.unusedVariables false

theorem other_sub {a b e : Int} (he : e = a ∨ e = b) : otherI a b e = a + b - e := by
  unfold otherI
  by_cases h1 : e = a
  · rw [if_pos h1]; omega
  · rw [if_neg h1, if_pos (by omega)]; omega
/-- What the specification lays, by a sum. -/
theorem row_left {R : List Int} {a b : Int} (h0 : R.length ≠ 0) (h : leftB R a b = true) : rowAfter R a b 1 = [a + b - fstI R] ++ R := by
  have he := has_end (e := fstI R) (by unfold leftB at h; rw [decide_eq_false h0] at h; simpa using h)
  unfold rowAfter
  rw [if_neg h0, ← other_sub he]
  rfl
theorem row_right {R : List Int} {a b : Int} (h0 : R.length ≠ 0) (h : rightB R a b = true) : rowAfter R a b 2 = R ++ [a + b - lstI R] := by
  have he := has_end (e := lstI R) (by unfold rightB at h; simp only [Bool.and_eq_true] at h; exact h.2)
  unfold rowAfter
  rw [if_neg h0, ← other_sub he]
  rfl
def movB (R : List Int) (H : List (Int × Int)) (m : Mv) : Prop := (m.1, m.2.1) ∈ H ∧ ((m.2.2 = 1 ∧ leftB R m.1 m.2.1 = true) ∨ (m.2.2 = 2 ∧ rightB R m.1 m.2.1 = true))
theorem mem_lays {R : List Int} {H : List (Int × Int)} {m : Mv} (h : m ∈ laysL R H) : movB R H m := by
  unfold laysL laysTo at h
  obtain ⟨t, ht, hm⟩ := List.mem_flatMap.1 h
  have ht2 := (mem_sortG.1 (List.mem_of_mem_take ht)).2
  unfold layOf at hm
  rcases List.mem_append.1 hm with hm | hm
  · split at hm
    · rw [List.mem_singleton] at hm
      subst hm
      exact ⟨ht2, .inl ⟨rfl, by assumption⟩⟩
    · cases hm
  · split at hm
    · rw [List.mem_singleton] at hm
      subst hm
      exact ⟨ht2, .inr ⟨rfl, by assumption⟩⟩
    · cases hm
theorem mem_moves {F S : List (Int × Int)} {R : List Int} {t u : Int} {m : Mv} (h : m ∈ movesL F S R t u) : overB F.length S.length u = false ∧ (m = (0, 0, 0) ∨ movB R (handG F S t) m) := by
  unfold movesL at h
  split at h
  · cases h
  · rename_i ho
    refine ⟨by simpa using ho, ?_⟩
    split at h
    · exact .inl (List.mem_singleton.1 h)
    · exact .inr (mem_lays h)

/-- The game behind a move. -/
def behF (F : List (Int × Int)) (t : Int) (m : Mv) : List (Int × Int) := if m.2.2 = 0 then F else if t = 1 then F else woL F m.1 m.2.1
def behS (S : List (Int × Int)) (t : Int) (m : Mv) : List (Int × Int) := if m.2.2 = 0 then S else if t = 1 then woL S m.1 m.2.1 else S
def behR (R : List Int) (m : Mv) : List Int := if m.2.2 = 0 then R else rowAfter R m.1 m.2.1 m.2.2
def behU (u : Int) (m : Mv) : Int := if m.2.2 = 0 then u + 1 else 0
def sizG (F S : List (Int × Int)) (u : Int) : Nat := 3 * (F.length + S.length) + (2 - u).toNat
theorem woL_less {ts : List (Int × Int)} {a b : Int} (h : (a, b) ∈ ts) : (woL ts a b).length < ts.length := by
  unfold woL
  exact List.length_filter_lt_length_iff_exists.2 ⟨(a, b), h, by simp [isTB]⟩
theorem over_no {F S : List (Int × Int)} {R : List Int} {t u : Int} (h : gameB F S R t u = true) (ho : overB F.length S.length u = false) : 0 ≤ u ∧ u ≤ 1 := by
  have h1 := (gameB_parts h).1
  unfold turnB at h1
  simp only [Bool.and_eq_true, decide_eq_true_eq] at h1
  unfold overB at ho
  simp at ho
  omega
theorem behind_good {F S : List (Int × Int)} {R : List Int} {t u : Int} {m : Mv} (h : gameB F S R t u = true) (hm : m ∈ movesL F S R t u) : gameB (behF F t m) (behS S t m) (behR R m) (1 - t) (behU u m) = true ∧ sizG (behF F t m) (behS S t m) (behU u m) < sizG F S u := by
  obtain ⟨ho, hm⟩ := mem_moves hm
  have hu := over_no h ho
  rcases hm with rfl | hm
  · refine ⟨behind_pass h hu.2, ?_⟩
    show 3 * (F.length + S.length) + (2 - (u + 1)).toNat < 3 * (F.length + S.length) + (2 - u).toNat
    omega
  · obtain ⟨hm1, hk⟩ := hm
    have hk0 : m.2.2 ≠ 0 := by omega
    unfold behF behS behR behU
    simp only [if_neg hk0]
    unfold handG at hm1
    by_cases ht : t = 1
    · simp only [if_pos ht] at hm1 ⊢
      refine ⟨behind_second h hm1 hk, ?_⟩
      have := woL_less hm1
      unfold sizG
      omega
    · simp only [if_neg ht] at hm1 ⊢
      refine ⟨behind_first h hm1 hk, ?_⟩
      have := woL_less hm1
      unfold sizG
      omega

theorem foldl_same {α β : Type} {f g : β → α → β} : ∀ (L : List α) (x : β), (∀ m ∈ L, ∀ y, f y m = g y m) → L.foldl f x = L.foldl g x
  | [], _, _ => rfl
  | m :: L, x, h => by
    rw [List.foldl_cons, List.foldl_cons, h m (by simp) x]
    exact foldl_same L _ fun m' hm' => h m' (by simp [hm'])
/-- How many ways a game goes on, told with enough steps; sums as the program reckons them. -/
def cntN : Nat → List (Int × Int) → List (Int × Int) → List Int → Int → Int → Int
  | 0, _, _, _, _, _ => 0
  | n + 1, F, S, R, t, u => if overB F.length S.length u then 1 else (movesL F S R t u).foldl (fun c m => IntKind.i64.wrap (c + cntN n (behF F t m) (behS S t m) (behR R m) (1 - t) (behU u m))) 0
/-- How many moves the longest one has. -/
def lngN : Nat → List (Int × Int) → List (Int × Int) → List Int → Int → Int → Int
  | 0, _, _, _, _, _ => 0
  | n + 1, F, S, R, t, u => if overB F.length S.length u then 0 else (movesL F S R t u).foldl (fun c m => max c (lngN n (behF F t m) (behS S t m) (behR R m) (1 - t) (behU u m) + 1)) 0
theorem cntN_more : ∀ (n : Nat) {F S : List (Int × Int)} {R : List Int} {t u : Int}, gameB F S R t u = true → sizG F S u < n → cntN n F S R t u = cntN (n + 1) F S R t u
  | 0, _, _, _, _, _, _, h => by omega
  | n + 1, F, S, R, t, u, hg, h => by
    rw [cntN, cntN]
    split
    · rfl
    · refine foldl_same _ _ fun m hm c => ?_
      obtain ⟨h1, h2⟩ := behind_good hg hm
      rw [cntN_more n h1 (by omega)]
theorem lngN_more : ∀ (n : Nat) {F S : List (Int × Int)} {R : List Int} {t u : Int}, gameB F S R t u = true → sizG F S u < n → lngN n F S R t u = lngN (n + 1) F S R t u
  | 0, _, _, _, _, _, _, h => by omega
  | n + 1, F, S, R, t, u, hg, h => by
    rw [lngN, lngN]
    split
    · rfl
    · refine foldl_same _ _ fun m hm c => ?_
      obtain ⟨h1, h2⟩ := behind_good hg hm
      rw [lngN_more n h1 (by omega)]
theorem lngN_nat : ∀ (n : Nat) (F S : List (Int × Int)) (R : List Int) (t u : Int), 0 ≤ lngN n F S R t u ∧ lngN n F S R t u ≤ n
  | 0, _, _, _, _, _ => ⟨Int.le_refl _, Int.le_refl _⟩
  | n + 1, F, S, R, t, u => by
    rw [lngN]
    split
    · omega
    · have : ∀ (L : List Mv) (c : Int), 0 ≤ c ∧ c ≤ n + 1 → 0 ≤ L.foldl (fun c m => max c (lngN n (behF F t m) (behS S t m) (behR R m) (1 - t) (behU u m) + 1)) c ∧ L.foldl (fun c m => max c (lngN n (behF F t m) (behS S t m) (behR R m) (1 - t) (behU u m) + 1)) c ≤ n + 1 := fun L => by
        induction L with
        | nil => intro c h; exact h
        | cons m L ih =>
          intro c h
          rw [List.foldl_cons]
          have h1 := lngN_nat n (behF F t m) (behS S t m) (behR R m) (1 - t) (behU u m)
          exact ih _ (by omega)
      exact this _ 0 (by omega)
end Go.Proofs.Ytlnfialfkipdjaa

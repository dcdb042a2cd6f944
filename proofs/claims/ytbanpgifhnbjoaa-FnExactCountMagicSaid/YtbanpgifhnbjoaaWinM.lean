/- Windows: the mathematics. No walk here. -/
import Derived.Test.YtbanpgifhnbjoaaChain
namespace Go.Proofs.Ytbanpgifhnbjoaa
set_option linter.unusedVariables false

/-- The tiles of the first k pairs of a list of numbers. -/
def pairTo (xs : List Int) (k : Nat) : List (Int × Int) := (List.range k).map fun i => tile2 (xs.getD (2 * i) 0) (xs.getD (2 * i + 1) 0)

def pairs2 (xs : List Int) : List (Int × Int) := pairTo xs (xs.length / 2)

theorem pairTo_len (xs : List Int) (k : Nat) : (pairTo xs k).length = k := by simp [pairTo]

theorem pairs2_len (xs : List Int) : (pairs2 xs).length = xs.length / 2 := pairTo_len _ _

theorem pairTo_zero (xs : List Int) : pairTo xs 0 = [] := rfl

theorem pairTo_step (xs : List Int) (k : Nat) : pairTo xs (k + 1) = pairTo xs k ++ [tile2 (xs.getD (2 * k) 0) (xs.getD (2 * k + 1) 0)] := by
  unfold pairTo
  rw [List.range_succ, List.map_append]
  rfl

theorem pairTo_get (xs : List Int) {n k : Nat} (h : k < (pairTo xs n).length) : (pairTo xs n)[k] = tile2 (xs.getD (2 * k) 0) (xs.getD (2 * k + 1) 0) := by simp [pairTo]

theorem pairs2_get (xs : List Int) {k : Nat} (h : k < (pairs2 xs).length) : (pairs2 xs)[k] = tile2 (xs.getD (2 * k) 0) (xs.getD (2 * k + 1) 0) := pairTo_get xs h

theorem pairTo_append {xs ys : List Int} : ∀ (k : Nat), 2 * k ≤ xs.length → pairTo (xs ++ ys) k = pairTo xs k := by
  intro k h
  unfold pairTo
  refine List.map_congr_left fun i hi => ?_
  have := List.mem_range.1 hi
  rw [List.getD_eq_getElem?_getD, List.getD_eq_getElem?_getD, List.getElem?_append_left (by omega), List.getElem?_append_left (by omega), ← List.getD_eq_getElem?_getD, ← List.getD_eq_getElem?_getD]

/-- The pairs of two lists behind one another, the first of even length. -/
theorem pairs2_append {xs ys : List Int} (h : xs.length % 2 = 0) : pairs2 (xs ++ ys) = pairs2 xs ++ pairs2 ys := by
  apply List.ext_getElem
  · simp only [List.length_append, pairs2_len]; omega
  · intro i h1 h2
    rw [List.length_append, pairs2_len, pairs2_len] at h2
    rw [pairs2_get]
    rcases Nat.lt_or_ge i (xs.length / 2) with hlt | hge
    · rw [List.getElem_append_left (by rw [pairs2_len]; exact hlt), pairs2_get]
      rw [List.getD_eq_getElem?_getD, List.getD_eq_getElem?_getD, List.getElem?_append_left (by omega), List.getElem?_append_left (by omega), ← List.getD_eq_getElem?_getD, ← List.getD_eq_getElem?_getD]
    · rw [List.getElem_append_right (by rw [pairs2_len]; exact hge), pairs2_get]
      rw [List.getD_eq_getElem?_getD, List.getD_eq_getElem?_getD, List.getElem?_append_right (by omega), List.getElem?_append_right (by omega), ← List.getD_eq_getElem?_getD, ← List.getD_eq_getElem?_getD, pairs2_len, show 2 * i - xs.length = 2 * (i - xs.length / 2) from by omega, show 2 * i + 1 - xs.length = 2 * (i - xs.length / 2) + 1 from by omega]

theorem tile2_num {a b : Int} (h : goodB (tile2 a b).1 (tile2 a b).2 = true) : numB a = true ∧ numB b = true := by
  have h : goodB (min a b) (max a b) = true := h
  simp only [goodB, numB, Bool.and_eq_true, decide_eq_true_eq] at *
  omega

/-- Where the pairs are a hand, all numbers are ones of tiles. -/
theorem pairs2_num {xs : List Int} (he : xs.length % 2 = 0) (h : handB (pairs2 xs) = true) : ∀ x ∈ xs, numB x = true := by
  intro x hx
  obtain ⟨i, hi, rfl⟩ := List.getElem_of_mem hx
  have hp : handP (pairs2 xs) := of_decide_eq_true h
  have hk : i / 2 < (pairTo xs (xs.length / 2)).length := by rw [pairTo_len]; omega
  have hg := hp.2.1 _ (List.getElem_mem hk)
  rw [pairTo_get] at hg
  have hn := tile2_num hg
  rcases (show i = 2 * (i / 2) ∨ i = 2 * (i / 2) + 1 from by omega) with e | e
  · have := hn.1
    rw [← e, List.getD_eq_getElem?_getD, List.getElem?_eq_getElem hi] at this
    exact this
  · have := hn.2
    rw [← e, List.getD_eq_getElem?_getD, List.getElem?_eq_getElem hi] at this
    exact this

def winB (xs : List Int) : Bool := decide (xs.length = 8) && handB (pairs2 xs)

def winL (xs : List Int) (ys : List Int) : List Int := if winB xs then ys else []

theorem winL_yes {xs ys : List Int} (h : winB xs = true) : winL xs ys = ys := by simp [winL, h]

theorem winL_no {xs ys : List Int} (h : winB xs = false) : winL xs ys = [] := by simp [winL, h]

theorem win_len {xs : List Int} (h : winB xs = true) : xs.length = 8 := by
  unfold winB at h
  rw [Bool.and_eq_true, decide_eq_true_eq] at h
  exact h.1

theorem win_hand {xs : List Int} (h : winB xs = true) : handB (pairs2 xs) = true := by
  unfold winB at h
  rw [Bool.and_eq_true] at h
  exact h.2

theorem win_num {xs : List Int} (h : winB xs = true) : ∀ x ∈ xs, numB x = true := pairs2_num (by rw [win_len h]) (win_hand h)

theorem win_numD {xs : List Int} (h : winB xs = true) (i : Nat) : 0 ≤ xs.getD i 0 ∧ xs.getD i 0 ≤ 9 := by
  have := numB_getD (win_num h) i
  simpa [numB] using this

theorem win_no8 {xs : List Int} (h : xs.length ≠ 8) : winB xs = false := by simp [winB, h]

theorem win_is8 {xs : List Int} (h : xs.length = 8) : winB xs = handB (pairs2 xs) := by simp [winB, h]

theorem win_bad {xs : List Int} (h : ¬ ∀ x ∈ xs, numB x = true) : winB xs = false := by
  cases hb : winB xs
  · rfl
  · exact absurd (win_num hb) h

/-- The list as its eight numbers. -/
theorem list8 {xs : List Int} (h : xs.length = 8) : xs = [xs.getD 0 0, xs.getD 1 0, xs.getD 2 0, xs.getD 3 0, xs.getD 4 0, xs.getD 5 0, xs.getD 6 0, xs.getD 7 0] := by
  match xs, h with
  | [a, b, c, d, e, f, g, i], _ => rfl

/-- The window spun by k tiles. -/
def spinL (xs : List Int) (k : Nat) : List Int := xs.drop (2 * k) ++ xs.take (2 * k)

theorem spinL_len (xs : List Int) (k : Nat) : (spinL xs k).length = xs.length := by simp [spinL]; omega

theorem spinL_zero (xs : List Int) : spinL xs 0 = xs := by simp [spinL]

theorem spinL_get {xs : List Int} (h : xs.length = 8) {k i : Nat} (hk : k < 4) (hi : i < 8) : (spinL xs k).getD i 0 = xs.getD ((2 * k + i) % 8) 0 := by
  unfold spinL
  rw [List.getD_eq_getElem?_getD, List.getD_eq_getElem?_getD]
  rcases Nat.lt_or_ge i (8 - 2 * k) with hlt | hge
  · rw [List.getElem?_append_left (by simp; omega), List.getElem?_drop, Nat.mod_eq_of_lt (by omega)]
  · rw [List.getElem?_append_right (by simp; omega), List.length_drop, List.getElem?_take_of_lt (by omega), h, show (2 * k + i) % 8 = i - (8 - 2 * k) from by omega]

def mirL (xs : List Int) : List Int := (List.range 8).map fun i => xs.getD ((9 - i) % 8) 0

def mirTo (xs : List Int) (k : Nat) : List Int := (List.range k).map fun i => xs.getD ((9 - i) % 8) 0

theorem mirTo_len (xs : List Int) (k : Nat) : (mirTo xs k).length = k := by simp [mirTo]

theorem mirTo_step (xs : List Int) (k : Nat) : mirTo xs (k + 1) = mirTo xs k ++ [xs.getD ((9 - k) % 8) 0] := by
  unfold mirTo
  rw [List.range_succ, List.map_append]
  rfl

theorem mirL_get {xs : List Int} {i : Nat} (hi : i < 8) : (mirL xs).getD i 0 = xs.getD ((9 - i) % 8) 0 := by
  unfold mirL
  rw [List.getD_eq_getElem?_getD, List.getElem?_map, List.getElem?_range hi]
  rfl

/-- Lists compared, the first number that differs. -/
def lessL : List Int → List Int → Bool
  | x :: xs, y :: ys => if x = y then lessL xs ys else decide (x < y)
  | _, _ => false

theorem lessL_same : ∀ (xs : List Int), lessL xs xs = false
  | [] => rfl
  | x :: xs => by rw [lessL, if_pos rfl]; exact lessL_same xs

theorem lessL_at : ∀ (k : Nat) (xs ys : List Int), k < xs.length → k < ys.length → (∀ j, j < k → xs.getD j 0 = ys.getD j 0) → xs.getD k 0 ≠ ys.getD k 0 → lessL xs ys = decide (xs.getD k 0 < ys.getD k 0)
  | _, [], _, h, _, _, _ => by simp at h
  | _, _ :: _, [], _, h, _, _ => by simp at h
  | 0, x :: xs, y :: ys, _, _, _, hne => by
    have h : ¬ x = y := hne
    rw [lessL, if_neg h]
    rfl
  | k + 1, x :: xs, y :: ys, h1, h2, hs, hne => by
    have h : x = y := hs 0 (by omega)
    rw [lessL, if_pos h]
    exact lessL_at k xs ys (by simpa using h1) (by simpa using h2) (fun j hj => hs (j + 1) (by omega)) hne

theorem same_getD {xs ys : List Int} (h : xs.length = ys.length) (hs : ∀ j, j < xs.length → xs.getD j 0 = ys.getD j 0) : xs = ys := by
  apply List.ext_getElem h
  intro i h1 h2
  have := hs i h1
  rw [List.getD_eq_getElem?_getD, List.getD_eq_getElem?_getD, List.getElem?_eq_getElem h1, List.getElem?_eq_getElem h2] at this
  exact this

/-- The least of the window itself and the first k spun ones. -/
def bestL (xs : List Int) : Nat → List Int
  | 0 => xs
  | k + 1 => if lessL (spinL xs k) (bestL xs k) then spinL xs k else bestL xs k

theorem bestL_one (xs : List Int) : bestL xs 1 = xs := by
  show (if lessL (spinL xs 0) xs then spinL xs 0 else xs) = xs
  rw [spinL_zero, lessL_same]
  rfl

theorem bestL_len (xs : List Int) : ∀ k, (bestL xs k).length = xs.length
  | 0 => rfl
  | k + 1 => by
    rw [bestL]
    split
    · exact spinL_len xs k
    · exact bestL_len xs k

def sideV (xs : List Int) (k : Nat) : Int := xs.getD (2 * k) 0 + xs.getD (2 * k + 1) 0 + xs.getD ((2 * k + 2) % 8) 0

def sidesTo (xs : List Int) (k : Nat) : List Int := (List.range k).map (sideV xs)

theorem sidesTo_len (xs : List Int) (k : Nat) : (sidesTo xs k).length = k := by simp [sidesTo]

theorem sidesTo_step (xs : List Int) (k : Nat) : sidesTo xs (k + 1) = sidesTo xs k ++ [sideV xs k] := by
  unfold sidesTo
  rw [List.range_succ, List.map_append]
  rfl

def sidesL (xs : List Int) : List Int := [sideV xs 0, sideV xs 1, sideV xs 2, sideV xs 3]

theorem sidesTo_all (xs : List Int) : sidesTo xs 4 = sidesL xs := rfl

/-- No number is another than the first one. -/
def sameL (xs : List Int) : Bool := xs.all fun x => decide (x = xs.getD 0 0)

def fairB (xs : List Int) : Bool := sameL (sidesL xs)

theorem sameL_no {xs : List Int} {k : Nat} (h : k < xs.length) (hne : xs.getD k 0 ≠ xs.getD 0 0) : sameL xs = false := by
  cases hb : sameL xs
  · rfl
  · unfold sameL at hb
    rw [List.all_eq_true] at hb
    have := hb _ (List.getElem_mem h)
    rw [decide_eq_true_eq] at this
    rw [List.getD_eq_getElem?_getD, List.getElem?_eq_getElem h] at hne
    exact absurd this hne

theorem sameL_yes {xs : List Int} (h : ∀ k, k < xs.length → xs.getD k 0 = xs.getD 0 0) : sameL xs = true := by
  unfold sameL
  rw [List.all_eq_true]
  intro x hx
  obtain ⟨i, hi, rfl⟩ := List.getElem_of_mem hx
  have := h i hi
  rw [List.getD_eq_getElem?_getD, List.getElem?_eq_getElem hi] at this
  exact decide_eq_true this

def compL (xs : List Int) (n : Int) : List Int := xs.map fun x => n - x

def compB (xs : List Int) (n : Int) : Bool := winB xs && (numB n && xs.all fun x => decide (x ≤ n))

/-- The sum of the first j of f i. -/
def sumF (f : Nat → Nat → Int) (i : Nat) : Nat → Int
  | 0 => 0
  | j + 1 => sumF f i j + f i j

/-- What sums has got in line k at cell j. -/
def totF (f : Nat → Nat → Int) (C k j i : Nat) : Int := if i < k then sumF f i C else if i = k then sumF f i j else 0

def totL (f : Nat → Nat → Int) (L C k j : Nat) : List Int := (List.range L).map (totF f C k j)

def sumsL (f : Nat → Nat → Int) (L C : Nat) : List Int := (List.range L).map fun i => sumF f i C

theorem totL_len (f : Nat → Nat → Int) (L C k j : Nat) : (totL f L C k j).length = L := by simp [totL]

theorem totL_get (f : Nat → Nat → Int) {L C k j : Nat} (h : k < L) : (totL f L C k j)[k]? = some (sumF f k j) := by
  unfold totL
  rw [List.getElem?_map, List.getElem?_range h]
  simp [totF]

theorem totL_zero (f : Nat → Nat → Int) (L C : Nat) : totL f L C 0 0 = List.replicate L 0 := by
  unfold totL
  apply List.ext_getElem
  · simp
  · intro i h1 h2
    rw [List.getElem_map, List.getElem_range, List.getElem_replicate]
    unfold totF
    rw [if_neg (by omega)]
    split <;> rfl

theorem totL_next (f : Nat → Nat → Int) (L C k : Nat) : totL f L C k C = totL f L C (k + 1) 0 := by
  unfold totL
  refine List.map_congr_left fun i _ => ?_
  unfold totF
  rcases Nat.lt_trichotomy i k with h | h | h
  · rw [if_pos h, if_pos (by omega)]
  · subst h; rw [if_neg (by omega), if_pos rfl, if_pos (by omega)]
  · rw [if_neg (by omega), if_neg (by omega), if_neg (by omega)]
    split <;> rfl

theorem totL_all (f : Nat → Nat → Int) (L C : Nat) : totL f L C L 0 = sumsL f L C := by
  unfold totL sumsL
  refine List.map_congr_left fun i hi => ?_
  have := List.mem_range.1 hi
  unfold totF
  rw [if_pos this]

theorem totL_step (f : Nat → Nat → Int) {L C k j : Nat} (h : k < L) : (totL f L C k j).set k (sumF f k j + f k j) = totL f L C k (j + 1) := by
  unfold totL
  apply List.ext_getElem
  · simp
  · intro i h1 h2
    rw [List.getElem_set]
    simp only [List.getElem_map, List.getElem_range]
    unfold totF
    rcases Nat.lt_trichotomy i k with h | h | h
    · rw [if_neg (by omega), if_pos h, if_pos h]
    · subst h; rw [if_pos rfl, if_neg (by omega), if_pos rfl]; rfl
    · rw [if_neg (by omega), if_neg (by omega), if_neg (by omega), if_neg (by omega), if_neg (by omega)]

theorem sumF_bd (f : Nat → Nat → Int) (i : Nat) (hf : ∀ j, 0 ≤ f i j ∧ f i j ≤ 9) : ∀ j, 0 ≤ sumF f i j ∧ sumF f i j ≤ 9 * (j : Int)
  | 0 => by simp [sumF]
  | j + 1 => by
    have h1 := sumF_bd f i hf j
    have h2 := hf j
    show 0 ≤ sumF f i j + f i j ∧ sumF f i j + f i j ≤ 9 * ((j + 1 : Nat) : Int)
    omega
end Go.Proofs.Ytbanpgifhnbjoaa

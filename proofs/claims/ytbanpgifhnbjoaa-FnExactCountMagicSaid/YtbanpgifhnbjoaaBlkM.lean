/- Blocks: the mathematics. No walk here. -/
import Derived.Test.YtbanpgifhnbjoaaWinM
namespace Go.Proofs.Ytbanpgifhnbjoaa
open Go.RowKit
set_option linter.unusedVariables false

def flatTo (rss : List (List Int)) (k : Nat) : List Int := (rss.take k).flatten

theorem flatTo_zero (rss : List (List Int)) : flatTo rss 0 = [] := rfl

theorem flatTo_all (rss : List (List Int)) : flatTo rss rss.length = rss.flatten := by simp [flatTo]

theorem flatTo_step {rss : List (List Int)} {k : Nat} (h : k < rss.length) : flatTo rss (k + 1) = flatTo rss k ++ rss.getD k [] := by
  have e : rss.getD k [] = rss[k] := by simp [h]
  unfold flatTo
  rw [e, List.take_succ_eq_append_getElem h, List.flatten_append]
  simp

theorem flatTo_len {rss : List (List Int)} {W : Nat} (hw : ∀ k, k < rss.length → (rss.getD k []).length = W) : ∀ k, k ≤ rss.length → (flatTo rss k).length = k * W
  | 0, _ => by simp [flatTo]
  | k + 1, h => by
    rw [flatTo_step (by omega), List.length_append, flatTo_len hw k (by omega), hw k (by omega), Nat.add_mul, Nat.one_mul]

theorem flat_lenB {rss : List (List Int)} {W : Nat} (hw : ∀ k, k < rss.length → (rss.getD k []).length = W) : rss.flatten.length = rss.length * W := by
  rw [← flatTo_all]
  exact flatTo_len hw _ (Nat.le_refl _)

def matF (rss : List (List Int)) (i j : Nat) : Int := (rss.getD i []).getD j 0

theorem flat_get : ∀ (rss : List (List Int)) (W : Nat), (∀ k, k < rss.length → (rss.getD k []).length = W) → ∀ i j, i < rss.length → j < W → rss.flatten.getD (i * W + j) 0 = matF rss i j
  | [], _, _, i, j, hi, _ => by simp at hi
  | r :: rss, W, hw, 0, j, _, hj => by
    have h0 : r.length = W := hw 0 (by simp)
    unfold matF
    rw [List.flatten_cons, Nat.zero_mul, Nat.zero_add, List.getD_eq_getElem?_getD, List.getElem?_append_left (by omega)]
    rfl
  | r :: rss, W, hw, i + 1, j, hi, hj => by
    have h0 : r.length = W := hw 0 (by simp)
    have ih := flat_get rss W (fun k hk => hw (k + 1) (by simpa using hk)) i j (by simpa using hi) hj
    rw [List.flatten_cons, List.getD_eq_getElem?_getD, List.getElem?_append_right (by rw [h0, Nat.add_mul]; omega), h0, show (i + 1) * W + j - W = i * W + j from by rw [Nat.add_mul]; omega, ← List.getD_eq_getElem?_getD, ih]
    rfl

def widB (rss : List (List Int)) : Nat := (rss.getD 0 []).length

def shapeP (rss : List (List Int)) : Prop := 1 ≤ rss.length ∧ rss.length ≤ 3 ∧ (widB rss = 2 ∨ widB rss = 4) ∧ ∀ k, k < rss.length → (rss.getD k []).length = widB rss

instance (rss : List (List Int)) : Decidable (shapeP rss) := by unfold shapeP; infer_instance

def blkB (rss : List (List Int)) : Bool := decide (shapeP rss) && handB (pairs2 rss.flatten)

theorem blk_shape {rss : List (List Int)} (h : blkB rss = true) : shapeP rss := by
  unfold blkB at h
  rw [Bool.and_eq_true, decide_eq_true_eq] at h
  exact h.1

theorem blk_hand {rss : List (List Int)} (h : blkB rss = true) : handB (pairs2 rss.flatten) = true := by
  unfold blkB at h
  rw [Bool.and_eq_true] at h
  exact h.2

theorem blk_no {rss : List (List Int)} (h : ¬ shapeP rss) : blkB rss = false := by
  unfold blkB
  rw [decide_eq_false h, Bool.false_and]

theorem blk_yes {rss : List (List Int)} (h : shapeP rss) : blkB rss = handB (pairs2 rss.flatten) := by
  unfold blkB
  rw [decide_eq_true h, Bool.true_and]

theorem blk_none {rss : List (List Int)} (h : ¬ 1 ≤ rss.length) : blkB rss = false := blk_no fun hp => h hp.1

theorem blk_long {rss : List (List Int)} (h : ¬ rss.length ≤ 3) : blkB rss = false := blk_no fun hp => h hp.2.1

theorem blk_row {rss : List (List Int)} {k : Nat} (hk : k < rss.length) (h2 : (rss.getD k []).length ≠ 2) (h4 : (rss.getD k []).length ≠ 4) : blkB rss = false := blk_no fun hp => by
  have := hp.2.2.2 k hk
  have := hp.2.2.1
  omega

theorem blk_wid {rss : List (List Int)} {k : Nat} (hk : k < rss.length) (h : (rss.getD k []).length ≠ widB rss) : blkB rss = false := blk_no fun hp => h (hp.2.2.2 k hk)

theorem shape_even {rss : List (List Int)} (h : shapeP rss) : rss.flatten.length % 2 = 0 := by
  rw [flat_lenB h.2.2.2]
  rcases h.2.2.1 with e | e
  · rw [e]; omega
  · rw [e]; omega

theorem blk_num {rss : List (List Int)} {k : Nat} (hk : k < rss.length) (h : ¬ ∀ x ∈ rss.getD k [], numB x = true) : blkB rss = false := by
  cases hb : blkB rss
  · rfl
  · refine absurd (fun x hx => ?_) h
    refine pairs2_num (shape_even (blk_shape hb)) (blk_hand hb) x (List.mem_flatten.2 ⟨rss.getD k [], ?_, hx⟩)
    rw [List.getD_eq_getElem?_getD, List.getElem?_eq_getElem hk]
    exact List.getElem_mem hk

theorem mat_bd {rss : List (List Int)} (h : blkB rss = true) (i j : Nat) : 0 ≤ matF rss i j ∧ matF rss i j ≤ 9 := by
  have hn : numB (matF rss i j) = true := by
    unfold matF
    refine numB_getD (fun x hx => ?_) j
    rcases Nat.lt_or_ge i rss.length with hi | hi
    · refine pairs2_num (shape_even (blk_shape h)) (blk_hand h) x (List.mem_flatten.2 ⟨rss.getD i [], ?_, hx⟩)
      rw [List.getD_eq_getElem?_getD, List.getElem?_eq_getElem hi]
      exact List.getElem_mem hi
    · rw [List.getD_eq_getElem?_getD, List.getElem?_eq_none hi] at hx
      cases hx
  simpa [numB] using hn

/-- What the specification's columns hold: k rows, and j columns of the next one. -/
def colTo (rss : List (List Int)) (W k j : Nat) : List Int := (List.range W).map fun c => sumF (fun c i => matF rss i c) c (if c < j then k + 1 else k)

theorem colTo_len (rss : List (List Int)) (W k j : Nat) : (colTo rss W k j).length = W := by simp [colTo]

theorem colTo_get (rss : List (List Int)) {W k j : Nat} (h : j < W) : (colTo rss W k j)[j]? = some (sumF (fun c i => matF rss i c) j k) := by
  unfold colTo
  rw [List.getElem?_map, List.getElem?_range h]
  simp

theorem colTo_zero (rss : List (List Int)) (W : Nat) : colTo rss W 0 0 = List.replicate W 0 := by
  unfold colTo
  apply List.ext_getElem
  · simp
  · intro i h1 h2
    rw [List.getElem_map, List.getElem_range, List.getElem_replicate, if_neg (by omega)]
    rfl

theorem colTo_next (rss : List (List Int)) (W k : Nat) : colTo rss W k W = colTo rss W (k + 1) 0 := by
  unfold colTo
  refine List.map_congr_left fun i hi => ?_
  have := List.mem_range.1 hi
  rw [if_pos this, if_neg (by omega)]

theorem colTo_all (rss : List (List Int)) (W n : Nat) : colTo rss W n 0 = sumsL (fun c i => matF rss i c) W n := by
  unfold colTo sumsL
  refine List.map_congr_left fun i _ => ?_
  rw [if_neg (by omega)]

theorem colTo_step (rss : List (List Int)) {W k j : Nat} (h : j < W) : (colTo rss W k j).set j (sumF (fun c i => matF rss i c) j k + matF rss k j) = colTo rss W k (j + 1) := by
  unfold colTo
  apply List.ext_getElem
  · simp
  · intro i h1 h2
    rw [List.getElem_set]
    simp only [List.getElem_map, List.getElem_range]
    rcases Nat.lt_trichotomy i j with h | h | h
    · rw [if_neg (by omega), if_pos h, if_pos (by omega)]
    · subst h; rw [if_pos rfl, if_pos (by omega)]; rfl
    · rw [if_neg (by omega), if_neg (by omega), if_neg (by omega)]

/-- The sums of the first k rows. -/
def rsTo (rss : List (List Int)) (W k : Nat) : List Int := (List.range k).map fun i => sumF (matF rss) i W

theorem rsTo_len (rss : List (List Int)) (W k : Nat) : (rsTo rss W k).length = k := by simp [rsTo]

theorem rsTo_step (rss : List (List Int)) (W k : Nat) : rsTo rss W (k + 1) = rsTo rss W k ++ [sumF (matF rss) k W] := by
  unfold rsTo
  rw [List.range_succ, List.map_append]
  rfl

theorem rsTo_all (rss : List (List Int)) (W n : Nat) : rsTo rss W n = sumsL (matF rss) n W := rfl

theorem sumsL_len (f : Nat → Nat → Int) (L C : Nat) : (sumsL f L C).length = L := by simp [sumsL]

theorem sumsL_same {f g : Nat → Nat → Int} {L C : Nat} (h : ∀ i j, i < L → j < C → f i j = g i j) : sumsL f L C = sumsL g L C := by
  unfold sumsL
  refine List.map_congr_left fun i hi => ?_
  have hi := List.mem_range.1 hi
  have : ∀ c, c ≤ C → sumF f i c = sumF g i c := by
    intro c
    induction c with
    | zero => intro _; rfl
    | succ c ih => intro hc; rw [sumF, sumF, ih (by omega), h i c hi (by omega)]
  exact this C (Nat.le_refl _)

def blkL (rss : List (List Int)) (xs : List Int) : List Int := if blkB rss then xs else []

theorem blkL_yes {rss : List (List Int)} {xs : List Int} (h : blkB rss = true) : blkL rss xs = xs := by simp [blkL, h]

theorem blkL_no {rss : List (List Int)} {xs : List Int} (h : blkB rss = false) : blkL rss xs = [] := by simp [blkL, h]

def blkT (rss : List (List Int)) : List (Int × Int) := if blkB rss then pairs2 rss.flatten else []

theorem blkT_len (rss : List (List Int)) : (blkT rss).length ≤ 55 := by
  unfold blkT
  split
  · rename_i h
    exact (of_decide_eq_true (blk_hand h) : handP _).1
  · simp

theorem blk_rows_len (rss : List (List Int)) : (blkL rss (sumsL (matF rss) rss.length (widB rss))).length ≤ 110 := by
  unfold blkL
  split
  · rename_i h
    rw [sumsL_len]
    have := (blk_shape h).2.1
    omega
  · simp

theorem blk_cols_len (rss : List (List Int)) : (blkL rss (sumsL (fun c i => matF rss i c) (widB rss) rss.length)).length ≤ 110 := by
  unfold blkL
  split
  · rename_i h
    rw [sumsL_len]
    have := (blk_shape h).2.2.1
    omega
  · simp

theorem cellsI_setS (zs : List Int) (i : Nat) (p : Int) : (cellsI zs).set i (.int .i64 p) = cellsI (zs.set i p) := by
  simp [cellsI, List.map_set]
end Go.Proofs.Ytbanpgifhnbjoaa

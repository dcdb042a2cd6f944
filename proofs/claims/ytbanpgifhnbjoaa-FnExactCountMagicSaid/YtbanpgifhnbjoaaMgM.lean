/- Magic blocks, as the specification counts them: a hand without a tile, the rows of a list of numbers, the record of the search. No function of the program is named here. -/
import Derived.Test.YtbanpgifhnbjoaaMgC
import Derived.Test.YtbanpgifhnbjoaaThose
import Derived.Test.YtbanpgifhnbjoaaPzM
namespace Go.Proofs.Ytbanpgifhnbjoaa
open Go Go.RowKit
set_option linter.unusedVariables false

/-- A hand without a tile. -/
def woM (P : List (Int × Int)) (t : Int × Int) : List (Int × Int) := P.filter fun u => decide (u ≠ t)
theorem mem_woM {P : List (Int × Int)} {t u : Int × Int} : u ∈ woM P t ↔ u ∈ P ∧ u ≠ t := by
  unfold woM
  rw [List.mem_filter, decide_eq_true_eq]
theorem woM_len : ∀ {P : List (Int × Int)} {t : Int × Int}, P.Nodup → t ∈ P → (woM P t).length + 1 = P.length
  | [], t, _, h => by simp at h
  | u :: P, t, hn, h => by
    rw [List.nodup_cons] at hn
    unfold woM
    by_cases e : u = t
    · subst e
      rw [List.filter_cons_of_neg (by simp), List.length_cons]
      congr 1
      have : P.filter (fun v => decide (v ≠ u)) = P := List.filter_eq_self.2 fun v hv => by rw [decide_eq_true_eq]; rintro rfl; exact hn.1 hv
      rw [this]
    · rw [List.filter_cons_of_pos (by simp [e]), List.length_cons, List.length_cons]
      have := woM_len hn.2 ((List.mem_cons.1 h).resolve_left fun e2 => e e2.symm)
      unfold woM at this
      omega
theorem those_woM {P : List (Int × Int)} (h : handB P = true) (t : Int × Int) : (thoseL P [t] false).Perm (woM P t) := by
  have e : woM P t = P.filter (pickB [t] false) := by
    unfold woM
    refine List.filter_congr fun u _ => ?_
    unfold pickB
    by_cases hu : u = t <;> simp [hu]
  rw [e]
  exact (sortP_perm h).filter _
theorem hand_permM {P Q : List (Int × Int)} (h : P.Perm Q) (hp : handB P = true) : handB Q = true := by
  have hq : handP P := of_decide_eq_true hp
  exact decide_eq_true ⟨by rw [← h.length_eq]; exact hq.1, fun t ht => hq.2.1 t (h.mem_iff.2 ht), h.nodup_iff.1 hq.2.2⟩
theorem hand_woM {P : List (Int × Int)} (h : handB P = true) (t : Int × Int) : handB (woM P t) = true := by
  have hp : handP P := of_decide_eq_true h
  exact decide_eq_true ⟨Nat.le_trans (List.length_filter_le _ _) hp.1, fun t ht => hp.2.1 t (List.mem_filter.1 ht).1, hp.2.2.filter _⟩
theorem mk_perm {P Q : List (Int × Int)} (h : P.Perm Q) : mkH P = mkH Q := by
  funext a b
  unfold mkH
  exact decide_eq_decide.2 h.mem_iff
/-- The tiles that are left behind one. -/
theorem those_hand {P : List (Int × Int)} (h : handB P = true) {a b : Nat} (ht : tile2 (a : Int) b ∈ P) :
    handB (thoseL P [tile2 (a : Int) b] false) = true ∧ (thoseL P [tile2 (a : Int) b] false).length + 1 = P.length ∧ mkH (thoseL P [tile2 (a : Int) b] false) = rmM (mkH P) a b := by
  have hp := those_woM h (tile2 (a : Int) b)
  refine ⟨hand_permM hp.symm (hand_woM h _), by rw [hp.length_eq]; exact woM_len (hand_nd h) ht, ?_⟩
  rw [mk_perm hp]
  funext x y
  unfold mkH rmM
  by_cases e : (x = a ∧ y = b) ∨ (x = b ∧ y = a)
  · rw [if_pos e]
    refine decide_eq_false fun hm => (mem_woM.1 hm).2 ?_
    rw [tile2_eq]
    omega
  · rw [if_neg e]
    refine decide_eq_decide.2 ⟨fun hm => (mem_woM.1 hm).1, fun hm => mem_woM.2 ⟨hm, fun e2 => e ?_⟩⟩
    rw [tile2_eq] at e2
    omega
theorem hand_gt {P : List (Int × Int)} (h : handB P = true) : P.length ≤ 55 := (of_decide_eq_true h : handP P).1

/-- The layings of a hand's tiles. -/
def hwL (P : List (Int × Int)) : List (List Int) := allWl P P.length
theorem hwL_nil : hwL [] = [[]] := rfl
theorem hwL_perm {P Q : List (Int × Int)} (h : P.Perm Q) : hwL P = hwL Q := by unfold hwL allWl; rw [mk_perm h, h.length_eq]
/-- .. those of the first p pairs of numbers. -/
def hwTo (P : List (Int × Int)) (p : Nat) : List (List Int) := (List.range p).flatMap (wlJ (P.length - 1) (mkH P))
theorem hwTo_all {P : List (Int × Int)} (h : 0 < P.length) : hwTo P 100 = hwL P := by
  unfold hwTo hwL allWl
  obtain ⟨n, hn⟩ : ∃ n, P.length = n + 1 := ⟨P.length - 1, by omega⟩
  rw [hn, wlL_succ]
  rfl
theorem hwTo_no {P : List (Int × Int)} {a b : Nat} (hb : b < 10) (h : tile2 (a : Int) b ∉ P) : hwTo P (10 * a + b + 1) = hwTo P (10 * a + b) := by
  unfold hwTo
  rw [List.range_succ, List.flatMap_append]
  have e : wlJ (P.length - 1) (mkH P) (10 * a + b) = [] := by
    unfold wlJ mkH
    rw [show (10 * a + b) / 10 = a by omega, show (10 * a + b) % 10 = b by omega]
    simp [h]
  simp [e]
theorem hwTo_yes {P : List (Int × Int)} {a b : Nat} (hh : handB P = true) (hb : b < 10) (h : tile2 (a : Int) b ∈ P) : hwTo P (10 * a + b + 1) = hwTo P (10 * a + b) ++ (hwL (thoseL P [tile2 (a : Int) b] false)).map fun l => (a : Int) :: (b : Int) :: l := by
  obtain ⟨_, h2, h3⟩ := those_hand hh h
  have e : wlJ (P.length - 1) (mkH P) (10 * a + b) = (hwL (thoseL P [tile2 (a : Int) b] false)).map fun l => (a : Int) :: (b : Int) :: l := by
    unfold wlJ hwL allWl
    rw [show (10 * a + b) / 10 = a by omega, show (10 * a + b) % 10 = b by omega, h3, show P.length - 1 = (thoseL P [tile2 (a : Int) b] false).length by omega]
    have : mkH P a b = true := by unfold mkH; exact decide_eq_true h
    rw [if_pos this]
  unfold hwTo
  rw [List.range_succ, List.flatMap_append]
  simp [e]
/-- The magic ones, behind a beginning. -/
def mgB (R W : Nat) (xs : List Int) (L : List (List Int)) : List (List Int) := magL R W (L.map (xs ++ ·))
theorem mgB_app (R W : Nat) (xs : List Int) (L M : List (List Int)) : mgB R W xs (L ++ M) = mgB R W xs L ++ mgB R W xs M := by simp [mgB, magL]
theorem mgB_cons (R W : Nat) (xs : List Int) (a b : Int) (L : List (List Int)) : mgB R W xs (L.map fun l => a :: b :: l) = mgB R W (xs ++ [a, b]) L := by
  unfold mgB
  rw [List.map_map]
  congr 1
  refine List.map_congr_left fun l _ => ?_
  simp
theorem mgB_len (R W : Nat) (xs : List Int) (L : List (List Int)) : (mgB R W xs L).length ≤ L.length := by
  unfold mgB magL
  exact Nat.le_trans (List.length_filter_le _ _) (by simp)
theorem mgB_to {R W : Nat} {xs : List Int} {P : List (Int × Int)} (p : Nat) (hp : p ≤ 100) (h : 0 < P.length) : (mgB R W xs (hwTo P p)).length ≤ (mgB R W xs (hwL P)).length := by
  rw [← hwTo_all h]
  obtain ⟨d, hd⟩ : ∃ d, 100 = p + d := ⟨100 - p, by omega⟩
  rw [hd]
  have : hwTo P (p + d) = hwTo P p ++ ((List.range d).map (p + ·)).flatMap (wlJ (P.length - 1) (mkH P)) := by
    unfold hwTo
    rw [List.range_add, List.flatMap_append]
  rw [this, mgB_app, List.length_append]
  omega

/-- The rows of a list of numbers. -/
def rwsL (W k : Nat) (x : List Int) : List (List Int) := (List.range k).map fun i => (x.drop (i * W)).take W
theorem rwsL_len (W k : Nat) (x : List Int) : (rwsL W k x).length = k := by simp [rwsL]
theorem rwsL_succ (W k : Nat) (x : List Int) : rwsL W (k + 1) x = rwsL W k x ++ [(x.drop (k * W)).take W] := by simp [rwsL, List.range_succ]
theorem rwsL_get {W k i : Nat} {x : List Int} (h : i < k) : (rwsL W k x).getD i [] = (x.drop (i * W)).take W := by
  rw [List.getD_eq_getElem?_getD]
  unfold rwsL
  rw [List.getElem?_map, List.getElem?_range h]
  rfl
theorem rwsL_row {W R i : Nat} {x : List Int} (hx : x.length = R * W) (h : i < R) : ((x.drop (i * W)).take W).length = W := by
  rw [List.length_take, List.length_drop, hx]
  have : (i + 1) * W ≤ R * W := Nat.mul_le_mul_right _ h
  rw [Nat.succ_mul] at this
  omega
theorem rwsL_mat {W R i j : Nat} {x : List Int} (hx : x.length = R * W) (h : i < R) (hj : j < W) : matF (rwsL W R x) i j = x.getD (i * W + j) 0 := by
  unfold matF
  rw [rwsL_get h, List.getD_eq_getElem?_getD, List.getD_eq_getElem?_getD, List.getElem?_take_of_lt hj, List.getElem?_drop]
theorem rwsL_wid {W R : Nat} {x : List Int} (hx : x.length = R * W) (h : 1 ≤ R) : widB (rwsL W R x) = W := by
  unfold widB
  rw [rwsL_get h]
  exact rwsL_row hx h
theorem rwsL_shape {W R : Nat} {x : List Int} (hx : x.length = R * W) (h1 : 1 ≤ R) (h3 : R ≤ 3) (hW : W = 2 ∨ W = 4) : shapeP (rwsL W R x) := by
  refine ⟨by rw [rwsL_len]; exact h1, by rw [rwsL_len]; exact h3, by rw [rwsL_wid hx h1]; exact hW, fun k hk => ?_⟩
  rw [rwsL_len] at hk
  rw [rwsL_wid hx h1, rwsL_get hk]
  exact rwsL_row hx hk
theorem rwsL_bd {W R : Nat} {x : List Int} (hb : ∀ y ∈ x, 0 ≤ y ∧ y ≤ 9) (i j : Nat) : 0 ≤ matF (rwsL W R x) i j ∧ matF (rwsL W R x) i j ≤ 9 := by
  unfold matF
  by_cases h : i < R
  · rw [rwsL_get h]
    exact getD_bd (fun y hy => hb y (List.mem_of_mem_drop (List.mem_of_mem_take hy))) j
  · have e : (rwsL W R x).getD i [] = [] := by
      rw [List.getD_eq_getElem?_getD, List.getElem?_eq_none (by rw [rwsL_len]; omega)]
      rfl
    rw [e]
    simp
theorem rwsL_mag {W R : Nat} {x : List Int} (hx : x.length = R * W) (h : 1 ≤ R) : (sameL (sumsL (matF (rwsL W R x)) (rwsL W R x).length (widB (rwsL W R x))) && sameL (sumsL (fun c i => matF (rwsL W R x) i c) (widB (rwsL W R x)) (rwsL W R x).length)) = mgqB R W x := by
  rw [rwsL_len, rwsL_wid hx h]
  unfold mgqB
  rw [sumsL_same (g := fun i j => x.getD (i * W + j) 0) fun i j hi hj => rwsL_mat hx hi hj, sumsL_same (L := W) (C := R) (g := fun i j => x.getD (j * W + i) 0) fun i j hi hj => rwsL_mat hx hj hi]
end Go.Proofs.Ytbanpgifhnbjoaa

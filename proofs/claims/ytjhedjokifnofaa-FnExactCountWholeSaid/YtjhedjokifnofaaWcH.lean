/- Whole chains counted: a hand with its doubles, by the specification's formula. No function of the program is named here. -/
import Derived.Test.YtjhedjokifnofaaWcG
import Derived.Test.YtjhedjokifnofaaWcP
namespace Go.Proofs.Ytjhedjokifnofaa
open Go.RowKit
set_option linter.unusedVariables false

def ddB (t : Int × Int) : Bool := decide (t.1 = t.2)
/-- The numbers of the doubles, among the first k tiles and among all. -/
def ddTo (us : List (Int × Int)) (k : Nat) : List Int := ((us.take k).filter ddB).map Prod.fst
def ddL (us : List (Int × Int)) : List Int := (us.filter ddB).map Prod.fst
theorem ddTo_yes {us : List (Int × Int)} {k : Nat} (hk : k < us.length) (h : ddB us[k] = true) : ddTo us (k + 1) = ddTo us k ++ [us[k].1] := by
  unfold ddTo
  rw [List.take_succ_eq_append_getElem hk, List.filter_append, List.map_append]
  simp [h]
theorem ddTo_no {us : List (Int × Int)} {k : Nat} (hk : k < us.length) (h : ¬ ddB us[k] = true) : ddTo us (k + 1) = ddTo us k := by
  unfold ddTo
  rw [List.take_succ_eq_append_getElem hk, List.filter_append, List.map_append]
  simp [h]
theorem ddTo_len (us : List (Int × Int)) (k : Nat) : (ddTo us k).length ≤ us.length := by
  unfold ddTo
  rw [List.length_map]
  exact Nat.le_trans (List.length_filter_le _ _) (by simp; omega)
theorem ddTo_all (us : List (Int × Int)) : ddTo us us.length = ddL us := by unfold ddTo ddL; rw [List.take_length]
theorem dd_back (H : List (Int × Int)) : (ddL H).map (fun d => (d, d)) = H.filter ddB := by
  unfold ddL
  rw [List.map_map]
  refine (List.map_congr_left fun t ht => ?_).trans (List.map_id _)
  have h := of_decide_eq_true (List.mem_filter.1 ht).2
  show (t.1, t.1) = t
  exact Prod.ext rfl h
theorem dd_perm (H : List (Int × Int)) : (withD (wdL H) (ddL H)).Perm H := by
  unfold withD wdL
  rw [dd_back]
  have e : H.filter ddB = H.filter (fun t => !wdB t) := by
    refine List.filter_congr fun t _ => ?_
    unfold ddB wdB
    by_cases h : t.1 = t.2 <;> simp [h]
  rw [e]
  exact List.filter_append_perm wdB H
theorem dd_nodup {H : List (Int × Int)} (hn : H.Nodup) : (ddL H).Nodup := by
  have h : ((ddL H).map (fun d => (d, d))).Nodup := by rw [dd_back]; exact hn.filter _
  exact (List.pairwise_map.1 h).imp fun {a b} hab e => hab (by rw [e])
theorem dd_len (H : List (Int × Int)) : (wdL H).length + (ddL H).length = H.length := by
  have := (dd_perm H).length_eq
  unfold withD at this
  rw [List.length_append, List.length_map] at this
  exact this
/-- The places of a double's number, by the specification's formula. -/
def atN (P : List (Int × Int)) (x d : Int) : Nat := ((timesI P d + 1) / 2).toNat + (if oc P = 0 ∧ d = x then 1 else 0)
def plN (P : List (Int × Int)) (x : Int) (D : List Int) : Nat := D.foldl (fun w d => w * atN P x d) 1
theorem fold_prod (f : Int → Nat) : ∀ (D : List Int) (w : Nat), D.foldl (fun w d => w * f d) w = w * prodK f D
  | [], w => by simp [prodK]
  | d :: D, w => by
    rw [List.foldl_cons, fold_prod f D, Nat.mul_assoc]
    rfl
theorem plN_prod (P : List (Int × Int)) (x : Int) (D : List Int) : plN P x D = prodK (atN P x) D := by
  unfold plN
  rw [fold_prod, Nat.one_mul]
theorem plN_step {P : List (Int × Int)} {x : Int} {D : List Int} {k : Nat} (h : k < D.length) : plN P x (D.take (k + 1)) = plN P x (D.take k) * atN P x D[k] := by
  unfold plN
  rw [List.take_succ_eq_append_getElem h, List.foldl_append]
  rfl
/-- The whole chains that begin with a number below q, each times its places. -/
def whN (P : List (Int × Int)) (D : List Int) (x : Int) : Nat := if fromB P x = true then trl P.length P x * plN P x D else 0
def whS (P : List (Int × Int)) (D : List Int) (q : Nat) : Nat := ((List.range q).map fun x : Nat => whN P D (x : Int)).sum
theorem whS_step (P : List (Int × Int)) (D : List Int) (q : Nat) : whS P D (q + 1) = whS P D q + whN P D (q : Int) := by
  unfold whS
  rw [List.range_succ, List.map_append, List.sum_append]
  simp
theorem whS_all {H Q : List (Int × Int)} (hh : handB H = true) (hq : Q.Perm (wdL H)) (hQ : handB Q = true) : whS Q (ddL H) 10 = allN H := by
  have hn := hand_nd hh
  unfold whS allN
  congr 1
  refine List.map_congr_left fun x hx => ?_
  have hx := List.mem_range.1 hx
  have h1 : trl H.length H (x : Int) = wtr (wdL H).length (wdL H) (fun _ => 0) (ddL H) (x : Int) := by
    rw [← trl_perm H.length (x : Int) (dd_perm H)]
    exact trl_doubles H.length (wdL H) (ddL H) x (dd_len H) (hn.filter _) (fun t ht => of_decide_eq_true (List.mem_filter.1 ht).2) (dd_nodup hn) hx
  rw [h1, wtr_prod (wdL H).length (wdL H) (fun _ => 0) (x : Int) (fun d => timesI (wdL H) d + (if (x : Int) = d then 1 else 0)) (hn.filter _) (fun d => by simp)]
  rw [← hq.length_eq, ← trl_perm Q.length (x : Int) hq]
  unfold whN
  by_cases hf : fromB Q (x : Int) = true
  · rw [if_pos hf, plN_prod]
    congr 1
    refine prodK_congr fun d _ => ?_
    rw [← times_perm hq d]
    unfold atN
    have h0 := timesI_nonneg Q d
    by_cases hd : d = (x : Int)
    · subst hd
      rw [if_pos rfl]
      rw [fromB_iff hQ hx] at hf
      have ho : (oc Q = 0 ∧ timesI Q (x : Int) % 2 = 0) ∨ (oc Q ≠ 0 ∧ timesI Q (x : Int) % 2 = 1) := by
        by_cases hc : oc Q = 0
        · refine .inl ⟨hc, ?_⟩
          have hb : oddB Q (x : Int) = false := by
            cases hb : oddB Q (x : Int) with
            | false => rfl
            | true =>
              have hm : x ∈ (List.range 10).filter fun i : Nat => oddB Q (i : Int) := List.mem_filter.2 ⟨List.mem_range.2 hx, hb⟩
              have hnil : ((List.range 10).filter fun i : Nat => oddB Q (i : Int)) = [] := List.eq_nil_of_length_eq_zero hc
              rw [hnil] at hm
              simp at hm
          have := of_decide_eq_false hb
          omega
        · refine .inr ⟨hc, ?_⟩
          rcases hf with hf | ⟨_, hf | ⟨_, hf⟩⟩
          · rw [List.eq_nil_of_length_eq_zero hf] at hc
            exact absurd rfl hc
          · exact absurd hf hc
          · exact of_decide_eq_true hf
      rcases ho with ⟨ho, ht⟩ | ⟨ho, ht⟩
      · rw [if_pos ⟨ho, rfl⟩]; omega
      · rw [if_neg (fun h => ho h.1)]; omega
    · have e1 : ¬ ((x : Int) = d) := fun h => hd h.symm
      have e2 : ¬ (oc Q = 0 ∧ d = (x : Int)) := fun h => hd h.2
      rw [if_neg e1, if_neg e2]; omega
  · rw [if_neg hf]
    have hz : trl Q.length Q (x : Int) = 0 := Classical.byContradiction fun hne => hf (trl_from Q.length hQ hx hne)
    rw [hz, Nat.zero_mul]
theorem atN_le (P : List (Int × Int)) (x d : Int) : atN P x d ≤ P.length + 1 := by
  unfold atN
  have := timesI_top P d
  have := timesI_nonneg P d
  split <;> omega
theorem plN_le {P : List (Int × Int)} {D : List Int} (h : P.length + D.length ≤ 12) (x : Int) (k : Nat) : plN P x (D.take k) ≤ 13 ^ D.length := by
  have aux : ∀ D : List Int, prodK (atN P x) D ≤ 13 ^ D.length := by
    intro D
    induction D with
    | nil => simp [prodK]
    | cons d D ih =>
      show atN P x d * prodK (atN P x) D ≤ _
      rw [List.length_cons, Nat.pow_succ, Nat.mul_comm]
      exact Nat.mul_le_mul ih (Nat.le_trans (atN_le P x d) (by omega))
  rw [plN_prod]
  refine Nat.le_trans (aux _) (Nat.pow_le_pow_right (by omega) ?_)
  rw [List.length_take]
  omega
theorem whT_le {P : List (Int × Int)} {D : List Int} (h : P.length + D.length ≤ 12) (x : Int) : trl P.length P x * plN P x D ≤ 23298085122481 := by
  have h1 := trl_le P.length P x
  have h2 := plN_le h x D.length
  rw [List.take_length] at h2
  refine Nat.le_trans (Nat.mul_le_mul h1 h2) ?_
  refine Nat.le_trans (Nat.mul_le_mul_right _ (Nat.pow_le_pow_left (show 10 ≤ 13 by omega) P.length)) ?_
  rw [← Nat.pow_add]
  exact Nat.le_trans (Nat.pow_le_pow_right (by omega) h) (by decide)
theorem whS_le {P : List (Int × Int)} {D : List Int} (h : P.length + D.length ≤ 12) (q : Nat) : whS P D q ≤ q * 23298085122481 := by
  unfold whS
  have h1 := sum_le_mul (m := 23298085122481) (List.range q) (fun x : Nat => whN P D (x : Int)) (fun x _ => by
    show whN P D (x : Int) ≤ _
    unfold whN
    split
    · exact whT_le h _
    · exact Nat.zero_le _)
  rw [List.length_range] at h1
  exact h1
end Go.Proofs.Ytjhedjokifnofaa

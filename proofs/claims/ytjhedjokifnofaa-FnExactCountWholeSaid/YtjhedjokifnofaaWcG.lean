/- Whole chains counted: doubles put in. No function of the program is named here. -/
import Derived.Test.YtjhedjokifnofaaWcX
namespace Go.Proofs.Ytjhedjokifnofaa
open Go.RowKit
set_option linter.unusedVariables false

/-- A product over numbers. -/
def prodK (k : Int → Nat) : List Int → Nat
  | [] => 1
  | d :: D => k d * prodK k D
/-- One more at a number. -/
def kx (k : Int → Nat) (x : Int) (d : Int) : Nat := k d + (if x = d then 1 else 0)
theorem prodK_congr {k k' : Int → Nat} : ∀ {D : List Int}, (∀ d ∈ D, k d = k' d) → prodK k D = prodK k' D
  | [], _ => rfl
  | d :: D, h => by
    unfold prodK
    rw [h d List.mem_cons_self, prodK_congr (fun e he => h e (List.mem_cons_of_mem _ he))]
theorem prodK_out {k : Int → Nat} {x : Int} {D : List Int} (h : x ∉ D) : prodK (kx k x) D = prodK k D := prodK_congr fun d hd => by
  unfold kx
  rw [if_neg, Nat.add_zero]
  rintro rfl
  exact h hd
theorem prodK_split (k : Int → Nat) (x : Int) : ∀ {D : List Int}, D.Nodup → prodK (kx k x) D = prodK k D + (if x ∈ D then prodK k (D.erase x) else 0)
  | [], _ => by simp [prodK]
  | d :: D, hn => by
    rw [List.nodup_cons] at hn
    by_cases e : x = d
    · subst e
      rw [if_pos List.mem_cons_self, List.erase_cons_head]
      show kx k x x * prodK (kx k x) D = k x * prodK k D + prodK k D
      rw [prodK_out hn.1]
      unfold kx
      rw [if_pos rfl, Nat.add_mul, Nat.one_mul]
    · have e2 : (d == x) = false := by simpa using fun h : d = x => e h.symm
      have ih := prodK_split k x hn.2
      have e3 : (d :: D).erase x = d :: D.erase x := List.erase_cons_tail (by simpa using fun h : d = x => e h.symm)
      rw [e3]
      show kx k x d * prodK (kx k x) D = k d * prodK k D + _
      have e4 : kx k x d = k d := by unfold kx; rw [if_neg e, Nat.add_zero]
      rw [e4, ih, Nat.mul_add]
      congr 1
      by_cases hm : x ∈ D
      · rw [if_pos hm, if_pos (List.mem_cons_of_mem _ hm)]; rfl
      · rw [if_neg hm, if_neg (fun h => (List.mem_cons.1 h).elim e hm), Nat.mul_zero]
theorem kx_comm (k : Int → Nat) (x y : Int) : kx (kx k x) y = kx (kx k y) x := by
  funext d
  unfold kx
  omega
/-- The ways to lay all tiles, each times the product over doubles of the places that their numbers have then. -/
def wtr : Nat → List (Int × Int) → (Int → Nat) → List Int → Int → Nat
  | 0, P, k, D, x => if P.length = 0 then prodK (kx k x) D else 0
  | f + 1, P, k, D, x => if P.length = 0 then prodK (kx k x) D else ((List.range 10).map fun y : Nat => if tile2 x (y : Int) ∈ P then wtr f (woT P (tile2 x (y : Int))) (kx k x) D (y : Int) else 0).sum
theorem sum_addN (L : List Nat) (f g : Nat → Nat) : (L.map fun i => f i + g i).sum = (L.map f).sum + (L.map g).sum := by
  induction L with
  | nil => rfl
  | cons x L ih => simp only [List.map_cons, List.sum_cons, ih]; omega
theorem sum_zero (L : List Nat) (f : Nat → Nat) (h : ∀ x ∈ L, f x = 0) : (L.map f).sum = 0 := by
  have := sum_le_mul (m := 0) L f (fun x hx => Nat.le_of_eq (h x hx))
  omega
theorem wtr_split {D : List Int} (hn : D.Nodup) (x : Int) : ∀ (f : Nat) (P : List (Int × Int)) (k : Int → Nat) (y : Int), wtr f P (kx k x) D y = wtr f P k D y + (if x ∈ D then wtr f P k (D.erase x) y else 0)
  | 0, P, k, y => by
    unfold wtr
    by_cases h0 : P.length = 0
    · rw [if_pos h0, if_pos h0, if_pos h0, kx_comm, prodK_split _ x hn]
    · rw [if_neg h0, if_neg h0, if_neg h0]; simp
  | f + 1, P, k, y => by
    unfold wtr
    by_cases h0 : P.length = 0
    · rw [if_pos h0, if_pos h0, if_pos h0, kx_comm, prodK_split _ x hn]
    · rw [if_neg h0, if_neg h0, if_neg h0]
      have e : ∀ z : Nat, (if tile2 y (z : Int) ∈ P then wtr f (woT P (tile2 y (z : Int))) (kx (kx k x) y) D (z : Int) else 0) = (if tile2 y (z : Int) ∈ P then wtr f (woT P (tile2 y (z : Int))) (kx k y) D (z : Int) else 0) + (if tile2 y (z : Int) ∈ P then (if x ∈ D then wtr f (woT P (tile2 y (z : Int))) (kx k y) (D.erase x) (z : Int) else 0) else 0) := fun z => by
        by_cases ht : tile2 y (z : Int) ∈ P
        · rw [if_pos ht, if_pos ht, if_pos ht, kx_comm, wtr_split hn x f]
        · rw [if_neg ht, if_neg ht, if_neg ht]
      simp only [e]
      rw [sum_addN]
      congr 1
      by_cases hx : x ∈ D
      · simp only [if_pos hx]
      · simp only [if_neg hx, ite_self]
        exact sum_zero _ _ (fun _ _ => rfl)
/-- Tiles and doubles together. -/
def withD (P : List (Int × Int)) (D : List Int) : List (Int × Int) := P ++ D.map fun d => (d, d)
theorem mem_withD {P : List (Int × Int)} {D : List Int} {t : Int × Int} : t ∈ withD P D ↔ t ∈ P ∨ ∃ d ∈ D, (d, d) = t := by
  unfold withD
  rw [List.mem_append, List.mem_map]
theorem tile2_same (x : Int) : tile2 x x = (x, x) := by unfold tile2; simp
theorem tile2_ne {x y : Int} (h : x ≠ y) : (tile2 x y).1 ≠ (tile2 x y).2 := by unfold tile2; simp only; omega
theorem sum_pick (a : Nat) {x : Nat} : ∀ {L : List Nat}, L.Nodup → x ∈ L → ∀ (h : Nat → Nat), (L.map fun y => (if y = x then a else 0) + h y).sum = a + (L.map h).sum
  | [], _, hx, _ => by simp at hx
  | y :: L, hn, hx, h => by
    rw [List.nodup_cons] at hn
    rw [List.map_cons, List.sum_cons, List.map_cons, List.sum_cons]
    by_cases e : y = x
    · subst e
      rw [if_pos rfl]
      have : (L.map fun z => (if z = y then a else 0) + h z) = L.map h := List.map_congr_left fun z hz => by
        rw [if_neg (by rintro rfl; exact hn.1 hz), Nat.zero_add]
      rw [this]
      omega
    · rw [if_neg e, sum_pick a hn.2 ((List.mem_cons.1 hx).resolve_left fun e2 => e e2.symm) h]
      omega
theorem trl_doubles : ∀ (n : Nat) (P : List (Int × Int)) (D : List Int) (x : Nat), P.length + D.length = n → P.Nodup → (∀ t ∈ P, t.1 ≠ t.2) → D.Nodup → x < 10 → trl n (withD P D) (x : Int) = wtr P.length P (fun _ => 0) D (x : Int)
  | 0, P, D, x, hl, hn, hp, hd, hx => by
    have e1 : P = [] := List.eq_nil_of_length_eq_zero (by omega)
    have e2 : D = [] := List.eq_nil_of_length_eq_zero (by omega)
    subst e1
    subst e2
    rfl
  | n + 1, P, D, x, hl, hn, hp, hd, hx => by
    have hql : (withD P D).length = n + 1 := by unfold withD; rw [List.length_append, List.length_map]; exact hl
    have e0 : trl (n + 1) (withD P D) (x : Int) = ((List.range 10).map fun y : Nat => if tile2 (x : Int) (y : Int) ∈ withD P D then trl n (woT (withD P D) (tile2 (x : Int) (y : Int))) (y : Int) else 0).sum := by
      show (if (withD P D).length = 0 then 1 else _) = _
      rw [if_neg (by omega)]
    rw [e0]
    obtain ⟨a, ha⟩ : ∃ a, a = (if (x : Int) ∈ D then wtr P.length P (fun _ => 0) (D.erase (x : Int)) (x : Int) else 0) := ⟨_, rfl⟩
    have hg : ∀ y ∈ List.range 10, (if tile2 (x : Int) (y : Int) ∈ withD P D then trl n (woT (withD P D) (tile2 (x : Int) (y : Int))) (y : Int) else 0) = (if y = x then a else 0) + (if tile2 (x : Int) (y : Int) ∈ P then wtr (P.length - 1) (woT P (tile2 (x : Int) (y : Int))) (fun _ => 0) D (y : Int) else 0) := fun y hy => by
      have hy := List.mem_range.1 hy
      by_cases hyx : y = x
      · subst hyx
        have hnp : tile2 (y : Int) (y : Int) ∉ P := fun h => by
          have := hp _ h
          rw [tile2_same] at this
          exact this rfl
        rw [if_pos rfl, if_neg hnp, Nat.add_zero, ha]
        by_cases hm : (y : Int) ∈ D
        · rw [if_pos hm, if_pos (mem_withD.2 (.inr ⟨(y : Int), hm, (tile2_same _).symm⟩))]
          have e1 : woT (withD P D) (tile2 (y : Int) (y : Int)) = withD P (D.erase (y : Int)) := by
            unfold woT withD
            rw [List.filter_append]
            congr 1
            · exact List.filter_eq_self.2 fun u hu => by rw [decide_eq_true_eq]; rintro rfl; exact hnp hu
            · rw [List.filter_map, hd.erase_eq_filter, tile2_same]
              congr 1
              refine List.filter_congr fun d _ => ?_
              simp only [Function.comp]
              by_cases hdy : d = (y : Int)
              · subst hdy; simp
              · have : (d, d) ≠ ((y : Int), (y : Int)) := fun h => hdy (congrArg Prod.fst h)
                simp [hdy]
          rw [e1]
          refine trl_doubles n P (D.erase (y : Int)) y ?_ hn hp (hd.erase _) hx
          have := List.length_erase_of_mem hm
          have := List.length_pos_of_mem hm
          omega
        · rw [if_neg hm, if_neg]
          intro h
          rcases mem_withD.1 h with h | ⟨d, hd1, hd2⟩
          · exact hnp h
          · rw [tile2_same] at hd2
            have : d = (y : Int) := congrArg Prod.fst hd2
            exact hm (this ▸ hd1)
      · rw [if_neg hyx, Nat.zero_add]
        have hne : (x : Int) ≠ (y : Int) := fun h => hyx (by omega)
        have hiff : tile2 (x : Int) (y : Int) ∈ withD P D ↔ tile2 (x : Int) (y : Int) ∈ P := by
          rw [mem_withD]
          constructor
          · rintro (h | ⟨d, _, hd2⟩)
            · exact h
            · exact absurd (by rw [← hd2]) (tile2_ne hne)
          · exact .inl
        by_cases ht : tile2 (x : Int) (y : Int) ∈ P
        · rw [if_pos ht, if_pos (hiff.2 ht)]
          have e1 : woT (withD P D) (tile2 (x : Int) (y : Int)) = withD (woT P (tile2 (x : Int) (y : Int))) D := by
            unfold woT withD
            rw [List.filter_append]
            congr 1
            exact List.filter_eq_self.2 fun u hu => by
              rw [decide_eq_true_eq]
              obtain ⟨d, _, rfl⟩ := List.mem_map.1 hu
              intro e
              exact tile2_ne hne (by rw [← e])
          have hwl := woT_len hn ht
          rw [e1, trl_doubles n (woT P (tile2 (x : Int) (y : Int))) D y (by omega) (hn.filter _) (fun t h => hp t (mem_woT.1 h).1) hd hy]
          rw [show (woT P (tile2 (x : Int) (y : Int))).length = P.length - 1 by omega]
        · rw [if_neg ht, if_neg (fun h => ht (hiff.1 h))]
    rw [List.map_congr_left hg, sum_pick a List.nodup_range (List.mem_range.2 hx)]
    have hxe : (x : Int) ∉ D.erase (x : Int) := fun h => by rw [hd.mem_erase_iff] at h; exact h.1 rfl
    by_cases h0 : P.length = 0
    · have e1 : P = [] := List.eq_nil_of_length_eq_zero h0
      subst e1
      have hz : ((List.range 10).map fun y : Nat => if tile2 (x : Int) (y : Int) ∈ ([] : List (Int × Int)) then wtr (([] : List (Int × Int)).length - 1) (woT [] (tile2 (x : Int) (y : Int))) (fun _ => 0) D (y : Int) else 0).sum = 0 := sum_zero _ _ (fun y _ => by rw [if_neg (by simp)])
      rw [hz, Nat.add_zero, ha]
      have hw : ∀ D' : List Int, wtr ([] : List (Int × Int)).length [] (fun _ => 0) D' (x : Int) = prodK (kx (fun _ => 0) (x : Int)) D' := fun D' => rfl
      rw [hw, hw, prodK_split _ _ hd]
      have hp0 : prodK (fun _ => 0) D = 0 := by
        match D, hl with
        | d :: D, _ => show 0 * _ = 0; rw [Nat.zero_mul]
      rw [hp0, Nat.zero_add]
      by_cases hm : (x : Int) ∈ D
      · rw [if_pos hm, if_pos hm, prodK_out hxe]
      · rw [if_neg hm, if_neg hm]
    · obtain ⟨p, hpl⟩ : ∃ p, P.length = p + 1 := ⟨P.length - 1, by omega⟩
      have hw : ∀ D' : List Int, wtr P.length P (fun _ => 0) D' (x : Int) = ((List.range 10).map fun y : Nat => if tile2 (x : Int) (y : Int) ∈ P then wtr p (woT P (tile2 (x : Int) (y : Int))) (kx (fun _ => 0) (x : Int)) D' (y : Int) else 0).sum := fun D' => by
        rw [hpl]
        show (if P.length = 0 then _ else _) = _
        rw [if_neg h0]
      rw [ha, hw D, show P.length - 1 = p by omega]
      have hsp : ∀ y : Nat, (if tile2 (x : Int) (y : Int) ∈ P then wtr p (woT P (tile2 (x : Int) (y : Int))) (kx (fun _ => 0) (x : Int)) D (y : Int) else 0) = (if (x : Int) ∈ D then (if tile2 (x : Int) (y : Int) ∈ P then wtr p (woT P (tile2 (x : Int) (y : Int))) (fun _ => 0) (D.erase (x : Int)) (y : Int) else 0) else 0) + (if tile2 (x : Int) (y : Int) ∈ P then wtr p (woT P (tile2 (x : Int) (y : Int))) (fun _ => 0) D (y : Int) else 0) := fun y => by
        by_cases ht : tile2 (x : Int) (y : Int) ∈ P
        · rw [if_pos ht, if_pos ht, if_pos ht, wtr_split hd]
          omega
        · rw [if_neg ht, if_neg ht, if_neg ht]; simp
      simp only [hsp]
      rw [sum_addN]
      congr 1
      by_cases hm : (x : Int) ∈ D
      · simp only [if_pos hm]
        rw [hw]
        congr 1
        refine List.map_congr_left fun y _ => ?_
        by_cases ht : tile2 (x : Int) (y : Int) ∈ P
        · rw [if_pos ht, if_pos ht, wtr_split (hd.erase _), if_neg hxe, Nat.add_zero]
        · rw [if_neg ht, if_neg ht]
      · simp only [if_neg hm]
        exact (sum_zero _ _ (fun _ _ => rfl)).symm
/-- The places of a number at the end are known at the start. -/
theorem wtr_prod {D : List Int} : ∀ (f : Nat) (P : List (Int × Int)) (k : Int → Nat) (x : Int) (φ : Int → Int), P.Nodup → (∀ d, timesI P d + 2 * (k d : Int) + (if x = d then 1 else 0) = φ d) →
    wtr f P k D x = trl f P x * prodK (fun d => ((φ d + 1) / 2).toNat) D
  | 0, P, k, x, φ, hn, hφ => by
    unfold wtr trl
    by_cases h0 : P.length = 0
    · rw [if_pos h0, if_pos h0, Nat.one_mul]
      refine prodK_congr fun d _ => ?_
      have := hφ d
      rw [List.eq_nil_of_length_eq_zero h0] at this
      have e3 : timesI [] d = 0 := rfl
      rw [e3] at this
      unfold kx
      split <;> split at this <;> omega
    · rw [if_neg h0, if_neg h0, Nat.zero_mul]
  | f + 1, P, k, x, φ, hn, hφ => by
    unfold wtr trl
    by_cases h0 : P.length = 0
    · rw [if_pos h0, if_pos h0, Nat.one_mul]
      refine prodK_congr fun d _ => ?_
      have := hφ d
      rw [List.eq_nil_of_length_eq_zero h0] at this
      have e3 : timesI [] d = 0 := rfl
      rw [e3] at this
      unfold kx
      split <;> split at this <;> omega
    · rw [if_neg h0, if_neg h0]
      have hm : ∀ L : List Nat, (L.map fun y : Nat => if tile2 x (y : Int) ∈ P then wtr f (woT P (tile2 x (y : Int))) (kx k x) D (y : Int) else 0).sum = (L.map fun y : Nat => if tile2 x (y : Int) ∈ P then trl f (woT P (tile2 x (y : Int))) (y : Int) else 0).sum * prodK (fun d => ((φ d + 1) / 2).toNat) D := fun L => by
        induction L with
        | nil => simp
        | cons y L ih =>
          rw [List.map_cons, List.sum_cons, List.map_cons, List.sum_cons, Nat.add_mul, ih]
          congr 1
          by_cases ht : tile2 x (y : Int) ∈ P
          · rw [if_pos ht, if_pos ht]
            refine wtr_prod f _ _ _ φ (hn.filter _) (fun d => ?_)
            have h1 := hφ d
            rw [times_woT d hn ht, hit_tile] at h1
            unfold kx
            push_cast
            split <;> split <;> simp_all <;> omega
          · rw [if_neg ht, if_neg ht, Nat.zero_mul]
      exact hm _
end Go.Proofs.Ytjhedjokifnofaa

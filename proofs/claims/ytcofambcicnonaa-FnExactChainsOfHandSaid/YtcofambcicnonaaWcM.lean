/- Whole chains counted: the chains that have all tiles of a hand, as many as ways to lay tile after tile. No function of the program is named here. -/
import Derived.Test.YtcofambcicnonaaCsW
import Derived.Test.YtcofambcicnonaaLkW
namespace Go.Proofs.Ytcofambcicnonaa
open Go.RowKit
set_option linter.unusedVariables false

/-- A hand without a tile. -/
def woT (P : List (Int × Int)) (t : Int × Int) : List (Int × Int) := P.filter fun u => decide (u ≠ t)
theorem mem_woT {P : List (Int × Int)} {t u : Int × Int} : u ∈ woT P t ↔ u ∈ P ∧ u ≠ t := by
  unfold woT
  rw [List.mem_filter, decide_eq_true_eq]
theorem woT_len : ∀ {P : List (Int × Int)} {t : Int × Int}, P.Nodup → t ∈ P → (woT P t).length + 1 = P.length
  | [], t, _, h => by simp at h
  | u :: P, t, hn, h => by
    rw [List.nodup_cons] at hn
    unfold woT
    by_cases e : u = t
    · subst e
      rw [List.filter_cons_of_neg (by simp), List.length_cons]
      congr 1
      have : P.filter (fun v => decide (v ≠ u)) = P := List.filter_eq_self.2 fun v hv => by rw [decide_eq_true_eq]; rintro rfl; exact hn.1 hv
      rw [this]
    · rw [List.filter_cons_of_pos (by simp [e]), List.length_cons, List.length_cons]
      have := woT_len hn.2 ((List.mem_cons.1 h).resolve_left fun e2 => e e2.symm)
      unfold woT at this
      omega
/-- The ways to lay all tiles from a number on. -/
def trl : Nat → List (Int × Int) → Int → Nat
  | 0, P, _ => if P.length = 0 then 1 else 0
  | f + 1, P, x => if P.length = 0 then 1 else ((List.range 10).map fun y : Nat => if tile2 x (y : Int) ∈ P then trl f (woT P (tile2 x (y : Int))) (y : Int) else 0).sum
theorem trl_perm : ∀ (f : Nat) {P Q : List (Int × Int)} (x : Int), P.Perm Q → trl f P x = trl f Q x
  | 0, P, Q, x, h => by unfold trl; rw [h.length_eq]
  | f + 1, P, Q, x, h => by
    unfold trl
    rw [h.length_eq]
    congr 1
    congr 1
    refine List.map_congr_left fun y _ => ?_
    have e : (tile2 x (y : Int) ∈ P) = (tile2 x (y : Int) ∈ Q) := propext h.mem_iff
    have hp : (woT P (tile2 x (y : Int))).Perm (woT Q (tile2 x (y : Int))) := h.filter _
    rw [trl_perm f (y : Int) hp]
    simp only [e]
theorem sum_le_mul {m : Nat} : ∀ (L : List Nat) (f : Nat → Nat), (∀ x ∈ L, f x ≤ m) → (L.map f).sum ≤ L.length * m
  | [], f, _ => by simp
  | x :: L, f, h => by
    rw [List.map_cons, List.sum_cons, List.length_cons, Nat.succ_mul]
    have h1 := h x List.mem_cons_self
    have h2 := sum_le_mul L f (fun y hy => h y (List.mem_cons_of_mem _ hy))
    omega
theorem trl_le : ∀ (f : Nat) (P : List (Int × Int)) (x : Int), trl f P x ≤ 10 ^ f
  | 0, P, x => by unfold trl; split <;> simp
  | f + 1, P, x => by
    unfold trl
    split
    · exact Nat.one_le_pow _ _ (by omega)
    · have := sum_le_mul (m := 10 ^ f) (List.range 10) (fun y : Nat => if tile2 x (y : Int) ∈ P then trl f (woT P (tile2 x (y : Int))) (y : Int) else 0) (fun y _ => by
        show (if _ then _ else _ : Nat) ≤ _
        split
        · exact trl_le f _ _
        · exact Nat.zero_le _)
      rw [List.length_range] at this
      rw [Nat.pow_succ, Nat.mul_comm]
      exact this
/-- The tiles that a chain leaves. -/
def restT (H : List (Int × Int)) (c : List Int) : List (Int × Int) := H.filter fun t => decide (t ∉ tilesC c)
theorem restT_snoc (H : List (Int × Int)) {c : List Int} (h0 : c.length ≠ 0) (x : Int) : restT H (c ++ [x]) = woT (restT H c) (tile2 (lastC c) x) := by
  unfold restT woT
  rw [List.filter_filter]
  refine List.filter_congr fun t _ => ?_
  rw [tilesC_snoc h0]
  simp only [List.mem_append, List.mem_singleton, not_or]
  by_cases h1 : t ∈ tilesC c <;> by_cases h2 : t = tile2 (lastC c) x <;> simp [h1, h2]
theorem restT_none {H : List (Int × Int)} {c : List Int} (ho : OkC H c) (hn : H.Nodup) (h0 : c.length ≠ 0) : (restT H c).length = 0 ↔ c.length = H.length + 1 := by
  have h1 : (tilesC c).length = c.length - 1 := tilesC_len c
  constructor
  · intro h
    have h2 : ∀ t ∈ H, t ∈ tilesC c := fun t ht => by
      by_cases hm : t ∈ tilesC c
      · exact hm
      · have : t ∈ restT H c := List.mem_filter.2 ⟨ht, by simpa using hm⟩
        rw [List.eq_nil_of_length_eq_zero h] at this
        simp at this
    have := nodup_len H (tilesC c) hn h2
    have := ho.len
    omega
  · intro h
    rw [List.length_eq_zero_iff]
    unfold restT
    rw [List.filter_eq_nil_iff]
    intro t ht
    have h3 : t ∈ tilesC c := by
      by_cases hm : t ∈ tilesC c
      · exact hm
      · have h4 : (tilesC c ++ [t]).Nodup := by
          rw [List.nodup_append]
          exact ⟨ho.nd, by simp, fun a ha b hb => by rw [List.mem_singleton.1 hb]; rintro rfl; exact hm ha⟩
        have := nodup_len _ H h4 (fun u hu => by
          rcases List.mem_append.1 hu with hu | hu
          · exact ho.mem u hu
          · rw [List.mem_singleton.1 hu]; exact ht)
        rw [List.length_append, List.length_singleton] at this
        omega
    simpa using h3
theorem full_flat (m : Nat) : ∀ (L : List Nat) (f : Nat → List (List Int)), (fullL m (L.flatMap f)).length = (L.map fun x => (fullL m (f x)).length).sum
  | [], f => rfl
  | x :: L, f => by
    rw [List.flatMap_cons, List.map_cons, List.sum_cons, ← full_flat m L f]
    unfold fullL
    rw [List.filter_append, List.length_append]
/-- As many full chains begin with a chain as there are ways to lay the tiles it leaves. -/
theorem full_enum {H : List (Int × Int)} (hn : H.Nodup) : ∀ (f : Nat) (c : List Int), OkC H c → c.length ≠ 0 → H.length + 1 - c.length = f → (fullL H.length (enumS H (f + 1) c)).length = trl f (restT H c) (lastC c)
  | 0, c, ho, h0, hf => by
    have hl : c.length = H.length + 1 := by have := ho.len; omega
    have hr := (restT_none ho hn h0).2 hl
    unfold trl
    rw [if_pos hr]
    have e : enumS H 1 c = [c] := by
      unfold enumS
      rw [List.cons_eq_cons]
      refine ⟨rfl, ?_⟩
      rw [List.flatMap_eq_nil_iff]
      intro x _
      split <;> rfl
    rw [e]
    unfold fullL
    rw [List.filter_cons_of_pos (by rw [decide_eq_true_eq]; omega)]
    rfl
  | f + 1, c, ho, h0, hf => by
    have hl : ¬ c.length = H.length + 1 := by omega
    have hr : ¬ (restT H c).length = 0 := fun h => hl ((restT_none ho hn h0).1 h)
    unfold trl
    rw [if_neg hr]
    have e : enumS H (f + 1 + 1) c = c :: ((List.range 10).flatMap fun x : Nat => if fitC H c (x : Int) then enumS H (f + 1) (c ++ [(x : Int)]) else []) := rfl
    rw [e]
    have e2 : fullL H.length (c :: ((List.range 10).flatMap fun x : Nat => if fitC H c (x : Int) then enumS H (f + 1) (c ++ [(x : Int)]) else [])) = fullL H.length ((List.range 10).flatMap fun x : Nat => if fitC H c (x : Int) then enumS H (f + 1) (c ++ [(x : Int)]) else []) := by
      unfold fullL
      rw [List.filter_cons_of_neg]
      rw [decide_eq_true_eq]
      have := ho.len
      omega
    rw [e2, full_flat]
    congr 1
    refine List.map_congr_left fun x hx => ?_
    have hx := List.mem_range.1 hx
    by_cases hfit : fitC H c (x : Int) = true
    · have h2 := hfit
      unfold fitC at h2
      rw [decide_eq_false h0, Bool.false_or, Bool.and_eq_true, decide_eq_true_eq, decide_eq_true_eq] at h2
      have hm : tile2 (lastC c) (x : Int) ∈ restT H c := List.mem_filter.2 ⟨h2.1, by simpa using h2.2⟩
      have ho2 := ho.snoc (x := (x : Int)) (by unfold numB; simp; omega) hfit
      rw [if_pos hfit, if_pos hm, full_enum hn f _ ho2 (by simp) (by rw [List.length_append, List.length_singleton]; omega), restT_snoc H h0, lastC_snoc]
    · have hm : tile2 (lastC c) (x : Int) ∉ restT H c := fun hm => hfit (by
        obtain ⟨h1, h2⟩ := List.mem_filter.1 hm
        unfold fitC
        rw [decide_eq_false h0, Bool.false_or, Bool.and_eq_true, decide_eq_true_eq, decide_eq_true_eq]
        exact ⟨h1, by simpa using h2⟩)
      rw [if_neg hfit, if_neg hm]
      rfl
/-- All full chains of a hand. -/
theorem full_all {H : List (Int × Int)} (hn : H.Nodup) : (fullL H.length (allC H)).length = ((List.range 10).map fun x : Nat => trl H.length H (x : Int)).sum := by
  rw [allC_enum, full_flat]
  congr 1
  refine List.map_congr_left fun x hx => ?_
  have hx := List.mem_range.1 hx
  have ho : OkC H [(x : Int)] := (OkC.nil H).snoc (x := (x : Int)) (by unfold numB; simp; omega) rfl
  rw [full_enum hn H.length [(x : Int)] ho (by simp) (by simp)]
  have e : restT H [(x : Int)] = H := by
    unfold restT
    rw [tilesC_sing]
    exact List.filter_eq_self.2 fun t _ => by simp
  rw [e]
  rfl
end Go.Proofs.Ytcofambcicnonaa

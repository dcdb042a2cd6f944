/- How often a number stands in a whole chain: half as often as at the tiles, and once more at the ends. No function of the program is named here. -/
import Derived.Test.YtcofambcicnonaaWcN
namespace Go.Proofs.Ytcofambcicnonaa
open Go.RowKit
set_option linter.unusedVariables false

theorem times_snoc : ∀ (L : List (Int × Int)) (t : Int × Int) (d : Int), timesI (L ++ [t]) d = timesI L d + hitI t d
  | [], t, d => by simp [timesI]
  | u :: L, t, d => by
    rw [List.cons_append, times_cons, times_cons, times_snoc L t d]
    omega
theorem hit_tile (a b d : Int) : hitI (tile2 a b) d = (if a = d then 1 else 0) + (if b = d then 1 else 0) := by
  unfold hitI tile2
  simp only
  repeat' split
  all_goals omega
theorem times_perm {P Q : List (Int × Int)} (h : P.Perm Q) (d : Int) : timesI P d = timesI Q d := by
  induction h with
  | nil => rfl
  | cons x _ ih => rw [times_cons, times_cons, ih]
  | swap x y l => rw [times_cons, times_cons, times_cons, times_cons]; omega
  | trans _ _ h1 h2 => rw [h1, h2]
/-- The numbers at the tiles of a chain. -/
theorem hits : ∀ (n : Nat) (c : List Int), c.length = n + 1 → ∀ d : Int, timesI (tilesC c) d + (if c.getD 0 0 = d then 1 else 0) + (if lastC c = d then 1 else 0) = 2 * (c.count d : Int)
  | 0, c, h, d => by
    obtain ⟨x, rfl⟩ : ∃ x, c = [x] := by
      match c, h with
      | [x], _ => exact ⟨x, rfl⟩
    rw [tilesC_sing]
    have e1 : lastC [x] = x := rfl
    have e2 : ([x] : List Int).getD 0 0 = x := rfl
    rw [e1, e2, List.count_singleton]
    have e3 : timesI [] d = 0 := rfl
    rw [e3]
    by_cases hx : x = d
    · subst hx; simp
    · rw [if_neg hx]; simp [hx]
  | n + 1, c, h, d => by
    have h0 : c.length ≠ 0 := by omega
    obtain ⟨c', hc⟩ : ∃ c', c' = c.dropLast := ⟨_, rfl⟩
    have e := snoc_of h0
    rw [← hc] at e
    have hl : c'.length = n + 1 := by rw [hc, List.length_dropLast]; omega
    obtain ⟨x, hx⟩ : ∃ x, x = lastC c := ⟨_, rfl⟩
    rw [← hx] at e
    subst e
    have ih := hits n c' hl d
    have h0' : c'.length ≠ 0 := by omega
    rw [tilesC_snoc h0', times_snoc, hit_tile, lastC_snoc, List.count_append, List.count_singleton]
    have e2 : (c' ++ [x]).getD 0 0 = c'.getD 0 0 := by
      rw [List.getD_eq_getElem?_getD, List.getD_eq_getElem?_getD, List.getElem?_append_left (by omega)]
    rw [e2]
    by_cases hxd : x = d
    · subst hxd
      simp only [beq_self_eq_true, if_true]
      push_cast
      omega
    · have hb : (x == d) = false := by simpa using hxd
      rw [hb, if_neg hxd]
      simp only [Bool.false_eq_true, if_false]
      push_cast
      omega
theorem tiles_full {P : List (Int × Int)} {c : List Int} (ho : OkC P c) (hn : P.Nodup) (hl : c.length = P.length + 1) : (tilesC c).Perm P := by
  refine (List.perm_ext_iff_of_nodup ho.nd hn).2 fun t => ⟨ho.mem t, fun ht => ?_⟩
  have hr := (restT_none ho hn (by omega)).2 hl
  by_cases hm : t ∈ tilesC c
  · exact hm
  · have : t ∈ restT P c := List.mem_filter.2 ⟨ht, by simpa using hm⟩
    rw [List.eq_nil_of_length_eq_zero hr] at this
    simp at this
/-- .. of a whole chain. -/
theorem cnt_full {P : List (Int × Int)} {c : List Int} (ho : OkC P c) (hn : P.Nodup) (hl : c.length = P.length + 1) (d : Int) : timesI P d + (if c.getD 0 0 = d then 1 else 0) + (if lastC c = d then 1 else 0) = 2 * (c.count d : Int) := by
  rw [← times_perm (tiles_full ho hn hl) d]
  exact hits P.length c hl d
/-- The ways to put doubles into a chain. -/
def waysN (ds : List Int) (c : List Int) : Nat := ds.foldl (fun w d => w * c.count d) 1
theorem full_ok {P : List (Int × Int)} {c : List Int} (h : c ∈ fullL P.length (allC P)) : OkC P c ∧ c.length = P.length + 1 := by
  obtain ⟨h1, h2⟩ := List.mem_filter.1 h
  have ho := (all_ok h1).1
  have := ho.len
  have h3 : P.length < c.length := by simpa using h2
  exact ⟨ho, by omega⟩
def sumW (ds : List Int) (L : List (List Int)) : Nat := (L.map (waysN ds)).sum
theorem sumW_snoc (ds : List Int) (L : List (List Int)) (c : List Int) : sumW ds (L ++ [c]) = sumW ds L + waysN ds c := by
  unfold sumW
  rw [List.map_append, List.sum_append]
  simp
theorem sumW_same {ds : List Int} {m : Nat} : ∀ (L : List (List Int)), (∀ c ∈ L, waysN ds c = m) → sumW ds L = L.length * m
  | [], _ => by simp [sumW]
  | c :: L, h => by
    have e : sumW ds (c :: L) = waysN ds c + sumW ds L := by simp [sumW]
    rw [e, h c List.mem_cons_self, sumW_same L (fun x hx => h x (List.mem_cons_of_mem _ hx)), List.length_cons, Nat.succ_mul]
    omega
theorem waysN_le {ds : List Int} {c : List Int} {m : Nat} (h : ∀ d ∈ ds, c.count d ≤ m) : waysN ds c ≤ m ^ ds.length := by
  have aux : ∀ (ds : List Int) (w : Nat), (∀ d ∈ ds, c.count d ≤ m) → ds.foldl (fun w d => w * c.count d) w ≤ w * m ^ ds.length := by
    intro ds
    induction ds with
    | nil => intro w _; simp
    | cons d ds ih =>
      intro w h
      rw [List.foldl_cons, List.length_cons, Nat.pow_succ]
      refine Nat.le_trans (ih _ (fun x hx => h x (List.mem_cons_of_mem _ hx))) ?_
      have h1 := Nat.mul_le_mul_left w (h d List.mem_cons_self)
      calc w * c.count d * m ^ ds.length ≤ w * m * m ^ ds.length := Nat.mul_le_mul_right _ h1
        _ = w * (m ^ ds.length * m) := by rw [Nat.mul_assoc, Nat.mul_comm m]
  have := aux ds 1 h
  rw [Nat.one_mul] at this
  exact this
end Go.Proofs.Ytcofambcicnonaa

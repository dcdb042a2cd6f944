/- Chains turned: their tiles the same backwards. -/
import Derived.Test.YtcofambcicnonaaCat
import Derived.Test.YtcofambcicnonaaChn
import Derived.Lib.SliceRun
namespace Go.Proofs.Ytcofambcicnonaa
open Go.RowKit
set_option linter.unusedVariables false

theorem tilesC_nil : tilesC [] = [] := rfl
theorem tilesC_one (x : Int) : tilesC [x] = [] := rfl
theorem tilesC_cons (x y : Int) (r : List Int) : tilesC (x :: y :: r) = tile2 x y :: tilesC (y :: r) := by
  apply List.ext_getElem
  · simp only [tilesC_len, List.length_cons]; omega
  · intro i h1 h2
    cases i with
    | zero => simp only [tilesC, tilesTo_get, List.getElem_cons_zero]; rfl
    | succ i => simp only [tilesC, tilesTo_get, List.getElem_cons_succ]; rfl
theorem tilesC_join : ∀ (xs : List Int) (p : Int) (ys : List Int), tilesC (xs ++ p :: ys) = tilesC (xs ++ [p]) ++ tilesC (p :: ys)
  | [], p, ys => by simp [tilesC_one]
  | [x], p, ys => by simp [tilesC_cons, tilesC_one]
  | x :: y :: r, p, ys => by
    have := tilesC_join (y :: r) p ys
    simp only [List.cons_append, tilesC_cons] at this ⊢
    rw [this]
theorem tilesC_reverse : ∀ (xs : List Int), tilesC xs.reverse = (tilesC xs).reverse
  | [] => rfl
  | [x] => rfl
  | x :: y :: r => by
    have := tilesC_reverse (y :: r)
    rw [tilesC_cons, List.reverse_cons, List.reverse_cons, List.reverse_cons, ← this, List.append_assoc, List.reverse_cons, List.singleton_append, tilesC_join, tilesC_cons, tilesC_one, tile2_comm]
theorem chain_of_perm {xs ys : List Int} (h : chainB xs = true) (hl : ys.length = xs.length) (hm : ∀ y ∈ ys, y ∈ xs) (hp : (tilesC ys).Perm (tilesC xs)) : chainB ys = true := by
  have hc : chainP xs := of_decide_eq_true h
  exact decide_eq_true ⟨by have := hc.1; omega, by have := hc.2.1; omega, fun y hy => hc.2.2.1 y (hm y hy), hp.nodup_iff.2 hc.2.2.2⟩
theorem chain_reverse {xs : List Int} (h : chainB xs = true) : chainB xs.reverse = true :=
  chain_of_perm h (by simp) (fun y hy => by simpa using hy) (by rw [tilesC_reverse]; exact List.reverse_perm _)
/-- A ring that begins at another number is a chain. -/
theorem chain_spin {xs : List Int} (h : chainB xs = true) (he : xs.getD 0 0 = xs.getD (xs.length - 1) 0) {k : Nat} (hk : k + 1 < xs.length) : chainB (xs.drop k ++ (xs.drop 1).take k) = true := by
  rcases Nat.eq_zero_or_pos k with rfl | hk0
  · simpa using h
  · obtain ⟨a, r, rfl⟩ : ∃ a r, xs = a :: r := by
      cases xs with
      | nil => simp at hk
      | cons a r => exact ⟨a, r, rfl⟩
    obtain ⟨k, rfl⟩ : ∃ j, k = j + 1 := ⟨k - 1, by omega⟩
    simp only [List.length_cons] at hk he
    -- r = pre ++ p :: post
    have hkr : k < r.length := by omega
    have hr : r = r.take k ++ r[k] :: r.drop (k + 1) := by
      conv => lhs; rw [← List.take_append_drop k r]
      rw [List.drop_eq_getElem_cons hkr]
    have hpos : (r.drop (k + 1)) ≠ [] := by
      intro e
      have := congrArg List.length e
      simp at this
      omega
    obtain ⟨post, b, hpost⟩ : ∃ post b, r.drop (k + 1) = post ++ [b] := ⟨_, _, (List.dropLast_concat_getLast hpos).symm⟩
    have hb : b = a := by
      obtain ⟨M, hM⟩ : ∃ M, r = M ++ [b] := ⟨r.take k ++ r[k] :: post, by
        conv => lhs; rw [hr, hpost]
        simp⟩
      have h1 : (a :: r).getD r.length 0 = b := by
        rw [hM]
        simp
      simp only [Nat.add_sub_cancel] at he
      rw [h1] at he
      simpa using he.symm
    have e1 : (a :: r).drop (k + 1) = r[k] :: (post ++ [a]) := by
      rw [List.drop_succ_cons, List.drop_eq_getElem_cons hkr, hpost, hb]
    have e2 : ((a :: r).drop 1).take (k + 1) = r.take k ++ [r[k]] := by
      rw [List.drop_succ_cons, List.drop_zero, List.take_succ_eq_append_getElem hkr]
    have e3 : a :: r = (a :: r.take k) ++ r[k] :: (post ++ [a]) := by
      conv => lhs; rw [hr, hpost, hb]
      simp
    refine chain_of_perm h ?_ ?_ ?_
    · simp only [List.length_append, List.length_drop, List.length_take, List.length_cons]
      omega
    · intro y hy
      rcases List.mem_append.1 hy with h | h
      · exact List.mem_of_mem_drop h
      · exact List.mem_of_mem_drop (List.mem_of_mem_take h)
    · have t1 : tilesC (r[k] :: (post ++ [a]) ++ (r.take k ++ [r[k]])) = tilesC (r[k] :: (post ++ [a])) ++ tilesC (a :: (r.take k ++ [r[k]])) := by
        have := tilesC_join (r[k] :: post) a (r.take k ++ [r[k]])
        simp only [List.cons_append, List.append_assoc, List.nil_append] at this ⊢
        exact this
      have t2 : tilesC (a :: r) = tilesC (a :: (r.take k ++ [r[k]])) ++ tilesC (r[k] :: (post ++ [a])) := by
        have := tilesC_join (a :: r.take k) r[k] (post ++ [a])
        rw [← e3] at this
        exact this
      rw [e1, e2, t1, t2]
      exact List.perm_append_comm

def turnHL (xs : List Int) : List Int := if chainB xs then xs.reverse else []
theorem turnHL_len (xs : List Int) : (turnHL xs).length ≤ 110 := by
  unfold turnHL
  split
  · rename_i h
    have := chain_len h
    simp
    omega
  · simp
/-- The last k numbers, backwards. -/
def revTo (xs : List Int) (k : Nat) : List Int := xs.reverse.take k
theorem revTo_len {xs : List Int} {k : Nat} (h : k ≤ xs.length) : (revTo xs k).length = k := by simp [revTo]; omega
theorem revTo_step {xs : List Int} {k : Nat} (h : k < xs.length) : revTo xs (k + 1) = revTo xs k ++ [xs[xs.length - 1 - k]'(by omega)] := by
  unfold revTo
  rw [List.take_succ_eq_append_getElem (by simpa using h), List.getElem_reverse]
theorem revTo_all (xs : List Int) : revTo xs xs.length = xs.reverse := by
  unfold revTo
  rw [show xs.length = xs.reverse.length from by simp, List.take_length]

theorem rev_pairs {xs zs : List Int} (hl : zs.length = xs.length) (h : ∀ t, t < xs.length → zs.getD t 0 = xs.getD (xs.length - 1 - t) 0) : zs = xs.reverse := by
  apply List.ext_getElem
  · simp [hl]
  · intro i h1 h2
    have h3 : i < xs.length := by omega
    have := h i h3
    rw [List.getD_eq_getElem?_getD, List.getD_eq_getElem?_getD, List.getElem?_eq_getElem h1, List.getElem?_eq_getElem (by omega)] at this
    rw [List.getElem_reverse]
    simpa using this
theorem cellsI_get {zs : List Int} {t : Nat} (h : t < zs.length) : (cellsI zs)[t]? = some (.int .i64 (zs.getD t 0)) := by
  simp [cellsI, h]
theorem cellsI_set (zs : List Int) (i : Nat) (p : Int) : (cellsI zs).set i (.int .i64 p) = cellsI (zs.set i p) := by
  simp [cellsI, List.map_set]
theorem getD_set {zs : List Int} {i : Nat} (hi : i < zs.length) (p : Int) (t : Nat) : (zs.set i p).getD t 0 = if t = i then p else zs.getD t 0 := by
  by_cases e : t = i
  · subst e
    simp [hi]
  · rw [if_neg e, List.getD_eq_getElem?_getD, List.getElem?_set_ne (by omega)]
    rfl

set_option maxRecDepth 100000 in
set_option maxHeartbeats 2000000 in
theorem c_reverse (base c : Nat) (A : Option Addr) (xs : List Int) (w : World) (hne : 0 < xs.length) (hl : xs.length ≤ 1048576) (ho : w.ownsRow base 3 1 (.slice A xs.length c) xs.length (cellsI xs)) :
    Calls Try.prog 42 #[.slice A xs.length c] w fun e w' => e = .returned (.tuple #[]) ∧ w'.ownsRow base 3 1 (.slice A xs.length c) xs.length (cellsI xs.reverse) ∧ Below base w w' := by
  obtain ⟨n, hn⟩ : ∃ n, xs.length = n + 1 := ⟨xs.length - 1, by omega⟩
  obtain ⟨g, rfl⟩ : ∃ g, A = some ⟨g, 0, none⟩ := by
    obtain ⟨_, ⟨hv, hz⟩ | ⟨g, cap, cur, hv, _⟩⟩ := ho
    · omega
    · injection hv with h1 h2 h3
      exact ⟨g, h1⟩
  have hbase := (ho.lt g rfl).1
  have Hn := Lib.hid hn
  have hl' : n ≤ 1048576 := by omega
  rw [hn] at ho ⊢
  clear hne hl hn
  go_enter Try.func42, Try.ntmps42
  go_wp2
  go_loopw [2, 3] (fun i j wr => ∃ (k m : Nat) (zs : List Int), k + m = n ∧ k ≤ m + 1 ∧ i = .int .i64 k ∧ j = .int .i64 m ∧ zs.length = n + 1 ∧ (∀ t, t < n + 1 → zs.getD t 0 = if t < k ∨ m < t then xs.getD (n - t) 0 else xs.getD t 0) ∧
      wr.ownsRow base 3 1 (.slice (some ⟨g, 0, none⟩) (n + 1) c) (n + 1) (cellsI zs) ∧ Below base w wr) (fun i _ _ => n + 1 - (intOf i).toNat)
  case atStart => exact ⟨0, n, xs, by omega, by omega, rfl, by go_num, Hn.out, fun t ht => by rw [if_neg (by omega)], ho, Below.refl _ _⟩
  case round =>
    clear ho
    obtain ⟨k, m, zs, hkm, hk, rfl, rfl, hz, hv, hown, hb⟩ := hrel
    by_cases hlt : k < m
    · have x1 := (hown.cellAt k (by omega)).trans (cellsI_get (zs := zs) (t := k) (by omega))
      have x2 := (hown.cellAt m (by omega)).trans (cellsI_get (zs := zs) (t := m) (by omega))
      have f1 := hown.frozenAt k
      have f2 := hown.frozenAt m
      have Hv := Lib.hid hv
      have Hz := Lib.hid hz
      have Hb := Lib.hid hb
      have Ho := Lib.hid hown
      have Hkm := Lib.hid hkm
      have i0 : (0 : Int) ≤ (k : Int) := by omega
      have i1 : (k : Int) < (n : Int) + 1 := by omega
      have i2 : (0 : Int) ≤ (m : Int) := by omega
      have i3 : (m : Int) < (n : Int) + 1 := by omega
      have i4 : (k : Int) < (m : Int) := by omega
      generalize hp : zs.getD k 0 = p at x1
      generalize hq : zs.getD m 0 = q at x2
      have Hp := Lib.hid hp
      have Hq := Lib.hid hq
      obtain ⟨v', hy⟩ := cell?_setCell_some (w := wr.drew) (p := ⟨g, k, none⟩) (x := .int .i64 q) (q := ⟨g, m, none⟩) (v := .int .i64 q) x2
      clear hv hz hown hb hkm hp hq
      go_wp2
      go_region
      go_wp2
      go_roundw
      case rel =>
        have hkm := Hkm.out
        have hz := Hz.out
        refine ⟨k + 1, m - 1, (zs.set k q).set m p, by omega, by omega, by go_num, by go_num, by simp [hz], fun t ht => ?_, ?_, ((Hb.out.setCell hbase _).setCell hbase _).drew⟩
        · rw [getD_set (by simp; omega), getD_set (by omega)]
          have h1 := Hv.out t ht
          have h2 := Hv.out k (by omega)
          have h3 := Hv.out m (by omega)
          rw [Hp.out, if_neg (by omega)] at h2
          rw [Hq.out, if_neg (by omega)] at h3
          by_cases e1 : t = m
          · rw [if_pos e1, if_pos (by omega), h2]
            congr 1
            omega
          · rw [if_neg e1]
            by_cases e2 : t = k
            · rw [if_pos e2, if_pos (by omega), h3]
              congr 1
              omega
            · rw [if_neg e2, h1]
              by_cases e3 : t < k ∨ m < t
              · rw [if_pos e3, if_pos (by omega)]
              · rw [if_neg e3, if_neg (by omega)]
        · rw [← cellsI_set, ← cellsI_set]
          exact own_drew (World.ownsRow.stored (Ho.out.stored _ _).1 _ _).1
      case measure => simp [intOf]; omega
    · have i4 : ¬ (k : Int) < (m : Int) := by omega
      have e : zs = xs.reverse := rev_pairs (by rw [hz, Hn.out]) (fun t ht => by
        have hl := Hn.out
        rw [hv t (by omega), show xs.length - 1 - t = n - t from by omega]
        split
        · rfl
        · rw [show n - t = t from by omega])
      subst e
      clear hv hz
      go_wp2
      go_end0
      exact ⟨rfl, hown, hb⟩

end Go.Proofs.Ytcofambcicnonaa

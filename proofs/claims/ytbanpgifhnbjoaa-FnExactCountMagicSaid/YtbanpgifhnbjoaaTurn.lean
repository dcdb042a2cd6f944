/- Chains turned: their tiles the same backwards. -/
import Derived.Test.YtbanpgifhnbjoaaCat
import Derived.Test.YtbanpgifhnbjoaaChn
import Derived.Lib.SliceRun
namespace Go.Proofs.Ytbanpgifhnbjoaa
open Go.RowKit
set_option linter.unusedVariables false

theorem tilesC_nil : tilesC [] = [] := rfl
theorem tilesC_one (x : Int) : tilesC [x] = [] := rfl
theorem tilesC_cons (x y : Int) (r : List Int) : tilesC (x :: y :: r) = tile2 x y :: tilesC (y :: r) := by
  apply List.ext_getElem
  · simp only [tilesC_len, List.length_cons]; omega
  · intro i h1 h2
    cases i with
    | zero => simp only [tilesC, tilesTo_get, List.getElem_cons_zero]; rfl
    | succ i => simp only [tilesC, tilesTo_get, List.getElem_cons_succ]; rfl
theorem tilesC_join : ∀ (xs : List Int) (p : Int) (ys : List Int), tilesC (xs ++ p :: ys) = tilesC (xs ++ [p]) ++ tilesC (p :: ys)
  | [], p, ys => by simp [tilesC_one]
  | [x], p, ys => by simp [tilesC_cons, tilesC_one]
  | x :: y :: r, p, ys => by
    have := tilesC_join (y :: r) p ys
    simp only [List.cons_append, tilesC_cons] at this ⊢
    rw [this]
theorem tilesC_reverse : ∀ (xs : List Int), tilesC xs.reverse = (tilesC xs).reverse
  | [] => rfl
  | [x] => rfl
  | x :: y :: r => by
    have := tilesC_reverse (y :: r)
    rw [tilesC_cons, List.reverse_cons, List.reverse_cons, List.reverse_cons, ← this, List.append_assoc, List.reverse_cons, List.singleton_append, tilesC_join, tilesC_cons, tilesC_one, tile2_comm]
theorem chain_of_perm {xs ys : List Int} (h : chainB xs = true) (hl : ys.length = xs.length) (hm : ∀ y ∈ ys, y ∈ xs) (hp : (tilesC ys).Perm (tilesC xs)) : chainB ys = true := by
  have hc : chainP xs := of_decide_eq_true h
  exact decide_eq_true ⟨by have := hc.1; omega, by have := hc.2.1; omega, fun y hy => hc.2.2.1 y (hm y hy), hp.nodup_iff.2 hc.2.2.2⟩
theorem chain_reverse {xs : List Int} (h : chainB xs = true) : chainB xs.reverse = true :=
  chain_of_perm h (by simp) (fun y hy => by simpa using hy) (by rw [tilesC_reverse]; exact List.reverse_perm _)
/-- A ring that begins at another number is a chain. -/
theorem chain_spin {xs : List Int} (h : chainB xs = true) (he : xs.getD 0 0 = xs.getD (xs.length - 1) 0) {k : Nat} (hk : k + 1 < xs.length) : chainB (xs.drop k ++ (xs.drop 1).take k) = true := by
  rcases Nat.eq_zero_or_pos k with rfl | hk0
  · simpa using h
  · obtain ⟨a, r, rfl⟩ : ∃ a r, xs = a :: r := by
      cases xs with
      | nil => simp at hk
      | cons a r => exact ⟨a, r, rfl⟩
    obtain ⟨k, rfl⟩ : ∃ j, k = j + 1 := ⟨k - 1, by omega⟩
    simp only [List.length_cons] at hk he
    -- r = pre ++ p :: post
    have hkr : k < r.length := by omega
    have hr : r = r.take k ++ r[k] :: r.drop (k + 1) := by
      conv => lhs; rw [← List.take_append_drop k r]
      rw [List.drop_eq_getElem_cons hkr]
    have hpos : (r.drop (k + 1)) ≠ [] := by
      intro e
      have := congrArg List.length e
      simp at this
      omega
    obtain ⟨post, b, hpost⟩ : ∃ post b, r.drop (k + 1) = post ++ [b] := ⟨_, _, (List.dropLast_concat_getLast hpos).symm⟩
    have hb : b = a := by
      obtain ⟨M, hM⟩ : ∃ M, r = M ++ [b] := ⟨r.take k ++ r[k] :: post, by
        conv => lhs; rw [hr, hpost]
        simp⟩
      have h1 : (a :: r).getD r.length 0 = b := by
        rw [hM]
        simp
      simp only [Nat.add_sub_cancel] at he
      rw [h1] at he
      simpa using he.symm
    have e1 : (a :: r).drop (k + 1) = r[k] :: (post ++ [a]) := by
      rw [List.drop_succ_cons, List.drop_eq_getElem_cons hkr, hpost, hb]
    have e2 : ((a :: r).drop 1).take (k + 1) = r.take k ++ [r[k]] := by
      rw [List.drop_succ_cons, List.drop_zero, List.take_succ_eq_append_getElem hkr]
    have e3 : a :: r = (a :: r.take k) ++ r[k] :: (post ++ [a]) := by
      conv => lhs; rw [hr, hpost, hb]
      simp
    refine chain_of_perm h ?_ ?_ ?_
    · simp only [List.length_append, List.length_drop, List.length_take, List.length_cons]
      omega
    · intro y hy
      rcases List.mem_append.1 hy with h | h
      · exact List.mem_of_mem_drop h
      · exact List.mem_of_mem_drop (List.mem_of_mem_take h)
    · have t1 : tilesC (r[k] :: (post ++ [a]) ++ (r.take k ++ [r[k]])) = tilesC (r[k] :: (post ++ [a])) ++ tilesC (a :: (r.take k ++ [r[k]])) := by
        have := tilesC_join (r[k] :: post) a (r.take k ++ [r[k]])
        simp only [List.cons_append, List.append_assoc, List.nil_append] at this ⊢
        exact this
      have t2 : tilesC (a :: r) = tilesC (a :: (r.take k ++ [r[k]])) ++ tilesC (r[k] :: (post ++ [a])) := by
        have := tilesC_join (a :: r.take k) r[k] (post ++ [a])
        rw [← e3] at this
        exact this
      rw [e1, e2, t1, t2]
      exact List.perm_append_comm

def turnHL (xs : List Int) : List Int := if chainB xs then xs.reverse else []
theorem turnHL_len (xs : List Int) : (turnHL xs).length ≤ 110 := by
  unfold turnHL
  split
  · rename_i h
    have := chain_len h
    simp
    omega
  · simp
/-- The last k numbers, backwards. -/
def revTo (xs : List Int) (k : Nat) : List Int := xs.reverse.take k
theorem revTo_len {xs : List Int} {k : Nat} (h : k ≤ xs.length) : (revTo xs k).length = k := by simp [revTo]; omega
theorem revTo_step {xs : List Int} {k : Nat} (h : k < xs.length) : revTo xs (k + 1) = revTo xs k ++ [xs[xs.length - 1 - k]'(by omega)] := by
  unfold revTo
  rw [List.take_succ_eq_append_getElem (by simpa using h), List.getElem_reverse]
theorem revTo_all (xs : List Int) : revTo xs xs.length = xs.reverse := by
  unfold revTo
  rw [show xs.length = xs.reverse.length from by simp, List.take_length]

set_option maxRecDepth 100000 in
set_option maxHeartbeats 1000000 in
theorem c_clone (A : Option Addr) (c : Nat) (xs : List Int) (w : World) (hr : RdI w A xs) (hl : xs.length ≤ 1048576) (hne : 0 < xs.length) :
    Calls Try.prog 51 #[.slice A xs.length c] w (RetN w xs) := by
  have ho0 : (w.alloc (.cells #[] 3)).ownsRow w.heap.size 3 1 (.slice (some ⟨w.heap.size, 0, none⟩) 0 0) 0 (cellsI []) := World.ownsRow_lit w #[] 0 (Nat.le_refl _) (by unfold maxLen; omega) rfl
  have hb0 : Below w.heap.size w (w.alloc (.cells #[] 3)) := (Below.refl _ _).alloc (Nat.le_refl _) _
  obtain ⟨bk, off, rfl, _, _⟩ := hr.at_ hne
  have q : ∀ (w : World) (a : Option Addr) (n c n' c' : Nat), (binOp .eql 39 (.slice a n c) (.slice none n' c')).run Try.prog w = .ok (.bool a.isNone) w := fun w a n c n' c' => Lib.run_eql_slice_nil w _ _ a n c n' c' Try.underlying39
  go_enter Try.func51, Try.ntmps51
  go_wp2_with (at_builtin; refine wp_append_ints rfl _ _ rfl w.heap.size _ [] rfl ho0 _ c xs rfl (hr.below hb0) (by simp) (by omega) (by simp) ⟨_, _, rfl⟩ ?_; intro A4 c4 w4 ho4 hg4; have hb4 : Below w.heap.size w w4 := hb0.trans (below_of_grown hg4 hb0.size (fun g hg => by cases hg; exact Nat.le_refl _)); simp only [List.nil_append] at ho4)
  go_ret
  exact ⟨A4, c4, rfl, ho4, hb4⟩

theorem rev_pairs {xs zs : List Int} (hl : zs.length = xs.length) (h : ∀ t, t < xs.length → zs.getD t 0 = xs.getD (xs.length - 1 - t) 0) : zs = xs.reverse := by
  apply List.ext_getElem
  · simp [hl]
  · intro i h1 h2
    have h3 : i < xs.length := by omega
    have := h i h3
    rw [List.getD_eq_getElem?_getD, List.getD_eq_getElem?_getD, List.getElem?_eq_getElem h1, List.getElem?_eq_getElem (by omega)] at this
    rw [List.getElem_reverse]
    simpa using this
theorem cellsI_get {zs : List Int} {t : Nat} (h : t < zs.length) : (cellsI zs)[t]? = some (.int .i64 (zs.getD t 0)) := by
  simp [cellsI, h]
theorem cellsI_set (zs : List Int) (i : Nat) (p : Int) : (cellsI zs).set i (.int .i64 p) = cellsI (zs.set i p) := by
  simp [cellsI, List.map_set]
theorem getD_set {zs : List Int} {i : Nat} (hi : i < zs.length) (p : Int) (t : Nat) : (zs.set i p).getD t 0 = if t = i then p else zs.getD t 0 := by
  by_cases e : t = i
  · subst e
    simp [hi]
  · rw [if_neg e, List.getD_eq_getElem?_getD, List.getElem?_set_ne (by omega)]
    rfl

end Go.Proofs.Ytbanpgifhnbjoaa

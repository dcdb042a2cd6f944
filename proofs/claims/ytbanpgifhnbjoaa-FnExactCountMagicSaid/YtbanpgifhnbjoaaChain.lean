/- Chains: lists of numbers, and their tiles. -/
import Derived.Test.YtbanpgifhnbjoaaSet
import Derived.Test.YtbanpgifhnbjoaaHand
import Derived.RegionTactic
namespace Go.Proofs.Ytbanpgifhnbjoaa
open Go.RowKit
set_option linter.unusedVariables false

/-- The tile of two numbers. -/
def tile2 (a b : Int) : Int × Int := (min a b, max a b)
/-- The first k tiles of a list of numbers. -/
def tilesTo (xs : List Int) (k : Nat) : List (Int × Int) := (List.range k).map fun i => tile2 (xs.getD i 0) (xs.getD (i + 1) 0)
def tilesC (xs : List Int) : List (Int × Int) := tilesTo xs (xs.length - 1)
theorem tilesTo_len (xs : List Int) (k : Nat) : (tilesTo xs k).length = k := by simp [tilesTo]
theorem tilesC_len (xs : List Int) : (tilesC xs).length = xs.length - 1 := tilesTo_len _ _
theorem tilesTo_zero (xs : List Int) : tilesTo xs 0 = [] := rfl
theorem tilesTo_step {xs : List Int} {k : Nat} (h : k + 1 < xs.length) : tilesTo xs (k + 1) = tilesTo xs k ++ [tile2 (xs[k]'(by omega)) xs[k + 1]] := by
  unfold tilesTo
  rw [List.range_succ, List.map_append]
  simp [List.getD, h, show k < xs.length from by omega]
theorem tilesTo_get (xs : List Int) {k j : Nat} (hj : j < (tilesTo xs k).length) : (tilesTo xs k)[j] = tile2 (xs.getD j 0) (xs.getD (j + 1) 0) := by simp [tilesTo]
theorem tile2_comm (a b : Int) : tile2 a b = tile2 b a := by simp [tile2, Int.min_comm, Int.max_comm]
theorem tile2_good {a b : Int} (ha : numB a = true) (hb : numB b = true) : goodB (tile2 a b).1 (tile2 a b).2 = true := by
  have h : goodB (min a b) (max a b) = true := by
    simp only [numB, goodB, Bool.and_eq_true, decide_eq_true_eq] at *
    omega
  exact h
theorem tile2_eq {a b c d : Int} : tile2 a b = tile2 c d ↔ (a = c ∧ b = d) ∨ (a = d ∧ b = c) := by
  simp only [tile2, Prod.mk.injEq]
  constructor
  · rintro ⟨h1, h2⟩
    simp only [Int.min_def, Int.max_def] at h1 h2
    split at h1 <;> split at h1 <;> split at h2 <;> omega
  · rintro (⟨rfl, rfl⟩ | ⟨rfl, rfl⟩)
    · simp
    · simp [Int.min_comm, Int.max_comm]
/-- A list of numbers is a chain. -/
def chainP (xs : List Int) : Prop := 1 ≤ xs.length ∧ xs.length ≤ 56 ∧ (∀ x ∈ xs, numB x = true) ∧ (tilesC xs).Nodup
instance (xs : List Int) : Decidable (chainP xs) := by unfold chainP; infer_instance
def chainB (xs : List Int) : Bool := decide (chainP xs)
theorem numB_getD {xs : List Int} (hg : ∀ x ∈ xs, numB x = true) (i : Nat) : numB (xs.getD i 0) = true := by
  rcases Nat.lt_or_ge i xs.length with h | h
  · rw [List.getD_eq_getElem?_getD, List.getElem?_eq_getElem h]
    exact hg _ (List.getElem_mem h)
  · rw [List.getD_eq_getElem?_getD, List.getElem?_eq_none h]
    rfl
theorem tilesTo_good {xs : List Int} (hg : ∀ x ∈ xs, numB x = true) (k : Nat) : ∀ t ∈ tilesTo xs k, goodB t.1 t.2 = true := by
  intro t ht
  obtain ⟨i, _, rfl⟩ := List.mem_map.1 ht
  exact tile2_good (numB_getD hg _) (numB_getD hg _)
theorem nodup_len : ∀ (xs ys : List (Int × Int)), xs.Nodup → (∀ x ∈ xs, x ∈ ys) → xs.length ≤ ys.length
  | [], _, _, _ => by simp
  | x :: xs, ys, hn, hs => by
    have hx := hs x (by simp)
    rw [List.nodup_cons] at hn
    have := nodup_len xs (ys.erase x) hn.2 (fun z hz => (List.mem_erase_of_ne (fun e : z = x => hn.1 (e ▸ hz))).2 (hs z (by simp [hz])))
    rw [List.length_erase_of_mem hx] at this
    have := List.length_pos_of_mem hx
    simp only [List.length_cons]
    omega
theorem set_mem9 : ∀ a b : Fin 10, a.1 ≤ b.1 → ((a.1 : Int), (b.1 : Int)) ∈ setL 9 := by decide +kernel
theorem set_len9 : (setL 9).length = 55 := by decide +kernel
theorem good_mem9 {t : Int × Int} (h : goodB t.1 t.2 = true) : t ∈ setL 9 := by
  obtain ⟨p, q⟩ := t
  simp only [goodB, Bool.and_eq_true, decide_eq_true_eq] at h
  obtain ⟨a, ha, rfl⟩ := numB_nat h.1
  obtain ⟨b, hb, rfl⟩ := numB_nat h.2.1
  exact set_mem9 ⟨a, by omega⟩ ⟨b, by omega⟩ (by have := h.2.2; show a ≤ b; omega)
theorem good_len {ts : List (Int × Int)} (hg : ∀ t ∈ ts, goodB t.1 t.2 = true) (hn : ts.Nodup) : ts.length ≤ 55 := by
  have := nodup_len ts (setL 9) hn (fun t ht => good_mem9 (hg t ht))
  rw [set_len9] at this
  exact this
theorem chain_good {xs : List Int} (h0 : 1 ≤ xs.length) (hg : ∀ x ∈ xs, numB x = true) (hn : (tilesC xs).Nodup) : chainB xs = true := by
  have := good_len (tilesTo_good hg (xs.length - 1)) hn
  rw [tilesTo_len] at this
  exact decide_eq_true ⟨h0, by omega, hg, hn⟩
theorem chain_hand {xs : List Int} (h : chainB xs = true) : handB (tilesC xs) = true := by
  have h : chainP xs := of_decide_eq_true h
  exact decide_eq_true ⟨by rw [tilesC_len]; have := h.2.1; omega, tilesTo_good h.2.2.1 _, h.2.2.2⟩
theorem chain_len {xs : List Int} (h : chainB xs = true) : 1 ≤ xs.length ∧ xs.length ≤ 56 := by
  have h : chainP xs := of_decide_eq_true h
  exact ⟨h.1, h.2.1⟩
theorem chain_num {xs : List Int} (h : chainB xs = true) : ∀ x ∈ xs, numB x = true := by
  have h : chainP xs := of_decide_eq_true h
  exact h.2.2.1
theorem chain_nodup {xs : List Int} (h : chainB xs = true) : (tilesC xs).Nodup := by
  have h : chainP xs := of_decide_eq_true h
  exact h.2.2.2
theorem chain_empty {xs : List Int} (h : xs.length = 0) : chainB xs = false := decide_eq_false fun hp => by have := hp.1; omega
theorem chain_long {xs : List Int} (h : 56 < xs.length) : chainB xs = false := decide_eq_false fun hp => by have := hp.2.1; omega
theorem chain_bad {xs : List Int} {k : Nat} (hk : k < xs.length) (h : numB xs[k] = false) : chainB xs = false :=
  decide_eq_false fun hp => by have := hp.2.2.1 _ (List.getElem_mem hk); rw [h] at this; cases this
theorem chain_bad' {xs : List Int} (h : ¬ ∀ x ∈ xs, numB x = true) : chainB xs = false := decide_eq_false fun hp => h hp.2.2.1
/-- A tile that comes twice. -/
theorem chain_twice {xs : List Int} {k : Nat} (hk : k + 1 < xs.length) (h : tile2 (xs[k]'(by omega)) xs[k + 1] ∈ tilesTo xs k) : chainB xs = false := decide_eq_false fun hp => by
  have hn := hp.2.2.2
  have hs : (tilesTo xs (k + 1)).Sublist (tilesC xs) := by
    unfold tilesC tilesTo
    refine List.Sublist.map _ ?_
    exact List.range_sublist.2 (by omega)
  have h2 := hn.sublist hs
  rw [tilesTo_step hk, List.nodup_append] at h2
  exact h2.2.2 _ h _ (by simp) rfl
theorem chain_hand' {xs : List Int} (h0 : 1 ≤ xs.length) (h1 : xs.length ≤ 56) (hg : ∀ x ∈ xs, numB x = true) : handB (tilesC xs) = chainB xs := by
  rw [Bool.eq_iff_iff]
  exact ⟨fun h => decide_eq_true ⟨h0, h1, hg, (of_decide_eq_true h : handP _).2.2⟩, chain_hand⟩
theorem nodup_step {xs : List Int} {k : Nat} (hk : k + 1 < xs.length) (hn : (tilesTo xs k).Nodup) (h : tile2 (xs[k]'(by omega)) xs[k + 1] ∉ tilesTo xs k) : (tilesTo xs (k + 1)).Nodup := by
  rw [tilesTo_step hk, List.nodup_append]
  exact ⟨hn, by simp, fun a ha b hb => by rw [List.mem_singleton.1 hb]; rintro rfl; exact h ha⟩

theorem own_cap {w : World} {base e size n c : Nat} {A : Option Addr} {cs : List Value} (h : w.ownsRow base e size (.slice A n c) n cs) : n ≤ c := by
  obtain ⟨_, ⟨hv, hn⟩ | ⟨g, cap, cur, hv, _, _, hc, _⟩⟩ := h
  · omega
  · injection hv with h1 h2 h3
    omega

theorem belowN {B : Nat} {a w : World} (h : Below B a w) (n : Nat) : Below B a (w.drewN n) := h.trans ⟨rfl, rfl, rfl, Nat.le_refl _, fun _ _ => rfl⟩
theorem own_drew {w : World} {base e size n : Nat} {v : Value} {cs : List Value} (h : w.ownsRow base e size v n cs) : w.drew.ownsRow base e size v n cs := h
theorem g1d {w : World} (a : Addr) {v : Value} (h : w.cell? a = some v) : w.drew.cell? a = some v := h

/-- One tile appended, at a step of a region that draws its order. -/
theorem step_append_tile {w : World} {ops : Array Oper} {o : Oper} {a : Act} {K : Act → World → Prop} {Q : Exit → Act → World → Prop} {E : Prop} (hgd : o.guard = none) (s x : Operand)
    (ho : o.op = .call { callee := .builtin .append, args := #[s, x], argTypes := #[26, 26] }) (base : Nat) (v : Value) (ts : List (Int × Int)) (hs : a.eval s = v)
    (hown : w.ownsRow base 50 2 v ts.length (cellsT ts)) (p q : Int) (g : Nat) (hx : a.eval x = .slice (some ⟨g, 0, none⟩) 1 1)
    (h0 : w.cell? ⟨g, 0, none⟩ = some (.int .i64 p)) (h1 : w.cell? ⟨g, 1, none⟩ = some (.int .i64 q)) (hlen : ts.length ≤ 4194304) (hbase : base ≤ w.heap.size)
    (h : ∀ A c w', w'.ownsRow base 50 2 (.slice A (ts.length + 1) c) (ts.length + 1) (cellsT (ts ++ [(p, q)])) → w.grownBy w' v.ownBlock → K (a.put o.dst (.slice A (ts.length + 1) c)) w') :
    if Region.wanted o (yielded ops a.tmps) = true then Oper.wp Try.prog o a w K Q else E := by
  have hw : Region.wanted o (yielded ops a.tmps) = true := by simp [Region.wanted, hgd]
  rw [if_pos hw]
  obtain ⟨i0, hi, hz0, hz1, hz2⟩ := info_parts Try.info_tile
  refine wp_append_own w s x 26 ho base 50 i0 _ 2 16 Try.underlying26 hi hz0 hz1 hz2 rfl (by decide) v ts.length (cellsT ts) hs hown ⟨g, 0, none⟩ 1 1 [.int .i64 p, .int .i64 q] hx rfl ?_ ?_ (by unfold maxLen; omega) (by omega) hbase ?_
  · intro j u hj
    match j, hj with
    | 0, hj => simp at hj; subst hj; simpa [Addr.add] using h0
    | 1, hj => simp at hj; subst hj; simpa [Addr.add] using h1
  · intro u hu
    simp at hu
    rcases hu with rfl | rfl <;> rfl
  · intro v' w' h1 h2 _
    have h1' := h1
    obtain ⟨_, ⟨_, hn⟩ | ⟨g', cap, cur, rfl, _⟩⟩ := h1'
    · omega
    refine h _ _ w' ?_ h2
    rw [cellsT_append]
    exact h1
/-- One number appended, at a step of a region that draws its order. -/
theorem step_append_int {w : World} {ops : Array Oper} {o : Oper} {a : Act} {K : Act → World → Prop} {Q : Exit → Act → World → Prop} {E : Prop} (hgd : o.guard = none) (s x : Operand)
    (ho : o.op = .call { callee := .builtin .append, args := #[s, x], argTypes := #[39, 39] }) (base : Nat) (v : Value) (xs : List Int) (hs : a.eval s = v)
    (hown : w.ownsRow base 3 1 v xs.length (cellsI xs)) (p : Int) (g : Nat) (hx : a.eval x = .slice (some ⟨g, 0, none⟩) 1 1)
    (h0 : w.cell? ⟨g, 0, none⟩ = some (.int .i64 p)) (hlen : xs.length ≤ 4194304) (hbase : base ≤ w.heap.size)
    (h : ∀ A c w', w'.ownsRow base 3 1 (.slice A (xs.length + 1) c) (xs.length + 1) (cellsI (xs ++ [p])) → w.grownBy w' v.ownBlock → K (a.put o.dst (.slice A (xs.length + 1) c)) w') :
    if Region.wanted o (yielded ops a.tmps) = true then Oper.wp Try.prog o a w K Q else E := by
  have hw : Region.wanted o (yielded ops a.tmps) = true := by simp [Region.wanted, hgd]
  rw [if_pos hw]
  obtain ⟨i0, hi, hz0, hz1, hz2⟩ := info_parts Try.info_int
  refine wp_append_own w s x 39 ho base 3 i0 _ 1 8 Try.underlying39 hi hz0 hz1 hz2 rfl (by decide) v xs.length (cellsI xs) hs (by simpa using hown) ⟨g, 0, none⟩ 1 1 [.int .i64 p] hx rfl ?_ ?_ (by unfold maxLen; omega) (by omega) hbase ?_
  · intro j u hj
    match j, hj with
    | 0, hj => simp at hj; subst hj; simpa [Addr.add] using h0
  · intro u hu
    simp at hu
    rcases hu with rfl; rfl
  · intro v' w' h1 h2 _
    have h1' := h1
    obtain ⟨_, ⟨_, hn⟩ | ⟨g', cap, cur, rfl, _⟩⟩ := h1'
    · omega
    refine h _ _ w' ?_ h2
    rw [cellsI_append]
    exact h1

/-- The array of marks at block g holds just the marks of a list of tiles. -/
def Marks (g : Nat) (ts : List (Int × Int)) (w : World) : Prop :=
  (∀ a b : Nat, a ≤ 9 → b ≤ 9 → w.cell? ⟨g, a * 10 + b, none⟩ = some (.bool (decide (tile2 a b ∈ ts)))) ∧ ∀ m, w.frozen? ⟨g, m, none⟩ = false

set_option maxRecDepth 100000 in
set_option maxHeartbeats 2000000 in
theorem c_marksSet (g a b : Nat) (ha : a ≤ 9) (hb : b ≤ 9) (v u1 u2 : Bool) (w : World) (h1 : w.cell? ⟨g, a * 10 + b, none⟩ = some (.bool u1)) (h2 : w.cell? ⟨g, b * 10 + a, none⟩ = some (.bool u2)) (hf : ∀ m, w.frozen? ⟨g, m, none⟩ = false) :
    Calls Try.prog 100 #[.pointer (some ⟨g, 0, none⟩), .int .i64 a, .int .i64 b, .bool v] w fun e w' => e = .returned (.tuple #[]) ∧ w' = ((w.setCell ⟨g, a * 10 + b, none⟩ (.bool v)).setCell ⟨g, b * 10 + a, none⟩ (.bool v)).drew := by
  have i0 : (0 : Int) ≤ (a : Int) := by omega
  have i1 : (a : Int) < 10 := by omega
  have i2 : (0 : Int) ≤ (b : Int) := by omega
  have i3 : (b : Int) < 10 := by omega
  have f1 := hf (a * 10 + b)
  have f2 := hf (b * 10 + a)
  obtain ⟨v', hy⟩ := cell?_setCell_some (w := w.drew) (p := ⟨g, a * 10 + b, none⟩) (x := .bool v) (q := ⟨g, b * 10 + a, none⟩) (v := .bool u2) h2
  obtain ⟨v2, hy2⟩ := cell?_setCell_some (w := w) (p := ⟨g, a * 10 + b, none⟩) (x := .bool v) (q := ⟨g, b * 10 + a, none⟩) (v := .bool u2) h2
  go_enter Try.func100, Try.ntmps100
  go_wp2
  go_region
  all_goals
    go_end0
    exact ⟨rfl, rfl⟩
end Go.Proofs.Ytbanpgifhnbjoaa

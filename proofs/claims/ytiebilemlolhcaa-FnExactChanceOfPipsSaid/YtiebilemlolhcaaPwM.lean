/- Hands counted by their pips: how many there are, step by step, and maps of numbers as functions. No function of the program is named here. -/
import Derived.Test.YtiebilemlolhcaaSet
import Derived.Maps.RangeWalk
import Derived.Maps.OwnSet
import Derived.Maps.OwnOps
import Derived.Maps.Ext
namespace Go.Proofs.Ytiebilemlolhcaa
open Go.RowKit Go.Maps Go.ChangeMaps
set_option linter.unusedVariables false

/-- How many hands of s of the first i tiles have the pips p. -/
def cw (q : Nat → Int) : Nat → Nat → Int → Nat
  | 0, s, p => if s = 0 ∧ p = 0 then 1 else 0
  | i + 1, 0, p => cw q i 0 p
  | i + 1, s + 1, p => cw q i (s + 1) p + cw q i s (p - q i)
/-- .. where hands that would not come to k of N tiles are left as they are. -/
def gm (q : Nat → Int) (N k : Nat) : Nat → Nat → Int → Nat
  | 0, s, p => if s = 0 ∧ p = 0 then 1 else 0
  | i + 1, 0, p => gm q N k i 0 p
  | i + 1, s + 1, p => if k ≤ s + 1 + (N - 1 - i) then gm q N k i (s + 1) p + gm q N k i s (p - q i) else gm q N k i (s + 1) p
def psum (q : Nat → Int) : Nat → Int
  | 0 => 0
  | i + 1 => psum q i + q i
theorem gm_cw (q : Nat → Int) (N k : Nat) : ∀ i s p, i ≤ N → k ≤ s + (N - i) → gm q N k i s p = cw q i s p
  | 0, s, p, _, _ => rfl
  | i + 1, 0, p, hi, h => by
    simp only [gm, cw]
    exact gm_cw q N k i 0 p (by omega) (by omega)
  | i + 1, s + 1, p, hi, h => by
    simp only [gm, cw]
    rw [if_pos (by omega), gm_cw q N k i (s + 1) p (by omega) (by omega), gm_cw q N k i s _ (by omega) (by omega)]
theorem gm_le (q : Nat → Int) (N k : Nat) : ∀ i s p, gm q N k i s p ≤ cw q i s p
  | 0, s, p => Nat.le_refl _
  | i + 1, 0, p => by
    simp only [gm, cw]
    exact gm_le q N k i 0 p
  | i + 1, s + 1, p => by
    have h1 := gm_le q N k i (s + 1) p
    have h2 := gm_le q N k i s (p - q i)
    simp only [gm, cw]
    split <;> omega
theorem cw_le (q : Nat → Int) : ∀ i s p, cw q i s p ≤ 2 ^ i
  | 0, s, p => by simp only [cw]; split <;> simp
  | i + 1, 0, p => by
    have := cw_le q i 0 p
    simp only [cw]
    rw [Nat.pow_succ]
    omega
  | i + 1, s + 1, p => by
    have h1 := cw_le q i (s + 1) p
    have h2 := cw_le q i s (p - q i)
    simp only [cw]
    rw [Nat.pow_succ]
    omega
theorem psum_step (q : Nat → Int) (i : Nat) : psum q (i + 1) = psum q i + q i := rfl
theorem cw_in {q : Nat → Int} : ∀ i, (∀ j, j < i → 0 ≤ q j) → ∀ s p, 0 < cw q i s p → 0 ≤ p ∧ p ≤ psum q i
  | 0, _, s, p, h => by
    simp only [cw] at h
    split at h
    · rename_i e
      simp [psum, e.2]
    · omega
  | i + 1, hq, 0, p, h => by
    simp only [cw] at h
    have h1 := cw_in i (fun j hj => hq j (by omega)) 0 p h
    have h2 := hq i (by omega)
    rw [psum_step]
    omega
  | i + 1, hq, s + 1, p, h => by
    simp only [cw] at h
    have h2 := hq i (by omega)
    rw [psum_step]
    by_cases h3 : 0 < cw q i (s + 1) p
    · have := cw_in i (fun j hj => hq j (by omega)) (s + 1) p h3
      omega
    · have := cw_in i (fun j hj => hq j (by omega)) s (p - q i) (by omega)
      omega
theorem gm_in {q : Nat → Int} (N k i : Nat) (hq : ∀ j, j < i → 0 ≤ q j) (s : Nat) (p : Int) (h : 0 < gm q N k i s p) : 0 ≤ p ∧ p ≤ psum q i :=
  cw_in i hq s p (Nat.lt_of_lt_of_le h (gm_le q N k i s p))
theorem psum_bd {q : Nat → Int} : ∀ i, (∀ j, j < i → 0 ≤ q j ∧ q j ≤ 12) → 0 ≤ psum q i ∧ psum q i ≤ 12 * (i : Int)
  | 0, _ => by simp [psum]
  | i + 1, hq => by
    have h1 := psum_bd i (fun j hj => hq j (by omega))
    have h2 := hq i (by omega)
    rw [psum_step]
    omega
theorem psum_mono {q : Nat → Int} {N : Nat} (hq : ∀ j, j < N → 0 ≤ q j) : ∀ n, ∀ i, i + n = N → psum q i ≤ psum q N
  | 0, i, h => by rw [show i = N by omega]; exact Int.le_refl _
  | n + 1, i, h => by
    have h1 := psum_mono hq n (i + 1) (by omega)
    have h2 := hq i (by omega)
    rw [psum_step] at h1
    omega
theorem two_bd {i : Nat} (h : i ≤ 28) : 2 ^ i ≤ 268435456 := Nat.pow_le_pow_right (by omega) h

/-- A datum of a map reads as a function of numbers that is 0 where there is no key. -/
structure Vw (D : DataW Unit) (f : Int → Nat) : Prop where
  has_ : ∀ p, has D (.int .i64 p) = decide (0 < f p)
  at_ : ∀ p z, 0 < f p → D.atKey (.int .i64 p) z = .lit (.int .i64 (f p : Int))
theorem lawI : Keyed Try.prog 3 := int_keyed Try.underlying3
theorem key_int (p : Int) : WideAt.IsKeyLit (.int .i64 p) := trivial
theorem same_int (p r : Int) : (Lit.int .i64 p).sameKey (.int .i64 r) = decide (p = r) := by
  by_cases h : p = r
  · subst h
    simp [WideAt.sameKey_self (key_int p)]
  · rw [decide_eq_false h, Maps.sameKey_ne (fun e => h (by cases e; rfl))]
theorem Vw.empty : Vw (.map []) (fun _ => 0) := ⟨fun p => rfl, fun p z h => absurd h (by omega)⟩
theorem Vw.put {D : DataW Unit} {f : Int → Nat} (h : Vw D f) (hD : IsMap D) (x : Int) (v : Nat) (hv : 0 < v) : Vw (D.put (.int .i64 x) (.lit (.int .i64 (v : Int)))) (fun p => if p = x then v else f p) where
  has_ p := by
    by_cases e : p = x
    · subst e
      rw [has_put_same hD (key_int p)]
      simp [hv]
    · rw [has_put_other (fun e' => e (by cases e'; rfl)), h.has_, if_neg e]
  at_ p z hp := by
    by_cases e : p = x
    · subst e
      rw [atKey_put_same hD (key_int p)]
      simp
    · simp only [if_neg e] at hp ⊢
      rw [atKey_put_other (fun e' => e (by cases e'; rfl)), h.at_ p z hp]
theorem Vw.look {D : DataW Unit} {f : Int → Nat} (h : Vw D f) (p : Int) : D.atKey (.int .i64 p) (.lit (.int .i64 0)) = .lit (.int .i64 (f p : Int)) := by
  by_cases hp : 0 < f p
  · exact h.at_ p _ hp
  · have e : f p = 0 := by omega
    rw [atKey_of_not_has (by rw [h.has_]; simp [e]), e]
    rfl

/-- Block b is a map of at most n entries that reads as f. -/
def MI (w : World) (b n : Nat) (f : Int → Nat) : Prop := ∃ D : DataW Unit, w.ownsMap Try.prog 3 (plainElem Try.prog 3) b n D ∧ Vw D f
theorem MI.made (w : World) : MI (w.alloc (.map #[] 0)) w.heap.size 0 (fun _ => 0) := ⟨_, World.ownsMap_made _ _ _ _, Vw.empty⟩
theorem MI.lt {w : World} {b n : Nat} {f : Int → Nat} (h : MI w b n f) : b < w.heap.size := by
  obtain ⟨D, hm, _⟩ := h
  exact hm.lt
theorem MI.mono {w : World} {b n m : Nat} {f : Int → Nat} (h : MI w b n f) (hn : n ≤ m) : MI w b m f := by
  obtain ⟨D, hm, hv⟩ := h
  exact ⟨D, hm.mono hn, hv⟩
theorem MI.kept {w w' : World} {row : Option Nat} {b n : Nat} {f : Int → Nat} (h : MI w b n f) (hg : w.grownBy w' row) (hne : some b ≠ row) : MI w' b n f := by
  obtain ⟨D, hm, hv⟩ := h
  exact ⟨D, hm.kept hg hne, hv⟩
theorem MI.keep {w w' : World} {b n : Nat} {f : Int → Nat} (h : MI w b n f) (hb : Below w.heap.size w w') : MI w' b n f :=
  h.kept (row := none) ⟨hb.os, hb.tape, hb.output, hb.size, fun k hk _ => hb.block k hk⟩ (by simp)
theorem MI.drew {w : World} {b n : Nat} {f : Int → Nat} (h : MI w b n f) : MI w.drew b n f := by
  obtain ⟨D, hm, hv⟩ := h
  exact ⟨D, hm.drew, hv⟩
theorem MI.eq {w : World} {b n : Nat} {f g : Int → Nat} (h : MI w b n f) (e : ∀ p, f p = g p) : MI w b n g := by
  rw [← (funext e : f = g)]
  exact h

theorem gr_trans {w a b : World} {row : Option Nat} (h : w.grownBy a row) (k : a.grownBy b row) : w.grownBy b row :=
  ⟨k.os.trans h.os, k.tape.trans h.tape, k.output.trans h.output, Nat.le_trans h.size k.size, fun i hi hne => (k.block i (Nat.lt_of_lt_of_le hi h.size) hne).trans (h.block i hi hne)⟩
theorem gr_new {w a b : World} {row : Option Nat} {r : Nat} (h : w.grownBy a row) (k : a.grownBy b (some r)) (hr : w.heap.size ≤ r) : w.grownBy b row :=
  ⟨k.os.trans h.os, k.tape.trans h.tape, k.output.trans h.output, Nat.le_trans h.size k.size, fun i hi hne => (k.block i (Nat.lt_of_lt_of_le hi h.size) (fun e => by cases e; omega)).trans (h.block i hi hne)⟩
theorem gr_below {w a b : World} {row : Option Nat} (h : w.grownBy a row) (k : Below w.heap.size a b) : w.grownBy b row :=
  ⟨k.os.trans h.os, k.tape.trans h.tape, k.output.trans h.output, Nat.le_trans h.size k.size, fun i hi hne => (k.block i hi).trans (h.block i hi hne)⟩
theorem gr_of {w a : World} (row : Option Nat) (k : Below w.heap.size w a) : w.grownBy a row := ⟨k.os, k.tape, k.output, k.size, fun i hi _ => k.block i hi⟩

theorem Try.zero_int' (w : World) : (zeroValue 3).run Try.prog w = .ok (.int .i64 0) w := by kernel_rfl

section
variable {w : World} {ops : Array Oper} {rest : List Oper} {o : Oper} {a : Act} {Q : Exit → Act → World → Prop}
/-- 'm[p]'. -/
theorem wp_mi_look (hg : o.guard = none) (m x : Operand) (hop : o.op = Op.lookup 38 m x false) (b n : Nat) (f : Int → Nat) (hm : a.eval m = .map (some b)) (hown : MI w b n f)
    (p : Int) (hx : a.eval x = .int .i64 p) (hp : (Lit.int .i64 p).wf = true)
    (hK : wpList Try.prog ops Q rest (a.put o.dst (.int .i64 (f p : Int))) w) : wpList Try.prog ops Q (o :: rest) a w := by
  obtain ⟨D, ho, hv⟩ := hown
  refine wpList_lookup_own_int (H := Unit) w hg m x _ hop 3 3 .i64 lawI Try.underlying38 Try.underlying3 (Try.zero_int' w) b n D hm ho _ _ hx (keyOf_int_mk Try.underlying3 hp) ?_
  intro c hat hwc
  rw [hv.look] at hat
  cases hat
  exact hK
/-- 'm[p] = v', v positive. -/
theorem wp_mi_put (hg : o.guard = none) (m x v : Operand) (hop : o.op = Op.mapUpdate 38 m x v) (b n : Nat) (f : Int → Nat) (hm : a.eval m = .map (some b)) (hown : MI w b n f) (hn : n ≤ 1152921504606846975)
    (p : Int) (hx : a.eval x = .int .i64 p) (hp : (Lit.int .i64 p).wf = true) (c : Nat) (hc : a.eval v = .int .i64 (c : Int)) (c0 : 0 < c) (c1 : c ≤ 9223372036854775807)
    (hK : ∀ w', MI w' b (n + 1) (fun r => if r = p then c else f r) → w.grownBy w' (some b) → wpList Try.prog ops Q rest (a.put o.dst undef) w') : wpList Try.prog ops Q (o :: rest) a w := by
  obtain ⟨D, ho, hv⟩ := hown
  refine wpList_mapUpdate_own (H := Unit) w hg m x v _ hop 3 3 lawI Try.underlying38 _ b n D hm ho (by unfold maxLen; omega) _ _ _ hx hc (keyOf_int_mk Try.underlying3 hp) _ _ (plainElem_int Try.underlying3 (WalkArith.wf_i64 (by omega))) ?_
  intro w' h1 h2
  exact hK w' ⟨_, h1, hv.put ho.isMap p c c0⟩ h2
end
end Go.Proofs.Ytiebilemlolhcaa

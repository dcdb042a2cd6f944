/- The plays of a hand that fit: lists. -/
import Derived.Test.YtnnkdnleencofabBrdF
import Derived.Test.YtnnkdnleencofabRegS
namespace Go.Proofs.Ytnnkdnleencofab
open Go.RowKit
set_option linter.unusedVariables false

def armN (B : Brd) : Nat := if B.arms.length = 0 then 1 else B.arms.length
theorem armN_le {B : Brd} (h : B.arms.length ≤ 4) : armN B ≤ 4 := by unfold armN; split <;> omega
def rowP (B : Brd) (t : Int × Int) (k : Nat) : List (Int × Int × Int) := ((List.range k).map fun j : Nat => (t.1, t.2, (j : Int))).filter fun p => fitsL B p
theorem rowP_zero (B : Brd) (t : Int × Int) : rowP B t 0 = [] := rfl
theorem rowP_yes {B : Brd} {t : Int × Int} {k : Nat} (h : fitsL B (t.1, t.2, (k : Int)) = true) : rowP B t (k + 1) = rowP B t k ++ [(t.1, t.2, (k : Int))] := by
  unfold rowP
  rw [List.range_succ, List.map_append, List.filter_append]
  simp [h]
theorem rowP_no {B : Brd} {t : Int × Int} {k : Nat} (h : fitsL B (t.1, t.2, (k : Int)) = false) : rowP B t (k + 1) = rowP B t k := by
  unfold rowP
  rw [List.range_succ, List.map_append, List.filter_append]
  simp [h]
theorem rowP_len (B : Brd) (t : Int × Int) (k : Nat) : (rowP B t k).length ≤ k := by
  unfold rowP
  exact Nat.le_trans (List.length_filter_le _ _) (by simp)
def forTo (B : Brd) (ts : List (Int × Int)) (k : Nat) : List (Int × Int × Int) := (ts.take k).flatMap fun t => rowP B t (armN B)
theorem forTo_zero (B : Brd) (ts : List (Int × Int)) : forTo B ts 0 = [] := by simp [forTo]
theorem forTo_succ {B : Brd} {ts : List (Int × Int)} {k : Nat} (h : k < ts.length) : forTo B ts (k + 1) = forTo B ts k ++ rowP B ts[k] (armN B) := by
  unfold forTo
  rw [List.take_succ_eq_append_getElem h, List.flatMap_append]
  simp
theorem forTo_len {B : Brd} (h4 : B.arms.length ≤ 4) (ts : List (Int × Int)) : ∀ k, k ≤ ts.length → (forTo B ts k).length ≤ 4 * k
  | 0, _ => by simp [forTo]
  | k + 1, h => by
    rw [forTo_succ (by omega), List.length_append]
    have := forTo_len h4 ts k (by omega)
    have := rowP_len B ts[k] (armN B)
    have := armN_le h4
    omega
def playsL (B : Brd) (ts : List (Int × Int)) : List (Int × Int × Int) := forTo B ts ts.length

/-- A row of the call's own lies in no block that holds something else. -/
theorem own_off {w : World} {base e size n : Nat} {v : Value} {cs : List Value} {g e' : Nat} {cur : Array Value} {fr : Nat × Nat} (ho : w.ownsRow base e size v n cs) (hg : w.heap[g]? = some (.cells cur e' fr)) (hne : e' ≠ e) : v.ownBlock ≠ some g := by
  intro hb
  obtain ⟨_, ⟨hv, _⟩ | ⟨g', cap, cur', hv, _, hh, _⟩⟩ := ho
  · rw [hv] at hb; cases hb
  · rw [hv] at hb
    have e1 : g' = g := by simpa [Value.ownBlock] using hb
    subst e1
    rw [hg] at hh
    cases hh
    exact hne rfl
theorem cell_heap {w : World} {g i e : Nat} {cur : Array Value} (h : w.heap[g]? = some (.cells cur e (0, 0))) {u : Value} (hi : cur[i]? = some u) : w.cell? ⟨g, i, none⟩ = some u := by
  simp [World.cell?, h, hi]
end Go.Proofs.Ytnnkdnleencofab

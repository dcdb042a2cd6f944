/- Hands dealt: the mathematics. -/
import Derived.Test.YtlnfialfkipdjaaMakS
namespace Go.Proofs.Ytlnfialfkipdjaa
open Go.RowKit
set_option linter.unusedVariables false

theorem isTB_iff (a b : Int) (x : Int × Int) : isTB a b x = true ↔ x = (a, b) := by
  obtain ⟨x1, x2⟩ := x
  unfold isTB
  simp only [Bool.and_eq_true, beq_iff_eq, Prod.mk.injEq]
/-- In a list that has no tile twice, losing a tile by value is losing it by its place. -/
theorem wo_erase : ∀ {ts : List (Int × Int)} {k : Nat} (hn : ts.Nodup) (hk : k < ts.length), woL ts ts[k].1 ts[k].2 = ts.eraseIdx k
  | [], k, hn, hk => by simp at hk
  | x :: xs, 0, hn, hk => by
    have hx := (List.nodup_cons.1 hn).1
    show (x :: xs).filter (fun y => !isTB x.1 x.2 y) = xs
    have e : isTB x.1 x.2 x = true := (isTB_iff _ _ _).2 rfl
    rw [List.filter_cons, e]
    simp only [Bool.not_true, Bool.false_eq_true, if_false]
    refine List.filter_eq_self.2 fun y hy => ?_
    cases h : isTB x.1 x.2 y
    · rfl
    · have := (isTB_iff _ _ _).1 h
      subst this
      exact absurd hy hx
  | x :: xs, k + 1, hn, hk => by
    have hx := (List.nodup_cons.1 hn).1
    have hk2 : k < xs.length := by simpa using hk
    have i := wo_erase (List.nodup_cons.1 hn).2 hk2
    show (x :: xs).filter (fun y => !isTB xs[k].1 xs[k].2 y) = x :: xs.eraseIdx k
    have e : isTB xs[k].1 xs[k].2 x = false := by
      cases h : isTB xs[k].1 xs[k].2 x
      · rfl
      · have h2 := (isTB_iff _ _ _).1 h
        exact absurd (by rw [h2]; exact List.getElem_mem hk2) hx
    rw [List.filter_cons, e]
    simp only [Bool.not_false, if_true]
    rw [← i]
    rfl
def dlZ (z : Int) : Int := (z * 163 + 229) % 10007
/-- What is left, the number that is dealt by, and both hands, after k tiles. -/
structure Dl where
  left : List (Int × Int)
  z : Int
  h0 : List (Int × Int)
  h1 : List (Int × Int)
def dlAt (d : Dl) : Nat := (dlZ d.z % (d.left.length : Int)).toNat
def dlStep (k : Nat) (d : Dl) : Dl :=
  { left := d.left.eraseIdx (dlAt d), z := dlZ d.z, h0 := if k % 2 = 0 then d.h0 ++ [d.left.getD (dlAt d) (0, 0)] else d.h0, h1 := if k % 2 = 0 then d.h1 else d.h1 ++ [d.left.getD (dlAt d) (0, 0)] }
def dlN (d : Dl) : Nat → Dl
  | 0 => d
  | k + 1 => dlStep k (dlN d k)
theorem dlAt_lt {d : Dl} (h : 0 < d.left.length) : dlAt d < d.left.length := by
  unfold dlAt
  have h1 := Int.emod_nonneg (dlZ d.z) (show (d.left.length : Int) ≠ 0 by omega)
  have h2 := Int.emod_lt_of_pos (dlZ d.z) (show (0 : Int) < d.left.length by omega)
  omega
theorem dlZ_bd (z : Int) : 0 ≤ dlZ z ∧ dlZ z ≤ 10006 := by
  unfold dlZ
  omega
theorem dlN_len (d : Dl) : ∀ (k : Nat), k ≤ d.left.length → (dlN d k).left.length = d.left.length - k
  | 0, _ => rfl
  | k + 1, h => by
    have i := dlN_len d k (by omega)
    show ((dlN d k).left.eraseIdx (dlAt (dlN d k))).length = _
    rw [List.length_eraseIdx_of_lt (dlAt_lt (by omega)), i]
    omega
theorem dlN_nodup (d : Dl) (h : d.left.Nodup) : ∀ (k : Nat), (dlN d k).left.Nodup
  | 0 => h
  | k + 1 => List.Nodup.sublist (List.eraseIdx_sublist _ _) (dlN_nodup d h k)
end Go.Proofs.Ytlnfialfkipdjaa

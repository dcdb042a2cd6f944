/- The best of several plays: lists. -/
import Derived.Test.YtnnkdnleencofabPlaysT
namespace Go.Proofs.Ytnnkdnleencofab
open Go.RowKit
set_option linter.unusedVariables false

/-- The points behind a play more. -/
def ptsW (B : Brd) (p : Int × Int × Int) : Int := ptsL (withL B p).ps.length (withL B p).arms
/-- Found, the play, its points. -/
structure Bst where
  fd : Bool
  pl : Int × Int × Int
  mo : Int
def Bst.none : Bst := ⟨false, (0, 0, 0), 0⟩
def bestF (B : Brd) (b : Bst) (p : Int × Int × Int) : Bst := if !b.fd || decide (b.mo < ptsW B p) then ⟨true, p, ptsW B p⟩ else b
def bestTo (B : Brd) (L : List (Int × Int × Int)) (k : Nat) : Bst := (L.take k).foldl (bestF B) Bst.none
theorem bestTo_zero (B : Brd) (L : List (Int × Int × Int)) : bestTo B L 0 = Bst.none := by simp [bestTo]
theorem bestTo_succ {B : Brd} {L : List (Int × Int × Int)} {k : Nat} (h : k < L.length) : bestTo B L (k + 1) = bestF B (bestTo B L k) L[k] := by
  unfold bestTo
  rw [List.take_succ_eq_append_getElem h, List.foldl_append]
  rfl
theorem bestF_yes {B : Brd} {b : Bst} {p : Int × Int × Int} (h : b.fd = false ∨ b.mo < ptsW B p) : bestF B b p = ⟨true, p, ptsW B p⟩ := by
  unfold bestF
  rw [if_pos]
  rcases h with h | h <;> simp [h]
theorem bestF_no {B : Brd} {b : Bst} {p : Int × Int × Int} (h1 : b.fd = true) (h2 : ¬ b.mo < ptsW B p) : bestF B b p = b := by
  unfold bestF
  rw [if_neg]
  simp [h1, h2]
theorem forTo_fits {B : Brd} {ts : List (Int × Int)} {k : Nat} {p : Int × Int × Int} (h : p ∈ forTo B ts k) : fitsL B p = true := by
  unfold forTo rowP at h
  rw [List.mem_flatMap] at h
  obtain ⟨t, _, h⟩ := h
  exact (List.mem_filter.1 h).2
theorem plays_fit {B : Brd} {ts : List (Int × Int)} {k : Nat} (h : k < (playsL B ts).length) : fitsL B (playsL B ts)[k] = true := forTo_fits (List.getElem_mem h)
theorem ptsW_le {B : Brd} (hB : Bok B) {p : Int × Int × Int} (h : fitsL B p = true) : 0 ≤ ptsW B p ∧ ptsW B p ≤ 72 := by
  have h1 := hB.with_ h
  exact ptsL_le h1.ends h1.four
/-- What has been found has points. -/
def Bst.ok (b : Bst) : Prop := (b.fd = true → 0 ≤ b.mo ∧ b.mo ≤ 72) ∧ (b.fd = false → b = Bst.none)
theorem bestTo_ok {B : Brd} (hB : Bok B) (ts : List (Int × Int)) : ∀ k, k ≤ (playsL B ts).length → (bestTo B (playsL B ts) k).ok
  | 0, _ => by rw [bestTo_zero]; exact ⟨fun h => (by cases h), fun _ => rfl⟩
  | k + 1, h => by
    rw [bestTo_succ (by omega)]
    have ih := bestTo_ok hB ts k (by omega)
    have hp := ptsW_le hB (plays_fit (B := B) (ts := ts) (k := k) (by omega))
    unfold bestF
    split
    · exact ⟨fun _ => hp, fun h => (by cases h)⟩
    · exact ih
/-- The most points so far, or -1: the specification's count. -/
def Bst.sm (b : Bst) : Int := if b.fd then b.mo else -1
theorem sm_yes {B : Brd} (hB : Bok B) {b : Bst} (hb : b.ok) {p : Int × Int × Int} (hf : fitsL B p = true) : b.sm < ptsW B p ↔ (b.fd = false ∨ b.mo < ptsW B p) := by
  have hp := ptsW_le hB hf
  unfold Bst.sm
  cases h : b.fd
  · simp; omega
  · simp
/-- The answer. -/
def bestHL (ps : List (Int × Int × Int)) (ts : List (Int × Int)) : Bst := if okL ps && handB ts then bestTo (brdD ps) (playsL (brdD ps) (sortHL ts)) (playsL (brdD ps) (sortHL ts)).length else Bst.none
theorem playsL_len {B : Brd} (h4 : B.arms.length ≤ 4) {ts : List (Int × Int)} (ht : ts.length ≤ 110) : (playsL B ts).length ≤ 440 := by
  have := forTo_len h4 ts ts.length (Nat.le_refl _)
  unfold playsL
  omega
end Go.Proofs.Ytnnkdnleencofab

/- Windows: sides, spun ones, the least one: the specification's. -/
import Derived.Test.YtepedcdnaodhcaaWinS
namespace Go.Proofs.Ytepedcdnaodhcaa
open Go.RowKit
set_option linter.unusedVariables false

/-- A new list of eight numbers comes back. -/
def Ret8 (w : World) (xs : List Int) (e : Ending) (w' : World) : Prop :=
  ∃ A c, e = .returned (.slice A 8 c) ∧ w'.ownsRow w.heap.size 3 1 (.slice A 8 c) 8 (cellsI xs) ∧ Below w.heap.size w w'

theorem ret8 {w w' : World} {xs : List Int} {e : Ending} (h : xs.length = 8) (hr : RetN w xs e w') : Ret8 w xs e w' := by
  obtain ⟨A, c, h1, h2, h3⟩ := hr
  rw [h] at h1 h2
  exact ⟨A, c, h1, h2, h3⟩

theorem rd8 {w : World} {base : Nat} {A : Option Addr} {c : Nat} {xs : List Int} (h : xs.length = 8) (ho : w.ownsRow base 3 1 (.slice A 8 c) 8 (cellsI xs)) : RdI w A xs := by
  rw [← h] at ho
  exact RdI.of_own ho

theorem fair_4 (xs : List Int) : fairB xs = ((sideV xs 0 == sideV xs 1) && ((sideV xs 1 == sideV xs 2) && (sideV xs 2 == sideV xs 3))) := by
  unfold fairB sameL sidesL
  generalize sideV xs 0 = a
  generalize sideV xs 1 = b
  generalize sideV xs 2 = c
  generalize sideV xs 3 = d
  rw [Bool.eq_iff_iff]
  simp only [List.all_cons, List.all_nil, List.getD_cons_zero, Bool.and_eq_true, decide_eq_true_eq, beq_iff_eq, Bool.and_true]
  constructor
  · rintro ⟨_, h1, h2, h3⟩
    exact ⟨h1.symm, h1.trans h2.symm, h2.trans h3.symm⟩
  · rintro ⟨h1, h2, h3⟩
    exact ⟨trivial, h1.symm, (h1.trans h2).symm, ((h1.trans h2).trans h3).symm⟩
end Go.Proofs.Ytepedcdnaodhcaa

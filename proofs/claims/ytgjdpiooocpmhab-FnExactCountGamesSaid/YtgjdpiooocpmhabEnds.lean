/- The ends of a chain, and whether it is a ring. -/
import Derived.Test.YtgjdpiooocpmhabChn
namespace Go.Proofs.Ytgjdpiooocpmhab
open Go.RowKit
set_option linter.unusedVariables false

def e0 (xs : List Int) : Int := if chainB xs then xs.getD 0 0 else 0
def e1 (xs : List Int) : Int := if chainB xs then xs.getD (xs.length - 1) 0 else 0
def ringB (xs : List Int) : Bool := decide (1 < xs.length) && (xs.getD 0 0 == xs.getD (xs.length - 1) 0)

/-- The first and the last cell of a list that has one. -/
theorem RdI.ends {w : World} {A : Option Addr} {xs : List Int} {n : Nat} (h : RdI w A xs) (hn : xs.length = n + 1) :
    ∃ b off, A = some ⟨b, off, none⟩ ∧ w.cell? ⟨b, off, none⟩ = some (.int .i64 (xs.getD 0 0)) ∧ w.cell? ⟨b, off + n, none⟩ = some (.int .i64 (xs.getD n 0)) := by
  obtain ⟨b, off, rfl, _, hc⟩ := h.at_ (k := 0) (by omega)
  refine ⟨b, off, rfl, ?_, ?_⟩
  · have := hc 0 (by omega)
    rw [Nat.add_zero] at this
    rw [this]
    simp [List.getD, List.getElem?_eq_getElem (show 0 < xs.length by omega)]
  · rw [hc n (by omega)]
    simp [List.getD, List.getElem?_eq_getElem (show n < xs.length by omega)]

theorem ring_ends {xs : List Int} (h : chainB xs = true) : ringB xs = (decide (1 < xs.length) && (e0 xs == e1 xs)) := by simp [ringB, e0, e1, h]

end Go.Proofs.Ytgjdpiooocpmhab

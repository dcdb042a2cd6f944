/- Windows: the specification's functions. -/
import Derived.Test.YtbanpgifhnbjoaaWinM
import Derived.Test.YtbanpgifhnbjoaaConc
import Derived.BigQuiet
namespace Go.Proofs.Ytbanpgifhnbjoaa
open Go.RowKit
set_option linter.unusedVariables false

theorem RdI.cellD {w : World} {A : Option Addr} {xs : List Int} {n : Nat} (h : RdI w A xs) (hn : xs.length = n) (h0 : 0 < n) : ∃ b off, A = some ⟨b, off, none⟩ ∧ b < w.heap.size ∧ ∀ k, k < n → w.cell? ⟨b, off + k, none⟩ = some (.int .i64 (xs.getD k 0)) := by
  obtain ⟨b, off, hA, hb, hc⟩ := h.at_ (k := 0) (by omega)
  refine ⟨b, off, hA, hb, fun k hk => ?_⟩
  rw [hc k (by omega)]
  simp [List.getD, List.getElem?_eq_getElem (show k < xs.length by omega)]

def winT (xs : List Int) : List (Int × Int) := if winB xs then pairs2 xs else []
theorem winT_len (xs : List Int) : (winT xs).length ≤ 110 := by
  unfold winT
  split
  · rename_i h
    rw [pairs2_len, win_len h]
    decide
  · simp
end Go.Proofs.Ytbanpgifhnbjoaa

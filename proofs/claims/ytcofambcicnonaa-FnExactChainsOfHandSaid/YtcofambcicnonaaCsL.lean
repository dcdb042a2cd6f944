/- The longest chain of a hand: the program's own. -/
import Derived.Test.YtcofambcicnonaaCsC
import Derived.Test.YtcofambcicnonaaTurn
import Derived.Test.YtcofambcicnonaaCat
namespace Go.Proofs.Ytcofambcicnonaa
open Go Go.RowKit
set_option linter.unusedVariables false

theorem frozen_of_blk {w w' : World} {b m : Nat} (h : w'.heap[b]? = w.heap[b]?) : w'.frozen? ⟨b, m, none⟩ = w.frozen? ⟨b, m, none⟩ := by
  unfold World.frozen?
  simp only [h]

def lngStep (a x : List Int) : List Int := if a.length < x.length then x else a
def lngL (L : List (List Int)) : List Int := L.foldl lngStep []
theorem lngL_snoc (L : List (List Int)) (x : List Int) : lngL (L ++ [x]) = lngStep (lngL L) x := by
  unfold lngL
  rw [List.foldl_append]
  rfl

end Go.Proofs.Ytcofambcicnonaa

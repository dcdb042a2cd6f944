/- The tied card of PlacesOfTile: at every text and tile both functions answer alike, and each answer owns its memory. No condition. The listed tables of the library's are tied to the program's text. -/
import Derived.Test.YtjbdflkbclhonabDoorLawTPlc
import Derived.Test.YtjbdflkbclhonabDoorTie
import Derived.Test.YtjbdflkbclhonabDoorCards
import Derived.SevenTiedAt
namespace Go.Proofs.YtjbdflkbclhonabDoor
open Go

theorem fnExactPlacesOfTile_card_holds : Rows.FnExactPlacesOfTileCardSaid :=
  Claim7.holds_tied_plain_at .later [] [.data, .pinned] true (true, "787fcd790fa38227086d0608594d61ee189caf27dd30d8a4b4978d68335969b3") false
    fnExactPlacesOfTile_holds (fun _ h => by cases h) (by kernel_rfl) (fun _ h => by cases h) fnExactPlacesOfTile_row_tie rfl ⟨rfl, rfl⟩ (by kernel_rfl) rfl
    (fun f fn hf hfn => by
      obtain rfl : f = 3 := Option.some.inj ((show Tryd.prog.funcNamed "loop.example/g01216/laws.FnExactPlacesOfTile" = some 3 by kernel_rfl).symm.trans hf) |>.symm
      obtain rfl : fn = Tryd.f3 := (Option.some.inj (Tryd.func3.symm.trans hfn)).symm
      exact ⟨by kernel_rfl, fun j t ht => by
        rw [Tryd.params3] at ht
        have hm : t ∈ [9, 23] := by simpa using Array.mem_of_getElem? ht
        have hall : ([9, 23].all fun u => !Tryd.prog.wantsStandIn u) = true := by kernel_rfl
        exact (show Tryd.prog.wantsStandIn t = false by simpa using List.all_eq_true.1 hall t hm)⟩)
    (by kernel_rfl)
#print axioms fnExactPlacesOfTile_card_holds
end Go.Proofs.YtjbdflkbclhonabDoor

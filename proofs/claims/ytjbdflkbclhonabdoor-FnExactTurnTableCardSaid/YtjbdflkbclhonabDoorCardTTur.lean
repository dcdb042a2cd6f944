/- The tied card of TurnTable: at every text both functions answer alike. No condition. The listed tables of the library's are tied to the program's text. -/
import Derived.Test.YtjbdflkbclhonabDoorLawTTur
import Derived.Test.YtjbdflkbclhonabDoorTie
import Derived.Test.YtjbdflkbclhonabDoorCards
import Derived.SevenTiedAt
namespace Go.Proofs.YtjbdflkbclhonabDoor
open Go

theorem fnExactTurnTable_card_holds : Rows.FnExactTurnTableCardSaid :=
  Claim7.holds_tied_plain_at .later [] [.data, .pinned] true (true, "787fcd790fa38227086d0608594d61ee189caf27dd30d8a4b4978d68335969b3") false
    fnExactTurnTable_holds (fun _ h => by cases h) (by kernel_rfl) (fun _ h => by cases h) fnExactTurnTable_row_tie rfl ⟨rfl, rfl⟩ (by kernel_rfl) rfl
    (fun f fn hf hfn => by
      obtain rfl : f = 5 := Option.some.inj ((show Tryd.prog.funcNamed "loop.example/g01216/laws.FnExactTurnTable" = some 5 by kernel_rfl).symm.trans hf) |>.symm
      obtain rfl : fn = Tryd.f5 := (Option.some.inj (Tryd.func5.symm.trans hfn)).symm
      exact ⟨by kernel_rfl, fun j t ht => by
        rw [Tryd.params5] at ht
        have hm : t ∈ [9] := by simpa using Array.mem_of_getElem? ht
        have hall : ([9].all fun u => !Tryd.prog.wantsStandIn u) = true := by kernel_rfl
        exact (show Tryd.prog.wantsStandIn t = false by simpa using List.all_eq_true.1 hall t hm)⟩)
    (by kernel_rfl)
#print axioms fnExactTurnTable_card_holds
end Go.Proofs.YtjbdflkbclhonabDoor

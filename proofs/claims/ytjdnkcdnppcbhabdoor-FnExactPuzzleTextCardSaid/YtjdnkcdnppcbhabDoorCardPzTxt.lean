/- The tied card of PuzzleText: at every puzzle both functions answer alike and leave it alone. The listed tables of the library's are tied to the program's text. -/
import Derived.Test.YtjdnkcdnppcbhabDoorLawPzTxt
import Derived.Test.YtjdnkcdnppcbhabDoorTie
import Derived.Test.YtjdnkcdnppcbhabDoorCards
import Derived.SevenTiedAt
namespace Go.Proofs.YtjdnkcdnppcbhabDoor
open Go

theorem fnExactPuzzleText_card_holds : Rows.FnExactPuzzleTextCardSaid :=
  Claim7.holds_tied_plain_at .later [] [.data, .data, .data] true (true, "bbc58d3f37df03a7011c3bc3b3aac2976f512bf0acb8734e6030d278a40f1c33") false
    fnExactPuzzleText_holds (fun _ h => by cases h) (by kernel_rfl) (fun _ h => by cases h) fnExactPuzzleText_row_tie rfl ⟨rfl, rfl⟩ (by kernel_rfl) rfl
    (fun f fn hf hfn => by
      obtain rfl : f = 3 := Option.some.inj ((show Tryd.prog.funcNamed "loop.example/g01216/laws.FnExactPuzzleText" = some 3 by kernel_rfl).symm.trans hf) |>.symm
      obtain rfl : fn = Tryd.f3 := (Option.some.inj (Tryd.func3.symm.trans hfn)).symm
      exact ⟨by kernel_rfl, fun j t ht => by
        rw [Tryd.params3] at ht
        have hm : t ∈ [25] := by simpa using Array.mem_of_getElem? ht
        have hall : ([25].all fun u => !Tryd.prog.wantsStandIn u) = true := by kernel_rfl
        exact (show Tryd.prog.wantsStandIn t = false by simpa using List.all_eq_true.1 hall t hm)⟩)
    (by kernel_rfl)
#print axioms fnExactPuzzleText_card_holds
end Go.Proofs.YtjdnkcdnppcbhabDoor

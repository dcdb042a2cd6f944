/- The tied card of ParsePuzzle: at every text both functions answer alike, and each answer owns its memory. The listed tables of the library's are tied to the program's text. -/
import Derived.Test.YtjdnkcdnppcbhabDoorLawPzPar
import Derived.Test.YtjdnkcdnppcbhabDoorTie
import Derived.Test.YtjdnkcdnppcbhabDoorCards
import Derived.SevenTiedAt
namespace Go.Proofs.YtjdnkcdnppcbhabDoor
open Go

theorem fnExactParsePuzzle_card_holds : Rows.FnExactParsePuzzleCardSaid :=
  Claim7.holds_tied_plain_at .later [] [.data, .pinned] true (true, "bbc58d3f37df03a7011c3bc3b3aac2976f512bf0acb8734e6030d278a40f1c33") false
    fnExactParsePuzzle_holds (fun _ h => by cases h) (by kernel_rfl) (fun _ h => by cases h) fnExactParsePuzzle_row_tie rfl ⟨rfl, rfl⟩ (by kernel_rfl) rfl
    (fun f fn hf hfn => by
      obtain rfl : f = 4 := Option.some.inj ((show Tryd.prog.funcNamed "loop.example/g01216/laws.FnExactParsePuzzle" = some 4 by kernel_rfl).symm.trans hf) |>.symm
      obtain rfl : fn = Tryd.f4 := (Option.some.inj (Tryd.func4.symm.trans hfn)).symm
      exact ⟨by kernel_rfl, fun j t ht => by
        rw [Tryd.params4] at ht
        have hm : t ∈ [9] := by simpa using Array.mem_of_getElem? ht
        have hall : ([9].all fun u => !Tryd.prog.wantsStandIn u) = true := by kernel_rfl
        exact (show Tryd.prog.wantsStandIn t = false by simpa using List.all_eq_true.1 hall t hm)⟩)
    (by kernel_rfl)
#print axioms fnExactParsePuzzle_card_holds
end Go.Proofs.YtjdnkcdnppcbhabDoor

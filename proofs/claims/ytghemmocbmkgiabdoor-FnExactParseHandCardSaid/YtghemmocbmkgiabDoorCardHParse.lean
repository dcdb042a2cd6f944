/- The tied card of ParseHand: at every text both functions answer alike, and each answer owns its memory; the listed tables of the library's are tied to the program's text. No condition. -/
import Derived.Test.YtghemmocbmkgiabDoorLawHParse
import Derived.Test.YtghemmocbmkgiabDoorTie
import Derived.Test.YtghemmocbmkgiabDoorCards
import Derived.SevenTiedAt
namespace Go.Proofs.YtghemmocbmkgiabDoor
open Go

theorem fnExactParseHand_card_holds : Rows.FnExactParseHandCardSaid :=
  Claim7.holds_tied_plain_at .later [] [.data, .pinned] true (true, "95f5fede0a3917fe536053eb8b37a37d975cbd34999c7076f9321ff3184d2b5e") false
    fnExactParseHand_holds (fun _ h => by cases h) (by kernel_rfl) (fun _ h => by cases h) fnExactParseHand_row_tie rfl ⟨rfl, rfl⟩ (by kernel_rfl) rfl
    (fun f fn hf hfn => by
      obtain rfl : f = 4 := Option.some.inj ((show Tryd.prog.funcNamed "loop.example/g01216/laws.FnExactParseHand" = some 4 by kernel_rfl).symm.trans hf) |>.symm
      obtain rfl : fn = Tryd.f4 := (Option.some.inj (Tryd.func4.symm.trans hfn)).symm
      exact ⟨by kernel_rfl, fun j t ht => by
        rw [Tryd.params4] at ht
        have hm : t ∈ [9] := by simpa using Array.mem_of_getElem? ht
        have hall : ([9].all fun u => !Tryd.prog.wantsStandIn u) = true := by kernel_rfl
        exact (show Tryd.prog.wantsStandIn t = false by simpa using List.all_eq_true.1 hall t hm)⟩)
    (by kernel_rfl)
#print axioms fnExactParseHand_card_holds

end Go.Proofs.YtghemmocbmkgiabDoor

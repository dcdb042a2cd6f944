/- The tied card of HandText: at every list of tiles both functions answer alike and leave the list alone; the listed tables of the library's are tied to the program's text. No condition. -/
import Derived.Test.YtghemmocbmkgiabDoorLawHText
import Derived.Test.YtghemmocbmkgiabDoorTie
import Derived.Test.YtghemmocbmkgiabDoorCards
import Derived.SevenTiedAt
namespace Go.Proofs.YtghemmocbmkgiabDoor
open Go

theorem fnExactHandText_card_holds : Rows.FnExactHandTextCardSaid :=
  Claim7.holds_tied_plain_at .later [] [.data, .data, .data] true (true, "95f5fede0a3917fe536053eb8b37a37d975cbd34999c7076f9321ff3184d2b5e") false
    fnExactHandText_holds (fun _ h => by cases h) (by kernel_rfl) (fun _ h => by cases h) fnExactHandText_row_tie rfl ⟨rfl, rfl⟩ (by kernel_rfl) rfl
    (fun f fn hf hfn => by
      obtain rfl : f = 3 := Option.some.inj ((show Tryd.prog.funcNamed "loop.example/g01216/laws.FnExactHandText" = some 3 by kernel_rfl).symm.trans hf) |>.symm
      obtain rfl : fn = Tryd.f3 := (Option.some.inj (Tryd.func3.symm.trans hfn)).symm
      exact ⟨by kernel_rfl, fun j t ht => by
        rw [Tryd.params3] at ht
        have hm : t ∈ [22] := by simpa using Array.mem_of_getElem? ht
        have hall : ([22].all fun u => !Tryd.prog.wantsStandIn u) = true := by kernel_rfl
        exact (show Tryd.prog.wantsStandIn t = false by simpa using List.all_eq_true.1 hall t hm)⟩)
    (by kernel_rfl)
#print axioms fnExactHandText_card_holds

end Go.Proofs.YtghemmocbmkgiabDoor

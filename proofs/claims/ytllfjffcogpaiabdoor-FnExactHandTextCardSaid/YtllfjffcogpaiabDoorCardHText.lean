/- The tied card of HandText: at every list of tiles both functions answer alike and leave the list alone; the listed tables of the library's are tied to the program's text. No condition. -/
import Derived.Test.YtllfjffcogpaiabDoorLawHText
import Derived.Test.YtllfjffcogpaiabDoorTie
import Derived.Test.YtllfjffcogpaiabDoorCards
import Derived.SevenTiedAt
namespace Go.Proofs.YtllfjffcogpaiabDoor
open Go

theorem fnExactHandText_card_holds : Rows.FnExactHandTextCardSaid :=
  Claim7.holds_tied_plain_at .later [] [.data, .data, .data] true (true, "204a54748784dffcfadd0170ed4874684bfd27d4677297acbdc5eb6c4e78d803") false
    fnExactHandText_holds (fun _ h => by cases h) (by kernel_rfl) (fun _ h => by cases h) fnExactHandText_row_tie rfl ⟨rfl, rfl⟩ (by kernel_rfl) rfl
    (fun f fn hf hfn => by
      obtain rfl : f = 4 := Option.some.inj ((show Tryd.prog.funcNamed "loop.example/g01216/laws.FnExactHandText" = some 4 by kernel_rfl).symm.trans hf) |>.symm
      obtain rfl : fn = Tryd.f4 := (Option.some.inj (Tryd.func4.symm.trans hfn)).symm
      exact ⟨by kernel_rfl, fun j t ht => by
        rw [Tryd.params4] at ht
        have hm : t ∈ [30] := by simpa using Array.mem_of_getElem? ht
        have hall : ([30].all fun u => !Tryd.prog.wantsStandIn u) = true := by kernel_rfl
        exact (show Tryd.prog.wantsStandIn t = false by simpa using List.all_eq_true.1 hall t hm)⟩)
    (by kernel_rfl)
#print axioms fnExactHandText_card_holds

end Go.Proofs.YtllfjffcogpaiabDoor

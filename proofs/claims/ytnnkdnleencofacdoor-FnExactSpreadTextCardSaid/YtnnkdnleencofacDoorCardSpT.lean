/- The tied card of SpreadText: at every list of plays both functions answer alike and leave the list alone; the listed tables of the library's are tied to the program's text. No condition. -/
import Derived.Test.YtnnkdnleencofacDoorLawSpT
import Derived.Test.YtnnkdnleencofacDoorTie
import Derived.Test.YtnnkdnleencofacDoorCards
import Derived.SevenTiedAt
namespace Go.Proofs.YtnnkdnleencofacDoor
open Go

theorem fnExactSpreadText_card_holds : Rows.FnExactSpreadTextCardSaid :=
  Claim7.holds_tied_plain_at .later [] [.data, .data, .data] true (true, "537c2e9e4a64d2f1dd93edbf17af614e3c64f62a38dcace6b41e0e352c586f47") false
    fnExactSpreadText_holds (fun _ h => by cases h) (by kernel_rfl) (fun _ h => by cases h) fnExactSpreadText_row_tie rfl ⟨rfl, rfl⟩ (by kernel_rfl) rfl
    (fun f fn hf hfn => by
      obtain rfl : f = 3 := Option.some.inj ((show Tryd.prog.funcNamed "loop.example/g01216/laws.FnExactSpreadText" = some 3 by kernel_rfl).symm.trans hf) |>.symm
      obtain rfl : fn = Tryd.f3 := (Option.some.inj (Tryd.func3.symm.trans hfn)).symm
      exact ⟨by kernel_rfl, fun j t ht => by
        rw [Tryd.params3] at ht
        have hm : t ∈ [22] := by simpa using Array.mem_of_getElem? ht
        have hall : ([22].all fun u => !Tryd.prog.wantsStandIn u) = true := by kernel_rfl
        exact (show Tryd.prog.wantsStandIn t = false by simpa using List.all_eq_true.1 hall t hm)⟩)
    (by kernel_rfl)
#print axioms fnExactSpreadText_card_holds
end Go.Proofs.YtnnkdnleencofacDoor

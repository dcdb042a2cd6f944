/- The tied card of HeavyLine: at every game both functions answer alike, leave the game alone, and each answer owns its memory; the listed tables of the library are tied to the text of the program. No condition. -/
import Derived.Test.YtgjdpiooocpmhabGreatDoorLawGHl
import Derived.Test.YtgjdpiooocpmhabGreatDoorTie
import Derived.Test.YtgjdpiooocpmhabGreatDoorCards
import Derived.SevenTiedAt
namespace Go.Proofs.YtgjdpiooocpmhabGreatDoor
open Go

theorem fnExactHeavyLine_card_holds : Rows.FnExactHeavyLineCardSaid :=
  Claim7.holds_tied_plain_at .later [] [.data, .data, .data] true (true, "fbde95fbad615aa26d338900e23bac7b694e000eb3dd3950b34c98bb3e725782") false
    fnExactHeavyLine_holds (fun _ h => by cases h) (by kernel_rfl) (fun _ h => by cases h) fnExactHeavyLine_row_tie rfl ⟨rfl, rfl⟩ (by kernel_rfl) rfl
    (fun f fn hf hfn => by
      obtain rfl : f = 6 := Option.some.inj ((show Tryz.prog.funcNamed "loop.example/g01216/laws.FnExactHeavyLine" = some 6 by kernel_rfl).symm.trans hf) |>.symm
      obtain rfl : fn = Tryz.f6 := (Option.some.inj (Tryz.func6.symm.trans hfn)).symm
      exact ⟨by kernel_rfl, fun j t ht => by
        rw [Tryz.params6] at ht
        have hm : t ∈ [25] := by simpa using Array.mem_of_getElem? ht
        have hall : ([25].all fun u => !Tryz.prog.wantsStandIn u) = true := by kernel_rfl
        exact (show Tryz.prog.wantsStandIn t = false by simpa using List.all_eq_true.1 hall t hm)⟩)
    (by kernel_rfl)
#print axioms fnExactHeavyLine_card_holds
end Go.Proofs.YtgjdpiooocpmhabGreatDoor

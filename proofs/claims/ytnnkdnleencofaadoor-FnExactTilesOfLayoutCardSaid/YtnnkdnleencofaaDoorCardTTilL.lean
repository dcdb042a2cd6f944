/- The tied card of TilesOfLayout: at every two texts both functions answer alike. No condition. The listed tables of the library's are tied to the program's text. -/
import Derived.Test.YtnnkdnleencofaaDoorLawTTilL
import Derived.Test.YtnnkdnleencofaaDoorTie
import Derived.Test.YtnnkdnleencofaaDoorCards
import Derived.SevenTiedAt
namespace Go.Proofs.YtnnkdnleencofaaDoor
open Go

theorem fnExactTilesOfLayout_card_holds : Rows.FnExactTilesOfLayoutCardSaid :=
  Claim7.holds_tied_plain_at .later [] [.data, .pinned] true (true, "cf837170df388377e043f123f7321b5b9590eef6587970d4c522175ec1a746a5") false
    fnExactTilesOfLayout_holds (fun _ h => by cases h) (by kernel_rfl) (fun _ h => by cases h) fnExactTilesOfLayout_row_tie rfl ⟨rfl, rfl⟩ (by kernel_rfl) rfl
    (fun f fn hf hfn => by
      obtain rfl : f = 8 := Option.some.inj ((show Tryd.prog.funcNamed "loop.example/g01216/laws.FnExactTilesOfLayout" = some 8 by kernel_rfl).symm.trans hf) |>.symm
      obtain rfl : fn = Tryd.f8 := (Option.some.inj (Tryd.func8.symm.trans hfn)).symm
      exact ⟨by kernel_rfl, fun j t ht => by
        rw [Tryd.params8] at ht
        have hm : t ∈ [9, 9] := by simpa using Array.mem_of_getElem? ht
        have hall : ([9, 9].all fun u => !Tryd.prog.wantsStandIn u) = true := by kernel_rfl
        exact (show Tryd.prog.wantsStandIn t = false by simpa using List.all_eq_true.1 hall t hm)⟩)
    (by kernel_rfl)
#print axioms fnExactTilesOfLayout_card_holds
end Go.Proofs.YtnnkdnleencofaaDoor

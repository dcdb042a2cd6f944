/-
  DERIVED. GIVEN WITH THE SEED: THE CARDS: each row of YtgjdpiooocpmhabGreatDoorRows.lean that lists a variable, with what it lists TIED to the program's text (the seventh form; the later family's looks); each row that meets fmt, with fmt's text TOLD by the authors' own Lean function (tested against real Go, not proved from fmt's source: count such statements apart). THE CARD IS WHAT COUNTS. Prove the row's statement (the work); the ties are given (YtgjdpiooocpmhabGreatDoorTie.lean); close each card by the builder's one call (the guide's Derived/Test/ToyasCard.lean, 'card_holds'). Laid BY PROGRAM, IN A SANDBOX (cutbox-door.mjs). By AI agents, Wed Nov 11 2026. No macro, syntax, notation, axiom, sorry.
-/
import Derived.Test.YtgjdpiooocpmhabGreatDoorRows
import GoSem.ClaimSeven
namespace Go.Proofs.YtgjdpiooocpmhabGreatDoor
namespace Rows

/-- THE TIED CARD OF 'laws.FnExactMovesOn'. -/
def fnExactMovesOnCard : Claim7 := { stood := { row := fnExactMovesOnRow, standIns := [], harness := (true, "fbde95fbad615aa26d338900e23bac7b694e000eb3dd3950b34c98bb3e725782"), looks := false }, kinds := [], alts := [], laidByText := true, laidKinds := [.data, .data, .data], laidTests := true, laidLooks := .later }
def FnExactMovesOnCardSaid : Prop := Claim7.holds Tryz.pinned (.plain (OpenSpec.ofChange fnExactMovesOnSpec)) fnExactMovesOnCard

/-- THE TIED CARD OF 'laws.FnExactMakeMove'. -/
def fnExactMakeMoveCard : Claim7 := { stood := { row := fnExactMakeMoveRow, standIns := [], harness := (true, "fbde95fbad615aa26d338900e23bac7b694e000eb3dd3950b34c98bb3e725782"), looks := false }, kinds := [], alts := [], laidByText := true, laidKinds := [.data, .data, .data], laidTests := true, laidLooks := .later }
def FnExactMakeMoveCardSaid : Prop := Claim7.holds Tryz.pinned (.plain (OpenSpec.ofChange fnExactMakeMoveSpec)) fnExactMakeMoveCard

/-- THE TIED CARD OF 'laws.FnExactPlayMoves'. -/
def fnExactPlayMovesCard : Claim7 := { stood := { row := fnExactPlayMovesRow, standIns := [], harness := (true, "fbde95fbad615aa26d338900e23bac7b694e000eb3dd3950b34c98bb3e725782"), looks := false }, kinds := [], alts := [], laidByText := true, laidKinds := [.data, .data, .data], laidTests := true, laidLooks := .later }
def FnExactPlayMovesCardSaid : Prop := Claim7.holds Tryz.pinned (.plain (OpenSpec.ofChange fnExactPlayMovesSpec)) fnExactPlayMovesCard

/-- THE TIED CARD OF 'laws.FnExactHeavyLine'. -/
def fnExactHeavyLineCard : Claim7 := { stood := { row := fnExactHeavyLineRow, standIns := [], harness := (true, "fbde95fbad615aa26d338900e23bac7b694e000eb3dd3950b34c98bb3e725782"), looks := false }, kinds := [], alts := [], laidByText := true, laidKinds := [.data, .data, .data], laidTests := true, laidLooks := .later }
def FnExactHeavyLineCardSaid : Prop := Claim7.holds Tryz.pinned (.plain (OpenSpec.ofChange fnExactHeavyLineSpec)) fnExactHeavyLineCard

/-- THE TIED CARD OF 'laws.FnExactBestMoves'. -/
def fnExactBestMovesCard : Claim7 := { stood := { row := fnExactBestMovesRow, standIns := [], harness := (true, "fbde95fbad615aa26d338900e23bac7b694e000eb3dd3950b34c98bb3e725782"), looks := false }, kinds := [], alts := [], laidByText := true, laidKinds := [.data, .data, .data], laidTests := true, laidLooks := .later }
def FnExactBestMovesCardSaid : Prop := Claim7.holds Tryz.pinned (.plain (OpenSpec.ofChange fnExactBestMovesSpec)) fnExactBestMovesCard

/-- THE TIED CARD OF 'laws.FnExactBestLine'. -/
def fnExactBestLineCard : Claim7 := { stood := { row := fnExactBestLineRow, standIns := [], harness := (true, "fbde95fbad615aa26d338900e23bac7b694e000eb3dd3950b34c98bb3e725782"), looks := false }, kinds := [], alts := [], laidByText := true, laidKinds := [.data, .data, .data], laidTests := true, laidLooks := .later }
def FnExactBestLineCardSaid : Prop := Claim7.holds Tryz.pinned (.plain (OpenSpec.ofChange fnExactBestLineSpec)) fnExactBestLineCard

/-- THE SECOND FORM's CARD OF 'laws.FnExactMovesOn'. -/
def fnExactMovesOnUptoCard : Claim7 := { stood := { row := fnExactMovesOnUptoRow, standIns := [], harness := (true, "fbde95fbad615aa26d338900e23bac7b694e000eb3dd3950b34c98bb3e725782"), looks := false }, kinds := [], alts := [], laidByText := true, laidKinds := [.data, .data, .data], laidTests := true, laidLooks := .later }
def FnExactMovesOnUptoCardSaid : Prop := Claim7.holds Tryz.pinned (.plain (OpenSpec.upto fnExactMovesOnSpec)) fnExactMovesOnUptoCard

/-- THE SECOND FORM's CARD OF 'laws.FnExactMakeMove'. -/
def fnExactMakeMoveUptoCard : Claim7 := { stood := { row := fnExactMakeMoveUptoRow, standIns := [], harness := (true, "fbde95fbad615aa26d338900e23bac7b694e000eb3dd3950b34c98bb3e725782"), looks := false }, kinds := [], alts := [], laidByText := true, laidKinds := [.data, .data, .data], laidTests := true, laidLooks := .later }
def FnExactMakeMoveUptoCardSaid : Prop := Claim7.holds Tryz.pinned (.plain (OpenSpec.upto fnExactMakeMoveSpec)) fnExactMakeMoveUptoCard

/-- THE SECOND FORM's CARD OF 'laws.FnExactPlayMoves'. -/
def fnExactPlayMovesUptoCard : Claim7 := { stood := { row := fnExactPlayMovesUptoRow, standIns := [], harness := (true, "fbde95fbad615aa26d338900e23bac7b694e000eb3dd3950b34c98bb3e725782"), looks := false }, kinds := [], alts := [], laidByText := true, laidKinds := [.data, .data, .data], laidTests := true, laidLooks := .later }
def FnExactPlayMovesUptoCardSaid : Prop := Claim7.holds Tryz.pinned (.plain (OpenSpec.upto fnExactPlayMovesSpec)) fnExactPlayMovesUptoCard

/-- THE SECOND FORM's CARD OF 'laws.FnExactHeavyLine'. -/
def fnExactHeavyLineUptoCard : Claim7 := { stood := { row := fnExactHeavyLineUptoRow, standIns := [], harness := (true, "fbde95fbad615aa26d338900e23bac7b694e000eb3dd3950b34c98bb3e725782"), looks := false }, kinds := [], alts := [], laidByText := true, laidKinds := [.data, .data, .data], laidTests := true, laidLooks := .later }
def FnExactHeavyLineUptoCardSaid : Prop := Claim7.holds Tryz.pinned (.plain (OpenSpec.upto fnExactHeavyLineSpec)) fnExactHeavyLineUptoCard

/-- THE SECOND FORM's CARD OF 'laws.FnExactBestMoves'. -/
def fnExactBestMovesUptoCard : Claim7 := { stood := { row := fnExactBestMovesUptoRow, standIns := [], harness := (true, "fbde95fbad615aa26d338900e23bac7b694e000eb3dd3950b34c98bb3e725782"), looks := false }, kinds := [], alts := [], laidByText := true, laidKinds := [.data, .data, .data], laidTests := true, laidLooks := .later }
def FnExactBestMovesUptoCardSaid : Prop := Claim7.holds Tryz.pinned (.plain (OpenSpec.upto fnExactBestMovesSpec)) fnExactBestMovesUptoCard

/-- THE SECOND FORM's CARD OF 'laws.FnExactBestLine'. -/
def fnExactBestLineUptoCard : Claim7 := { stood := { row := fnExactBestLineUptoRow, standIns := [], harness := (true, "fbde95fbad615aa26d338900e23bac7b694e000eb3dd3950b34c98bb3e725782"), looks := false }, kinds := [], alts := [], laidByText := true, laidKinds := [.data, .data, .data], laidTests := true, laidLooks := .later }
def FnExactBestLineUptoCardSaid : Prop := Claim7.holds Tryz.pinned (.plain (OpenSpec.upto fnExactBestLineSpec)) fnExactBestLineUptoCard
end Rows
end Go.Proofs.YtgjdpiooocpmhabGreatDoor

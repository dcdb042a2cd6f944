/-
  DERIVED. GIVEN WITH THE SEED: THE CARDS: each row of YtghemmocbmkgiabDoorRows.lean that lists a variable, with what it lists TIED to the program's text (the seventh form; the later family's looks); each row that meets fmt, with fmt's text TOLD by the authors' own Lean function (tested against real Go, not proved from fmt's source: count such statements apart). THE CARD IS WHAT COUNTS. Prove the row's statement (the work); the ties are given (YtghemmocbmkgiabDoorTie.lean); close each card by the builder's one call (the guide's Derived/Test/ToyasCard.lean, 'card_holds'). Laid BY PROGRAM, IN A SANDBOX (cutbox-door.mjs). By AI agents, Wed Nov 11 2026. No macro, syntax, notation, axiom, sorry.
-/
import Derived.Test.YtghemmocbmkgiabDoorRows
import GoSem.ClaimSeven
namespace Go.Proofs.YtghemmocbmkgiabDoor
namespace Rows

/-- THE TIED CARD OF 'laws.FnExactHandText'. -/
def fnExactHandTextCard : Claim7 := { stood := { row := fnExactHandTextRow, standIns := [], harness := (true, "95f5fede0a3917fe536053eb8b37a37d975cbd34999c7076f9321ff3184d2b5e"), looks := false }, kinds := [], alts := [], laidByText := true, laidKinds := [.data, .data, .data], laidTests := true, laidLooks := .later }
def FnExactHandTextCardSaid : Prop := Claim7.holds Tryd.pinned (.plain (OpenSpec.ofChange fnExactHandTextSpec)) fnExactHandTextCard

/-- THE TIED CARD OF 'laws.FnExactParseHand'. -/
def fnExactParseHandCard : Claim7 := { stood := { row := fnExactParseHandRow, standIns := [], harness := (true, "95f5fede0a3917fe536053eb8b37a37d975cbd34999c7076f9321ff3184d2b5e"), looks := false }, kinds := [], alts := [], laidByText := true, laidKinds := [.data, .pinned], laidTests := true, laidLooks := .later }
def FnExactParseHandCardSaid : Prop := Claim7.holds Tryd.pinned (.plain (OpenSpec.ofChange fnExactParseHandSpec)) fnExactParseHandCard

/-- THE SECOND FORM's CARD OF 'laws.FnExactHandText'. -/
def fnExactHandTextUptoCard : Claim7 := { stood := { row := fnExactHandTextUptoRow, standIns := [], harness := (true, "95f5fede0a3917fe536053eb8b37a37d975cbd34999c7076f9321ff3184d2b5e"), looks := false }, kinds := [], alts := [], laidByText := true, laidKinds := [.data, .data, .data], laidTests := true, laidLooks := .later }
def FnExactHandTextUptoCardSaid : Prop := Claim7.holds Tryd.pinned (.plain (OpenSpec.upto fnExactHandTextSpec)) fnExactHandTextUptoCard

/-- THE SECOND FORM's CARD OF 'laws.FnExactParseHand'. -/
def fnExactParseHandUptoCard : Claim7 := { stood := { row := fnExactParseHandUptoRow, standIns := [], harness := (true, "95f5fede0a3917fe536053eb8b37a37d975cbd34999c7076f9321ff3184d2b5e"), looks := false }, kinds := [], alts := [], laidByText := true, laidKinds := [.data, .pinned], laidTests := true, laidLooks := .later }
def FnExactParseHandUptoCardSaid : Prop := Claim7.holds Tryd.pinned (.plain (OpenSpec.upto fnExactParseHandSpec)) fnExactParseHandUptoCard
end Rows
end Go.Proofs.YtghemmocbmkgiabDoor

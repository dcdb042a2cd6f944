/-
  DERIVED. GIVEN WITH THE SEED: THE CARDS: each row of YtjbdflkbclhonabDoorRows.lean that lists a variable, with what it lists TIED to the program's text (the seventh form; the later family's looks); each row that meets fmt, with fmt's text TOLD by the authors' own Lean function (tested against real Go, not proved from fmt's source: count such statements apart). THE CARD IS WHAT COUNTS. Prove the row's statement (the work); the ties are given (YtjbdflkbclhonabDoorTie.lean); close each card by the builder's one call (the guide's Derived/Test/ToyasCard.lean, 'card_holds'). Laid BY PROGRAM, IN A SANDBOX (cutbox-door.mjs). By AI agents, Wed Nov 11 2026. No macro, syntax, notation, axiom, sorry.
-/
import Derived.Test.YtjbdflkbclhonabDoorRows
import GoSem.ClaimSeven
namespace Go.Proofs.YtjbdflkbclhonabDoor
namespace Rows

/-- THE TIED CARD OF 'laws.FnExactPlacesOfTile'. -/
def fnExactPlacesOfTileCard : Claim7 := { stood := { row := fnExactPlacesOfTileRow, standIns := [], harness := (true, "787fcd790fa38227086d0608594d61ee189caf27dd30d8a4b4978d68335969b3"), looks := false }, kinds := [], alts := [], laidByText := true, laidKinds := [.data, .pinned], laidTests := true, laidLooks := .later }
def FnExactPlacesOfTileCardSaid : Prop := Claim7.holds Tryd.pinned (.plain (OpenSpec.ofChange fnExactPlacesOfTileSpec)) fnExactPlacesOfTileCard

/-- THE TIED CARD OF 'laws.FnExactSingleTiles'. -/
def fnExactSingleTilesCard : Claim7 := { stood := { row := fnExactSingleTilesRow, standIns := [], harness := (true, "787fcd790fa38227086d0608594d61ee189caf27dd30d8a4b4978d68335969b3"), looks := false }, kinds := [], alts := [], laidByText := true, laidKinds := [.data, .pinned], laidTests := true, laidLooks := .later }
def FnExactSingleTilesCardSaid : Prop := Claim7.holds Tryd.pinned (.plain (OpenSpec.ofChange fnExactSingleTilesSpec)) fnExactSingleTilesCard

/-- THE TIED CARD OF 'laws.FnExactTurnTable'. -/
def fnExactTurnTableCard : Claim7 := { stood := { row := fnExactTurnTableRow, standIns := [], harness := (true, "787fcd790fa38227086d0608594d61ee189caf27dd30d8a4b4978d68335969b3"), looks := false }, kinds := [], alts := [], laidByText := true, laidKinds := [.data, .pinned], laidTests := true, laidLooks := .later }
def FnExactTurnTableCardSaid : Prop := Claim7.holds Tryd.pinned (.plain (OpenSpec.ofChange fnExactTurnTableSpec)) fnExactTurnTableCard

/-- THE TIED CARD OF 'laws.FnExactMirrorTable'. -/
def fnExactMirrorTableCard : Claim7 := { stood := { row := fnExactMirrorTableRow, standIns := [], harness := (true, "787fcd790fa38227086d0608594d61ee189caf27dd30d8a4b4978d68335969b3"), looks := false }, kinds := [], alts := [], laidByText := true, laidKinds := [.data, .pinned], laidTests := true, laidLooks := .later }
def FnExactMirrorTableCardSaid : Prop := Claim7.holds Tryd.pinned (.plain (OpenSpec.ofChange fnExactMirrorTableSpec)) fnExactMirrorTableCard

/-- THE SECOND FORM's CARD OF 'laws.FnExactPlacesOfTile'. -/
def fnExactPlacesOfTileUptoCard : Claim7 := { stood := { row := fnExactPlacesOfTileUptoRow, standIns := [], harness := (true, "787fcd790fa38227086d0608594d61ee189caf27dd30d8a4b4978d68335969b3"), looks := false }, kinds := [], alts := [], laidByText := true, laidKinds := [.data, .pinned], laidTests := true, laidLooks := .later }
def FnExactPlacesOfTileUptoCardSaid : Prop := Claim7.holds Tryd.pinned (.plain (OpenSpec.upto fnExactPlacesOfTileSpec)) fnExactPlacesOfTileUptoCard

/-- THE SECOND FORM's CARD OF 'laws.FnExactSingleTiles'. -/
def fnExactSingleTilesUptoCard : Claim7 := { stood := { row := fnExactSingleTilesUptoRow, standIns := [], harness := (true, "787fcd790fa38227086d0608594d61ee189caf27dd30d8a4b4978d68335969b3"), looks := false }, kinds := [], alts := [], laidByText := true, laidKinds := [.data, .pinned], laidTests := true, laidLooks := .later }
def FnExactSingleTilesUptoCardSaid : Prop := Claim7.holds Tryd.pinned (.plain (OpenSpec.upto fnExactSingleTilesSpec)) fnExactSingleTilesUptoCard

/-- THE SECOND FORM's CARD OF 'laws.FnExactTurnTable'. -/
def fnExactTurnTableUptoCard : Claim7 := { stood := { row := fnExactTurnTableUptoRow, standIns := [], harness := (true, "787fcd790fa38227086d0608594d61ee189caf27dd30d8a4b4978d68335969b3"), looks := false }, kinds := [], alts := [], laidByText := true, laidKinds := [.data, .pinned], laidTests := true, laidLooks := .later }
def FnExactTurnTableUptoCardSaid : Prop := Claim7.holds Tryd.pinned (.plain (OpenSpec.upto fnExactTurnTableSpec)) fnExactTurnTableUptoCard

/-- THE SECOND FORM's CARD OF 'laws.FnExactMirrorTable'. -/
def fnExactMirrorTableUptoCard : Claim7 := { stood := { row := fnExactMirrorTableUptoRow, standIns := [], harness := (true, "787fcd790fa38227086d0608594d61ee189caf27dd30d8a4b4978d68335969b3"), looks := false }, kinds := [], alts := [], laidByText := true, laidKinds := [.data, .pinned], laidTests := true, laidLooks := .later }
def FnExactMirrorTableUptoCardSaid : Prop := Claim7.holds Tryd.pinned (.plain (OpenSpec.upto fnExactMirrorTableSpec)) fnExactMirrorTableUptoCard
end Rows
end Go.Proofs.YtjbdflkbclhonabDoor

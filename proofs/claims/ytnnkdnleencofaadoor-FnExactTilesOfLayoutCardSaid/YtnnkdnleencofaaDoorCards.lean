/-
  DERIVED. GIVEN WITH THE SEED: THE CARDS: each row of YtnnkdnleencofaaDoorRows.lean that lists a variable, with what it lists TIED to the program's text (the seventh form; the later family's looks); each row that meets fmt, with fmt's text TOLD by the authors' own Lean function (tested against real Go, not proved from fmt's source: count such statements apart). THE CARD IS WHAT COUNTS. Prove the row's statement (the work); the ties are given (YtnnkdnleencofaaDoorTie.lean); close each card by the builder's one call (the guide's Derived/Test/ToyasCard.lean, 'card_holds'). Laid BY PROGRAM, IN A SANDBOX (cutbox-door.mjs). By AI agents, Wed Nov 11 2026. No macro, syntax, notation, axiom, sorry.
-/
import Derived.Test.YtnnkdnleencofaaDoorRows
import GoSem.ClaimSeven
namespace Go.Proofs.YtnnkdnleencofaaDoor
namespace Rows

/-- THE TIED CARD OF 'laws.FnExactIsTable'. -/
def fnExactIsTableCard : Claim7 := { stood := { row := fnExactIsTableRow, standIns := [], harness := (true, "cf837170df388377e043f123f7321b5b9590eef6587970d4c522175ec1a746a5"), looks := false }, kinds := [], alts := [], laidByText := true, laidKinds := [.data, .pinned], laidTests := true, laidLooks := .later }
def FnExactIsTableCardSaid : Prop := Claim7.holds Tryd.pinned (.plain (OpenSpec.ofChange fnExactIsTableSpec)) fnExactIsTableCard

/-- THE TIED CARD OF 'laws.FnExactTableSize'. -/
def fnExactTableSizeCard : Claim7 := { stood := { row := fnExactTableSizeRow, standIns := [], harness := (true, "cf837170df388377e043f123f7321b5b9590eef6587970d4c522175ec1a746a5"), looks := false }, kinds := [], alts := [], laidByText := true, laidKinds := [.data, .pinned], laidTests := true, laidLooks := .later }
def FnExactTableSizeCardSaid : Prop := Claim7.holds Tryd.pinned (.plain (OpenSpec.ofChange fnExactTableSizeSpec)) fnExactTableSizeCard

/-- THE TIED CARD OF 'laws.FnExactCountNumber'. -/
def fnExactCountNumberCard : Claim7 := { stood := { row := fnExactCountNumberRow, standIns := [], harness := (true, "cf837170df388377e043f123f7321b5b9590eef6587970d4c522175ec1a746a5"), looks := false }, kinds := [], alts := [], laidByText := true, laidKinds := [.data, .pinned], laidTests := true, laidLooks := .later }
def FnExactCountNumberCardSaid : Prop := Claim7.holds Tryd.pinned (.plain (OpenSpec.ofChange fnExactCountNumberSpec)) fnExactCountNumberCard

/-- THE TIED CARD OF 'laws.FnExactPlacesOfTile'. -/
def fnExactPlacesOfTileCard : Claim7 := { stood := { row := fnExactPlacesOfTileRow, standIns := [], harness := (true, "cf837170df388377e043f123f7321b5b9590eef6587970d4c522175ec1a746a5"), looks := false }, kinds := [], alts := [], laidByText := true, laidKinds := [.data, .pinned], laidTests := true, laidLooks := .later }
def FnExactPlacesOfTileCardSaid : Prop := Claim7.holds Tryd.pinned (.plain (OpenSpec.ofChange fnExactPlacesOfTileSpec)) fnExactPlacesOfTileCard

/-- THE TIED CARD OF 'laws.FnExactIsLayout'. -/
def fnExactIsLayoutCard : Claim7 := { stood := { row := fnExactIsLayoutRow, standIns := [], harness := (true, "cf837170df388377e043f123f7321b5b9590eef6587970d4c522175ec1a746a5"), looks := false }, kinds := [], alts := [], laidByText := true, laidKinds := [.data, .pinned], laidTests := true, laidLooks := .later }
def FnExactIsLayoutCardSaid : Prop := Claim7.holds Tryd.pinned (.plain (OpenSpec.ofChange fnExactIsLayoutSpec)) fnExactIsLayoutCard

/-- THE TIED CARD OF 'laws.FnExactTilesOfLayout'. -/
def fnExactTilesOfLayoutCard : Claim7 := { stood := { row := fnExactTilesOfLayoutRow, standIns := [], harness := (true, "cf837170df388377e043f123f7321b5b9590eef6587970d4c522175ec1a746a5"), looks := false }, kinds := [], alts := [], laidByText := true, laidKinds := [.data, .pinned], laidTests := true, laidLooks := .later }
def FnExactTilesOfLayoutCardSaid : Prop := Claim7.holds Tryd.pinned (.plain (OpenSpec.ofChange fnExactTilesOfLayoutSpec)) fnExactTilesOfLayoutCard

/-- THE TIED CARD OF 'laws.FnExactSingleTiles'. -/
def fnExactSingleTilesCard : Claim7 := { stood := { row := fnExactSingleTilesRow, standIns := [], harness := (true, "cf837170df388377e043f123f7321b5b9590eef6587970d4c522175ec1a746a5"), looks := false }, kinds := [], alts := [], laidByText := true, laidKinds := [.data, .pinned], laidTests := true, laidLooks := .later }
def FnExactSingleTilesCardSaid : Prop := Claim7.holds Tryd.pinned (.plain (OpenSpec.ofChange fnExactSingleTilesSpec)) fnExactSingleTilesCard

/-- THE TIED CARD OF 'laws.FnExactTurnTable'. -/
def fnExactTurnTableCard : Claim7 := { stood := { row := fnExactTurnTableRow, standIns := [], harness := (true, "cf837170df388377e043f123f7321b5b9590eef6587970d4c522175ec1a746a5"), looks := false }, kinds := [], alts := [], laidByText := true, laidKinds := [.data, .pinned], laidTests := true, laidLooks := .later }
def FnExactTurnTableCardSaid : Prop := Claim7.holds Tryd.pinned (.plain (OpenSpec.ofChange fnExactTurnTableSpec)) fnExactTurnTableCard

/-- THE TIED CARD OF 'laws.FnExactMirrorTable'. -/
def fnExactMirrorTableCard : Claim7 := { stood := { row := fnExactMirrorTableRow, standIns := [], harness := (true, "cf837170df388377e043f123f7321b5b9590eef6587970d4c522175ec1a746a5"), looks := false }, kinds := [], alts := [], laidByText := true, laidKinds := [.data, .pinned], laidTests := true, laidLooks := .later }
def FnExactMirrorTableCardSaid : Prop := Claim7.holds Tryd.pinned (.plain (OpenSpec.ofChange fnExactMirrorTableSpec)) fnExactMirrorTableCard

/-- THE TIED CARD OF 'laws.FnExactCountApart'. -/
def fnExactCountApartCard : Claim7 := { stood := { row := fnExactCountApartRow, standIns := [], harness := (true, "cf837170df388377e043f123f7321b5b9590eef6587970d4c522175ec1a746a5"), looks := false }, kinds := [], alts := [], laidByText := true, laidKinds := [.data, .pinned], laidTests := true, laidLooks := .later }
def FnExactCountApartCardSaid : Prop := Claim7.holds Tryd.pinned (.plain (OpenSpec.ofChange fnExactCountApartSpec)) fnExactCountApartCard

/-- THE TIED CARD OF 'laws.FnExactFirstApart'. -/
def fnExactFirstApartCard : Claim7 := { stood := { row := fnExactFirstApartRow, standIns := [], harness := (true, "cf837170df388377e043f123f7321b5b9590eef6587970d4c522175ec1a746a5"), looks := false }, kinds := [], alts := [], laidByText := true, laidKinds := [.data, .pinned], laidTests := true, laidLooks := .later }
def FnExactFirstApartCardSaid : Prop := Claim7.holds Tryd.pinned (.plain (OpenSpec.ofChange fnExactFirstApartSpec)) fnExactFirstApartCard

/-- THE TIED CARD OF 'laws.FnExactAllApart'. -/
def fnExactAllApartCard : Claim7 := { stood := { row := fnExactAllApartRow, standIns := [], harness := (true, "cf837170df388377e043f123f7321b5b9590eef6587970d4c522175ec1a746a5"), looks := false }, kinds := [], alts := [], laidByText := true, laidKinds := [.data, .pinned], laidTests := true, laidLooks := .later }
def FnExactAllApartCardSaid : Prop := Claim7.holds Tryd.pinned (.plain (OpenSpec.ofChange fnExactAllApartSpec)) fnExactAllApartCard

/-- THE SECOND FORM's CARD OF 'laws.FnExactIsTable'. -/
def fnExactIsTableUptoCard : Claim7 := { stood := { row := fnExactIsTableUptoRow, standIns := [], harness := (true, "cf837170df388377e043f123f7321b5b9590eef6587970d4c522175ec1a746a5"), looks := false }, kinds := [], alts := [], laidByText := true, laidKinds := [.data, .pinned], laidTests := true, laidLooks := .later }
def FnExactIsTableUptoCardSaid : Prop := Claim7.holds Tryd.pinned (.plain (OpenSpec.upto fnExactIsTableSpec)) fnExactIsTableUptoCard

/-- THE SECOND FORM's CARD OF 'laws.FnExactTableSize'. -/
def fnExactTableSizeUptoCard : Claim7 := { stood := { row := fnExactTableSizeUptoRow, standIns := [], harness := (true, "cf837170df388377e043f123f7321b5b9590eef6587970d4c522175ec1a746a5"), looks := false }, kinds := [], alts := [], laidByText := true, laidKinds := [.data, .pinned], laidTests := true, laidLooks := .later }
def FnExactTableSizeUptoCardSaid : Prop := Claim7.holds Tryd.pinned (.plain (OpenSpec.upto fnExactTableSizeSpec)) fnExactTableSizeUptoCard

/-- THE SECOND FORM's CARD OF 'laws.FnExactCountNumber'. -/
def fnExactCountNumberUptoCard : Claim7 := { stood := { row := fnExactCountNumberUptoRow, standIns := [], harness := (true, "cf837170df388377e043f123f7321b5b9590eef6587970d4c522175ec1a746a5"), looks := false }, kinds := [], alts := [], laidByText := true, laidKinds := [.data, .pinned], laidTests := true, laidLooks := .later }
def FnExactCountNumberUptoCardSaid : Prop := Claim7.holds Tryd.pinned (.plain (OpenSpec.upto fnExactCountNumberSpec)) fnExactCountNumberUptoCard

/-- THE SECOND FORM's CARD OF 'laws.FnExactPlacesOfTile'. -/
def fnExactPlacesOfTileUptoCard : Claim7 := { stood := { row := fnExactPlacesOfTileUptoRow, standIns := [], harness := (true, "cf837170df388377e043f123f7321b5b9590eef6587970d4c522175ec1a746a5"), looks := false }, kinds := [], alts := [], laidByText := true, laidKinds := [.data, .pinned], laidTests := true, laidLooks := .later }
def FnExactPlacesOfTileUptoCardSaid : Prop := Claim7.holds Tryd.pinned (.plain (OpenSpec.upto fnExactPlacesOfTileSpec)) fnExactPlacesOfTileUptoCard

/-- THE SECOND FORM's CARD OF 'laws.FnExactIsLayout'. -/
def fnExactIsLayoutUptoCard : Claim7 := { stood := { row := fnExactIsLayoutUptoRow, standIns := [], harness := (true, "cf837170df388377e043f123f7321b5b9590eef6587970d4c522175ec1a746a5"), looks := false }, kinds := [], alts := [], laidByText := true, laidKinds := [.data, .pinned], laidTests := true, laidLooks := .later }
def FnExactIsLayoutUptoCardSaid : Prop := Claim7.holds Tryd.pinned (.plain (OpenSpec.upto fnExactIsLayoutSpec)) fnExactIsLayoutUptoCard

/-- THE SECOND FORM's CARD OF 'laws.FnExactTilesOfLayout'. -/
def fnExactTilesOfLayoutUptoCard : Claim7 := { stood := { row := fnExactTilesOfLayoutUptoRow, standIns := [], harness := (true, "cf837170df388377e043f123f7321b5b9590eef6587970d4c522175ec1a746a5"), looks := false }, kinds := [], alts := [], laidByText := true, laidKinds := [.data, .pinned], laidTests := true, laidLooks := .later }
def FnExactTilesOfLayoutUptoCardSaid : Prop := Claim7.holds Tryd.pinned (.plain (OpenSpec.upto fnExactTilesOfLayoutSpec)) fnExactTilesOfLayoutUptoCard

/-- THE SECOND FORM's CARD OF 'laws.FnExactSingleTiles'. -/
def fnExactSingleTilesUptoCard : Claim7 := { stood := { row := fnExactSingleTilesUptoRow, standIns := [], harness := (true, "cf837170df388377e043f123f7321b5b9590eef6587970d4c522175ec1a746a5"), looks := false }, kinds := [], alts := [], laidByText := true, laidKinds := [.data, .pinned], laidTests := true, laidLooks := .later }
def FnExactSingleTilesUptoCardSaid : Prop := Claim7.holds Tryd.pinned (.plain (OpenSpec.upto fnExactSingleTilesSpec)) fnExactSingleTilesUptoCard

/-- THE SECOND FORM's CARD OF 'laws.FnExactTurnTable'. -/
def fnExactTurnTableUptoCard : Claim7 := { stood := { row := fnExactTurnTableUptoRow, standIns := [], harness := (true, "cf837170df388377e043f123f7321b5b9590eef6587970d4c522175ec1a746a5"), looks := false }, kinds := [], alts := [], laidByText := true, laidKinds := [.data, .pinned], laidTests := true, laidLooks := .later }
def FnExactTurnTableUptoCardSaid : Prop := Claim7.holds Tryd.pinned (.plain (OpenSpec.upto fnExactTurnTableSpec)) fnExactTurnTableUptoCard

/-- THE SECOND FORM's CARD OF 'laws.FnExactMirrorTable'. -/
def fnExactMirrorTableUptoCard : Claim7 := { stood := { row := fnExactMirrorTableUptoRow, standIns := [], harness := (true, "cf837170df388377e043f123f7321b5b9590eef6587970d4c522175ec1a746a5"), looks := false }, kinds := [], alts := [], laidByText := true, laidKinds := [.data, .pinned], laidTests := true, laidLooks := .later }
def FnExactMirrorTableUptoCardSaid : Prop := Claim7.holds Tryd.pinned (.plain (OpenSpec.upto fnExactMirrorTableSpec)) fnExactMirrorTableUptoCard

/-- THE SECOND FORM's CARD OF 'laws.FnExactCountApart'. -/
def fnExactCountApartUptoCard : Claim7 := { stood := { row := fnExactCountApartUptoRow, standIns := [], harness := (true, "cf837170df388377e043f123f7321b5b9590eef6587970d4c522175ec1a746a5"), looks := false }, kinds := [], alts := [], laidByText := true, laidKinds := [.data, .pinned], laidTests := true, laidLooks := .later }
def FnExactCountApartUptoCardSaid : Prop := Claim7.holds Tryd.pinned (.plain (OpenSpec.upto fnExactCountApartSpec)) fnExactCountApartUptoCard

/-- THE SECOND FORM's CARD OF 'laws.FnExactFirstApart'. -/
def fnExactFirstApartUptoCard : Claim7 := { stood := { row := fnExactFirstApartUptoRow, standIns := [], harness := (true, "cf837170df388377e043f123f7321b5b9590eef6587970d4c522175ec1a746a5"), looks := false }, kinds := [], alts := [], laidByText := true, laidKinds := [.data, .pinned], laidTests := true, laidLooks := .later }
def FnExactFirstApartUptoCardSaid : Prop := Claim7.holds Tryd.pinned (.plain (OpenSpec.upto fnExactFirstApartSpec)) fnExactFirstApartUptoCard

/-- THE SECOND FORM's CARD OF 'laws.FnExactAllApart'. -/
def fnExactAllApartUptoCard : Claim7 := { stood := { row := fnExactAllApartUptoRow, standIns := [], harness := (true, "cf837170df388377e043f123f7321b5b9590eef6587970d4c522175ec1a746a5"), looks := false }, kinds := [], alts := [], laidByText := true, laidKinds := [.data, .pinned], laidTests := true, laidLooks := .later }
def FnExactAllApartUptoCardSaid : Prop := Claim7.holds Tryd.pinned (.plain (OpenSpec.upto fnExactAllApartSpec)) fnExactAllApartUptoCard
end Rows
end Go.Proofs.YtnnkdnleencofaaDoor

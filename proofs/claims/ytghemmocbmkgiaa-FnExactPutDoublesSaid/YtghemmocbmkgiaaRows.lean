/-
  No cell of these rows narrows 'for every input' (looked for: loops, veiled, ifaces, maps, wideKeys, modest, calm, conditions, laid).
  DERIVED. THE GIVEN ROWS OF THIS SEAT. 12 by the template 'for every input the law returns true; each argument reads behind the call as it read before'; 0 by the template 'total and deterministic' (their statements: YtghemmocbmkgiaaTotals.lean).
  GIVEN WITH THE SEED: the statements are not yours to turn. If you find one false, say at which input.
  Laid BY PROGRAM, IN A SANDBOX (cutbox-rows.mjs): the forced cells as the released guide's own fill.sh prints them over the translation 5460a7ed6abd7352… (all of the seat's roots in one cut). By AI agents, Wed Nov 11 2026. No macro, syntax, notation, axiom, sorry.
-/
import Derived.Test.YtghemmocbmkgiaaChecked
import GoSem.Claim
import GoSem.ClaimJoined
import GoSem.ClaimMapViews
import Derived.JoinedTies
import Derived.KernelRfl
namespace Go.Proofs.Ytghemmocbmkgiaa
/- THE CELL 'sum', in the pinned program and in every row, IS THE sha256 OF THE DUMP (.gsa) THAT YtghemmocbmkgiaaProg.lean LOADS. Nothing in Lean hashes anything: it is a label: what it is worth is what the hold of that sum in a sandbox is worth. -/
noncomputable def Try.pinned : Pinned := { name := "ytghemmocbmkgiaa", sum := "5460a7ed6abd7352c29a46eb2d9fbb178d97b6a420a784540de7d09fb826393b", checked := Try.checked }
namespace Rows
def none {H : Type} : Left H := { results := [], args := [] }

/-- 'laws.FnExactRenameHand': WHATEVER THE INPUT: true; the input reads as it did. -/
def fnExactRenameHandSpec : ChangeSpec := { name := "fnExactRenameHand", fn := fun _ => fun
  | [d1, d2] => { results := [.lit (.bool true)], args := [d1, d2] }
  | _ => none }
def fnExactRenameHandRow : OpenClaim := { program := "ytghemmocbmkgiaa", sum := "5460a7ed6abd7352c29a46eb2d9fbb178d97b6a420a784540de7d09fb826393b", func := "loop.example/g01216/laws.FnExactRenameHand", spec := "fnExactRenameHand", unfollowed := true, recurses := true, plainKeys := false, apart := false }
def FnExactRenameHandSaid : Prop := fnExactRenameHandRow.holds Try.pinned (OpenSpec.ofChange fnExactRenameHandSpec)

/-- ITS FALSE NEIGHBOUR: 'it returns false'. Refute it at one input. -/
def fnExactRenameHandWrong : ChangeSpec := { name := "fnExactRenameHand", fn := fun _ => fun
  | [d1, d2] => { results := [.lit (.bool false)], args := [d1, d2] }
  | _ => none }
def FnExactRenameHandWrongFalsely : Prop := fnExactRenameHandRow.holds Try.pinned (OpenSpec.ofChange fnExactRenameHandWrong)

/-- 'laws.FnExactIsChain': WHATEVER THE INPUT: true; the input reads as it did. -/
def fnExactIsChainSpec : ChangeSpec := { name := "fnExactIsChain", fn := fun _ => fun
  | [d] => { results := [.lit (.bool true)], args := [d] }
  | _ => none }
def fnExactIsChainRow : OpenClaim := { program := "ytghemmocbmkgiaa", sum := "5460a7ed6abd7352c29a46eb2d9fbb178d97b6a420a784540de7d09fb826393b", func := "loop.example/g01216/laws.FnExactIsChain", spec := "fnExactIsChain", plainKeys := false, apart := false }
def FnExactIsChainSaid : Prop := fnExactIsChainRow.holds Try.pinned (OpenSpec.ofChange fnExactIsChainSpec)

/-- ITS FALSE NEIGHBOUR: 'it returns false'. Refute it at one input. -/
def fnExactIsChainWrong : ChangeSpec := { name := "fnExactIsChain", fn := fun _ => fun
  | [d] => { results := [.lit (.bool false)], args := [d] }
  | _ => none }
def FnExactIsChainWrongFalsely : Prop := fnExactIsChainRow.holds Try.pinned (OpenSpec.ofChange fnExactIsChainWrong)

/-- 'laws.FnExactTilesOfChain': WHATEVER THE INPUT: true; the input reads as it did. -/
def fnExactTilesOfChainSpec : ChangeSpec := { name := "fnExactTilesOfChain", fn := fun _ => fun
  | [d] => { results := [.lit (.bool true)], args := [d] }
  | _ => none }
def fnExactTilesOfChainRow : OpenClaim := { program := "ytghemmocbmkgiaa", sum := "5460a7ed6abd7352c29a46eb2d9fbb178d97b6a420a784540de7d09fb826393b", func := "loop.example/g01216/laws.FnExactTilesOfChain", spec := "fnExactTilesOfChain", plainKeys := false, apart := false }
def FnExactTilesOfChainSaid : Prop := fnExactTilesOfChainRow.holds Try.pinned (OpenSpec.ofChange fnExactTilesOfChainSpec)

/-- ITS FALSE NEIGHBOUR: 'it returns false'. Refute it at one input. -/
def fnExactTilesOfChainWrong : ChangeSpec := { name := "fnExactTilesOfChain", fn := fun _ => fun
  | [d] => { results := [.lit (.bool false)], args := [d] }
  | _ => none }
def FnExactTilesOfChainWrongFalsely : Prop := fnExactTilesOfChainRow.holds Try.pinned (OpenSpec.ofChange fnExactTilesOfChainWrong)

/-- 'laws.FnExactEndsOfChain': WHATEVER THE INPUT: true; the input reads as it did. -/
def fnExactEndsOfChainSpec : ChangeSpec := { name := "fnExactEndsOfChain", fn := fun _ => fun
  | [d] => { results := [.lit (.bool true)], args := [d] }
  | _ => none }
def fnExactEndsOfChainRow : OpenClaim := { program := "ytghemmocbmkgiaa", sum := "5460a7ed6abd7352c29a46eb2d9fbb178d97b6a420a784540de7d09fb826393b", func := "loop.example/g01216/laws.FnExactEndsOfChain", spec := "fnExactEndsOfChain", plainKeys := false, apart := false }
def FnExactEndsOfChainSaid : Prop := fnExactEndsOfChainRow.holds Try.pinned (OpenSpec.ofChange fnExactEndsOfChainSpec)

/-- ITS FALSE NEIGHBOUR: 'it returns false'. Refute it at one input. -/
def fnExactEndsOfChainWrong : ChangeSpec := { name := "fnExactEndsOfChain", fn := fun _ => fun
  | [d] => { results := [.lit (.bool false)], args := [d] }
  | _ => none }
def FnExactEndsOfChainWrongFalsely : Prop := fnExactEndsOfChainRow.holds Try.pinned (OpenSpec.ofChange fnExactEndsOfChainWrong)

/-- 'laws.FnExactIsRing': WHATEVER THE INPUT: true; the input reads as it did. -/
def fnExactIsRingSpec : ChangeSpec := { name := "fnExactIsRing", fn := fun _ => fun
  | [d] => { results := [.lit (.bool true)], args := [d] }
  | _ => none }
def fnExactIsRingRow : OpenClaim := { program := "ytghemmocbmkgiaa", sum := "5460a7ed6abd7352c29a46eb2d9fbb178d97b6a420a784540de7d09fb826393b", func := "loop.example/g01216/laws.FnExactIsRing", spec := "fnExactIsRing", plainKeys := false, apart := false }
def FnExactIsRingSaid : Prop := fnExactIsRingRow.holds Try.pinned (OpenSpec.ofChange fnExactIsRingSpec)

/-- ITS FALSE NEIGHBOUR: 'it returns false'. Refute it at one input. -/
def fnExactIsRingWrong : ChangeSpec := { name := "fnExactIsRing", fn := fun _ => fun
  | [d] => { results := [.lit (.bool false)], args := [d] }
  | _ => none }
def FnExactIsRingWrongFalsely : Prop := fnExactIsRingRow.holds Try.pinned (OpenSpec.ofChange fnExactIsRingWrong)

/-- 'laws.FnExactTurnChain': WHATEVER THE INPUT: true; the input reads as it did. -/
def fnExactTurnChainSpec : ChangeSpec := { name := "fnExactTurnChain", fn := fun _ => fun
  | [d] => { results := [.lit (.bool true)], args := [d] }
  | _ => none }
def fnExactTurnChainRow : OpenClaim := { program := "ytghemmocbmkgiaa", sum := "5460a7ed6abd7352c29a46eb2d9fbb178d97b6a420a784540de7d09fb826393b", func := "loop.example/g01216/laws.FnExactTurnChain", spec := "fnExactTurnChain", plainKeys := false, apart := false }
def FnExactTurnChainSaid : Prop := fnExactTurnChainRow.holds Try.pinned (OpenSpec.ofChange fnExactTurnChainSpec)

/-- ITS FALSE NEIGHBOUR: 'it returns false'. Refute it at one input. -/
def fnExactTurnChainWrong : ChangeSpec := { name := "fnExactTurnChain", fn := fun _ => fun
  | [d] => { results := [.lit (.bool false)], args := [d] }
  | _ => none }
def FnExactTurnChainWrongFalsely : Prop := fnExactTurnChainRow.holds Try.pinned (OpenSpec.ofChange fnExactTurnChainWrong)

/-- 'laws.FnExactSpinRing': WHATEVER THE INPUT: true; the input reads as it did. -/
def fnExactSpinRingSpec : ChangeSpec := { name := "fnExactSpinRing", fn := fun _ => fun
  | [d1, d2] => { results := [.lit (.bool true)], args := [d1, d2] }
  | _ => none }
def fnExactSpinRingRow : OpenClaim := { program := "ytghemmocbmkgiaa", sum := "5460a7ed6abd7352c29a46eb2d9fbb178d97b6a420a784540de7d09fb826393b", func := "loop.example/g01216/laws.FnExactSpinRing", spec := "fnExactSpinRing", plainKeys := false, apart := false }
def FnExactSpinRingSaid : Prop := fnExactSpinRingRow.holds Try.pinned (OpenSpec.ofChange fnExactSpinRingSpec)

/-- ITS FALSE NEIGHBOUR: 'it returns false'. Refute it at one input. -/
def fnExactSpinRingWrong : ChangeSpec := { name := "fnExactSpinRing", fn := fun _ => fun
  | [d1, d2] => { results := [.lit (.bool false)], args := [d1, d2] }
  | _ => none }
def FnExactSpinRingWrongFalsely : Prop := fnExactSpinRingRow.holds Try.pinned (OpenSpec.ofChange fnExactSpinRingWrong)

/-- 'laws.FnExactJoinChains': WHATEVER THE INPUT: true; the input reads as it did. -/
def fnExactJoinChainsSpec : ChangeSpec := { name := "fnExactJoinChains", fn := fun _ => fun
  | [d1, d2] => { results := [.lit (.bool true)], args := [d1, d2] }
  | _ => none }
def fnExactJoinChainsRow : OpenClaim := { program := "ytghemmocbmkgiaa", sum := "5460a7ed6abd7352c29a46eb2d9fbb178d97b6a420a784540de7d09fb826393b", func := "loop.example/g01216/laws.FnExactJoinChains", spec := "fnExactJoinChains", plainKeys := false, apart := false }
def FnExactJoinChainsSaid : Prop := fnExactJoinChainsRow.holds Try.pinned (OpenSpec.ofChange fnExactJoinChainsSpec)

/-- ITS FALSE NEIGHBOUR: 'it returns false'. Refute it at one input. -/
def fnExactJoinChainsWrong : ChangeSpec := { name := "fnExactJoinChains", fn := fun _ => fun
  | [d1, d2] => { results := [.lit (.bool false)], args := [d1, d2] }
  | _ => none }
def FnExactJoinChainsWrongFalsely : Prop := fnExactJoinChainsRow.holds Try.pinned (OpenSpec.ofChange fnExactJoinChainsWrong)

/-- 'laws.FnExactLayTile': WHATEVER THE INPUT: true; the input reads as it did. -/
def fnExactLayTileSpec : ChangeSpec := { name := "fnExactLayTile", fn := fun _ => fun
  | [d1, d2, d3] => { results := [.lit (.bool true)], args := [d1, d2, d3] }
  | _ => none }
def fnExactLayTileRow : OpenClaim := { program := "ytghemmocbmkgiaa", sum := "5460a7ed6abd7352c29a46eb2d9fbb178d97b6a420a784540de7d09fb826393b", func := "loop.example/g01216/laws.FnExactLayTile", spec := "fnExactLayTile", plainKeys := false, apart := false }
def FnExactLayTileSaid : Prop := fnExactLayTileRow.holds Try.pinned (OpenSpec.ofChange fnExactLayTileSpec)

/-- ITS FALSE NEIGHBOUR: 'it returns false'. Refute it at one input. -/
def fnExactLayTileWrong : ChangeSpec := { name := "fnExactLayTile", fn := fun _ => fun
  | [d1, d2, d3] => { results := [.lit (.bool false)], args := [d1, d2, d3] }
  | _ => none }
def FnExactLayTileWrongFalsely : Prop := fnExactLayTileRow.holds Try.pinned (OpenSpec.ofChange fnExactLayTileWrong)

/-- 'laws.FnExactDropDoubles': WHATEVER THE INPUT: true; the input reads as it did. -/
def fnExactDropDoublesSpec : ChangeSpec := { name := "fnExactDropDoubles", fn := fun _ => fun
  | [d] => { results := [.lit (.bool true)], args := [d] }
  | _ => none }
def fnExactDropDoublesRow : OpenClaim := { program := "ytghemmocbmkgiaa", sum := "5460a7ed6abd7352c29a46eb2d9fbb178d97b6a420a784540de7d09fb826393b", func := "loop.example/g01216/laws.FnExactDropDoubles", spec := "fnExactDropDoubles", plainKeys := false, apart := false }
def FnExactDropDoublesSaid : Prop := fnExactDropDoublesRow.holds Try.pinned (OpenSpec.ofChange fnExactDropDoublesSpec)

/-- ITS FALSE NEIGHBOUR: 'it returns false'. Refute it at one input. -/
def fnExactDropDoublesWrong : ChangeSpec := { name := "fnExactDropDoubles", fn := fun _ => fun
  | [d] => { results := [.lit (.bool false)], args := [d] }
  | _ => none }
def FnExactDropDoublesWrongFalsely : Prop := fnExactDropDoublesRow.holds Try.pinned (OpenSpec.ofChange fnExactDropDoublesWrong)

/-- 'laws.FnExactFittingTiles': WHATEVER THE INPUT: true; the input reads as it did. -/
def fnExactFittingTilesSpec : ChangeSpec := { name := "fnExactFittingTiles", fn := fun _ => fun
  | [d1, d2] => { results := [.lit (.bool true)], args := [d1, d2] }
  | _ => none }
def fnExactFittingTilesRow : OpenClaim := { program := "ytghemmocbmkgiaa", sum := "5460a7ed6abd7352c29a46eb2d9fbb178d97b6a420a784540de7d09fb826393b", func := "loop.example/g01216/laws.FnExactFittingTiles", spec := "fnExactFittingTiles", unfollowed := true, recurses := true, plainKeys := false, apart := false }
def FnExactFittingTilesSaid : Prop := fnExactFittingTilesRow.holds Try.pinned (OpenSpec.ofChange fnExactFittingTilesSpec)

/-- ITS FALSE NEIGHBOUR: 'it returns false'. Refute it at one input. -/
def fnExactFittingTilesWrong : ChangeSpec := { name := "fnExactFittingTiles", fn := fun _ => fun
  | [d1, d2] => { results := [.lit (.bool false)], args := [d1, d2] }
  | _ => none }
def FnExactFittingTilesWrongFalsely : Prop := fnExactFittingTilesRow.holds Try.pinned (OpenSpec.ofChange fnExactFittingTilesWrong)

/-- 'laws.FnExactPutDoubles': WHATEVER THE INPUT: true; the input reads as it did. -/
def fnExactPutDoublesSpec : ChangeSpec := { name := "fnExactPutDoubles", fn := fun _ => fun
  | [d1, d2] => { results := [.lit (.bool true)], args := [d1, d2] }
  | _ => none }
def fnExactPutDoublesRow : OpenClaim := { program := "ytghemmocbmkgiaa", sum := "5460a7ed6abd7352c29a46eb2d9fbb178d97b6a420a784540de7d09fb826393b", func := "loop.example/g01216/laws.FnExactPutDoubles", spec := "fnExactPutDoubles", inPlace := ["slices.overlaps[int]"], unfollowed := true, recurses := true, plainKeys := false, apart := false }
def FnExactPutDoublesSaid : Prop := fnExactPutDoublesRow.holds Try.pinned (OpenSpec.ofChange fnExactPutDoublesSpec)

/-- ITS FALSE NEIGHBOUR: 'it returns false'. Refute it at one input. -/
def fnExactPutDoublesWrong : ChangeSpec := { name := "fnExactPutDoubles", fn := fun _ => fun
  | [d1, d2] => { results := [.lit (.bool false)], args := [d1, d2] }
  | _ => none }
def FnExactPutDoublesWrongFalsely : Prop := fnExactPutDoublesRow.holds Try.pinned (OpenSpec.ofChange fnExactPutDoublesWrong)

/- THE SECOND FORM. 'bulk': how many values and letters a reading holds, each counted each time it is reached (what is shared counts as often as it is met; a slice's spare places count too). A statement '..UptoSaid' is the law's where the arguments, and the package variables that the reading takes, are together of bulk at most 1048576: NARROWER than '..Said'. Prove '..Said' where nothing that the law and all that it calls make is longer than what came in: it says more and counts as full. Else prove '..UptoSaid'. A law counts once. -/
mutual
def uptoBulk {H : Type} : DataW H → Nat
  | .lit (.string bytes) => bytes.length + 1
  | .lit _ => 1
  | .nil => 1
  | .ptr d => uptoBulk d + 1
  | .slice elems spare => uptoBulkAll elems + uptoBulkAll spare + 1
  | .agg parts => uptoBulkAll parts + 1
  | .iface _ d => uptoBulk d + 1
  | .map entries => uptoBulkEntries entries + 1
  | .held _ => 1
def uptoBulkAll {H : Type} : List (DataW H) → Nat
  | [] => 0
  | d :: r => uptoBulk d + uptoBulkAll r
def uptoBulkEntries {H : Type} : List (Lit × DataW H) → Nat
  | [] => 0
  | x :: r => uptoBulkEntry x + uptoBulkEntries r
def uptoBulkEntry {H : Type} : Lit × DataW H → Nat
  | (.string bytes, d) => bytes.length + uptoBulk d + 1
  | (_, d) => uptoBulk d + 1
 end
def uptoSmall : (H : Type) → List (DataW H) → Bool := fun _ ds => decide (uptoBulkAll ds ≤ 1048576)
def OpenSpec.upto (s : _root_.Go.ChangeSpec) : _root_.Go.OpenSpec := { _root_.Go.OpenSpec.ofChange s with cond := some uptoSmall }

/-- 'laws.FnExactRenameHand', WHERE WHAT IT READS IS OF BULK AT MOST 1048576: true; the input reads as it did. -/
def fnExactRenameHandUptoRow : OpenClaim := { program := "ytghemmocbmkgiaa", sum := "5460a7ed6abd7352c29a46eb2d9fbb178d97b6a420a784540de7d09fb826393b", func := "loop.example/g01216/laws.FnExactRenameHand", spec := "fnExactRenameHand", unfollowed := true, recurses := true, plainKeys := false, apart := false, narrowed := true }
def FnExactRenameHandUptoSaid : Prop := fnExactRenameHandUptoRow.holds Try.pinned (OpenSpec.upto fnExactRenameHandSpec)

/-- 'laws.FnExactIsChain', WHERE WHAT IT READS IS OF BULK AT MOST 1048576: true; the input reads as it did. -/
def fnExactIsChainUptoRow : OpenClaim := { program := "ytghemmocbmkgiaa", sum := "5460a7ed6abd7352c29a46eb2d9fbb178d97b6a420a784540de7d09fb826393b", func := "loop.example/g01216/laws.FnExactIsChain", spec := "fnExactIsChain", plainKeys := false, apart := false, narrowed := true }
def FnExactIsChainUptoSaid : Prop := fnExactIsChainUptoRow.holds Try.pinned (OpenSpec.upto fnExactIsChainSpec)

/-- 'laws.FnExactTilesOfChain', WHERE WHAT IT READS IS OF BULK AT MOST 1048576: true; the input reads as it did. -/
def fnExactTilesOfChainUptoRow : OpenClaim := { program := "ytghemmocbmkgiaa", sum := "5460a7ed6abd7352c29a46eb2d9fbb178d97b6a420a784540de7d09fb826393b", func := "loop.example/g01216/laws.FnExactTilesOfChain", spec := "fnExactTilesOfChain", plainKeys := false, apart := false, narrowed := true }
def FnExactTilesOfChainUptoSaid : Prop := fnExactTilesOfChainUptoRow.holds Try.pinned (OpenSpec.upto fnExactTilesOfChainSpec)

/-- 'laws.FnExactEndsOfChain', WHERE WHAT IT READS IS OF BULK AT MOST 1048576: true; the input reads as it did. -/
def fnExactEndsOfChainUptoRow : OpenClaim := { program := "ytghemmocbmkgiaa", sum := "5460a7ed6abd7352c29a46eb2d9fbb178d97b6a420a784540de7d09fb826393b", func := "loop.example/g01216/laws.FnExactEndsOfChain", spec := "fnExactEndsOfChain", plainKeys := false, apart := false, narrowed := true }
def FnExactEndsOfChainUptoSaid : Prop := fnExactEndsOfChainUptoRow.holds Try.pinned (OpenSpec.upto fnExactEndsOfChainSpec)

/-- 'laws.FnExactIsRing', WHERE WHAT IT READS IS OF BULK AT MOST 1048576: true; the input reads as it did. -/
def fnExactIsRingUptoRow : OpenClaim := { program := "ytghemmocbmkgiaa", sum := "5460a7ed6abd7352c29a46eb2d9fbb178d97b6a420a784540de7d09fb826393b", func := "loop.example/g01216/laws.FnExactIsRing", spec := "fnExactIsRing", plainKeys := false, apart := false, narrowed := true }
def FnExactIsRingUptoSaid : Prop := fnExactIsRingUptoRow.holds Try.pinned (OpenSpec.upto fnExactIsRingSpec)

/-- 'laws.FnExactTurnChain', WHERE WHAT IT READS IS OF BULK AT MOST 1048576: true; the input reads as it did. -/
def fnExactTurnChainUptoRow : OpenClaim := { program := "ytghemmocbmkgiaa", sum := "5460a7ed6abd7352c29a46eb2d9fbb178d97b6a420a784540de7d09fb826393b", func := "loop.example/g01216/laws.FnExactTurnChain", spec := "fnExactTurnChain", plainKeys := false, apart := false, narrowed := true }
def FnExactTurnChainUptoSaid : Prop := fnExactTurnChainUptoRow.holds Try.pinned (OpenSpec.upto fnExactTurnChainSpec)

/-- 'laws.FnExactSpinRing', WHERE WHAT IT READS IS OF BULK AT MOST 1048576: true; the input reads as it did. -/
def fnExactSpinRingUptoRow : OpenClaim := { program := "ytghemmocbmkgiaa", sum := "5460a7ed6abd7352c29a46eb2d9fbb178d97b6a420a784540de7d09fb826393b", func := "loop.example/g01216/laws.FnExactSpinRing", spec := "fnExactSpinRing", plainKeys := false, apart := false, narrowed := true }
def FnExactSpinRingUptoSaid : Prop := fnExactSpinRingUptoRow.holds Try.pinned (OpenSpec.upto fnExactSpinRingSpec)

/-- 'laws.FnExactJoinChains', WHERE WHAT IT READS IS OF BULK AT MOST 1048576: true; the input reads as it did. -/
def fnExactJoinChainsUptoRow : OpenClaim := { program := "ytghemmocbmkgiaa", sum := "5460a7ed6abd7352c29a46eb2d9fbb178d97b6a420a784540de7d09fb826393b", func := "loop.example/g01216/laws.FnExactJoinChains", spec := "fnExactJoinChains", plainKeys := false, apart := false, narrowed := true }
def FnExactJoinChainsUptoSaid : Prop := fnExactJoinChainsUptoRow.holds Try.pinned (OpenSpec.upto fnExactJoinChainsSpec)

/-- 'laws.FnExactLayTile', WHERE WHAT IT READS IS OF BULK AT MOST 1048576: true; the input reads as it did. -/
def fnExactLayTileUptoRow : OpenClaim := { program := "ytghemmocbmkgiaa", sum := "5460a7ed6abd7352c29a46eb2d9fbb178d97b6a420a784540de7d09fb826393b", func := "loop.example/g01216/laws.FnExactLayTile", spec := "fnExactLayTile", plainKeys := false, apart := false, narrowed := true }
def FnExactLayTileUptoSaid : Prop := fnExactLayTileUptoRow.holds Try.pinned (OpenSpec.upto fnExactLayTileSpec)

/-- 'laws.FnExactDropDoubles', WHERE WHAT IT READS IS OF BULK AT MOST 1048576: true; the input reads as it did. -/
def fnExactDropDoublesUptoRow : OpenClaim := { program := "ytghemmocbmkgiaa", sum := "5460a7ed6abd7352c29a46eb2d9fbb178d97b6a420a784540de7d09fb826393b", func := "loop.example/g01216/laws.FnExactDropDoubles", spec := "fnExactDropDoubles", plainKeys := false, apart := false, narrowed := true }
def FnExactDropDoublesUptoSaid : Prop := fnExactDropDoublesUptoRow.holds Try.pinned (OpenSpec.upto fnExactDropDoublesSpec)

/-- 'laws.FnExactFittingTiles', WHERE WHAT IT READS IS OF BULK AT MOST 1048576: true; the input reads as it did. -/
def fnExactFittingTilesUptoRow : OpenClaim := { program := "ytghemmocbmkgiaa", sum := "5460a7ed6abd7352c29a46eb2d9fbb178d97b6a420a784540de7d09fb826393b", func := "loop.example/g01216/laws.FnExactFittingTiles", spec := "fnExactFittingTiles", unfollowed := true, recurses := true, plainKeys := false, apart := false, narrowed := true }
def FnExactFittingTilesUptoSaid : Prop := fnExactFittingTilesUptoRow.holds Try.pinned (OpenSpec.upto fnExactFittingTilesSpec)

/-- 'laws.FnExactPutDoubles', WHERE WHAT IT READS IS OF BULK AT MOST 1048576: true; the input reads as it did. -/
def fnExactPutDoublesUptoRow : OpenClaim := { program := "ytghemmocbmkgiaa", sum := "5460a7ed6abd7352c29a46eb2d9fbb178d97b6a420a784540de7d09fb826393b", func := "loop.example/g01216/laws.FnExactPutDoubles", spec := "fnExactPutDoubles", inPlace := ["slices.overlaps[int]"], unfollowed := true, recurses := true, plainKeys := false, apart := false, narrowed := true }
def FnExactPutDoublesUptoSaid : Prop := fnExactPutDoublesUptoRow.holds Try.pinned (OpenSpec.upto fnExactPutDoublesSpec)

end Rows
end Go.Proofs.Ytghemmocbmkgiaa

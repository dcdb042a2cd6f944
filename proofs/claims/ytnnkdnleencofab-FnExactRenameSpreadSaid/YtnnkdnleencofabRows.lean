/-
  No cell of these rows narrows 'for every input' (looked for: loops, veiled, ifaces, maps, wideKeys, modest, calm, conditions, laid).
  DERIVED. THE GIVEN ROWS OF THIS SEAT. 10 by the template 'for every input the law returns true; each argument reads behind the call as it read before'; 0 by the template 'total and deterministic' (their statements: YtnnkdnleencofabTotals.lean).
  GIVEN WITH THE SEED: the statements are not yours to turn. If you find one false, say at which input.
  Laid BY PROGRAM, IN A SANDBOX (cutbox-rows.mjs): the forced cells as the released guide's own fill.sh prints them over the translation 621c9e32a292edd7… (all of the seat's roots in one cut). By AI agents, Wed Nov 11 2026. No macro, syntax, notation, axiom, sorry.
-/
import Derived.Test.YtnnkdnleencofabChecked
import GoSem.Claim
import GoSem.ClaimJoined
import GoSem.ClaimMapViews
import Derived.JoinedTies
import Derived.KernelRfl
namespace Go.Proofs.Ytnnkdnleencofab
/- THE CELL 'sum', in the pinned program and in every row, IS THE sha256 OF THE DUMP (.gsa) THAT YtnnkdnleencofabProg.lean LOADS. Nothing in Lean hashes anything: it is a label: what it is worth is what the hold of that sum in a sandbox is worth. -/
noncomputable def Try.pinned : Pinned := { name := "ytnnkdnleencofab", sum := "621c9e32a292edd734f6b9a0f3068448fbe0bd3045f598493b2719327bf9bb70", checked := Try.checked }
namespace Rows
def none {H : Type} : Left H := { results := [], args := [] }

/-- 'laws.FnExactCountTilings': WHATEVER THE INPUT: true; the input reads as it did. -/
def fnExactCountTilingsSpec : ChangeSpec := { name := "fnExactCountTilings", fn := fun _ => fun
  | [d1, d2] => { results := [.lit (.bool true)], args := [d1, d2] }
  | _ => none }
def fnExactCountTilingsRow : OpenClaim := { program := "ytnnkdnleencofab", sum := "621c9e32a292edd734f6b9a0f3068448fbe0bd3045f598493b2719327bf9bb70", func := "loop.example/g01216/laws.FnExactCountTilings", spec := "fnExactCountTilings", unfollowed := true, recurses := true, plainKeys := false, apart := false }
def FnExactCountTilingsSaid : Prop := fnExactCountTilingsRow.holds Try.pinned (OpenSpec.ofChange fnExactCountTilingsSpec)

/-- ITS FALSE NEIGHBOUR: 'it returns false'. Refute it at one input. -/
def fnExactCountTilingsWrong : ChangeSpec := { name := "fnExactCountTilings", fn := fun _ => fun
  | [d1, d2] => { results := [.lit (.bool false)], args := [d1, d2] }
  | _ => none }
def FnExactCountTilingsWrongFalsely : Prop := fnExactCountTilingsRow.holds Try.pinned (OpenSpec.ofChange fnExactCountTilingsWrong)

/-- 'laws.FnExactBestPlay': WHATEVER THE INPUT: true; the input reads as it did. -/
def fnExactBestPlaySpec : ChangeSpec := { name := "fnExactBestPlay", fn := fun _ => fun
  | [d1, d2] => { results := [.lit (.bool true)], args := [d1, d2] }
  | _ => none }
def fnExactBestPlayRow : OpenClaim := { program := "ytnnkdnleencofab", sum := "621c9e32a292edd734f6b9a0f3068448fbe0bd3045f598493b2719327bf9bb70", func := "loop.example/g01216/laws.FnExactBestPlay", spec := "fnExactBestPlay", unfollowed := true, recurses := true, plainKeys := false, apart := false }
def FnExactBestPlaySaid : Prop := fnExactBestPlayRow.holds Try.pinned (OpenSpec.ofChange fnExactBestPlaySpec)

/-- ITS FALSE NEIGHBOUR: 'it returns false'. Refute it at one input. -/
def fnExactBestPlayWrong : ChangeSpec := { name := "fnExactBestPlay", fn := fun _ => fun
  | [d1, d2] => { results := [.lit (.bool false)], args := [d1, d2] }
  | _ => none }
def FnExactBestPlayWrongFalsely : Prop := fnExactBestPlayRow.holds Try.pinned (OpenSpec.ofChange fnExactBestPlayWrong)

/-- 'laws.FnExactMostFives': WHATEVER THE INPUT: true; the input reads as it did. -/
def fnExactMostFivesSpec : ChangeSpec := { name := "fnExactMostFives", fn := fun _ => fun
  | [d1, d2] => { results := [.lit (.bool true)], args := [d1, d2] }
  | _ => none }
def fnExactMostFivesRow : OpenClaim := { program := "ytnnkdnleencofab", sum := "621c9e32a292edd734f6b9a0f3068448fbe0bd3045f598493b2719327bf9bb70", func := "loop.example/g01216/laws.FnExactMostFives", spec := "fnExactMostFives", unfollowed := true, recurses := true, plainKeys := false, apart := false }
def FnExactMostFivesSaid : Prop := fnExactMostFivesRow.holds Try.pinned (OpenSpec.ofChange fnExactMostFivesSpec)

/-- ITS FALSE NEIGHBOUR: 'it returns false'. Refute it at one input. -/
def fnExactMostFivesWrong : ChangeSpec := { name := "fnExactMostFives", fn := fun _ => fun
  | [d1, d2] => { results := [.lit (.bool false)], args := [d1, d2] }
  | _ => none }
def FnExactMostFivesWrongFalsely : Prop := fnExactMostFivesRow.holds Try.pinned (OpenSpec.ofChange fnExactMostFivesWrong)

/-- 'laws.FnExactRenameSpread': WHATEVER THE INPUT: true; the input reads as it did. -/
def fnExactRenameSpreadSpec : ChangeSpec := { name := "fnExactRenameSpread", fn := fun _ => fun
  | [d1, d2] => { results := [.lit (.bool true)], args := [d1, d2] }
  | _ => none }
def fnExactRenameSpreadRow : OpenClaim := { program := "ytnnkdnleencofab", sum := "621c9e32a292edd734f6b9a0f3068448fbe0bd3045f598493b2719327bf9bb70", func := "loop.example/g01216/laws.FnExactRenameSpread", spec := "fnExactRenameSpread", plainKeys := false, apart := false }
def FnExactRenameSpreadSaid : Prop := fnExactRenameSpreadRow.holds Try.pinned (OpenSpec.ofChange fnExactRenameSpreadSpec)

/-- ITS FALSE NEIGHBOUR: 'it returns false'. Refute it at one input. -/
def fnExactRenameSpreadWrong : ChangeSpec := { name := "fnExactRenameSpread", fn := fun _ => fun
  | [d1, d2] => { results := [.lit (.bool false)], args := [d1, d2] }
  | _ => none }
def FnExactRenameSpreadWrongFalsely : Prop := fnExactRenameSpreadRow.holds Try.pinned (OpenSpec.ofChange fnExactRenameSpreadWrong)

/-- 'laws.FnExactAllChains': WHATEVER THE INPUT: true; the input reads as it did. -/
def fnExactAllChainsSpec : ChangeSpec := { name := "fnExactAllChains", fn := fun _ => fun
  | [d] => { results := [.lit (.bool true)], args := [d] }
  | _ => none }
def fnExactAllChainsRow : OpenClaim := { program := "ytnnkdnleencofab", sum := "621c9e32a292edd734f6b9a0f3068448fbe0bd3045f598493b2719327bf9bb70", func := "loop.example/g01216/laws.FnExactAllChains", spec := "fnExactAllChains", unfollowed := true, recurses := true, plainKeys := false, apart := false }
def FnExactAllChainsSaid : Prop := fnExactAllChainsRow.holds Try.pinned (OpenSpec.ofChange fnExactAllChainsSpec)

/-- ITS FALSE NEIGHBOUR: 'it returns false'. Refute it at one input. -/
def fnExactAllChainsWrong : ChangeSpec := { name := "fnExactAllChains", fn := fun _ => fun
  | [d] => { results := [.lit (.bool false)], args := [d] }
  | _ => none }
def FnExactAllChainsWrongFalsely : Prop := fnExactAllChainsRow.holds Try.pinned (OpenSpec.ofChange fnExactAllChainsWrong)

/-- 'laws.FnExactCountByTiles': WHATEVER THE INPUT: true; the input reads as it did. -/
def fnExactCountByTilesSpec : ChangeSpec := { name := "fnExactCountByTiles", fn := fun _ => fun
  | [d] => { results := [.lit (.bool true)], args := [d] }
  | _ => none }
def fnExactCountByTilesRow : OpenClaim := { program := "ytnnkdnleencofab", sum := "621c9e32a292edd734f6b9a0f3068448fbe0bd3045f598493b2719327bf9bb70", func := "loop.example/g01216/laws.FnExactCountByTiles", spec := "fnExactCountByTiles", unfollowed := true, recurses := true, plainKeys := false, apart := false }
def FnExactCountByTilesSaid : Prop := fnExactCountByTilesRow.holds Try.pinned (OpenSpec.ofChange fnExactCountByTilesSpec)

/-- ITS FALSE NEIGHBOUR: 'it returns false'. Refute it at one input. -/
def fnExactCountByTilesWrong : ChangeSpec := { name := "fnExactCountByTiles", fn := fun _ => fun
  | [d] => { results := [.lit (.bool false)], args := [d] }
  | _ => none }
def FnExactCountByTilesWrongFalsely : Prop := fnExactCountByTilesRow.holds Try.pinned (OpenSpec.ofChange fnExactCountByTilesWrong)

/-- 'laws.FnExactLongestChain': WHATEVER THE INPUT: true; the input reads as it did. -/
def fnExactLongestChainSpec : ChangeSpec := { name := "fnExactLongestChain", fn := fun _ => fun
  | [d] => { results := [.lit (.bool true)], args := [d] }
  | _ => none }
def fnExactLongestChainRow : OpenClaim := { program := "ytnnkdnleencofab", sum := "621c9e32a292edd734f6b9a0f3068448fbe0bd3045f598493b2719327bf9bb70", func := "loop.example/g01216/laws.FnExactLongestChain", spec := "fnExactLongestChain", unfollowed := true, recurses := true, plainKeys := false, apart := false }
def FnExactLongestChainSaid : Prop := fnExactLongestChainRow.holds Try.pinned (OpenSpec.ofChange fnExactLongestChainSpec)

/-- ITS FALSE NEIGHBOUR: 'it returns false'. Refute it at one input. -/
def fnExactLongestChainWrong : ChangeSpec := { name := "fnExactLongestChain", fn := fun _ => fun
  | [d] => { results := [.lit (.bool false)], args := [d] }
  | _ => none }
def FnExactLongestChainWrongFalsely : Prop := fnExactLongestChainRow.holds Try.pinned (OpenSpec.ofChange fnExactLongestChainWrong)

/-- 'laws.FnExactCountWhole': WHATEVER THE INPUT: true; the input reads as it did. -/
def fnExactCountWholeSpec : ChangeSpec := { name := "fnExactCountWhole", fn := fun _ => fun
  | [d] => { results := [.lit (.bool true)], args := [d] }
  | _ => none }
def fnExactCountWholeRow : OpenClaim := { program := "ytnnkdnleencofab", sum := "621c9e32a292edd734f6b9a0f3068448fbe0bd3045f598493b2719327bf9bb70", func := "loop.example/g01216/laws.FnExactCountWhole", spec := "fnExactCountWhole", unfollowed := true, recurses := true, plainKeys := false, apart := false }
def FnExactCountWholeSaid : Prop := fnExactCountWholeRow.holds Try.pinned (OpenSpec.ofChange fnExactCountWholeSpec)

/-- ITS FALSE NEIGHBOUR: 'it returns false'. Refute it at one input. -/
def fnExactCountWholeWrong : ChangeSpec := { name := "fnExactCountWhole", fn := fun _ => fun
  | [d] => { results := [.lit (.bool false)], args := [d] }
  | _ => none }
def FnExactCountWholeWrongFalsely : Prop := fnExactCountWholeRow.holds Try.pinned (OpenSpec.ofChange fnExactCountWholeWrong)

/-- 'laws.FnExactCountWithoutDoubles': WHATEVER THE INPUT: true; the input reads as it did. -/
def fnExactCountWithoutDoublesSpec : ChangeSpec := { name := "fnExactCountWithoutDoubles", fn := fun _ => fun
  | [d] => { results := [.lit (.bool true)], args := [d] }
  | _ => none }
def fnExactCountWithoutDoublesRow : OpenClaim := { program := "ytnnkdnleencofab", sum := "621c9e32a292edd734f6b9a0f3068448fbe0bd3045f598493b2719327bf9bb70", func := "loop.example/g01216/laws.FnExactCountWithoutDoubles", spec := "fnExactCountWithoutDoubles", unfollowed := true, recurses := true, plainKeys := false, apart := false }
def FnExactCountWithoutDoublesSaid : Prop := fnExactCountWithoutDoublesRow.holds Try.pinned (OpenSpec.ofChange fnExactCountWithoutDoublesSpec)

/-- ITS FALSE NEIGHBOUR: 'it returns false'. Refute it at one input. -/
def fnExactCountWithoutDoublesWrong : ChangeSpec := { name := "fnExactCountWithoutDoubles", fn := fun _ => fun
  | [d] => { results := [.lit (.bool false)], args := [d] }
  | _ => none }
def FnExactCountWithoutDoublesWrongFalsely : Prop := fnExactCountWithoutDoublesRow.holds Try.pinned (OpenSpec.ofChange fnExactCountWithoutDoublesWrong)

/-- 'laws.FnExactCountSetChains': WHATEVER THE INPUT: true; the input reads as it did. -/
def fnExactCountSetChainsSpec : ChangeSpec := { name := "fnExactCountSetChains", fn := fun _ => fun
  | [d] => { results := [.lit (.bool true)], args := [d] }
  | _ => none }
def fnExactCountSetChainsRow : OpenClaim := { program := "ytnnkdnleencofab", sum := "621c9e32a292edd734f6b9a0f3068448fbe0bd3045f598493b2719327bf9bb70", func := "loop.example/g01216/laws.FnExactCountSetChains", spec := "fnExactCountSetChains", unfollowed := true, recurses := true, plainKeys := false, apart := false }
def FnExactCountSetChainsSaid : Prop := fnExactCountSetChainsRow.holds Try.pinned (OpenSpec.ofChange fnExactCountSetChainsSpec)

/-- ITS FALSE NEIGHBOUR: 'it returns false'. Refute it at one input. -/
def fnExactCountSetChainsWrong : ChangeSpec := { name := "fnExactCountSetChains", fn := fun _ => fun
  | [d] => { results := [.lit (.bool false)], args := [d] }
  | _ => none }
def FnExactCountSetChainsWrongFalsely : Prop := fnExactCountSetChainsRow.holds Try.pinned (OpenSpec.ofChange fnExactCountSetChainsWrong)

/- THE SECOND FORM. 'bulk': how many values and letters a reading holds, each counted each time it is reached (what is shared counts as often as it is met; a slice's spare places count too). A statement '..UptoSaid' is the law's where the arguments, and the package variables that the reading takes, are together of bulk at most 1048576: NARROWER than '..Said'. Prove '..Said' where nothing that the law and all that it calls make is longer than what came in: it says more and counts as full. Else prove '..UptoSaid'. A law counts once. -/
mutual
def uptoBulk {H : Type} : DataW H → Nat
  | .lit (.string bytes) => bytes.length + 1
  | .lit _ => 1
  | .nil => 1
  | .ptr d => uptoBulk d + 1
  | .slice elems spare => uptoBulkAll elems + uptoBulkAll spare + 1
  | .agg parts => uptoBulkAll parts + 1
  | .iface _ d => uptoBulk d + 1
  | .map entries => uptoBulkEntries entries + 1
  | .held _ => 1
def uptoBulkAll {H : Type} : List (DataW H) → Nat
  | [] => 0
  | d :: r => uptoBulk d + uptoBulkAll r
def uptoBulkEntries {H : Type} : List (Lit × DataW H) → Nat
  | [] => 0
  | x :: r => uptoBulkEntry x + uptoBulkEntries r
def uptoBulkEntry {H : Type} : Lit × DataW H → Nat
  | (.string bytes, d) => bytes.length + uptoBulk d + 1
  | (_, d) => uptoBulk d + 1
 end
def uptoSmall : (H : Type) → List (DataW H) → Bool := fun _ ds => decide (uptoBulkAll ds ≤ 1048576)
def OpenSpec.upto (s : _root_.Go.ChangeSpec) : _root_.Go.OpenSpec := { _root_.Go.OpenSpec.ofChange s with cond := some uptoSmall }

/-- 'laws.FnExactCountTilings', WHERE WHAT IT READS IS OF BULK AT MOST 1048576: true; the input reads as it did. -/
def fnExactCountTilingsUptoRow : OpenClaim := { program := "ytnnkdnleencofab", sum := "621c9e32a292edd734f6b9a0f3068448fbe0bd3045f598493b2719327bf9bb70", func := "loop.example/g01216/laws.FnExactCountTilings", spec := "fnExactCountTilings", unfollowed := true, recurses := true, plainKeys := false, apart := false, narrowed := true }
def FnExactCountTilingsUptoSaid : Prop := fnExactCountTilingsUptoRow.holds Try.pinned (OpenSpec.upto fnExactCountTilingsSpec)

/-- 'laws.FnExactBestPlay', WHERE WHAT IT READS IS OF BULK AT MOST 1048576: true; the input reads as it did. -/
def fnExactBestPlayUptoRow : OpenClaim := { program := "ytnnkdnleencofab", sum := "621c9e32a292edd734f6b9a0f3068448fbe0bd3045f598493b2719327bf9bb70", func := "loop.example/g01216/laws.FnExactBestPlay", spec := "fnExactBestPlay", unfollowed := true, recurses := true, plainKeys := false, apart := false, narrowed := true }
def FnExactBestPlayUptoSaid : Prop := fnExactBestPlayUptoRow.holds Try.pinned (OpenSpec.upto fnExactBestPlaySpec)

/-- 'laws.FnExactMostFives', WHERE WHAT IT READS IS OF BULK AT MOST 1048576: true; the input reads as it did. -/
def fnExactMostFivesUptoRow : OpenClaim := { program := "ytnnkdnleencofab", sum := "621c9e32a292edd734f6b9a0f3068448fbe0bd3045f598493b2719327bf9bb70", func := "loop.example/g01216/laws.FnExactMostFives", spec := "fnExactMostFives", unfollowed := true, recurses := true, plainKeys := false, apart := false, narrowed := true }
def FnExactMostFivesUptoSaid : Prop := fnExactMostFivesUptoRow.holds Try.pinned (OpenSpec.upto fnExactMostFivesSpec)

/-- 'laws.FnExactRenameSpread', WHERE WHAT IT READS IS OF BULK AT MOST 1048576: true; the input reads as it did. -/
def fnExactRenameSpreadUptoRow : OpenClaim := { program := "ytnnkdnleencofab", sum := "621c9e32a292edd734f6b9a0f3068448fbe0bd3045f598493b2719327bf9bb70", func := "loop.example/g01216/laws.FnExactRenameSpread", spec := "fnExactRenameSpread", plainKeys := false, apart := false, narrowed := true }
def FnExactRenameSpreadUptoSaid : Prop := fnExactRenameSpreadUptoRow.holds Try.pinned (OpenSpec.upto fnExactRenameSpreadSpec)

/-- 'laws.FnExactAllChains', WHERE WHAT IT READS IS OF BULK AT MOST 1048576: true; the input reads as it did. -/
def fnExactAllChainsUptoRow : OpenClaim := { program := "ytnnkdnleencofab", sum := "621c9e32a292edd734f6b9a0f3068448fbe0bd3045f598493b2719327bf9bb70", func := "loop.example/g01216/laws.FnExactAllChains", spec := "fnExactAllChains", unfollowed := true, recurses := true, plainKeys := false, apart := false, narrowed := true }
def FnExactAllChainsUptoSaid : Prop := fnExactAllChainsUptoRow.holds Try.pinned (OpenSpec.upto fnExactAllChainsSpec)

/-- 'laws.FnExactCountByTiles', WHERE WHAT IT READS IS OF BULK AT MOST 1048576: true; the input reads as it did. -/
def fnExactCountByTilesUptoRow : OpenClaim := { program := "ytnnkdnleencofab", sum := "621c9e32a292edd734f6b9a0f3068448fbe0bd3045f598493b2719327bf9bb70", func := "loop.example/g01216/laws.FnExactCountByTiles", spec := "fnExactCountByTiles", unfollowed := true, recurses := true, plainKeys := false, apart := false, narrowed := true }
def FnExactCountByTilesUptoSaid : Prop := fnExactCountByTilesUptoRow.holds Try.pinned (OpenSpec.upto fnExactCountByTilesSpec)

/-- 'laws.FnExactLongestChain', WHERE WHAT IT READS IS OF BULK AT MOST 1048576: true; the input reads as it did. -/
def fnExactLongestChainUptoRow : OpenClaim := { program := "ytnnkdnleencofab", sum := "621c9e32a292edd734f6b9a0f3068448fbe0bd3045f598493b2719327bf9bb70", func := "loop.example/g01216/laws.FnExactLongestChain", spec := "fnExactLongestChain", unfollowed := true, recurses := true, plainKeys := false, apart := false, narrowed := true }
def FnExactLongestChainUptoSaid : Prop := fnExactLongestChainUptoRow.holds Try.pinned (OpenSpec.upto fnExactLongestChainSpec)

/-- 'laws.FnExactCountWhole', WHERE WHAT IT READS IS OF BULK AT MOST 1048576: true; the input reads as it did. -/
def fnExactCountWholeUptoRow : OpenClaim := { program := "ytnnkdnleencofab", sum := "621c9e32a292edd734f6b9a0f3068448fbe0bd3045f598493b2719327bf9bb70", func := "loop.example/g01216/laws.FnExactCountWhole", spec := "fnExactCountWhole", unfollowed := true, recurses := true, plainKeys := false, apart := false, narrowed := true }
def FnExactCountWholeUptoSaid : Prop := fnExactCountWholeUptoRow.holds Try.pinned (OpenSpec.upto fnExactCountWholeSpec)

/-- 'laws.FnExactCountWithoutDoubles', WHERE WHAT IT READS IS OF BULK AT MOST 1048576: true; the input reads as it did. -/
def fnExactCountWithoutDoublesUptoRow : OpenClaim := { program := "ytnnkdnleencofab", sum := "621c9e32a292edd734f6b9a0f3068448fbe0bd3045f598493b2719327bf9bb70", func := "loop.example/g01216/laws.FnExactCountWithoutDoubles", spec := "fnExactCountWithoutDoubles", unfollowed := true, recurses := true, plainKeys := false, apart := false, narrowed := true }
def FnExactCountWithoutDoublesUptoSaid : Prop := fnExactCountWithoutDoublesUptoRow.holds Try.pinned (OpenSpec.upto fnExactCountWithoutDoublesSpec)

/-- 'laws.FnExactCountSetChains', WHERE WHAT IT READS IS OF BULK AT MOST 1048576: true; the input reads as it did. -/
def fnExactCountSetChainsUptoRow : OpenClaim := { program := "ytnnkdnleencofab", sum := "621c9e32a292edd734f6b9a0f3068448fbe0bd3045f598493b2719327bf9bb70", func := "loop.example/g01216/laws.FnExactCountSetChains", spec := "fnExactCountSetChains", unfollowed := true, recurses := true, plainKeys := false, apart := false, narrowed := true }
def FnExactCountSetChainsUptoSaid : Prop := fnExactCountSetChainsUptoRow.holds Try.pinned (OpenSpec.upto fnExactCountSetChainsSpec)

end Rows
end Go.Proofs.Ytnnkdnleencofab

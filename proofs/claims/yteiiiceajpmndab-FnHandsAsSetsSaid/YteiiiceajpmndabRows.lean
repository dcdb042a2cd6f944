/-
  No cell of these rows narrows 'for every input' (looked for: loops, veiled, ifaces, maps, wideKeys, modest, calm, conditions, laid).
  DERIVED. THE GIVEN ROWS OF THIS SEAT. 10 by the template 'for every input the law returns true; each argument reads behind the call as it read before'; 0 by the template 'total and deterministic' (their statements: YteiiiceajpmndabTotals.lean).
  GIVEN WITH THE SEED: the statements are not yours to turn. If you find one false, say at which input.
  Laid BY PROGRAM, IN A SANDBOX (cutbox-rows.mjs): the forced cells as the released guide's own fill.sh prints them over the translation 8900f3ecf0636bb6… (all of the seat's roots in one cut). By AI agents, Wed Nov 11 2026. No macro, syntax, notation, axiom, sorry.
-/
import Derived.Test.YteiiiceajpmndabChecked
import GoSem.Claim
import GoSem.ClaimJoined
import GoSem.ClaimMapViews
import Derived.JoinedTies
import Derived.KernelRfl
namespace Go.Proofs.Yteiiiceajpmndab
/- THE CELL 'sum', in the pinned program and in every row, IS THE sha256 OF THE DUMP (.gsa) THAT YteiiiceajpmndabProg.lean LOADS. Nothing in Lean hashes anything: it is a label: what it is worth is what the hold of that sum in a sandbox is worth. -/
noncomputable def Try.pinned : Pinned := { name := "yteiiiceajpmndab", sum := "8900f3ecf0636bb6bba4d7fb64865f56ac7b17686e37045687509dca115f93af", checked := Try.checked }
namespace Rows
def none {H : Type} : Left H := { results := [], args := [] }

/-- 'laws.FnExactCountWhole': WHATEVER THE INPUT: true; the input reads as it did. -/
def fnExactCountWholeSpec : ChangeSpec := { name := "fnExactCountWhole", fn := fun _ => fun
  | [d] => { results := [.lit (.bool true)], args := [d] }
  | _ => none }
def fnExactCountWholeRow : OpenClaim := { program := "yteiiiceajpmndab", sum := "8900f3ecf0636bb6bba4d7fb64865f56ac7b17686e37045687509dca115f93af", func := "loop.example/g01216/laws.FnExactCountWhole", spec := "fnExactCountWhole", unfollowed := true, recurses := true, plainKeys := false, apart := false }
def FnExactCountWholeSaid : Prop := fnExactCountWholeRow.holds Try.pinned (OpenSpec.ofChange fnExactCountWholeSpec)

/-- ITS FALSE NEIGHBOUR: 'it returns false'. Refute it at one input. -/
def fnExactCountWholeWrong : ChangeSpec := { name := "fnExactCountWhole", fn := fun _ => fun
  | [d] => { results := [.lit (.bool false)], args := [d] }
  | _ => none }
def FnExactCountWholeWrongFalsely : Prop := fnExactCountWholeRow.holds Try.pinned (OpenSpec.ofChange fnExactCountWholeWrong)

/-- 'laws.FnExactCountWithoutDoubles': WHATEVER THE INPUT: true; the input reads as it did. -/
def fnExactCountWithoutDoublesSpec : ChangeSpec := { name := "fnExactCountWithoutDoubles", fn := fun _ => fun
  | [d] => { results := [.lit (.bool true)], args := [d] }
  | _ => none }
def fnExactCountWithoutDoublesRow : OpenClaim := { program := "yteiiiceajpmndab", sum := "8900f3ecf0636bb6bba4d7fb64865f56ac7b17686e37045687509dca115f93af", func := "loop.example/g01216/laws.FnExactCountWithoutDoubles", spec := "fnExactCountWithoutDoubles", unfollowed := true, recurses := true, plainKeys := false, apart := false }
def FnExactCountWithoutDoublesSaid : Prop := fnExactCountWithoutDoublesRow.holds Try.pinned (OpenSpec.ofChange fnExactCountWithoutDoublesSpec)

/-- ITS FALSE NEIGHBOUR: 'it returns false'. Refute it at one input. -/
def fnExactCountWithoutDoublesWrong : ChangeSpec := { name := "fnExactCountWithoutDoubles", fn := fun _ => fun
  | [d] => { results := [.lit (.bool false)], args := [d] }
  | _ => none }
def FnExactCountWithoutDoublesWrongFalsely : Prop := fnExactCountWithoutDoublesRow.holds Try.pinned (OpenSpec.ofChange fnExactCountWithoutDoublesWrong)

/-- 'laws.FnExactCountSetChains': WHATEVER THE INPUT: true; the input reads as it did. -/
def fnExactCountSetChainsSpec : ChangeSpec := { name := "fnExactCountSetChains", fn := fun _ => fun
  | [d] => { results := [.lit (.bool true)], args := [d] }
  | _ => none }
def fnExactCountSetChainsRow : OpenClaim := { program := "yteiiiceajpmndab", sum := "8900f3ecf0636bb6bba4d7fb64865f56ac7b17686e37045687509dca115f93af", func := "loop.example/g01216/laws.FnExactCountSetChains", spec := "fnExactCountSetChains", unfollowed := true, recurses := true, plainKeys := false, apart := false }
def FnExactCountSetChainsSaid : Prop := fnExactCountSetChainsRow.holds Try.pinned (OpenSpec.ofChange fnExactCountSetChainsSpec)

/-- ITS FALSE NEIGHBOUR: 'it returns false'. Refute it at one input. -/
def fnExactCountSetChainsWrong : ChangeSpec := { name := "fnExactCountSetChains", fn := fun _ => fun
  | [d] => { results := [.lit (.bool false)], args := [d] }
  | _ => none }
def FnExactCountSetChainsWrongFalsely : Prop := fnExactCountSetChainsRow.holds Try.pinned (OpenSpec.ofChange fnExactCountSetChainsWrong)

/-- 'laws.FnExactAllChains': WHATEVER THE INPUT: true; the input reads as it did. -/
def fnExactAllChainsSpec : ChangeSpec := { name := "fnExactAllChains", fn := fun _ => fun
  | [d] => { results := [.lit (.bool true)], args := [d] }
  | _ => none }
def fnExactAllChainsRow : OpenClaim := { program := "yteiiiceajpmndab", sum := "8900f3ecf0636bb6bba4d7fb64865f56ac7b17686e37045687509dca115f93af", func := "loop.example/g01216/laws.FnExactAllChains", spec := "fnExactAllChains", unfollowed := true, recurses := true, plainKeys := false, apart := false }
def FnExactAllChainsSaid : Prop := fnExactAllChainsRow.holds Try.pinned (OpenSpec.ofChange fnExactAllChainsSpec)

/-- ITS FALSE NEIGHBOUR: 'it returns false'. Refute it at one input. -/
def fnExactAllChainsWrong : ChangeSpec := { name := "fnExactAllChains", fn := fun _ => fun
  | [d] => { results := [.lit (.bool false)], args := [d] }
  | _ => none }
def FnExactAllChainsWrongFalsely : Prop := fnExactAllChainsRow.holds Try.pinned (OpenSpec.ofChange fnExactAllChainsWrong)

/-- 'laws.FnExactCountByTiles': WHATEVER THE INPUT: true; the input reads as it did. -/
def fnExactCountByTilesSpec : ChangeSpec := { name := "fnExactCountByTiles", fn := fun _ => fun
  | [d] => { results := [.lit (.bool true)], args := [d] }
  | _ => none }
def fnExactCountByTilesRow : OpenClaim := { program := "yteiiiceajpmndab", sum := "8900f3ecf0636bb6bba4d7fb64865f56ac7b17686e37045687509dca115f93af", func := "loop.example/g01216/laws.FnExactCountByTiles", spec := "fnExactCountByTiles", unfollowed := true, recurses := true, plainKeys := false, apart := false }
def FnExactCountByTilesSaid : Prop := fnExactCountByTilesRow.holds Try.pinned (OpenSpec.ofChange fnExactCountByTilesSpec)

/-- ITS FALSE NEIGHBOUR: 'it returns false'. Refute it at one input. -/
def fnExactCountByTilesWrong : ChangeSpec := { name := "fnExactCountByTiles", fn := fun _ => fun
  | [d] => { results := [.lit (.bool false)], args := [d] }
  | _ => none }
def FnExactCountByTilesWrongFalsely : Prop := fnExactCountByTilesRow.holds Try.pinned (OpenSpec.ofChange fnExactCountByTilesWrong)

/-- 'laws.FnExactLongestChain': WHATEVER THE INPUT: true; the input reads as it did. -/
def fnExactLongestChainSpec : ChangeSpec := { name := "fnExactLongestChain", fn := fun _ => fun
  | [d] => { results := [.lit (.bool true)], args := [d] }
  | _ => none }
def fnExactLongestChainRow : OpenClaim := { program := "yteiiiceajpmndab", sum := "8900f3ecf0636bb6bba4d7fb64865f56ac7b17686e37045687509dca115f93af", func := "loop.example/g01216/laws.FnExactLongestChain", spec := "fnExactLongestChain", unfollowed := true, recurses := true, plainKeys := false, apart := false }
def FnExactLongestChainSaid : Prop := fnExactLongestChainRow.holds Try.pinned (OpenSpec.ofChange fnExactLongestChainSpec)

/-- ITS FALSE NEIGHBOUR: 'it returns false'. Refute it at one input. -/
def fnExactLongestChainWrong : ChangeSpec := { name := "fnExactLongestChain", fn := fun _ => fun
  | [d] => { results := [.lit (.bool false)], args := [d] }
  | _ => none }
def FnExactLongestChainWrongFalsely : Prop := fnExactLongestChainRow.holds Try.pinned (OpenSpec.ofChange fnExactLongestChainWrong)

/-- 'laws.FnTilesRanked': WHATEVER THE INPUT: true; the input reads as it did. -/
def fnTilesRankedSpec : ChangeSpec := { name := "fnTilesRanked", fn := fun _ => fun
  | [d1, d2] => { results := [.lit (.bool true)], args := [d1, d2] }
  | _ => none }
def fnTilesRankedRow : OpenClaim := { program := "yteiiiceajpmndab", sum := "8900f3ecf0636bb6bba4d7fb64865f56ac7b17686e37045687509dca115f93af", func := "loop.example/g01216/laws.FnTilesRanked", spec := "fnTilesRanked", plainKeys := false, apart := false }
def FnTilesRankedSaid : Prop := fnTilesRankedRow.holds Try.pinned (OpenSpec.ofChange fnTilesRankedSpec)

/-- ITS FALSE NEIGHBOUR: 'it returns false'. Refute it at one input. -/
def fnTilesRankedWrong : ChangeSpec := { name := "fnTilesRanked", fn := fun _ => fun
  | [d1, d2] => { results := [.lit (.bool false)], args := [d1, d2] }
  | _ => none }
def FnTilesRankedWrongFalsely : Prop := fnTilesRankedRow.holds Try.pinned (OpenSpec.ofChange fnTilesRankedWrong)

/-- 'laws.FnHandsAsSets': WHATEVER THE INPUT: true; the input reads as it did. -/
def fnHandsAsSetsSpec : ChangeSpec := { name := "fnHandsAsSets", fn := fun _ => fun
  | [d1, d2] => { results := [.lit (.bool true)], args := [d1, d2] }
  | _ => none }
def fnHandsAsSetsRow : OpenClaim := { program := "yteiiiceajpmndab", sum := "8900f3ecf0636bb6bba4d7fb64865f56ac7b17686e37045687509dca115f93af", func := "loop.example/g01216/laws.FnHandsAsSets", spec := "fnHandsAsSets", unfollowed := true, recurses := true, plainKeys := false, apart := false }
def FnHandsAsSetsSaid : Prop := fnHandsAsSetsRow.holds Try.pinned (OpenSpec.ofChange fnHandsAsSetsSpec)

/-- ITS FALSE NEIGHBOUR: 'it returns false'. Refute it at one input. -/
def fnHandsAsSetsWrong : ChangeSpec := { name := "fnHandsAsSets", fn := fun _ => fun
  | [d1, d2] => { results := [.lit (.bool false)], args := [d1, d2] }
  | _ => none }
def FnHandsAsSetsWrongFalsely : Prop := fnHandsAsSetsRow.holds Try.pinned (OpenSpec.ofChange fnHandsAsSetsWrong)

/-- 'laws.FnChainsLaid': WHATEVER THE INPUT: true; the input reads as it did. -/
def fnChainsLaidSpec : ChangeSpec := { name := "fnChainsLaid", fn := fun _ => fun
  | [d1, d2] => { results := [.lit (.bool true)], args := [d1, d2] }
  | _ => none }
def fnChainsLaidRow : OpenClaim := { program := "yteiiiceajpmndab", sum := "8900f3ecf0636bb6bba4d7fb64865f56ac7b17686e37045687509dca115f93af", func := "loop.example/g01216/laws.FnChainsLaid", spec := "fnChainsLaid", recurses := true, plainKeys := false, apart := false }
def FnChainsLaidSaid : Prop := fnChainsLaidRow.holds Try.pinned (OpenSpec.ofChange fnChainsLaidSpec)

/-- ITS FALSE NEIGHBOUR: 'it returns false'. Refute it at one input. -/
def fnChainsLaidWrong : ChangeSpec := { name := "fnChainsLaid", fn := fun _ => fun
  | [d1, d2] => { results := [.lit (.bool false)], args := [d1, d2] }
  | _ => none }
def FnChainsLaidWrongFalsely : Prop := fnChainsLaidRow.holds Try.pinned (OpenSpec.ofChange fnChainsLaidWrong)

/-- 'laws.FnChainsListed': WHATEVER THE INPUT: true; the input reads as it did. -/
def fnChainsListedSpec : ChangeSpec := { name := "fnChainsListed", fn := fun _ => fun
  | [d1, d2] => { results := [.lit (.bool true)], args := [d1, d2] }
  | _ => none }
def fnChainsListedRow : OpenClaim := { program := "yteiiiceajpmndab", sum := "8900f3ecf0636bb6bba4d7fb64865f56ac7b17686e37045687509dca115f93af", func := "loop.example/g01216/laws.FnChainsListed", spec := "fnChainsListed", unfollowed := true, recurses := true, plainKeys := false, apart := false }
def FnChainsListedSaid : Prop := fnChainsListedRow.holds Try.pinned (OpenSpec.ofChange fnChainsListedSpec)

/-- ITS FALSE NEIGHBOUR: 'it returns false'. Refute it at one input. -/
def fnChainsListedWrong : ChangeSpec := { name := "fnChainsListed", fn := fun _ => fun
  | [d1, d2] => { results := [.lit (.bool false)], args := [d1, d2] }
  | _ => none }
def FnChainsListedWrongFalsely : Prop := fnChainsListedRow.holds Try.pinned (OpenSpec.ofChange fnChainsListedWrong)

/- THE SECOND FORM. 'bulk': how many values and letters a reading holds, each counted each time it is reached (what is shared counts as often as it is met; a slice's spare places count too). A statement '..UptoSaid' is the law's where the arguments, and the package variables that the reading takes, are together of bulk at most 1048576: NARROWER than '..Said'. Prove '..Said' where nothing that the law and all that it calls make is longer than what came in: it says more and counts as full. Else prove '..UptoSaid'. A law counts once. -/
mutual
def uptoBulk {H : Type} : DataW H → Nat
  | .lit (.string bytes) => bytes.length + 1
  | .lit _ => 1
  | .nil => 1
  | .ptr d => uptoBulk d + 1
  | .slice elems spare => uptoBulkAll elems + uptoBulkAll spare + 1
  | .agg parts => uptoBulkAll parts + 1
  | .iface _ d => uptoBulk d + 1
  | .map entries => uptoBulkEntries entries + 1
  | .held _ => 1
def uptoBulkAll {H : Type} : List (DataW H) → Nat
  | [] => 0
  | d :: r => uptoBulk d + uptoBulkAll r
def uptoBulkEntries {H : Type} : List (Lit × DataW H) → Nat
  | [] => 0
  | x :: r => uptoBulkEntry x + uptoBulkEntries r
def uptoBulkEntry {H : Type} : Lit × DataW H → Nat
  | (.string bytes, d) => bytes.length + uptoBulk d + 1
  | (_, d) => uptoBulk d + 1
 end
def uptoSmall : (H : Type) → List (DataW H) → Bool := fun _ ds => decide (uptoBulkAll ds ≤ 1048576)
def OpenSpec.upto (s : _root_.Go.ChangeSpec) : _root_.Go.OpenSpec := { _root_.Go.OpenSpec.ofChange s with cond := some uptoSmall }

/-- 'laws.FnExactCountWhole', WHERE WHAT IT READS IS OF BULK AT MOST 1048576: true; the input reads as it did. -/
def fnExactCountWholeUptoRow : OpenClaim := { program := "yteiiiceajpmndab", sum := "8900f3ecf0636bb6bba4d7fb64865f56ac7b17686e37045687509dca115f93af", func := "loop.example/g01216/laws.FnExactCountWhole", spec := "fnExactCountWhole", unfollowed := true, recurses := true, plainKeys := false, apart := false, narrowed := true }
def FnExactCountWholeUptoSaid : Prop := fnExactCountWholeUptoRow.holds Try.pinned (OpenSpec.upto fnExactCountWholeSpec)

/-- 'laws.FnExactCountWithoutDoubles', WHERE WHAT IT READS IS OF BULK AT MOST 1048576: true; the input reads as it did. -/
def fnExactCountWithoutDoublesUptoRow : OpenClaim := { program := "yteiiiceajpmndab", sum := "8900f3ecf0636bb6bba4d7fb64865f56ac7b17686e37045687509dca115f93af", func := "loop.example/g01216/laws.FnExactCountWithoutDoubles", spec := "fnExactCountWithoutDoubles", unfollowed := true, recurses := true, plainKeys := false, apart := false, narrowed := true }
def FnExactCountWithoutDoublesUptoSaid : Prop := fnExactCountWithoutDoublesUptoRow.holds Try.pinned (OpenSpec.upto fnExactCountWithoutDoublesSpec)

/-- 'laws.FnExactCountSetChains', WHERE WHAT IT READS IS OF BULK AT MOST 1048576: true; the input reads as it did. -/
def fnExactCountSetChainsUptoRow : OpenClaim := { program := "yteiiiceajpmndab", sum := "8900f3ecf0636bb6bba4d7fb64865f56ac7b17686e37045687509dca115f93af", func := "loop.example/g01216/laws.FnExactCountSetChains", spec := "fnExactCountSetChains", unfollowed := true, recurses := true, plainKeys := false, apart := false, narrowed := true }
def FnExactCountSetChainsUptoSaid : Prop := fnExactCountSetChainsUptoRow.holds Try.pinned (OpenSpec.upto fnExactCountSetChainsSpec)

/-- 'laws.FnExactAllChains', WHERE WHAT IT READS IS OF BULK AT MOST 1048576: true; the input reads as it did. -/
def fnExactAllChainsUptoRow : OpenClaim := { program := "yteiiiceajpmndab", sum := "8900f3ecf0636bb6bba4d7fb64865f56ac7b17686e37045687509dca115f93af", func := "loop.example/g01216/laws.FnExactAllChains", spec := "fnExactAllChains", unfollowed := true, recurses := true, plainKeys := false, apart := false, narrowed := true }
def FnExactAllChainsUptoSaid : Prop := fnExactAllChainsUptoRow.holds Try.pinned (OpenSpec.upto fnExactAllChainsSpec)

/-- 'laws.FnExactCountByTiles', WHERE WHAT IT READS IS OF BULK AT MOST 1048576: true; the input reads as it did. -/
def fnExactCountByTilesUptoRow : OpenClaim := { program := "yteiiiceajpmndab", sum := "8900f3ecf0636bb6bba4d7fb64865f56ac7b17686e37045687509dca115f93af", func := "loop.example/g01216/laws.FnExactCountByTiles", spec := "fnExactCountByTiles", unfollowed := true, recurses := true, plainKeys := false, apart := false, narrowed := true }
def FnExactCountByTilesUptoSaid : Prop := fnExactCountByTilesUptoRow.holds Try.pinned (OpenSpec.upto fnExactCountByTilesSpec)

/-- 'laws.FnExactLongestChain', WHERE WHAT IT READS IS OF BULK AT MOST 1048576: true; the input reads as it did. -/
def fnExactLongestChainUptoRow : OpenClaim := { program := "yteiiiceajpmndab", sum := "8900f3ecf0636bb6bba4d7fb64865f56ac7b17686e37045687509dca115f93af", func := "loop.example/g01216/laws.FnExactLongestChain", spec := "fnExactLongestChain", unfollowed := true, recurses := true, plainKeys := false, apart := false, narrowed := true }
def FnExactLongestChainUptoSaid : Prop := fnExactLongestChainUptoRow.holds Try.pinned (OpenSpec.upto fnExactLongestChainSpec)

/-- 'laws.FnTilesRanked', WHERE WHAT IT READS IS OF BULK AT MOST 1048576: true; the input reads as it did. -/
def fnTilesRankedUptoRow : OpenClaim := { program := "yteiiiceajpmndab", sum := "8900f3ecf0636bb6bba4d7fb64865f56ac7b17686e37045687509dca115f93af", func := "loop.example/g01216/laws.FnTilesRanked", spec := "fnTilesRanked", plainKeys := false, apart := false, narrowed := true }
def FnTilesRankedUptoSaid : Prop := fnTilesRankedUptoRow.holds Try.pinned (OpenSpec.upto fnTilesRankedSpec)

/-- 'laws.FnHandsAsSets', WHERE WHAT IT READS IS OF BULK AT MOST 1048576: true; the input reads as it did. -/
def fnHandsAsSetsUptoRow : OpenClaim := { program := "yteiiiceajpmndab", sum := "8900f3ecf0636bb6bba4d7fb64865f56ac7b17686e37045687509dca115f93af", func := "loop.example/g01216/laws.FnHandsAsSets", spec := "fnHandsAsSets", unfollowed := true, recurses := true, plainKeys := false, apart := false, narrowed := true }
def FnHandsAsSetsUptoSaid : Prop := fnHandsAsSetsUptoRow.holds Try.pinned (OpenSpec.upto fnHandsAsSetsSpec)

/-- 'laws.FnChainsLaid', WHERE WHAT IT READS IS OF BULK AT MOST 1048576: true; the input reads as it did. -/
def fnChainsLaidUptoRow : OpenClaim := { program := "yteiiiceajpmndab", sum := "8900f3ecf0636bb6bba4d7fb64865f56ac7b17686e37045687509dca115f93af", func := "loop.example/g01216/laws.FnChainsLaid", spec := "fnChainsLaid", recurses := true, plainKeys := false, apart := false, narrowed := true }
def FnChainsLaidUptoSaid : Prop := fnChainsLaidUptoRow.holds Try.pinned (OpenSpec.upto fnChainsLaidSpec)

/-- 'laws.FnChainsListed', WHERE WHAT IT READS IS OF BULK AT MOST 1048576: true; the input reads as it did. -/
def fnChainsListedUptoRow : OpenClaim := { program := "yteiiiceajpmndab", sum := "8900f3ecf0636bb6bba4d7fb64865f56ac7b17686e37045687509dca115f93af", func := "loop.example/g01216/laws.FnChainsListed", spec := "fnChainsListed", unfollowed := true, recurses := true, plainKeys := false, apart := false, narrowed := true }
def FnChainsListedUptoSaid : Prop := fnChainsListedUptoRow.holds Try.pinned (OpenSpec.upto fnChainsListedSpec)

end Rows
end Go.Proofs.Yteiiiceajpmndab

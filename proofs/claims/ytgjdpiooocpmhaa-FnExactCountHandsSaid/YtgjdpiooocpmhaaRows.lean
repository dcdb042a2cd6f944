/-
  No cell of these rows narrows 'for every input' (looked for: loops, veiled, ifaces, maps, wideKeys, modest, calm, conditions, laid).
  DERIVED. THE GIVEN ROWS OF THIS SEAT. 13 by the template 'for every input the law returns true; each argument reads behind the call as it read before'; 0 by the template 'total and deterministic' (their statements: YtgjdpiooocpmhaaTotals.lean).
  GIVEN WITH THE SEED: the statements are not yours to turn. If you find one false, say at which input.
  Laid BY PROGRAM, IN A SANDBOX (cutbox-rows.mjs): the forced cells as the released guide's own fill.sh prints them over the translation efc49436dfd7f013… (all of the seat's roots in one cut). By AI agents, Wed Nov 11 2026. No macro, syntax, notation, axiom, sorry.
-/
import Derived.Test.YtgjdpiooocpmhaaChecked
import GoSem.Claim
import GoSem.ClaimJoined
import GoSem.ClaimMapViews
import Derived.JoinedTies
import Derived.KernelRfl
namespace Go.Proofs.Ytgjdpiooocpmhaa
/- THE CELL 'sum', in the pinned program and in every row, IS THE sha256 OF THE DUMP (.gsa) THAT YtgjdpiooocpmhaaProg.lean LOADS. Nothing in Lean hashes anything: it is a label: what it is worth is what the hold of that sum in a sandbox is worth. -/
noncomputable def Try.pinned : Pinned := { name := "ytgjdpiooocpmhaa", sum := "efc49436dfd7f0134de36071aa33821306b4a25003dbfb8e66a40bc82cd0883f", checked := Try.checked }
namespace Rows
def none {H : Type} : Left H := { results := [], args := [] }

/-- 'laws.FnExactCountHands': WHATEVER THE INPUT: true; the input reads as it did. -/
def fnExactCountHandsSpec : ChangeSpec := { name := "fnExactCountHands", fn := fun _ => fun
  | [d1, d2] => { results := [.lit (.bool true)], args := [d1, d2] }
  | _ => none }
def fnExactCountHandsRow : OpenClaim := { program := "ytgjdpiooocpmhaa", sum := "efc49436dfd7f0134de36071aa33821306b4a25003dbfb8e66a40bc82cd0883f", func := "loop.example/g01216/laws.FnExactCountHands", spec := "fnExactCountHands", apart := false }
def FnExactCountHandsSaid : Prop := fnExactCountHandsRow.holds Try.pinned (OpenSpec.ofChange fnExactCountHandsSpec)

/-- ITS FALSE NEIGHBOUR: 'it returns false'. Refute it at one input. -/
def fnExactCountHandsWrong : ChangeSpec := { name := "fnExactCountHands", fn := fun _ => fun
  | [d1, d2] => { results := [.lit (.bool false)], args := [d1, d2] }
  | _ => none }
def FnExactCountHandsWrongFalsely : Prop := fnExactCountHandsRow.holds Try.pinned (OpenSpec.ofChange fnExactCountHandsWrong)

/-- 'laws.FnExactChanceOfTile': WHATEVER THE INPUT: true; the input reads as it did. -/
def fnExactChanceOfTileSpec : ChangeSpec := { name := "fnExactChanceOfTile", fn := fun _ => fun
  | [d1, d2] => { results := [.lit (.bool true)], args := [d1, d2] }
  | _ => none }
def fnExactChanceOfTileRow : OpenClaim := { program := "ytgjdpiooocpmhaa", sum := "efc49436dfd7f0134de36071aa33821306b4a25003dbfb8e66a40bc82cd0883f", func := "loop.example/g01216/laws.FnExactChanceOfTile", spec := "fnExactChanceOfTile", apart := false }
def FnExactChanceOfTileSaid : Prop := fnExactChanceOfTileRow.holds Try.pinned (OpenSpec.ofChange fnExactChanceOfTileSpec)

/-- ITS FALSE NEIGHBOUR: 'it returns false'. Refute it at one input. -/
def fnExactChanceOfTileWrong : ChangeSpec := { name := "fnExactChanceOfTile", fn := fun _ => fun
  | [d1, d2] => { results := [.lit (.bool false)], args := [d1, d2] }
  | _ => none }
def FnExactChanceOfTileWrongFalsely : Prop := fnExactChanceOfTileRow.holds Try.pinned (OpenSpec.ofChange fnExactChanceOfTileWrong)

/-- 'laws.FnExactChanceOfTiles': WHATEVER THE INPUT: true; the input reads as it did. -/
def fnExactChanceOfTilesSpec : ChangeSpec := { name := "fnExactChanceOfTiles", fn := fun _ => fun
  | [d1, d2, d3] => { results := [.lit (.bool true)], args := [d1, d2, d3] }
  | _ => none }
def fnExactChanceOfTilesRow : OpenClaim := { program := "ytgjdpiooocpmhaa", sum := "efc49436dfd7f0134de36071aa33821306b4a25003dbfb8e66a40bc82cd0883f", func := "loop.example/g01216/laws.FnExactChanceOfTiles", spec := "fnExactChanceOfTiles", apart := false }
def FnExactChanceOfTilesSaid : Prop := fnExactChanceOfTilesRow.holds Try.pinned (OpenSpec.ofChange fnExactChanceOfTilesSpec)

/-- ITS FALSE NEIGHBOUR: 'it returns false'. Refute it at one input. -/
def fnExactChanceOfTilesWrong : ChangeSpec := { name := "fnExactChanceOfTiles", fn := fun _ => fun
  | [d1, d2, d3] => { results := [.lit (.bool false)], args := [d1, d2, d3] }
  | _ => none }
def FnExactChanceOfTilesWrongFalsely : Prop := fnExactChanceOfTilesRow.holds Try.pinned (OpenSpec.ofChange fnExactChanceOfTilesWrong)

/-- 'laws.FnExactChanceOfDoubles': WHATEVER THE INPUT: true; the input reads as it did. -/
def fnExactChanceOfDoublesSpec : ChangeSpec := { name := "fnExactChanceOfDoubles", fn := fun _ => fun
  | [d1, d2, d3] => { results := [.lit (.bool true)], args := [d1, d2, d3] }
  | _ => none }
def fnExactChanceOfDoublesRow : OpenClaim := { program := "ytgjdpiooocpmhaa", sum := "efc49436dfd7f0134de36071aa33821306b4a25003dbfb8e66a40bc82cd0883f", func := "loop.example/g01216/laws.FnExactChanceOfDoubles", spec := "fnExactChanceOfDoubles", apart := false }
def FnExactChanceOfDoublesSaid : Prop := fnExactChanceOfDoublesRow.holds Try.pinned (OpenSpec.ofChange fnExactChanceOfDoublesSpec)

/-- ITS FALSE NEIGHBOUR: 'it returns false'. Refute it at one input. -/
def fnExactChanceOfDoublesWrong : ChangeSpec := { name := "fnExactChanceOfDoubles", fn := fun _ => fun
  | [d1, d2, d3] => { results := [.lit (.bool false)], args := [d1, d2, d3] }
  | _ => none }
def FnExactChanceOfDoublesWrongFalsely : Prop := fnExactChanceOfDoublesRow.holds Try.pinned (OpenSpec.ofChange fnExactChanceOfDoublesWrong)

/-- 'laws.FnExactDoublesMean': WHATEVER THE INPUT: true; the input reads as it did. -/
def fnExactDoublesMeanSpec : ChangeSpec := { name := "fnExactDoublesMean", fn := fun _ => fun
  | [d1, d2] => { results := [.lit (.bool true)], args := [d1, d2] }
  | _ => none }
def fnExactDoublesMeanRow : OpenClaim := { program := "ytgjdpiooocpmhaa", sum := "efc49436dfd7f0134de36071aa33821306b4a25003dbfb8e66a40bc82cd0883f", func := "loop.example/g01216/laws.FnExactDoublesMean", spec := "fnExactDoublesMean", apart := false }
def FnExactDoublesMeanSaid : Prop := fnExactDoublesMeanRow.holds Try.pinned (OpenSpec.ofChange fnExactDoublesMeanSpec)

/-- ITS FALSE NEIGHBOUR: 'it returns false'. Refute it at one input. -/
def fnExactDoublesMeanWrong : ChangeSpec := { name := "fnExactDoublesMean", fn := fun _ => fun
  | [d1, d2] => { results := [.lit (.bool false)], args := [d1, d2] }
  | _ => none }
def FnExactDoublesMeanWrongFalsely : Prop := fnExactDoublesMeanRow.holds Try.pinned (OpenSpec.ofChange fnExactDoublesMeanWrong)

/-- 'laws.FnExactChanceWithout': WHATEVER THE INPUT: true; the input reads as it did. -/
def fnExactChanceWithoutSpec : ChangeSpec := { name := "fnExactChanceWithout", fn := fun _ => fun
  | [d1, d2, d3] => { results := [.lit (.bool true)], args := [d1, d2, d3] }
  | _ => none }
def fnExactChanceWithoutRow : OpenClaim := { program := "ytgjdpiooocpmhaa", sum := "efc49436dfd7f0134de36071aa33821306b4a25003dbfb8e66a40bc82cd0883f", func := "loop.example/g01216/laws.FnExactChanceWithout", spec := "fnExactChanceWithout", apart := false }
def FnExactChanceWithoutSaid : Prop := fnExactChanceWithoutRow.holds Try.pinned (OpenSpec.ofChange fnExactChanceWithoutSpec)

/-- ITS FALSE NEIGHBOUR: 'it returns false'. Refute it at one input. -/
def fnExactChanceWithoutWrong : ChangeSpec := { name := "fnExactChanceWithout", fn := fun _ => fun
  | [d1, d2, d3] => { results := [.lit (.bool false)], args := [d1, d2, d3] }
  | _ => none }
def FnExactChanceWithoutWrongFalsely : Prop := fnExactChanceWithoutRow.holds Try.pinned (OpenSpec.ofChange fnExactChanceWithoutWrong)

/-- 'laws.FnExactChanceOfTimes': WHATEVER THE INPUT: true; the input reads as it did. -/
def fnExactChanceOfTimesSpec : ChangeSpec := { name := "fnExactChanceOfTimes", fn := fun _ => fun
  | [d1, d2, d3] => { results := [.lit (.bool true)], args := [d1, d2, d3] }
  | _ => none }
def fnExactChanceOfTimesRow : OpenClaim := { program := "ytgjdpiooocpmhaa", sum := "efc49436dfd7f0134de36071aa33821306b4a25003dbfb8e66a40bc82cd0883f", func := "loop.example/g01216/laws.FnExactChanceOfTimes", spec := "fnExactChanceOfTimes", apart := false }
def FnExactChanceOfTimesSaid : Prop := fnExactChanceOfTimesRow.holds Try.pinned (OpenSpec.ofChange fnExactChanceOfTimesSpec)

/-- ITS FALSE NEIGHBOUR: 'it returns false'. Refute it at one input. -/
def fnExactChanceOfTimesWrong : ChangeSpec := { name := "fnExactChanceOfTimes", fn := fun _ => fun
  | [d1, d2, d3] => { results := [.lit (.bool false)], args := [d1, d2, d3] }
  | _ => none }
def FnExactChanceOfTimesWrongFalsely : Prop := fnExactChanceOfTimesRow.holds Try.pinned (OpenSpec.ofChange fnExactChanceOfTimesWrong)

/-- 'laws.FnExactPipsMean': WHATEVER THE INPUT: true; the input reads as it did. -/
def fnExactPipsMeanSpec : ChangeSpec := { name := "fnExactPipsMean", fn := fun _ => fun
  | [d1, d2] => { results := [.lit (.bool true)], args := [d1, d2] }
  | _ => none }
def fnExactPipsMeanRow : OpenClaim := { program := "ytgjdpiooocpmhaa", sum := "efc49436dfd7f0134de36071aa33821306b4a25003dbfb8e66a40bc82cd0883f", func := "loop.example/g01216/laws.FnExactPipsMean", spec := "fnExactPipsMean", apart := false }
def FnExactPipsMeanSaid : Prop := fnExactPipsMeanRow.holds Try.pinned (OpenSpec.ofChange fnExactPipsMeanSpec)

/-- ITS FALSE NEIGHBOUR: 'it returns false'. Refute it at one input. -/
def fnExactPipsMeanWrong : ChangeSpec := { name := "fnExactPipsMean", fn := fun _ => fun
  | [d1, d2] => { results := [.lit (.bool false)], args := [d1, d2] }
  | _ => none }
def FnExactPipsMeanWrongFalsely : Prop := fnExactPipsMeanRow.holds Try.pinned (OpenSpec.ofChange fnExactPipsMeanWrong)

/-- 'laws.FnExactChanceOfBoth': WHATEVER THE INPUT: true; the input reads as it did. -/
def fnExactChanceOfBothSpec : ChangeSpec := { name := "fnExactChanceOfBoth", fn := fun _ => fun
  | [d1, d2, d3] => { results := [.lit (.bool true)], args := [d1, d2, d3] }
  | _ => none }
def fnExactChanceOfBothRow : OpenClaim := { program := "ytgjdpiooocpmhaa", sum := "efc49436dfd7f0134de36071aa33821306b4a25003dbfb8e66a40bc82cd0883f", func := "loop.example/g01216/laws.FnExactChanceOfBoth", spec := "fnExactChanceOfBoth", apart := false }
def FnExactChanceOfBothSaid : Prop := fnExactChanceOfBothRow.holds Try.pinned (OpenSpec.ofChange fnExactChanceOfBothSpec)

/-- ITS FALSE NEIGHBOUR: 'it returns false'. Refute it at one input. -/
def fnExactChanceOfBothWrong : ChangeSpec := { name := "fnExactChanceOfBoth", fn := fun _ => fun
  | [d1, d2, d3] => { results := [.lit (.bool false)], args := [d1, d2, d3] }
  | _ => none }
def FnExactChanceOfBothWrongFalsely : Prop := fnExactChanceOfBothRow.holds Try.pinned (OpenSpec.ofChange fnExactChanceOfBothWrong)

/-- 'laws.FnExactChanceOfOpening': WHATEVER THE INPUT: true; the input reads as it did. -/
def fnExactChanceOfOpeningSpec : ChangeSpec := { name := "fnExactChanceOfOpening", fn := fun _ => fun
  | [d1, d2] => { results := [.lit (.bool true)], args := [d1, d2] }
  | _ => none }
def fnExactChanceOfOpeningRow : OpenClaim := { program := "ytgjdpiooocpmhaa", sum := "efc49436dfd7f0134de36071aa33821306b4a25003dbfb8e66a40bc82cd0883f", func := "loop.example/g01216/laws.FnExactChanceOfOpening", spec := "fnExactChanceOfOpening", apart := false }
def FnExactChanceOfOpeningSaid : Prop := fnExactChanceOfOpeningRow.holds Try.pinned (OpenSpec.ofChange fnExactChanceOfOpeningSpec)

/-- ITS FALSE NEIGHBOUR: 'it returns false'. Refute it at one input. -/
def fnExactChanceOfOpeningWrong : ChangeSpec := { name := "fnExactChanceOfOpening", fn := fun _ => fun
  | [d1, d2] => { results := [.lit (.bool false)], args := [d1, d2] }
  | _ => none }
def FnExactChanceOfOpeningWrongFalsely : Prop := fnExactChanceOfOpeningRow.holds Try.pinned (OpenSpec.ofChange fnExactChanceOfOpeningWrong)

/-- 'laws.FnExactCompareRatios': WHATEVER THE INPUT: true; the input reads as it did. -/
def fnExactCompareRatiosSpec : ChangeSpec := { name := "fnExactCompareRatios", fn := fun _ => fun
  | [d1, d2] => { results := [.lit (.bool true)], args := [d1, d2] }
  | _ => none }
def fnExactCompareRatiosRow : OpenClaim := { program := "ytgjdpiooocpmhaa", sum := "efc49436dfd7f0134de36071aa33821306b4a25003dbfb8e66a40bc82cd0883f", func := "loop.example/g01216/laws.FnExactCompareRatios", spec := "fnExactCompareRatios", apart := false }
def FnExactCompareRatiosSaid : Prop := fnExactCompareRatiosRow.holds Try.pinned (OpenSpec.ofChange fnExactCompareRatiosSpec)

/-- ITS FALSE NEIGHBOUR: 'it returns false'. Refute it at one input. -/
def fnExactCompareRatiosWrong : ChangeSpec := { name := "fnExactCompareRatios", fn := fun _ => fun
  | [d1, d2] => { results := [.lit (.bool false)], args := [d1, d2] }
  | _ => none }
def FnExactCompareRatiosWrongFalsely : Prop := fnExactCompareRatiosRow.holds Try.pinned (OpenSpec.ofChange fnExactCompareRatiosWrong)

/-- 'laws.FnExactCountWithPips': WHATEVER THE INPUT: true; the input reads as it did. -/
def fnExactCountWithPipsSpec : ChangeSpec := { name := "fnExactCountWithPips", fn := fun _ => fun
  | [d1, d2, d3] => { results := [.lit (.bool true)], args := [d1, d2, d3] }
  | _ => none }
def fnExactCountWithPipsRow : OpenClaim := { program := "ytgjdpiooocpmhaa", sum := "efc49436dfd7f0134de36071aa33821306b4a25003dbfb8e66a40bc82cd0883f", func := "loop.example/g01216/laws.FnExactCountWithPips", spec := "fnExactCountWithPips", unfollowed := true, recurses := true, apart := false }
def FnExactCountWithPipsSaid : Prop := fnExactCountWithPipsRow.holds Try.pinned (OpenSpec.ofChange fnExactCountWithPipsSpec)

/-- ITS FALSE NEIGHBOUR: 'it returns false'. Refute it at one input. -/
def fnExactCountWithPipsWrong : ChangeSpec := { name := "fnExactCountWithPips", fn := fun _ => fun
  | [d1, d2, d3] => { results := [.lit (.bool false)], args := [d1, d2, d3] }
  | _ => none }
def FnExactCountWithPipsWrongFalsely : Prop := fnExactCountWithPipsRow.holds Try.pinned (OpenSpec.ofChange fnExactCountWithPipsWrong)

/-- 'laws.FnExactChanceOfPips': WHATEVER THE INPUT: true; the input reads as it did. -/
def fnExactChanceOfPipsSpec : ChangeSpec := { name := "fnExactChanceOfPips", fn := fun _ => fun
  | [d1, d2, d3] => { results := [.lit (.bool true)], args := [d1, d2, d3] }
  | _ => none }
def fnExactChanceOfPipsRow : OpenClaim := { program := "ytgjdpiooocpmhaa", sum := "efc49436dfd7f0134de36071aa33821306b4a25003dbfb8e66a40bc82cd0883f", func := "loop.example/g01216/laws.FnExactChanceOfPips", spec := "fnExactChanceOfPips", unfollowed := true, recurses := true, apart := false }
def FnExactChanceOfPipsSaid : Prop := fnExactChanceOfPipsRow.holds Try.pinned (OpenSpec.ofChange fnExactChanceOfPipsSpec)

/-- ITS FALSE NEIGHBOUR: 'it returns false'. Refute it at one input. -/
def fnExactChanceOfPipsWrong : ChangeSpec := { name := "fnExactChanceOfPips", fn := fun _ => fun
  | [d1, d2, d3] => { results := [.lit (.bool false)], args := [d1, d2, d3] }
  | _ => none }
def FnExactChanceOfPipsWrongFalsely : Prop := fnExactChanceOfPipsRow.holds Try.pinned (OpenSpec.ofChange fnExactChanceOfPipsWrong)

/- THE SECOND FORM. 'bulk': how many values and letters a reading holds, each counted each time it is reached (what is shared counts as often as it is met; a slice's spare places count too). A statement '..UptoSaid' is the law's where the arguments, and the package variables that the reading takes, are together of bulk at most 1048576: NARROWER than '..Said'. Prove '..Said' where nothing that the law and all that it calls make is longer than what came in: it says more and counts as full. Else prove '..UptoSaid'. A law counts once. -/
mutual
def uptoBulk {H : Type} : DataW H → Nat
  | .lit (.string bytes) => bytes.length + 1
  | .lit _ => 1
  | .nil => 1
  | .ptr d => uptoBulk d + 1
  | .slice elems spare => uptoBulkAll elems + uptoBulkAll spare + 1
  | .agg parts => uptoBulkAll parts + 1
  | .iface _ d => uptoBulk d + 1
  | .map entries => uptoBulkEntries entries + 1
  | .held _ => 1
def uptoBulkAll {H : Type} : List (DataW H) → Nat
  | [] => 0
  | d :: r => uptoBulk d + uptoBulkAll r
def uptoBulkEntries {H : Type} : List (Lit × DataW H) → Nat
  | [] => 0
  | x :: r => uptoBulkEntry x + uptoBulkEntries r
def uptoBulkEntry {H : Type} : Lit × DataW H → Nat
  | (.string bytes, d) => bytes.length + uptoBulk d + 1
  | (_, d) => uptoBulk d + 1
 end
def uptoSmall : (H : Type) → List (DataW H) → Bool := fun _ ds => decide (uptoBulkAll ds ≤ 1048576)
def OpenSpec.upto (s : _root_.Go.ChangeSpec) : _root_.Go.OpenSpec := { _root_.Go.OpenSpec.ofChange s with cond := some uptoSmall }

/-- 'laws.FnExactCountHands', WHERE WHAT IT READS IS OF BULK AT MOST 1048576: true; the input reads as it did. -/
def fnExactCountHandsUptoRow : OpenClaim := { program := "ytgjdpiooocpmhaa", sum := "efc49436dfd7f0134de36071aa33821306b4a25003dbfb8e66a40bc82cd0883f", func := "loop.example/g01216/laws.FnExactCountHands", spec := "fnExactCountHands", apart := false, narrowed := true }
def FnExactCountHandsUptoSaid : Prop := fnExactCountHandsUptoRow.holds Try.pinned (OpenSpec.upto fnExactCountHandsSpec)

/-- 'laws.FnExactChanceOfTile', WHERE WHAT IT READS IS OF BULK AT MOST 1048576: true; the input reads as it did. -/
def fnExactChanceOfTileUptoRow : OpenClaim := { program := "ytgjdpiooocpmhaa", sum := "efc49436dfd7f0134de36071aa33821306b4a25003dbfb8e66a40bc82cd0883f", func := "loop.example/g01216/laws.FnExactChanceOfTile", spec := "fnExactChanceOfTile", apart := false, narrowed := true }
def FnExactChanceOfTileUptoSaid : Prop := fnExactChanceOfTileUptoRow.holds Try.pinned (OpenSpec.upto fnExactChanceOfTileSpec)

/-- 'laws.FnExactChanceOfTiles', WHERE WHAT IT READS IS OF BULK AT MOST 1048576: true; the input reads as it did. -/
def fnExactChanceOfTilesUptoRow : OpenClaim := { program := "ytgjdpiooocpmhaa", sum := "efc49436dfd7f0134de36071aa33821306b4a25003dbfb8e66a40bc82cd0883f", func := "loop.example/g01216/laws.FnExactChanceOfTiles", spec := "fnExactChanceOfTiles", apart := false, narrowed := true }
def FnExactChanceOfTilesUptoSaid : Prop := fnExactChanceOfTilesUptoRow.holds Try.pinned (OpenSpec.upto fnExactChanceOfTilesSpec)

/-- 'laws.FnExactChanceOfDoubles', WHERE WHAT IT READS IS OF BULK AT MOST 1048576: true; the input reads as it did. -/
def fnExactChanceOfDoublesUptoRow : OpenClaim := { program := "ytgjdpiooocpmhaa", sum := "efc49436dfd7f0134de36071aa33821306b4a25003dbfb8e66a40bc82cd0883f", func := "loop.example/g01216/laws.FnExactChanceOfDoubles", spec := "fnExactChanceOfDoubles", apart := false, narrowed := true }
def FnExactChanceOfDoublesUptoSaid : Prop := fnExactChanceOfDoublesUptoRow.holds Try.pinned (OpenSpec.upto fnExactChanceOfDoublesSpec)

/-- 'laws.FnExactDoublesMean', WHERE WHAT IT READS IS OF BULK AT MOST 1048576: true; the input reads as it did. -/
def fnExactDoublesMeanUptoRow : OpenClaim := { program := "ytgjdpiooocpmhaa", sum := "efc49436dfd7f0134de36071aa33821306b4a25003dbfb8e66a40bc82cd0883f", func := "loop.example/g01216/laws.FnExactDoublesMean", spec := "fnExactDoublesMean", apart := false, narrowed := true }
def FnExactDoublesMeanUptoSaid : Prop := fnExactDoublesMeanUptoRow.holds Try.pinned (OpenSpec.upto fnExactDoublesMeanSpec)

/-- 'laws.FnExactChanceWithout', WHERE WHAT IT READS IS OF BULK AT MOST 1048576: true; the input reads as it did. -/
def fnExactChanceWithoutUptoRow : OpenClaim := { program := "ytgjdpiooocpmhaa", sum := "efc49436dfd7f0134de36071aa33821306b4a25003dbfb8e66a40bc82cd0883f", func := "loop.example/g01216/laws.FnExactChanceWithout", spec := "fnExactChanceWithout", apart := false, narrowed := true }
def FnExactChanceWithoutUptoSaid : Prop := fnExactChanceWithoutUptoRow.holds Try.pinned (OpenSpec.upto fnExactChanceWithoutSpec)

/-- 'laws.FnExactChanceOfTimes', WHERE WHAT IT READS IS OF BULK AT MOST 1048576: true; the input reads as it did. -/
def fnExactChanceOfTimesUptoRow : OpenClaim := { program := "ytgjdpiooocpmhaa", sum := "efc49436dfd7f0134de36071aa33821306b4a25003dbfb8e66a40bc82cd0883f", func := "loop.example/g01216/laws.FnExactChanceOfTimes", spec := "fnExactChanceOfTimes", apart := false, narrowed := true }
def FnExactChanceOfTimesUptoSaid : Prop := fnExactChanceOfTimesUptoRow.holds Try.pinned (OpenSpec.upto fnExactChanceOfTimesSpec)

/-- 'laws.FnExactPipsMean', WHERE WHAT IT READS IS OF BULK AT MOST 1048576: true; the input reads as it did. -/
def fnExactPipsMeanUptoRow : OpenClaim := { program := "ytgjdpiooocpmhaa", sum := "efc49436dfd7f0134de36071aa33821306b4a25003dbfb8e66a40bc82cd0883f", func := "loop.example/g01216/laws.FnExactPipsMean", spec := "fnExactPipsMean", apart := false, narrowed := true }
def FnExactPipsMeanUptoSaid : Prop := fnExactPipsMeanUptoRow.holds Try.pinned (OpenSpec.upto fnExactPipsMeanSpec)

/-- 'laws.FnExactChanceOfBoth', WHERE WHAT IT READS IS OF BULK AT MOST 1048576: true; the input reads as it did. -/
def fnExactChanceOfBothUptoRow : OpenClaim := { program := "ytgjdpiooocpmhaa", sum := "efc49436dfd7f0134de36071aa33821306b4a25003dbfb8e66a40bc82cd0883f", func := "loop.example/g01216/laws.FnExactChanceOfBoth", spec := "fnExactChanceOfBoth", apart := false, narrowed := true }
def FnExactChanceOfBothUptoSaid : Prop := fnExactChanceOfBothUptoRow.holds Try.pinned (OpenSpec.upto fnExactChanceOfBothSpec)

/-- 'laws.FnExactChanceOfOpening', WHERE WHAT IT READS IS OF BULK AT MOST 1048576: true; the input reads as it did. -/
def fnExactChanceOfOpeningUptoRow : OpenClaim := { program := "ytgjdpiooocpmhaa", sum := "efc49436dfd7f0134de36071aa33821306b4a25003dbfb8e66a40bc82cd0883f", func := "loop.example/g01216/laws.FnExactChanceOfOpening", spec := "fnExactChanceOfOpening", apart := false, narrowed := true }
def FnExactChanceOfOpeningUptoSaid : Prop := fnExactChanceOfOpeningUptoRow.holds Try.pinned (OpenSpec.upto fnExactChanceOfOpeningSpec)

/-- 'laws.FnExactCompareRatios', WHERE WHAT IT READS IS OF BULK AT MOST 1048576: true; the input reads as it did. -/
def fnExactCompareRatiosUptoRow : OpenClaim := { program := "ytgjdpiooocpmhaa", sum := "efc49436dfd7f0134de36071aa33821306b4a25003dbfb8e66a40bc82cd0883f", func := "loop.example/g01216/laws.FnExactCompareRatios", spec := "fnExactCompareRatios", apart := false, narrowed := true }
def FnExactCompareRatiosUptoSaid : Prop := fnExactCompareRatiosUptoRow.holds Try.pinned (OpenSpec.upto fnExactCompareRatiosSpec)

/-- 'laws.FnExactCountWithPips', WHERE WHAT IT READS IS OF BULK AT MOST 1048576: true; the input reads as it did. -/
def fnExactCountWithPipsUptoRow : OpenClaim := { program := "ytgjdpiooocpmhaa", sum := "efc49436dfd7f0134de36071aa33821306b4a25003dbfb8e66a40bc82cd0883f", func := "loop.example/g01216/laws.FnExactCountWithPips", spec := "fnExactCountWithPips", unfollowed := true, recurses := true, apart := false, narrowed := true }
def FnExactCountWithPipsUptoSaid : Prop := fnExactCountWithPipsUptoRow.holds Try.pinned (OpenSpec.upto fnExactCountWithPipsSpec)

/-- 'laws.FnExactChanceOfPips', WHERE WHAT IT READS IS OF BULK AT MOST 1048576: true; the input reads as it did. -/
def fnExactChanceOfPipsUptoRow : OpenClaim := { program := "ytgjdpiooocpmhaa", sum := "efc49436dfd7f0134de36071aa33821306b4a25003dbfb8e66a40bc82cd0883f", func := "loop.example/g01216/laws.FnExactChanceOfPips", spec := "fnExactChanceOfPips", unfollowed := true, recurses := true, apart := false, narrowed := true }
def FnExactChanceOfPipsUptoSaid : Prop := fnExactChanceOfPipsUptoRow.holds Try.pinned (OpenSpec.upto fnExactChanceOfPipsSpec)

end Rows
end Go.Proofs.Ytgjdpiooocpmhaa

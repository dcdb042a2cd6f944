/-
  No cell of these rows narrows 'for every input' (looked for: loops, veiled, ifaces, maps, wideKeys, modest, calm, conditions, laid).
  DERIVED. THE GIVEN ROWS OF THIS SEAT. 12 by the template 'for every input the law returns true; each argument reads behind the call as it read before'; 0 by the template 'total and deterministic' (their statements: YtjdnkcdnppcbhaaTotals.lean).
  GIVEN WITH THE SEED: the statements are not yours to turn. If you find one false, say at which input.
  Laid BY PROGRAM, IN A SANDBOX (cutbox-rows.mjs): the forced cells as the released guide's own fill.sh prints them over the translation f523c018cbf5c13c… (all of the seat's roots in one cut). By AI agents, Wed Nov 11 2026. No macro, syntax, notation, axiom, sorry.
-/
import Derived.Test.YtjdnkcdnppcbhaaChecked
import GoSem.Claim
import GoSem.ClaimJoined
import GoSem.ClaimMapViews
import Derived.JoinedTies
import Derived.KernelRfl
namespace Go.Proofs.Ytjdnkcdnppcbhaa
/- THE CELL 'sum', in the pinned program and in every row, IS THE sha256 OF THE DUMP (.gsa) THAT YtjdnkcdnppcbhaaProg.lean LOADS. Nothing in Lean hashes anything: it is a label: what it is worth is what the hold of that sum in a sandbox is worth. -/
noncomputable def Try.pinned : Pinned := { name := "ytjdnkcdnppcbhaa", sum := "f523c018cbf5c13c89e6093a8b858458f0b4b61338ab4538f9e13f1a52460b7c", checked := Try.checked }
namespace Rows
def none {H : Type} : Left H := { results := [], args := [] }

/-- 'laws.FnExactIsPuzzle': WHATEVER THE INPUT: true; the input reads as it did. -/
def fnExactIsPuzzleSpec : ChangeSpec := { name := "fnExactIsPuzzle", fn := fun _ => fun
  | [d] => { results := [.lit (.bool true)], args := [d] }
  | _ => none }
def fnExactIsPuzzleRow : OpenClaim := { program := "ytjdnkcdnppcbhaa", sum := "f523c018cbf5c13c89e6093a8b858458f0b4b61338ab4538f9e13f1a52460b7c", func := "loop.example/g01216/laws.FnExactIsPuzzle", spec := "fnExactIsPuzzle", unfollowed := true, recurses := true, plainKeys := false, apart := false }
def FnExactIsPuzzleSaid : Prop := fnExactIsPuzzleRow.holds Try.pinned (OpenSpec.ofChange fnExactIsPuzzleSpec)

/-- ITS FALSE NEIGHBOUR: 'it returns false'. Refute it at one input. -/
def fnExactIsPuzzleWrong : ChangeSpec := { name := "fnExactIsPuzzle", fn := fun _ => fun
  | [d] => { results := [.lit (.bool false)], args := [d] }
  | _ => none }
def FnExactIsPuzzleWrongFalsely : Prop := fnExactIsPuzzleRow.holds Try.pinned (OpenSpec.ofChange fnExactIsPuzzleWrong)

/-- 'laws.FnExactCountGaps': WHATEVER THE INPUT: true; the input reads as it did. -/
def fnExactCountGapsSpec : ChangeSpec := { name := "fnExactCountGaps", fn := fun _ => fun
  | [d] => { results := [.lit (.bool true)], args := [d] }
  | _ => none }
def fnExactCountGapsRow : OpenClaim := { program := "ytjdnkcdnppcbhaa", sum := "f523c018cbf5c13c89e6093a8b858458f0b4b61338ab4538f9e13f1a52460b7c", func := "loop.example/g01216/laws.FnExactCountGaps", spec := "fnExactCountGaps", unfollowed := true, recurses := true, plainKeys := false, apart := false }
def FnExactCountGapsSaid : Prop := fnExactCountGapsRow.holds Try.pinned (OpenSpec.ofChange fnExactCountGapsSpec)

/-- ITS FALSE NEIGHBOUR: 'it returns false'. Refute it at one input. -/
def fnExactCountGapsWrong : ChangeSpec := { name := "fnExactCountGaps", fn := fun _ => fun
  | [d] => { results := [.lit (.bool false)], args := [d] }
  | _ => none }
def FnExactCountGapsWrongFalsely : Prop := fnExactCountGapsRow.holds Try.pinned (OpenSpec.ofChange fnExactCountGapsWrong)

/-- 'laws.FnExactIsSolution': WHATEVER THE INPUT: true; the input reads as it did. -/
def fnExactIsSolutionSpec : ChangeSpec := { name := "fnExactIsSolution", fn := fun _ => fun
  | [d1, d2] => { results := [.lit (.bool true)], args := [d1, d2] }
  | _ => none }
def fnExactIsSolutionRow : OpenClaim := { program := "ytjdnkcdnppcbhaa", sum := "f523c018cbf5c13c89e6093a8b858458f0b4b61338ab4538f9e13f1a52460b7c", func := "loop.example/g01216/laws.FnExactIsSolution", spec := "fnExactIsSolution", unfollowed := true, recurses := true, plainKeys := false, apart := false }
def FnExactIsSolutionSaid : Prop := fnExactIsSolutionRow.holds Try.pinned (OpenSpec.ofChange fnExactIsSolutionSpec)

/-- ITS FALSE NEIGHBOUR: 'it returns false'. Refute it at one input. -/
def fnExactIsSolutionWrong : ChangeSpec := { name := "fnExactIsSolution", fn := fun _ => fun
  | [d1, d2] => { results := [.lit (.bool false)], args := [d1, d2] }
  | _ => none }
def FnExactIsSolutionWrongFalsely : Prop := fnExactIsSolutionRow.holds Try.pinned (OpenSpec.ofChange fnExactIsSolutionWrong)

/-- 'laws.FnExactFillGap': WHATEVER THE INPUT: true; the input reads as it did. -/
def fnExactFillGapSpec : ChangeSpec := { name := "fnExactFillGap", fn := fun _ => fun
  | [d1, d2, d3] => { results := [.lit (.bool true)], args := [d1, d2, d3] }
  | _ => none }
def fnExactFillGapRow : OpenClaim := { program := "ytjdnkcdnppcbhaa", sum := "f523c018cbf5c13c89e6093a8b858458f0b4b61338ab4538f9e13f1a52460b7c", func := "loop.example/g01216/laws.FnExactFillGap", spec := "fnExactFillGap", unfollowed := true, recurses := true, plainKeys := false, apart := false }
def FnExactFillGapSaid : Prop := fnExactFillGapRow.holds Try.pinned (OpenSpec.ofChange fnExactFillGapSpec)

/-- ITS FALSE NEIGHBOUR: 'it returns false'. Refute it at one input. -/
def fnExactFillGapWrong : ChangeSpec := { name := "fnExactFillGap", fn := fun _ => fun
  | [d1, d2, d3] => { results := [.lit (.bool false)], args := [d1, d2, d3] }
  | _ => none }
def FnExactFillGapWrongFalsely : Prop := fnExactFillGapRow.holds Try.pinned (OpenSpec.ofChange fnExactFillGapWrong)

/-- 'laws.FnExactOpenGap': WHATEVER THE INPUT: true; the input reads as it did. -/
def fnExactOpenGapSpec : ChangeSpec := { name := "fnExactOpenGap", fn := fun _ => fun
  | [d1, d2] => { results := [.lit (.bool true)], args := [d1, d2] }
  | _ => none }
def fnExactOpenGapRow : OpenClaim := { program := "ytjdnkcdnppcbhaa", sum := "f523c018cbf5c13c89e6093a8b858458f0b4b61338ab4538f9e13f1a52460b7c", func := "loop.example/g01216/laws.FnExactOpenGap", spec := "fnExactOpenGap", unfollowed := true, recurses := true, plainKeys := false, apart := false }
def FnExactOpenGapSaid : Prop := fnExactOpenGapRow.holds Try.pinned (OpenSpec.ofChange fnExactOpenGapSpec)

/-- ITS FALSE NEIGHBOUR: 'it returns false'. Refute it at one input. -/
def fnExactOpenGapWrong : ChangeSpec := { name := "fnExactOpenGap", fn := fun _ => fun
  | [d1, d2] => { results := [.lit (.bool false)], args := [d1, d2] }
  | _ => none }
def FnExactOpenGapWrongFalsely : Prop := fnExactOpenGapRow.holds Try.pinned (OpenSpec.ofChange fnExactOpenGapWrong)

/-- 'laws.FnExactMakePuzzle': WHATEVER THE INPUT: true; the input reads as it did. -/
def fnExactMakePuzzleSpec : ChangeSpec := { name := "fnExactMakePuzzle", fn := fun _ => fun
  | [d1, d2] => { results := [.lit (.bool true)], args := [d1, d2] }
  | _ => none }
def fnExactMakePuzzleRow : OpenClaim := { program := "ytjdnkcdnppcbhaa", sum := "f523c018cbf5c13c89e6093a8b858458f0b4b61338ab4538f9e13f1a52460b7c", func := "loop.example/g01216/laws.FnExactMakePuzzle", spec := "fnExactMakePuzzle", unfollowed := true, recurses := true, plainKeys := false, apart := false }
def FnExactMakePuzzleSaid : Prop := fnExactMakePuzzleRow.holds Try.pinned (OpenSpec.ofChange fnExactMakePuzzleSpec)

/-- ITS FALSE NEIGHBOUR: 'it returns false'. Refute it at one input. -/
def fnExactMakePuzzleWrong : ChangeSpec := { name := "fnExactMakePuzzle", fn := fun _ => fun
  | [d1, d2] => { results := [.lit (.bool false)], args := [d1, d2] }
  | _ => none }
def FnExactMakePuzzleWrongFalsely : Prop := fnExactMakePuzzleRow.holds Try.pinned (OpenSpec.ofChange fnExactMakePuzzleWrong)

/-- 'laws.FnExactTurnPuzzle': WHATEVER THE INPUT: true; the input reads as it did. -/
def fnExactTurnPuzzleSpec : ChangeSpec := { name := "fnExactTurnPuzzle", fn := fun _ => fun
  | [d] => { results := [.lit (.bool true)], args := [d] }
  | _ => none }
def fnExactTurnPuzzleRow : OpenClaim := { program := "ytjdnkcdnppcbhaa", sum := "f523c018cbf5c13c89e6093a8b858458f0b4b61338ab4538f9e13f1a52460b7c", func := "loop.example/g01216/laws.FnExactTurnPuzzle", spec := "fnExactTurnPuzzle", unfollowed := true, recurses := true, plainKeys := false, apart := false }
def FnExactTurnPuzzleSaid : Prop := fnExactTurnPuzzleRow.holds Try.pinned (OpenSpec.ofChange fnExactTurnPuzzleSpec)

/-- ITS FALSE NEIGHBOUR: 'it returns false'. Refute it at one input. -/
def fnExactTurnPuzzleWrong : ChangeSpec := { name := "fnExactTurnPuzzle", fn := fun _ => fun
  | [d] => { results := [.lit (.bool false)], args := [d] }
  | _ => none }
def FnExactTurnPuzzleWrongFalsely : Prop := fnExactTurnPuzzleRow.holds Try.pinned (OpenSpec.ofChange fnExactTurnPuzzleWrong)

/-- 'laws.FnExactRenamePuzzle': WHATEVER THE INPUT: true; the input reads as it did. -/
def fnExactRenamePuzzleSpec : ChangeSpec := { name := "fnExactRenamePuzzle", fn := fun _ => fun
  | [d1, d2] => { results := [.lit (.bool true)], args := [d1, d2] }
  | _ => none }
def fnExactRenamePuzzleRow : OpenClaim := { program := "ytjdnkcdnppcbhaa", sum := "f523c018cbf5c13c89e6093a8b858458f0b4b61338ab4538f9e13f1a52460b7c", func := "loop.example/g01216/laws.FnExactRenamePuzzle", spec := "fnExactRenamePuzzle", unfollowed := true, recurses := true, plainKeys := false, apart := false }
def FnExactRenamePuzzleSaid : Prop := fnExactRenamePuzzleRow.holds Try.pinned (OpenSpec.ofChange fnExactRenamePuzzleSpec)

/-- ITS FALSE NEIGHBOUR: 'it returns false'. Refute it at one input. -/
def fnExactRenamePuzzleWrong : ChangeSpec := { name := "fnExactRenamePuzzle", fn := fun _ => fun
  | [d1, d2] => { results := [.lit (.bool false)], args := [d1, d2] }
  | _ => none }
def FnExactRenamePuzzleWrongFalsely : Prop := fnExactRenamePuzzleRow.holds Try.pinned (OpenSpec.ofChange fnExactRenamePuzzleWrong)

/-- 'laws.FnExactDealHands': WHATEVER THE INPUT: true; the input reads as it did. -/
def fnExactDealHandsSpec : ChangeSpec := { name := "fnExactDealHands", fn := fun _ => fun
  | [d1, d2, d3] => { results := [.lit (.bool true)], args := [d1, d2, d3] }
  | _ => none }
def fnExactDealHandsRow : OpenClaim := { program := "ytjdnkcdnppcbhaa", sum := "f523c018cbf5c13c89e6093a8b858458f0b4b61338ab4538f9e13f1a52460b7c", func := "loop.example/g01216/laws.FnExactDealHands", spec := "fnExactDealHands", unfollowed := true, recurses := true, plainKeys := false, apart := false }
def FnExactDealHandsSaid : Prop := fnExactDealHandsRow.holds Try.pinned (OpenSpec.ofChange fnExactDealHandsSpec)

/-- ITS FALSE NEIGHBOUR: 'it returns false'. Refute it at one input. -/
def fnExactDealHandsWrong : ChangeSpec := { name := "fnExactDealHands", fn := fun _ => fun
  | [d1, d2, d3] => { results := [.lit (.bool false)], args := [d1, d2, d3] }
  | _ => none }
def FnExactDealHandsWrongFalsely : Prop := fnExactDealHandsRow.holds Try.pinned (OpenSpec.ofChange fnExactDealHandsWrong)

/-- 'laws.FnExactCanSweep': WHATEVER THE INPUT: true; the input reads as it did. -/
def fnExactCanSweepSpec : ChangeSpec := { name := "fnExactCanSweep", fn := fun _ => fun
  | [d] => { results := [.lit (.bool true)], args := [d] }
  | _ => none }
def fnExactCanSweepRow : OpenClaim := { program := "ytjdnkcdnppcbhaa", sum := "f523c018cbf5c13c89e6093a8b858458f0b4b61338ab4538f9e13f1a52460b7c", func := "loop.example/g01216/laws.FnExactCanSweep", spec := "fnExactCanSweep", unfollowed := true, recurses := true, plainKeys := false, apart := false }
def FnExactCanSweepSaid : Prop := fnExactCanSweepRow.holds Try.pinned (OpenSpec.ofChange fnExactCanSweepSpec)

/-- ITS FALSE NEIGHBOUR: 'it returns false'. Refute it at one input. -/
def fnExactCanSweepWrong : ChangeSpec := { name := "fnExactCanSweep", fn := fun _ => fun
  | [d] => { results := [.lit (.bool false)], args := [d] }
  | _ => none }
def FnExactCanSweepWrongFalsely : Prop := fnExactCanSweepRow.holds Try.pinned (OpenSpec.ofChange fnExactCanSweepWrong)

/-- 'laws.FnExactMostFives': WHATEVER THE INPUT: true; the input reads as it did. -/
def fnExactMostFivesSpec : ChangeSpec := { name := "fnExactMostFives", fn := fun _ => fun
  | [d1, d2] => { results := [.lit (.bool true)], args := [d1, d2] }
  | _ => none }
def fnExactMostFivesRow : OpenClaim := { program := "ytjdnkcdnppcbhaa", sum := "f523c018cbf5c13c89e6093a8b858458f0b4b61338ab4538f9e13f1a52460b7c", func := "loop.example/g01216/laws.FnExactMostFives", spec := "fnExactMostFives", unfollowed := true, recurses := true, plainKeys := false, apart := false }
def FnExactMostFivesSaid : Prop := fnExactMostFivesRow.holds Try.pinned (OpenSpec.ofChange fnExactMostFivesSpec)

/-- ITS FALSE NEIGHBOUR: 'it returns false'. Refute it at one input. -/
def fnExactMostFivesWrong : ChangeSpec := { name := "fnExactMostFives", fn := fun _ => fun
  | [d1, d2] => { results := [.lit (.bool false)], args := [d1, d2] }
  | _ => none }
def FnExactMostFivesWrongFalsely : Prop := fnExactMostFivesRow.holds Try.pinned (OpenSpec.ofChange fnExactMostFivesWrong)

/-- 'laws.FnExactCountWithPips': WHATEVER THE INPUT: true; the input reads as it did. -/
def fnExactCountWithPipsSpec : ChangeSpec := { name := "fnExactCountWithPips", fn := fun _ => fun
  | [d1, d2, d3] => { results := [.lit (.bool true)], args := [d1, d2, d3] }
  | _ => none }
def fnExactCountWithPipsRow : OpenClaim := { program := "ytjdnkcdnppcbhaa", sum := "f523c018cbf5c13c89e6093a8b858458f0b4b61338ab4538f9e13f1a52460b7c", func := "loop.example/g01216/laws.FnExactCountWithPips", spec := "fnExactCountWithPips", unfollowed := true, recurses := true, plainKeys := false, apart := false }
def FnExactCountWithPipsSaid : Prop := fnExactCountWithPipsRow.holds Try.pinned (OpenSpec.ofChange fnExactCountWithPipsSpec)

/-- ITS FALSE NEIGHBOUR: 'it returns false'. Refute it at one input. -/
def fnExactCountWithPipsWrong : ChangeSpec := { name := "fnExactCountWithPips", fn := fun _ => fun
  | [d1, d2, d3] => { results := [.lit (.bool false)], args := [d1, d2, d3] }
  | _ => none }
def FnExactCountWithPipsWrongFalsely : Prop := fnExactCountWithPipsRow.holds Try.pinned (OpenSpec.ofChange fnExactCountWithPipsWrong)

/- THE SECOND FORM. 'bulk': how many values and letters a reading holds, each counted each time it is reached (what is shared counts as often as it is met; a slice's spare places count too). A statement '..UptoSaid' is the law's where the arguments, and the package variables that the reading takes, are together of bulk at most 1048576: NARROWER than '..Said'. Prove '..Said' where nothing that the law and all that it calls make is longer than what came in: it says more and counts as full. Else prove '..UptoSaid'. A law counts once. -/
mutual
def uptoBulk {H : Type} : DataW H → Nat
  | .lit (.string bytes) => bytes.length + 1
  | .lit _ => 1
  | .nil => 1
  | .ptr d => uptoBulk d + 1
  | .slice elems spare => uptoBulkAll elems + uptoBulkAll spare + 1
  | .agg parts => uptoBulkAll parts + 1
  | .iface _ d => uptoBulk d + 1
  | .map entries => uptoBulkEntries entries + 1
  | .held _ => 1
def uptoBulkAll {H : Type} : List (DataW H) → Nat
  | [] => 0
  | d :: r => uptoBulk d + uptoBulkAll r
def uptoBulkEntries {H : Type} : List (Lit × DataW H) → Nat
  | [] => 0
  | x :: r => uptoBulkEntry x + uptoBulkEntries r
def uptoBulkEntry {H : Type} : Lit × DataW H → Nat
  | (.string bytes, d) => bytes.length + uptoBulk d + 1
  | (_, d) => uptoBulk d + 1
 end
def uptoSmall : (H : Type) → List (DataW H) → Bool := fun _ ds => decide (uptoBulkAll ds ≤ 1048576)
def OpenSpec.upto (s : _root_.Go.ChangeSpec) : _root_.Go.OpenSpec := { _root_.Go.OpenSpec.ofChange s with cond := some uptoSmall }

/-- 'laws.FnExactIsPuzzle', WHERE WHAT IT READS IS OF BULK AT MOST 1048576: true; the input reads as it did. -/
def fnExactIsPuzzleUptoRow : OpenClaim := { program := "ytjdnkcdnppcbhaa", sum := "f523c018cbf5c13c89e6093a8b858458f0b4b61338ab4538f9e13f1a52460b7c", func := "loop.example/g01216/laws.FnExactIsPuzzle", spec := "fnExactIsPuzzle", unfollowed := true, recurses := true, plainKeys := false, apart := false, narrowed := true }
def FnExactIsPuzzleUptoSaid : Prop := fnExactIsPuzzleUptoRow.holds Try.pinned (OpenSpec.upto fnExactIsPuzzleSpec)

/-- 'laws.FnExactCountGaps', WHERE WHAT IT READS IS OF BULK AT MOST 1048576: true; the input reads as it did. -/
def fnExactCountGapsUptoRow : OpenClaim := { program := "ytjdnkcdnppcbhaa", sum := "f523c018cbf5c13c89e6093a8b858458f0b4b61338ab4538f9e13f1a52460b7c", func := "loop.example/g01216/laws.FnExactCountGaps", spec := "fnExactCountGaps", unfollowed := true, recurses := true, plainKeys := false, apart := false, narrowed := true }
def FnExactCountGapsUptoSaid : Prop := fnExactCountGapsUptoRow.holds Try.pinned (OpenSpec.upto fnExactCountGapsSpec)

/-- 'laws.FnExactIsSolution', WHERE WHAT IT READS IS OF BULK AT MOST 1048576: true; the input reads as it did. -/
def fnExactIsSolutionUptoRow : OpenClaim := { program := "ytjdnkcdnppcbhaa", sum := "f523c018cbf5c13c89e6093a8b858458f0b4b61338ab4538f9e13f1a52460b7c", func := "loop.example/g01216/laws.FnExactIsSolution", spec := "fnExactIsSolution", unfollowed := true, recurses := true, plainKeys := false, apart := false, narrowed := true }
def FnExactIsSolutionUptoSaid : Prop := fnExactIsSolutionUptoRow.holds Try.pinned (OpenSpec.upto fnExactIsSolutionSpec)

/-- 'laws.FnExactFillGap', WHERE WHAT IT READS IS OF BULK AT MOST 1048576: true; the input reads as it did. -/
def fnExactFillGapUptoRow : OpenClaim := { program := "ytjdnkcdnppcbhaa", sum := "f523c018cbf5c13c89e6093a8b858458f0b4b61338ab4538f9e13f1a52460b7c", func := "loop.example/g01216/laws.FnExactFillGap", spec := "fnExactFillGap", unfollowed := true, recurses := true, plainKeys := false, apart := false, narrowed := true }
def FnExactFillGapUptoSaid : Prop := fnExactFillGapUptoRow.holds Try.pinned (OpenSpec.upto fnExactFillGapSpec)

/-- 'laws.FnExactOpenGap', WHERE WHAT IT READS IS OF BULK AT MOST 1048576: true; the input reads as it did. -/
def fnExactOpenGapUptoRow : OpenClaim := { program := "ytjdnkcdnppcbhaa", sum := "f523c018cbf5c13c89e6093a8b858458f0b4b61338ab4538f9e13f1a52460b7c", func := "loop.example/g01216/laws.FnExactOpenGap", spec := "fnExactOpenGap", unfollowed := true, recurses := true, plainKeys := false, apart := false, narrowed := true }
def FnExactOpenGapUptoSaid : Prop := fnExactOpenGapUptoRow.holds Try.pinned (OpenSpec.upto fnExactOpenGapSpec)

/-- 'laws.FnExactMakePuzzle', WHERE WHAT IT READS IS OF BULK AT MOST 1048576: true; the input reads as it did. -/
def fnExactMakePuzzleUptoRow : OpenClaim := { program := "ytjdnkcdnppcbhaa", sum := "f523c018cbf5c13c89e6093a8b858458f0b4b61338ab4538f9e13f1a52460b7c", func := "loop.example/g01216/laws.FnExactMakePuzzle", spec := "fnExactMakePuzzle", unfollowed := true, recurses := true, plainKeys := false, apart := false, narrowed := true }
def FnExactMakePuzzleUptoSaid : Prop := fnExactMakePuzzleUptoRow.holds Try.pinned (OpenSpec.upto fnExactMakePuzzleSpec)

/-- 'laws.FnExactTurnPuzzle', WHERE WHAT IT READS IS OF BULK AT MOST 1048576: true; the input reads as it did. -/
def fnExactTurnPuzzleUptoRow : OpenClaim := { program := "ytjdnkcdnppcbhaa", sum := "f523c018cbf5c13c89e6093a8b858458f0b4b61338ab4538f9e13f1a52460b7c", func := "loop.example/g01216/laws.FnExactTurnPuzzle", spec := "fnExactTurnPuzzle", unfollowed := true, recurses := true, plainKeys := false, apart := false, narrowed := true }
def FnExactTurnPuzzleUptoSaid : Prop := fnExactTurnPuzzleUptoRow.holds Try.pinned (OpenSpec.upto fnExactTurnPuzzleSpec)

/-- 'laws.FnExactRenamePuzzle', WHERE WHAT IT READS IS OF BULK AT MOST 1048576: true; the input reads as it did. -/
def fnExactRenamePuzzleUptoRow : OpenClaim := { program := "ytjdnkcdnppcbhaa", sum := "f523c018cbf5c13c89e6093a8b858458f0b4b61338ab4538f9e13f1a52460b7c", func := "loop.example/g01216/laws.FnExactRenamePuzzle", spec := "fnExactRenamePuzzle", unfollowed := true, recurses := true, plainKeys := false, apart := false, narrowed := true }
def FnExactRenamePuzzleUptoSaid : Prop := fnExactRenamePuzzleUptoRow.holds Try.pinned (OpenSpec.upto fnExactRenamePuzzleSpec)

/-- 'laws.FnExactDealHands', WHERE WHAT IT READS IS OF BULK AT MOST 1048576: true; the input reads as it did. -/
def fnExactDealHandsUptoRow : OpenClaim := { program := "ytjdnkcdnppcbhaa", sum := "f523c018cbf5c13c89e6093a8b858458f0b4b61338ab4538f9e13f1a52460b7c", func := "loop.example/g01216/laws.FnExactDealHands", spec := "fnExactDealHands", unfollowed := true, recurses := true, plainKeys := false, apart := false, narrowed := true }
def FnExactDealHandsUptoSaid : Prop := fnExactDealHandsUptoRow.holds Try.pinned (OpenSpec.upto fnExactDealHandsSpec)

/-- 'laws.FnExactCanSweep', WHERE WHAT IT READS IS OF BULK AT MOST 1048576: true; the input reads as it did. -/
def fnExactCanSweepUptoRow : OpenClaim := { program := "ytjdnkcdnppcbhaa", sum := "f523c018cbf5c13c89e6093a8b858458f0b4b61338ab4538f9e13f1a52460b7c", func := "loop.example/g01216/laws.FnExactCanSweep", spec := "fnExactCanSweep", unfollowed := true, recurses := true, plainKeys := false, apart := false, narrowed := true }
def FnExactCanSweepUptoSaid : Prop := fnExactCanSweepUptoRow.holds Try.pinned (OpenSpec.upto fnExactCanSweepSpec)

/-- 'laws.FnExactMostFives', WHERE WHAT IT READS IS OF BULK AT MOST 1048576: true; the input reads as it did. -/
def fnExactMostFivesUptoRow : OpenClaim := { program := "ytjdnkcdnppcbhaa", sum := "f523c018cbf5c13c89e6093a8b858458f0b4b61338ab4538f9e13f1a52460b7c", func := "loop.example/g01216/laws.FnExactMostFives", spec := "fnExactMostFives", unfollowed := true, recurses := true, plainKeys := false, apart := false, narrowed := true }
def FnExactMostFivesUptoSaid : Prop := fnExactMostFivesUptoRow.holds Try.pinned (OpenSpec.upto fnExactMostFivesSpec)

/-- 'laws.FnExactCountWithPips', WHERE WHAT IT READS IS OF BULK AT MOST 1048576: true; the input reads as it did. -/
def fnExactCountWithPipsUptoRow : OpenClaim := { program := "ytjdnkcdnppcbhaa", sum := "f523c018cbf5c13c89e6093a8b858458f0b4b61338ab4538f9e13f1a52460b7c", func := "loop.example/g01216/laws.FnExactCountWithPips", spec := "fnExactCountWithPips", unfollowed := true, recurses := true, plainKeys := false, apart := false, narrowed := true }
def FnExactCountWithPipsUptoSaid : Prop := fnExactCountWithPipsUptoRow.holds Try.pinned (OpenSpec.upto fnExactCountWithPipsSpec)

end Rows
end Go.Proofs.Ytjdnkcdnppcbhaa

/-
  No cell of these rows narrows 'for every input' (looked for: loops, veiled, ifaces, maps, wideKeys, modest, calm, conditions, laid).
  DERIVED. THE GIVEN ROWS OF THIS SEAT. 11 by the template 'for every input the law returns true; each argument reads behind the call as it read before'; 0 by the template 'total and deterministic' (their statements: YtepedcdnaodhcaaTotals.lean).
  GIVEN WITH THE SEED: the statements are not yours to turn. If you find one false, say at which input.
  Laid BY PROGRAM, IN A SANDBOX (cutbox-rows.mjs): the forced cells as the released guide's own fill.sh prints them over the translation e62270275ff019d6… (all of the seat's roots in one cut). By AI agents, Wed Nov 11 2026. No macro, syntax, notation, axiom, sorry.
-/
import Derived.Test.YtepedcdnaodhcaaChecked
import GoSem.Claim
import GoSem.ClaimJoined
import GoSem.ClaimMapViews
import Derived.JoinedTies
import Derived.KernelRfl
namespace Go.Proofs.Ytepedcdnaodhcaa
/- THE CELL 'sum', in the pinned program and in every row, IS THE sha256 OF THE DUMP (.gsa) THAT YtepedcdnaodhcaaProg.lean LOADS. Nothing in Lean hashes anything: it is a label: what it is worth is what the hold of that sum in a sandbox is worth. -/
noncomputable def Try.pinned : Pinned := { name := "ytepedcdnaodhcaa", sum := "e62270275ff019d6601e7da2f7ea79009708986abe52c00cfe0bd2cd82af8bef", checked := Try.checked }
namespace Rows
def none {H : Type} : Left H := { results := [], args := [] }

/-- 'laws.FnExactIsGame': WHATEVER THE INPUT: true; the input reads as it did. -/
def fnExactIsGameSpec : ChangeSpec := { name := "fnExactIsGame", fn := fun _ => fun
  | [d] => { results := [.lit (.bool true)], args := [d] }
  | _ => none }
def fnExactIsGameRow : OpenClaim := { program := "ytepedcdnaodhcaa", sum := "e62270275ff019d6601e7da2f7ea79009708986abe52c00cfe0bd2cd82af8bef", func := "loop.example/g01216/laws.FnExactIsGame", spec := "fnExactIsGame", plainKeys := false, apart := false }
def FnExactIsGameSaid : Prop := fnExactIsGameRow.holds Try.pinned (OpenSpec.ofChange fnExactIsGameSpec)

/-- ITS FALSE NEIGHBOUR: 'it returns false'. Refute it at one input. -/
def fnExactIsGameWrong : ChangeSpec := { name := "fnExactIsGame", fn := fun _ => fun
  | [d] => { results := [.lit (.bool false)], args := [d] }
  | _ => none }
def FnExactIsGameWrongFalsely : Prop := fnExactIsGameRow.holds Try.pinned (OpenSpec.ofChange fnExactIsGameWrong)

/-- 'laws.FnExactGameOf': WHATEVER THE INPUT: true; the input reads as it did. -/
def fnExactGameOfSpec : ChangeSpec := { name := "fnExactGameOf", fn := fun _ => fun
  | [d1, d2] => { results := [.lit (.bool true)], args := [d1, d2] }
  | _ => none }
def fnExactGameOfRow : OpenClaim := { program := "ytepedcdnaodhcaa", sum := "e62270275ff019d6601e7da2f7ea79009708986abe52c00cfe0bd2cd82af8bef", func := "loop.example/g01216/laws.FnExactGameOf", spec := "fnExactGameOf", unfollowed := true, recurses := true, plainKeys := false, apart := false }
def FnExactGameOfSaid : Prop := fnExactGameOfRow.holds Try.pinned (OpenSpec.ofChange fnExactGameOfSpec)

/-- ITS FALSE NEIGHBOUR: 'it returns false'. Refute it at one input. -/
def fnExactGameOfWrong : ChangeSpec := { name := "fnExactGameOf", fn := fun _ => fun
  | [d1, d2] => { results := [.lit (.bool false)], args := [d1, d2] }
  | _ => none }
def FnExactGameOfWrongFalsely : Prop := fnExactGameOfRow.holds Try.pinned (OpenSpec.ofChange fnExactGameOfWrong)

/-- 'laws.FnExactIsOver': WHATEVER THE INPUT: true; the input reads as it did. -/
def fnExactIsOverSpec : ChangeSpec := { name := "fnExactIsOver", fn := fun _ => fun
  | [d] => { results := [.lit (.bool true)], args := [d] }
  | _ => none }
def fnExactIsOverRow : OpenClaim := { program := "ytepedcdnaodhcaa", sum := "e62270275ff019d6601e7da2f7ea79009708986abe52c00cfe0bd2cd82af8bef", func := "loop.example/g01216/laws.FnExactIsOver", spec := "fnExactIsOver", unfollowed := true, recurses := true, plainKeys := false, apart := false }
def FnExactIsOverSaid : Prop := fnExactIsOverRow.holds Try.pinned (OpenSpec.ofChange fnExactIsOverSpec)

/-- ITS FALSE NEIGHBOUR: 'it returns false'. Refute it at one input. -/
def fnExactIsOverWrong : ChangeSpec := { name := "fnExactIsOver", fn := fun _ => fun
  | [d] => { results := [.lit (.bool false)], args := [d] }
  | _ => none }
def FnExactIsOverWrongFalsely : Prop := fnExactIsOverRow.holds Try.pinned (OpenSpec.ofChange fnExactIsOverWrong)

/-- 'laws.FnExactPointsOf': WHATEVER THE INPUT: true; the input reads as it did. -/
def fnExactPointsOfSpec : ChangeSpec := { name := "fnExactPointsOf", fn := fun _ => fun
  | [d] => { results := [.lit (.bool true)], args := [d] }
  | _ => none }
def fnExactPointsOfRow : OpenClaim := { program := "ytepedcdnaodhcaa", sum := "e62270275ff019d6601e7da2f7ea79009708986abe52c00cfe0bd2cd82af8bef", func := "loop.example/g01216/laws.FnExactPointsOf", spec := "fnExactPointsOf", plainKeys := false, apart := false }
def FnExactPointsOfSaid : Prop := fnExactPointsOfRow.holds Try.pinned (OpenSpec.ofChange fnExactPointsOfSpec)

/-- ITS FALSE NEIGHBOUR: 'it returns false'. Refute it at one input. -/
def fnExactPointsOfWrong : ChangeSpec := { name := "fnExactPointsOf", fn := fun _ => fun
  | [d] => { results := [.lit (.bool false)], args := [d] }
  | _ => none }
def FnExactPointsOfWrongFalsely : Prop := fnExactPointsOfRow.holds Try.pinned (OpenSpec.ofChange fnExactPointsOfWrong)

/-- 'laws.FnExactSwapGame': WHATEVER THE INPUT: true; the input reads as it did. -/
def fnExactSwapGameSpec : ChangeSpec := { name := "fnExactSwapGame", fn := fun _ => fun
  | [d] => { results := [.lit (.bool true)], args := [d] }
  | _ => none }
def fnExactSwapGameRow : OpenClaim := { program := "ytepedcdnaodhcaa", sum := "e62270275ff019d6601e7da2f7ea79009708986abe52c00cfe0bd2cd82af8bef", func := "loop.example/g01216/laws.FnExactSwapGame", spec := "fnExactSwapGame", unfollowed := true, recurses := true, plainKeys := false, apart := false }
def FnExactSwapGameSaid : Prop := fnExactSwapGameRow.holds Try.pinned (OpenSpec.ofChange fnExactSwapGameSpec)

/-- ITS FALSE NEIGHBOUR: 'it returns false'. Refute it at one input. -/
def fnExactSwapGameWrong : ChangeSpec := { name := "fnExactSwapGame", fn := fun _ => fun
  | [d] => { results := [.lit (.bool false)], args := [d] }
  | _ => none }
def FnExactSwapGameWrongFalsely : Prop := fnExactSwapGameRow.holds Try.pinned (OpenSpec.ofChange fnExactSwapGameWrong)

/-- 'laws.FnExactDealHands': WHATEVER THE INPUT: true; the input reads as it did. -/
def fnExactDealHandsSpec : ChangeSpec := { name := "fnExactDealHands", fn := fun _ => fun
  | [d1, d2, d3] => { results := [.lit (.bool true)], args := [d1, d2, d3] }
  | _ => none }
def fnExactDealHandsRow : OpenClaim := { program := "ytepedcdnaodhcaa", sum := "e62270275ff019d6601e7da2f7ea79009708986abe52c00cfe0bd2cd82af8bef", func := "loop.example/g01216/laws.FnExactDealHands", spec := "fnExactDealHands", unfollowed := true, recurses := true, plainKeys := false, apart := false }
def FnExactDealHandsSaid : Prop := fnExactDealHandsRow.holds Try.pinned (OpenSpec.ofChange fnExactDealHandsSpec)

/-- ITS FALSE NEIGHBOUR: 'it returns false'. Refute it at one input. -/
def fnExactDealHandsWrong : ChangeSpec := { name := "fnExactDealHands", fn := fun _ => fun
  | [d1, d2, d3] => { results := [.lit (.bool false)], args := [d1, d2, d3] }
  | _ => none }
def FnExactDealHandsWrongFalsely : Prop := fnExactDealHandsRow.holds Try.pinned (OpenSpec.ofChange fnExactDealHandsWrong)

/-- 'laws.FnExactSwapRows': WHATEVER THE INPUT: true; the input reads as it did. -/
def fnExactSwapRowsSpec : ChangeSpec := { name := "fnExactSwapRows", fn := fun _ => fun
  | [d1, d2, d3] => { results := [.lit (.bool true)], args := [d1, d2, d3] }
  | _ => none }
def fnExactSwapRowsRow : OpenClaim := { program := "ytepedcdnaodhcaa", sum := "e62270275ff019d6601e7da2f7ea79009708986abe52c00cfe0bd2cd82af8bef", func := "loop.example/g01216/laws.FnExactSwapRows", spec := "fnExactSwapRows", plainKeys := false, apart := false }
def FnExactSwapRowsSaid : Prop := fnExactSwapRowsRow.holds Try.pinned (OpenSpec.ofChange fnExactSwapRowsSpec)

/-- ITS FALSE NEIGHBOUR: 'it returns false'. Refute it at one input. -/
def fnExactSwapRowsWrong : ChangeSpec := { name := "fnExactSwapRows", fn := fun _ => fun
  | [d1, d2, d3] => { results := [.lit (.bool false)], args := [d1, d2, d3] }
  | _ => none }
def FnExactSwapRowsWrongFalsely : Prop := fnExactSwapRowsRow.holds Try.pinned (OpenSpec.ofChange fnExactSwapRowsWrong)

/-- 'laws.FnExactCountGames': WHATEVER THE INPUT: true; the input reads as it did. -/
def fnExactCountGamesSpec : ChangeSpec := { name := "fnExactCountGames", fn := fun _ => fun
  | [d] => { results := [.lit (.bool true)], args := [d] }
  | _ => none }
def fnExactCountGamesRow : OpenClaim := { program := "ytepedcdnaodhcaa", sum := "e62270275ff019d6601e7da2f7ea79009708986abe52c00cfe0bd2cd82af8bef", func := "loop.example/g01216/laws.FnExactCountGames", spec := "fnExactCountGames", unfollowed := true, recurses := true, plainKeys := false, apart := false }
def FnExactCountGamesSaid : Prop := fnExactCountGamesRow.holds Try.pinned (OpenSpec.ofChange fnExactCountGamesSpec)

/-- ITS FALSE NEIGHBOUR: 'it returns false'. Refute it at one input. -/
def fnExactCountGamesWrong : ChangeSpec := { name := "fnExactCountGames", fn := fun _ => fun
  | [d] => { results := [.lit (.bool false)], args := [d] }
  | _ => none }
def FnExactCountGamesWrongFalsely : Prop := fnExactCountGamesRow.holds Try.pinned (OpenSpec.ofChange fnExactCountGamesWrong)

/-- 'laws.FnExactLongestGame': WHATEVER THE INPUT: true; the input reads as it did. -/
def fnExactLongestGameSpec : ChangeSpec := { name := "fnExactLongestGame", fn := fun _ => fun
  | [d] => { results := [.lit (.bool true)], args := [d] }
  | _ => none }
def fnExactLongestGameRow : OpenClaim := { program := "ytepedcdnaodhcaa", sum := "e62270275ff019d6601e7da2f7ea79009708986abe52c00cfe0bd2cd82af8bef", func := "loop.example/g01216/laws.FnExactLongestGame", spec := "fnExactLongestGame", unfollowed := true, recurses := true, plainKeys := false, apart := false }
def FnExactLongestGameSaid : Prop := fnExactLongestGameRow.holds Try.pinned (OpenSpec.ofChange fnExactLongestGameSpec)

/-- ITS FALSE NEIGHBOUR: 'it returns false'. Refute it at one input. -/
def fnExactLongestGameWrong : ChangeSpec := { name := "fnExactLongestGame", fn := fun _ => fun
  | [d] => { results := [.lit (.bool false)], args := [d] }
  | _ => none }
def FnExactLongestGameWrongFalsely : Prop := fnExactLongestGameRow.holds Try.pinned (OpenSpec.ofChange fnExactLongestGameWrong)

/-- 'laws.FnExactCanSweep': WHATEVER THE INPUT: true; the input reads as it did. -/
def fnExactCanSweepSpec : ChangeSpec := { name := "fnExactCanSweep", fn := fun _ => fun
  | [d] => { results := [.lit (.bool true)], args := [d] }
  | _ => none }
def fnExactCanSweepRow : OpenClaim := { program := "ytepedcdnaodhcaa", sum := "e62270275ff019d6601e7da2f7ea79009708986abe52c00cfe0bd2cd82af8bef", func := "loop.example/g01216/laws.FnExactCanSweep", spec := "fnExactCanSweep", unfollowed := true, recurses := true, plainKeys := false, apart := false }
def FnExactCanSweepSaid : Prop := fnExactCanSweepRow.holds Try.pinned (OpenSpec.ofChange fnExactCanSweepSpec)

/-- ITS FALSE NEIGHBOUR: 'it returns false'. Refute it at one input. -/
def fnExactCanSweepWrong : ChangeSpec := { name := "fnExactCanSweep", fn := fun _ => fun
  | [d] => { results := [.lit (.bool false)], args := [d] }
  | _ => none }
def FnExactCanSweepWrongFalsely : Prop := fnExactCanSweepRow.holds Try.pinned (OpenSpec.ofChange fnExactCanSweepWrong)

/-- 'laws.FnExactMostFives': WHATEVER THE INPUT: true; the input reads as it did. -/
def fnExactMostFivesSpec : ChangeSpec := { name := "fnExactMostFives", fn := fun _ => fun
  | [d1, d2] => { results := [.lit (.bool true)], args := [d1, d2] }
  | _ => none }
def fnExactMostFivesRow : OpenClaim := { program := "ytepedcdnaodhcaa", sum := "e62270275ff019d6601e7da2f7ea79009708986abe52c00cfe0bd2cd82af8bef", func := "loop.example/g01216/laws.FnExactMostFives", spec := "fnExactMostFives", unfollowed := true, recurses := true, plainKeys := false, apart := false }
def FnExactMostFivesSaid : Prop := fnExactMostFivesRow.holds Try.pinned (OpenSpec.ofChange fnExactMostFivesSpec)

/-- ITS FALSE NEIGHBOUR: 'it returns false'. Refute it at one input. -/
def fnExactMostFivesWrong : ChangeSpec := { name := "fnExactMostFives", fn := fun _ => fun
  | [d1, d2] => { results := [.lit (.bool false)], args := [d1, d2] }
  | _ => none }
def FnExactMostFivesWrongFalsely : Prop := fnExactMostFivesRow.holds Try.pinned (OpenSpec.ofChange fnExactMostFivesWrong)

/- THE SECOND FORM. 'bulk': how many values and letters a reading holds, each counted each time it is reached (what is shared counts as often as it is met; a slice's spare places count too). A statement '..UptoSaid' is the law's where the arguments, and the package variables that the reading takes, are together of bulk at most 1048576: NARROWER than '..Said'. Prove '..Said' where nothing that the law and all that it calls make is longer than what came in: it says more and counts as full. Else prove '..UptoSaid'. A law counts once. -/
mutual
def uptoBulk {H : Type} : DataW H → Nat
  | .lit (.string bytes) => bytes.length + 1
  | .lit _ => 1
  | .nil => 1
  | .ptr d => uptoBulk d + 1
  | .slice elems spare => uptoBulkAll elems + uptoBulkAll spare + 1
  | .agg parts => uptoBulkAll parts + 1
  | .iface _ d => uptoBulk d + 1
  | .map entries => uptoBulkEntries entries + 1
  | .held _ => 1
def uptoBulkAll {H : Type} : List (DataW H) → Nat
  | [] => 0
  | d :: r => uptoBulk d + uptoBulkAll r
def uptoBulkEntries {H : Type} : List (Lit × DataW H) → Nat
  | [] => 0
  | x :: r => uptoBulkEntry x + uptoBulkEntries r
def uptoBulkEntry {H : Type} : Lit × DataW H → Nat
  | (.string bytes, d) => bytes.length + uptoBulk d + 1
  | (_, d) => uptoBulk d + 1
 end
def uptoSmall : (H : Type) → List (DataW H) → Bool := fun _ ds => decide (uptoBulkAll ds ≤ 1048576)
def OpenSpec.upto (s : _root_.Go.ChangeSpec) : _root_.Go.OpenSpec := { _root_.Go.OpenSpec.ofChange s with cond := some uptoSmall }

/-- 'laws.FnExactIsGame', WHERE WHAT IT READS IS OF BULK AT MOST 1048576: true; the input reads as it did. -/
def fnExactIsGameUptoRow : OpenClaim := { program := "ytepedcdnaodhcaa", sum := "e62270275ff019d6601e7da2f7ea79009708986abe52c00cfe0bd2cd82af8bef", func := "loop.example/g01216/laws.FnExactIsGame", spec := "fnExactIsGame", plainKeys := false, apart := false, narrowed := true }
def FnExactIsGameUptoSaid : Prop := fnExactIsGameUptoRow.holds Try.pinned (OpenSpec.upto fnExactIsGameSpec)

/-- 'laws.FnExactGameOf', WHERE WHAT IT READS IS OF BULK AT MOST 1048576: true; the input reads as it did. -/
def fnExactGameOfUptoRow : OpenClaim := { program := "ytepedcdnaodhcaa", sum := "e62270275ff019d6601e7da2f7ea79009708986abe52c00cfe0bd2cd82af8bef", func := "loop.example/g01216/laws.FnExactGameOf", spec := "fnExactGameOf", unfollowed := true, recurses := true, plainKeys := false, apart := false, narrowed := true }
def FnExactGameOfUptoSaid : Prop := fnExactGameOfUptoRow.holds Try.pinned (OpenSpec.upto fnExactGameOfSpec)

/-- 'laws.FnExactIsOver', WHERE WHAT IT READS IS OF BULK AT MOST 1048576: true; the input reads as it did. -/
def fnExactIsOverUptoRow : OpenClaim := { program := "ytepedcdnaodhcaa", sum := "e62270275ff019d6601e7da2f7ea79009708986abe52c00cfe0bd2cd82af8bef", func := "loop.example/g01216/laws.FnExactIsOver", spec := "fnExactIsOver", unfollowed := true, recurses := true, plainKeys := false, apart := false, narrowed := true }
def FnExactIsOverUptoSaid : Prop := fnExactIsOverUptoRow.holds Try.pinned (OpenSpec.upto fnExactIsOverSpec)

/-- 'laws.FnExactPointsOf', WHERE WHAT IT READS IS OF BULK AT MOST 1048576: true; the input reads as it did. -/
def fnExactPointsOfUptoRow : OpenClaim := { program := "ytepedcdnaodhcaa", sum := "e62270275ff019d6601e7da2f7ea79009708986abe52c00cfe0bd2cd82af8bef", func := "loop.example/g01216/laws.FnExactPointsOf", spec := "fnExactPointsOf", plainKeys := false, apart := false, narrowed := true }
def FnExactPointsOfUptoSaid : Prop := fnExactPointsOfUptoRow.holds Try.pinned (OpenSpec.upto fnExactPointsOfSpec)

/-- 'laws.FnExactSwapGame', WHERE WHAT IT READS IS OF BULK AT MOST 1048576: true; the input reads as it did. -/
def fnExactSwapGameUptoRow : OpenClaim := { program := "ytepedcdnaodhcaa", sum := "e62270275ff019d6601e7da2f7ea79009708986abe52c00cfe0bd2cd82af8bef", func := "loop.example/g01216/laws.FnExactSwapGame", spec := "fnExactSwapGame", unfollowed := true, recurses := true, plainKeys := false, apart := false, narrowed := true }
def FnExactSwapGameUptoSaid : Prop := fnExactSwapGameUptoRow.holds Try.pinned (OpenSpec.upto fnExactSwapGameSpec)

/-- 'laws.FnExactDealHands', WHERE WHAT IT READS IS OF BULK AT MOST 1048576: true; the input reads as it did. -/
def fnExactDealHandsUptoRow : OpenClaim := { program := "ytepedcdnaodhcaa", sum := "e62270275ff019d6601e7da2f7ea79009708986abe52c00cfe0bd2cd82af8bef", func := "loop.example/g01216/laws.FnExactDealHands", spec := "fnExactDealHands", unfollowed := true, recurses := true, plainKeys := false, apart := false, narrowed := true }
def FnExactDealHandsUptoSaid : Prop := fnExactDealHandsUptoRow.holds Try.pinned (OpenSpec.upto fnExactDealHandsSpec)

/-- 'laws.FnExactSwapRows', WHERE WHAT IT READS IS OF BULK AT MOST 1048576: true; the input reads as it did. -/
def fnExactSwapRowsUptoRow : OpenClaim := { program := "ytepedcdnaodhcaa", sum := "e62270275ff019d6601e7da2f7ea79009708986abe52c00cfe0bd2cd82af8bef", func := "loop.example/g01216/laws.FnExactSwapRows", spec := "fnExactSwapRows", plainKeys := false, apart := false, narrowed := true }
def FnExactSwapRowsUptoSaid : Prop := fnExactSwapRowsUptoRow.holds Try.pinned (OpenSpec.upto fnExactSwapRowsSpec)

/-- 'laws.FnExactCountGames', WHERE WHAT IT READS IS OF BULK AT MOST 1048576: true; the input reads as it did. -/
def fnExactCountGamesUptoRow : OpenClaim := { program := "ytepedcdnaodhcaa", sum := "e62270275ff019d6601e7da2f7ea79009708986abe52c00cfe0bd2cd82af8bef", func := "loop.example/g01216/laws.FnExactCountGames", spec := "fnExactCountGames", unfollowed := true, recurses := true, plainKeys := false, apart := false, narrowed := true }
def FnExactCountGamesUptoSaid : Prop := fnExactCountGamesUptoRow.holds Try.pinned (OpenSpec.upto fnExactCountGamesSpec)

/-- 'laws.FnExactLongestGame', WHERE WHAT IT READS IS OF BULK AT MOST 1048576: true; the input reads as it did. -/
def fnExactLongestGameUptoRow : OpenClaim := { program := "ytepedcdnaodhcaa", sum := "e62270275ff019d6601e7da2f7ea79009708986abe52c00cfe0bd2cd82af8bef", func := "loop.example/g01216/laws.FnExactLongestGame", spec := "fnExactLongestGame", unfollowed := true, recurses := true, plainKeys := false, apart := false, narrowed := true }
def FnExactLongestGameUptoSaid : Prop := fnExactLongestGameUptoRow.holds Try.pinned (OpenSpec.upto fnExactLongestGameSpec)

/-- 'laws.FnExactCanSweep', WHERE WHAT IT READS IS OF BULK AT MOST 1048576: true; the input reads as it did. -/
def fnExactCanSweepUptoRow : OpenClaim := { program := "ytepedcdnaodhcaa", sum := "e62270275ff019d6601e7da2f7ea79009708986abe52c00cfe0bd2cd82af8bef", func := "loop.example/g01216/laws.FnExactCanSweep", spec := "fnExactCanSweep", unfollowed := true, recurses := true, plainKeys := false, apart := false, narrowed := true }
def FnExactCanSweepUptoSaid : Prop := fnExactCanSweepUptoRow.holds Try.pinned (OpenSpec.upto fnExactCanSweepSpec)

/-- 'laws.FnExactMostFives', WHERE WHAT IT READS IS OF BULK AT MOST 1048576: true; the input reads as it did. -/
def fnExactMostFivesUptoRow : OpenClaim := { program := "ytepedcdnaodhcaa", sum := "e62270275ff019d6601e7da2f7ea79009708986abe52c00cfe0bd2cd82af8bef", func := "loop.example/g01216/laws.FnExactMostFives", spec := "fnExactMostFives", unfollowed := true, recurses := true, plainKeys := false, apart := false, narrowed := true }
def FnExactMostFivesUptoSaid : Prop := fnExactMostFivesUptoRow.holds Try.pinned (OpenSpec.upto fnExactMostFivesSpec)

end Rows
end Go.Proofs.Ytepedcdnaodhcaa

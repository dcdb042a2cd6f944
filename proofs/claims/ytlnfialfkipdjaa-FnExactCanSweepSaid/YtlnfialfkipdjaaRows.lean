/-
  No cell of these rows narrows 'for every input' (looked for: loops, veiled, ifaces, maps, wideKeys, modest, calm, conditions, laid).
  DERIVED. THE GIVEN ROWS OF THIS SEAT. 11 by the template 'for every input the law returns true; each argument reads behind the call as it read before'; 0 by the template 'total and deterministic' (their statements: YtlnfialfkipdjaaTotals.lean).
  GIVEN WITH THE SEED: the statements are not yours to turn. If you find one false, say at which input.
  Laid BY PROGRAM, IN A SANDBOX (cutbox-rows.mjs): the forced cells as the released guide's own fill.sh prints them over the translation 75e825c743ef5039… (all of the seat's roots in one cut). By AI agents, Wed Nov 11 2026. No macro, syntax, notation, axiom, sorry.
-/
import Derived.Test.YtlnfialfkipdjaaChecked
import GoSem.Claim
import GoSem.ClaimJoined
import GoSem.ClaimMapViews
import Derived.JoinedTies
import Derived.KernelRfl
namespace Go.Proofs.Ytlnfialfkipdjaa
/- THE CELL 'sum', in the pinned program and in every row, IS THE sha256 OF THE DUMP (.gsa) THAT YtlnfialfkipdjaaProg.lean LOADS. Nothing in Lean hashes anything: it is a label: what it is worth is what the hold of that sum in a sandbox is worth. -/
noncomputable def Try.pinned : Pinned := { name := "ytlnfialfkipdjaa", sum := "75e825c743ef50395ecf87133e4dbbde3ceb8a4b58d8b5930dfaf6618953e556", checked := Try.checked }
namespace Rows
def none {H : Type} : Left H := { results := [], args := [] }

/-- 'laws.FnExactFirstDesk': WHATEVER THE INPUT: true; the input reads as it did. -/
def fnExactFirstDeskSpec : ChangeSpec := { name := "fnExactFirstDesk", fn := fun _ => fun
  | [] => { results := [.lit (.bool true)], args := [] }
  | _ => none }
def fnExactFirstDeskRow : OpenClaim := { program := "ytlnfialfkipdjaa", sum := "75e825c743ef50395ecf87133e4dbbde3ceb8a4b58d8b5930dfaf6618953e556", func := "loop.example/g01216/laws.FnExactFirstDesk", spec := "fnExactFirstDesk", plainKeys := false, apart := false }
def FnExactFirstDeskSaid : Prop := fnExactFirstDeskRow.holds Try.pinned (OpenSpec.ofChange fnExactFirstDeskSpec)

/-- ITS FALSE NEIGHBOUR: 'it returns false'. Refute it at one input. -/
def fnExactFirstDeskWrong : ChangeSpec := { name := "fnExactFirstDesk", fn := fun _ => fun
  | [] => { results := [.lit (.bool false)], args := [] }
  | _ => none }
def FnExactFirstDeskWrongFalsely : Prop := fnExactFirstDeskRow.holds Try.pinned (OpenSpec.ofChange fnExactFirstDeskWrong)

/-- 'laws.FnExactIsDesk': WHATEVER THE INPUT: true; the input reads as it did. -/
def fnExactIsDeskSpec : ChangeSpec := { name := "fnExactIsDesk", fn := fun _ => fun
  | [d] => { results := [.lit (.bool true)], args := [d] }
  | _ => none }
def fnExactIsDeskRow : OpenClaim := { program := "ytlnfialfkipdjaa", sum := "75e825c743ef50395ecf87133e4dbbde3ceb8a4b58d8b5930dfaf6618953e556", func := "loop.example/g01216/laws.FnExactIsDesk", spec := "fnExactIsDesk", unfollowed := true, recurses := true, plainKeys := false, apart := false }
def FnExactIsDeskSaid : Prop := fnExactIsDeskRow.holds Try.pinned (OpenSpec.ofChange fnExactIsDeskSpec)

/-- ITS FALSE NEIGHBOUR: 'it returns false'. Refute it at one input. -/
def fnExactIsDeskWrong : ChangeSpec := { name := "fnExactIsDesk", fn := fun _ => fun
  | [d] => { results := [.lit (.bool false)], args := [d] }
  | _ => none }
def FnExactIsDeskWrongFalsely : Prop := fnExactIsDeskRow.holds Try.pinned (OpenSpec.ofChange fnExactIsDeskWrong)

/-- 'laws.FnExactCanSweep': WHATEVER THE INPUT: true; the input reads as it did. -/
def fnExactCanSweepSpec : ChangeSpec := { name := "fnExactCanSweep", fn := fun _ => fun
  | [d] => { results := [.lit (.bool true)], args := [d] }
  | _ => none }
def fnExactCanSweepRow : OpenClaim := { program := "ytlnfialfkipdjaa", sum := "75e825c743ef50395ecf87133e4dbbde3ceb8a4b58d8b5930dfaf6618953e556", func := "loop.example/g01216/laws.FnExactCanSweep", spec := "fnExactCanSweep", unfollowed := true, recurses := true, plainKeys := false, apart := false }
def FnExactCanSweepSaid : Prop := fnExactCanSweepRow.holds Try.pinned (OpenSpec.ofChange fnExactCanSweepSpec)

/-- ITS FALSE NEIGHBOUR: 'it returns false'. Refute it at one input. -/
def fnExactCanSweepWrong : ChangeSpec := { name := "fnExactCanSweep", fn := fun _ => fun
  | [d] => { results := [.lit (.bool false)], args := [d] }
  | _ => none }
def FnExactCanSweepWrongFalsely : Prop := fnExactCanSweepRow.holds Try.pinned (OpenSpec.ofChange fnExactCanSweepWrong)

/-- 'laws.FnExactMostFives': WHATEVER THE INPUT: true; the input reads as it did. -/
def fnExactMostFivesSpec : ChangeSpec := { name := "fnExactMostFives", fn := fun _ => fun
  | [d1, d2] => { results := [.lit (.bool true)], args := [d1, d2] }
  | _ => none }
def fnExactMostFivesRow : OpenClaim := { program := "ytlnfialfkipdjaa", sum := "75e825c743ef50395ecf87133e4dbbde3ceb8a4b58d8b5930dfaf6618953e556", func := "loop.example/g01216/laws.FnExactMostFives", spec := "fnExactMostFives", unfollowed := true, recurses := true, plainKeys := false, apart := false }
def FnExactMostFivesSaid : Prop := fnExactMostFivesRow.holds Try.pinned (OpenSpec.ofChange fnExactMostFivesSpec)

/-- ITS FALSE NEIGHBOUR: 'it returns false'. Refute it at one input. -/
def fnExactMostFivesWrong : ChangeSpec := { name := "fnExactMostFives", fn := fun _ => fun
  | [d1, d2] => { results := [.lit (.bool false)], args := [d1, d2] }
  | _ => none }
def FnExactMostFivesWrongFalsely : Prop := fnExactMostFivesRow.holds Try.pinned (OpenSpec.ofChange fnExactMostFivesWrong)

/-- 'laws.FnExactCountWithPips': WHATEVER THE INPUT: true; the input reads as it did. -/
def fnExactCountWithPipsSpec : ChangeSpec := { name := "fnExactCountWithPips", fn := fun _ => fun
  | [d1, d2, d3] => { results := [.lit (.bool true)], args := [d1, d2, d3] }
  | _ => none }
def fnExactCountWithPipsRow : OpenClaim := { program := "ytlnfialfkipdjaa", sum := "75e825c743ef50395ecf87133e4dbbde3ceb8a4b58d8b5930dfaf6618953e556", func := "loop.example/g01216/laws.FnExactCountWithPips", spec := "fnExactCountWithPips", unfollowed := true, recurses := true, plainKeys := false, apart := false }
def FnExactCountWithPipsSaid : Prop := fnExactCountWithPipsRow.holds Try.pinned (OpenSpec.ofChange fnExactCountWithPipsSpec)

/-- ITS FALSE NEIGHBOUR: 'it returns false'. Refute it at one input. -/
def fnExactCountWithPipsWrong : ChangeSpec := { name := "fnExactCountWithPips", fn := fun _ => fun
  | [d1, d2, d3] => { results := [.lit (.bool false)], args := [d1, d2, d3] }
  | _ => none }
def FnExactCountWithPipsWrongFalsely : Prop := fnExactCountWithPipsRow.holds Try.pinned (OpenSpec.ofChange fnExactCountWithPipsWrong)

/-- 'laws.FnExactChanceOfChain': WHATEVER THE INPUT: true; the input reads as it did. -/
def fnExactChanceOfChainSpec : ChangeSpec := { name := "fnExactChanceOfChain", fn := fun _ => fun
  | [d1, d2] => { results := [.lit (.bool true)], args := [d1, d2] }
  | _ => none }
def fnExactChanceOfChainRow : OpenClaim := { program := "ytlnfialfkipdjaa", sum := "75e825c743ef50395ecf87133e4dbbde3ceb8a4b58d8b5930dfaf6618953e556", func := "loop.example/g01216/laws.FnExactChanceOfChain", spec := "fnExactChanceOfChain", unfollowed := true, recurses := true, plainKeys := false, apart := false }
def FnExactChanceOfChainSaid : Prop := fnExactChanceOfChainRow.holds Try.pinned (OpenSpec.ofChange fnExactChanceOfChainSpec)

/-- ITS FALSE NEIGHBOUR: 'it returns false'. Refute it at one input. -/
def fnExactChanceOfChainWrong : ChangeSpec := { name := "fnExactChanceOfChain", fn := fun _ => fun
  | [d1, d2] => { results := [.lit (.bool false)], args := [d1, d2] }
  | _ => none }
def FnExactChanceOfChainWrongFalsely : Prop := fnExactChanceOfChainRow.holds Try.pinned (OpenSpec.ofChange fnExactChanceOfChainWrong)

/-- 'laws.FnExactAllChains': WHATEVER THE INPUT: true; the input reads as it did. -/
def fnExactAllChainsSpec : ChangeSpec := { name := "fnExactAllChains", fn := fun _ => fun
  | [d] => { results := [.lit (.bool true)], args := [d] }
  | _ => none }
def fnExactAllChainsRow : OpenClaim := { program := "ytlnfialfkipdjaa", sum := "75e825c743ef50395ecf87133e4dbbde3ceb8a4b58d8b5930dfaf6618953e556", func := "loop.example/g01216/laws.FnExactAllChains", spec := "fnExactAllChains", unfollowed := true, recurses := true, plainKeys := false, apart := false }
def FnExactAllChainsSaid : Prop := fnExactAllChainsRow.holds Try.pinned (OpenSpec.ofChange fnExactAllChainsSpec)

/-- ITS FALSE NEIGHBOUR: 'it returns false'. Refute it at one input. -/
def fnExactAllChainsWrong : ChangeSpec := { name := "fnExactAllChains", fn := fun _ => fun
  | [d] => { results := [.lit (.bool false)], args := [d] }
  | _ => none }
def FnExactAllChainsWrongFalsely : Prop := fnExactAllChainsRow.holds Try.pinned (OpenSpec.ofChange fnExactAllChainsWrong)

/-- 'laws.FnExactCountByTiles': WHATEVER THE INPUT: true; the input reads as it did. -/
def fnExactCountByTilesSpec : ChangeSpec := { name := "fnExactCountByTiles", fn := fun _ => fun
  | [d] => { results := [.lit (.bool true)], args := [d] }
  | _ => none }
def fnExactCountByTilesRow : OpenClaim := { program := "ytlnfialfkipdjaa", sum := "75e825c743ef50395ecf87133e4dbbde3ceb8a4b58d8b5930dfaf6618953e556", func := "loop.example/g01216/laws.FnExactCountByTiles", spec := "fnExactCountByTiles", unfollowed := true, recurses := true, plainKeys := false, apart := false }
def FnExactCountByTilesSaid : Prop := fnExactCountByTilesRow.holds Try.pinned (OpenSpec.ofChange fnExactCountByTilesSpec)

/-- ITS FALSE NEIGHBOUR: 'it returns false'. Refute it at one input. -/
def fnExactCountByTilesWrong : ChangeSpec := { name := "fnExactCountByTiles", fn := fun _ => fun
  | [d] => { results := [.lit (.bool false)], args := [d] }
  | _ => none }
def FnExactCountByTilesWrongFalsely : Prop := fnExactCountByTilesRow.holds Try.pinned (OpenSpec.ofChange fnExactCountByTilesWrong)

/-- 'laws.FnExactLongestChain': WHATEVER THE INPUT: true; the input reads as it did. -/
def fnExactLongestChainSpec : ChangeSpec := { name := "fnExactLongestChain", fn := fun _ => fun
  | [d] => { results := [.lit (.bool true)], args := [d] }
  | _ => none }
def fnExactLongestChainRow : OpenClaim := { program := "ytlnfialfkipdjaa", sum := "75e825c743ef50395ecf87133e4dbbde3ceb8a4b58d8b5930dfaf6618953e556", func := "loop.example/g01216/laws.FnExactLongestChain", spec := "fnExactLongestChain", unfollowed := true, recurses := true, plainKeys := false, apart := false }
def FnExactLongestChainSaid : Prop := fnExactLongestChainRow.holds Try.pinned (OpenSpec.ofChange fnExactLongestChainSpec)

/-- ITS FALSE NEIGHBOUR: 'it returns false'. Refute it at one input. -/
def fnExactLongestChainWrong : ChangeSpec := { name := "fnExactLongestChain", fn := fun _ => fun
  | [d] => { results := [.lit (.bool false)], args := [d] }
  | _ => none }
def FnExactLongestChainWrongFalsely : Prop := fnExactLongestChainRow.holds Try.pinned (OpenSpec.ofChange fnExactLongestChainWrong)

/-- 'laws.FnExactCountWhole': WHATEVER THE INPUT: true; the input reads as it did. -/
def fnExactCountWholeSpec : ChangeSpec := { name := "fnExactCountWhole", fn := fun _ => fun
  | [d] => { results := [.lit (.bool true)], args := [d] }
  | _ => none }
def fnExactCountWholeRow : OpenClaim := { program := "ytlnfialfkipdjaa", sum := "75e825c743ef50395ecf87133e4dbbde3ceb8a4b58d8b5930dfaf6618953e556", func := "loop.example/g01216/laws.FnExactCountWhole", spec := "fnExactCountWhole", unfollowed := true, recurses := true, plainKeys := false, apart := false }
def FnExactCountWholeSaid : Prop := fnExactCountWholeRow.holds Try.pinned (OpenSpec.ofChange fnExactCountWholeSpec)

/-- ITS FALSE NEIGHBOUR: 'it returns false'. Refute it at one input. -/
def fnExactCountWholeWrong : ChangeSpec := { name := "fnExactCountWhole", fn := fun _ => fun
  | [d] => { results := [.lit (.bool false)], args := [d] }
  | _ => none }
def FnExactCountWholeWrongFalsely : Prop := fnExactCountWholeRow.holds Try.pinned (OpenSpec.ofChange fnExactCountWholeWrong)

/-- 'laws.FnChainsLaid': WHATEVER THE INPUT: true; the input reads as it did. -/
def fnChainsLaidSpec : ChangeSpec := { name := "fnChainsLaid", fn := fun _ => fun
  | [d1, d2] => { results := [.lit (.bool true)], args := [d1, d2] }
  | _ => none }
def fnChainsLaidRow : OpenClaim := { program := "ytlnfialfkipdjaa", sum := "75e825c743ef50395ecf87133e4dbbde3ceb8a4b58d8b5930dfaf6618953e556", func := "loop.example/g01216/laws.FnChainsLaid", spec := "fnChainsLaid", recurses := true, plainKeys := false, apart := false }
def FnChainsLaidSaid : Prop := fnChainsLaidRow.holds Try.pinned (OpenSpec.ofChange fnChainsLaidSpec)

/-- ITS FALSE NEIGHBOUR: 'it returns false'. Refute it at one input. -/
def fnChainsLaidWrong : ChangeSpec := { name := "fnChainsLaid", fn := fun _ => fun
  | [d1, d2] => { results := [.lit (.bool false)], args := [d1, d2] }
  | _ => none }
def FnChainsLaidWrongFalsely : Prop := fnChainsLaidRow.holds Try.pinned (OpenSpec.ofChange fnChainsLaidWrong)

/- THE SECOND FORM. 'bulk': how many values and letters a reading holds, each counted each time it is reached (what is shared counts as often as it is met; a slice's spare places count too). A statement '..UptoSaid' is the law's where the arguments, and the package variables that the reading takes, are together of bulk at most 1048576: NARROWER than '..Said'. Prove '..Said' where nothing that the law and all that it calls make is longer than what came in: it says more and counts as full. Else prove '..UptoSaid'. A law counts once. -/
mutual
def uptoBulk {H : Type} : DataW H → Nat
  | .lit (.string bytes) => bytes.length + 1
  | .lit _ => 1
  | .nil => 1
  | .ptr d => uptoBulk d + 1
  | .slice elems spare => uptoBulkAll elems + uptoBulkAll spare + 1
  | .agg parts => uptoBulkAll parts + 1
  | .iface _ d => uptoBulk d + 1
  | .map entries => uptoBulkEntries entries + 1
  | .held _ => 1
def uptoBulkAll {H : Type} : List (DataW H) → Nat
  | [] => 0
  | d :: r => uptoBulk d + uptoBulkAll r
def uptoBulkEntries {H : Type} : List (Lit × DataW H) → Nat
  | [] => 0
  | x :: r => uptoBulkEntry x + uptoBulkEntries r
def uptoBulkEntry {H : Type} : Lit × DataW H → Nat
  | (.string bytes, d) => bytes.length + uptoBulk d + 1
  | (_, d) => uptoBulk d + 1
 end
def uptoSmall : (H : Type) → List (DataW H) → Bool := fun _ ds => decide (uptoBulkAll ds ≤ 1048576)
def OpenSpec.upto (s : _root_.Go.ChangeSpec) : _root_.Go.OpenSpec := { _root_.Go.OpenSpec.ofChange s with cond := some uptoSmall }

/-- 'laws.FnExactFirstDesk', WHERE WHAT IT READS IS OF BULK AT MOST 1048576: true; the input reads as it did. -/
def fnExactFirstDeskUptoRow : OpenClaim := { program := "ytlnfialfkipdjaa", sum := "75e825c743ef50395ecf87133e4dbbde3ceb8a4b58d8b5930dfaf6618953e556", func := "loop.example/g01216/laws.FnExactFirstDesk", spec := "fnExactFirstDesk", plainKeys := false, apart := false, narrowed := true }
def FnExactFirstDeskUptoSaid : Prop := fnExactFirstDeskUptoRow.holds Try.pinned (OpenSpec.upto fnExactFirstDeskSpec)

/-- 'laws.FnExactIsDesk', WHERE WHAT IT READS IS OF BULK AT MOST 1048576: true; the input reads as it did. -/
def fnExactIsDeskUptoRow : OpenClaim := { program := "ytlnfialfkipdjaa", sum := "75e825c743ef50395ecf87133e4dbbde3ceb8a4b58d8b5930dfaf6618953e556", func := "loop.example/g01216/laws.FnExactIsDesk", spec := "fnExactIsDesk", unfollowed := true, recurses := true, plainKeys := false, apart := false, narrowed := true }
def FnExactIsDeskUptoSaid : Prop := fnExactIsDeskUptoRow.holds Try.pinned (OpenSpec.upto fnExactIsDeskSpec)

/-- 'laws.FnExactCanSweep', WHERE WHAT IT READS IS OF BULK AT MOST 1048576: true; the input reads as it did. -/
def fnExactCanSweepUptoRow : OpenClaim := { program := "ytlnfialfkipdjaa", sum := "75e825c743ef50395ecf87133e4dbbde3ceb8a4b58d8b5930dfaf6618953e556", func := "loop.example/g01216/laws.FnExactCanSweep", spec := "fnExactCanSweep", unfollowed := true, recurses := true, plainKeys := false, apart := false, narrowed := true }
def FnExactCanSweepUptoSaid : Prop := fnExactCanSweepUptoRow.holds Try.pinned (OpenSpec.upto fnExactCanSweepSpec)

/-- 'laws.FnExactMostFives', WHERE WHAT IT READS IS OF BULK AT MOST 1048576: true; the input reads as it did. -/
def fnExactMostFivesUptoRow : OpenClaim := { program := "ytlnfialfkipdjaa", sum := "75e825c743ef50395ecf87133e4dbbde3ceb8a4b58d8b5930dfaf6618953e556", func := "loop.example/g01216/laws.FnExactMostFives", spec := "fnExactMostFives", unfollowed := true, recurses := true, plainKeys := false, apart := false, narrowed := true }
def FnExactMostFivesUptoSaid : Prop := fnExactMostFivesUptoRow.holds Try.pinned (OpenSpec.upto fnExactMostFivesSpec)

/-- 'laws.FnExactCountWithPips', WHERE WHAT IT READS IS OF BULK AT MOST 1048576: true; the input reads as it did. -/
def fnExactCountWithPipsUptoRow : OpenClaim := { program := "ytlnfialfkipdjaa", sum := "75e825c743ef50395ecf87133e4dbbde3ceb8a4b58d8b5930dfaf6618953e556", func := "loop.example/g01216/laws.FnExactCountWithPips", spec := "fnExactCountWithPips", unfollowed := true, recurses := true, plainKeys := false, apart := false, narrowed := true }
def FnExactCountWithPipsUptoSaid : Prop := fnExactCountWithPipsUptoRow.holds Try.pinned (OpenSpec.upto fnExactCountWithPipsSpec)

/-- 'laws.FnExactChanceOfChain', WHERE WHAT IT READS IS OF BULK AT MOST 1048576: true; the input reads as it did. -/
def fnExactChanceOfChainUptoRow : OpenClaim := { program := "ytlnfialfkipdjaa", sum := "75e825c743ef50395ecf87133e4dbbde3ceb8a4b58d8b5930dfaf6618953e556", func := "loop.example/g01216/laws.FnExactChanceOfChain", spec := "fnExactChanceOfChain", unfollowed := true, recurses := true, plainKeys := false, apart := false, narrowed := true }
def FnExactChanceOfChainUptoSaid : Prop := fnExactChanceOfChainUptoRow.holds Try.pinned (OpenSpec.upto fnExactChanceOfChainSpec)

/-- 'laws.FnExactAllChains', WHERE WHAT IT READS IS OF BULK AT MOST 1048576: true; the input reads as it did. -/
def fnExactAllChainsUptoRow : OpenClaim := { program := "ytlnfialfkipdjaa", sum := "75e825c743ef50395ecf87133e4dbbde3ceb8a4b58d8b5930dfaf6618953e556", func := "loop.example/g01216/laws.FnExactAllChains", spec := "fnExactAllChains", unfollowed := true, recurses := true, plainKeys := false, apart := false, narrowed := true }
def FnExactAllChainsUptoSaid : Prop := fnExactAllChainsUptoRow.holds Try.pinned (OpenSpec.upto fnExactAllChainsSpec)

/-- 'laws.FnExactCountByTiles', WHERE WHAT IT READS IS OF BULK AT MOST 1048576: true; the input reads as it did. -/
def fnExactCountByTilesUptoRow : OpenClaim := { program := "ytlnfialfkipdjaa", sum := "75e825c743ef50395ecf87133e4dbbde3ceb8a4b58d8b5930dfaf6618953e556", func := "loop.example/g01216/laws.FnExactCountByTiles", spec := "fnExactCountByTiles", unfollowed := true, recurses := true, plainKeys := false, apart := false, narrowed := true }
def FnExactCountByTilesUptoSaid : Prop := fnExactCountByTilesUptoRow.holds Try.pinned (OpenSpec.upto fnExactCountByTilesSpec)

/-- 'laws.FnExactLongestChain', WHERE WHAT IT READS IS OF BULK AT MOST 1048576: true; the input reads as it did. -/
def fnExactLongestChainUptoRow : OpenClaim := { program := "ytlnfialfkipdjaa", sum := "75e825c743ef50395ecf87133e4dbbde3ceb8a4b58d8b5930dfaf6618953e556", func := "loop.example/g01216/laws.FnExactLongestChain", spec := "fnExactLongestChain", unfollowed := true, recurses := true, plainKeys := false, apart := false, narrowed := true }
def FnExactLongestChainUptoSaid : Prop := fnExactLongestChainUptoRow.holds Try.pinned (OpenSpec.upto fnExactLongestChainSpec)

/-- 'laws.FnExactCountWhole', WHERE WHAT IT READS IS OF BULK AT MOST 1048576: true; the input reads as it did. -/
def fnExactCountWholeUptoRow : OpenClaim := { program := "ytlnfialfkipdjaa", sum := "75e825c743ef50395ecf87133e4dbbde3ceb8a4b58d8b5930dfaf6618953e556", func := "loop.example/g01216/laws.FnExactCountWhole", spec := "fnExactCountWhole", unfollowed := true, recurses := true, plainKeys := false, apart := false, narrowed := true }
def FnExactCountWholeUptoSaid : Prop := fnExactCountWholeUptoRow.holds Try.pinned (OpenSpec.upto fnExactCountWholeSpec)

/-- 'laws.FnChainsLaid', WHERE WHAT IT READS IS OF BULK AT MOST 1048576: true; the input reads as it did. -/
def fnChainsLaidUptoRow : OpenClaim := { program := "ytlnfialfkipdjaa", sum := "75e825c743ef50395ecf87133e4dbbde3ceb8a4b58d8b5930dfaf6618953e556", func := "loop.example/g01216/laws.FnChainsLaid", spec := "fnChainsLaid", recurses := true, plainKeys := false, apart := false, narrowed := true }
def FnChainsLaidUptoSaid : Prop := fnChainsLaidUptoRow.holds Try.pinned (OpenSpec.upto fnChainsLaidSpec)

end Rows
end Go.Proofs.Ytlnfialfkipdjaa

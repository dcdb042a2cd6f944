/-
  No cell of these rows narrows 'for every input' (looked for: loops, veiled, ifaces, maps, wideKeys, modest, calm, conditions, laid).
  DERIVED. THE GIVEN ROWS OF THIS SEAT. 12 by the template 'for every input the law returns true; each argument reads behind the call as it read before'; 0 by the template 'total and deterministic' (their statements: YtfdjcfgpgfknkaaTotals.lean).
  GIVEN WITH THE SEED: the statements are not yours to turn. If you find one false, say at which input.
  Laid BY PROGRAM, IN A SANDBOX (cutbox-rows.mjs): the forced cells as the released guide's own fill.sh prints them over the translation 8fcc1b05c59301e8… (all of the seat's roots in one cut). By AI agents, Wed Nov 11 2026. No macro, syntax, notation, axiom, sorry.
-/
import Derived.Test.YtfdjcfgpgfknkaaChecked
import GoSem.Claim
import GoSem.ClaimJoined
import GoSem.ClaimMapViews
import Derived.JoinedTies
import Derived.KernelRfl
namespace Go.Proofs.Ytfdjcfgpgfknkaa
/- THE CELL 'sum', in the pinned program and in every row, IS THE sha256 OF THE DUMP (.gsa) THAT YtfdjcfgpgfknkaaProg.lean LOADS. Nothing in Lean hashes anything: it is a label: what it is worth is what the hold of that sum in a sandbox is worth. -/
noncomputable def Try.pinned : Pinned := { name := "ytfdjcfgpgfknkaa", sum := "8fcc1b05c59301e81a3fa93833142a9a35074c9a3f757cd79498a33a4b36cfef", checked := Try.checked }
namespace Rows
def none {H : Type} : Left H := { results := [], args := [] }

/-- 'laws.FnExactIsTile': WHATEVER THE INPUT: true; the input reads as it did. -/
def fnExactIsTileSpec : ChangeSpec := { name := "fnExactIsTile", fn := fun _ => fun
  | [d] => { results := [.lit (.bool true)], args := [d] }
  | _ => none }
def fnExactIsTileRow : OpenClaim := { program := "ytfdjcfgpgfknkaa", sum := "8fcc1b05c59301e81a3fa93833142a9a35074c9a3f757cd79498a33a4b36cfef", func := "loop.example/g01216/laws.FnExactIsTile", spec := "fnExactIsTile", plainKeys := false, apart := false }
def FnExactIsTileSaid : Prop := fnExactIsTileRow.holds Try.pinned (OpenSpec.ofChange fnExactIsTileSpec)

/-- ITS FALSE NEIGHBOUR: 'it returns false'. Refute it at one input. -/
def fnExactIsTileWrong : ChangeSpec := { name := "fnExactIsTile", fn := fun _ => fun
  | [d] => { results := [.lit (.bool false)], args := [d] }
  | _ => none }
def FnExactIsTileWrongFalsely : Prop := fnExactIsTileRow.holds Try.pinned (OpenSpec.ofChange fnExactIsTileWrong)

/-- 'laws.FnExactTileOf': WHATEVER THE INPUT: true; the input reads as it did. -/
def fnExactTileOfSpec : ChangeSpec := { name := "fnExactTileOf", fn := fun _ => fun
  | [d1, d2] => { results := [.lit (.bool true)], args := [d1, d2] }
  | _ => none }
def fnExactTileOfRow : OpenClaim := { program := "ytfdjcfgpgfknkaa", sum := "8fcc1b05c59301e81a3fa93833142a9a35074c9a3f757cd79498a33a4b36cfef", func := "loop.example/g01216/laws.FnExactTileOf", spec := "fnExactTileOf", plainKeys := false, apart := false }
def FnExactTileOfSaid : Prop := fnExactTileOfRow.holds Try.pinned (OpenSpec.ofChange fnExactTileOfSpec)

/-- ITS FALSE NEIGHBOUR: 'it returns false'. Refute it at one input. -/
def fnExactTileOfWrong : ChangeSpec := { name := "fnExactTileOf", fn := fun _ => fun
  | [d1, d2] => { results := [.lit (.bool false)], args := [d1, d2] }
  | _ => none }
def FnExactTileOfWrongFalsely : Prop := fnExactTileOfRow.holds Try.pinned (OpenSpec.ofChange fnExactTileOfWrong)

/-- 'laws.FnExactIsHand': WHATEVER THE INPUT: true; the input reads as it did. -/
def fnExactIsHandSpec : ChangeSpec := { name := "fnExactIsHand", fn := fun _ => fun
  | [d] => { results := [.lit (.bool true)], args := [d] }
  | _ => none }
def fnExactIsHandRow : OpenClaim := { program := "ytfdjcfgpgfknkaa", sum := "8fcc1b05c59301e81a3fa93833142a9a35074c9a3f757cd79498a33a4b36cfef", func := "loop.example/g01216/laws.FnExactIsHand", spec := "fnExactIsHand", plainKeys := false, apart := false }
def FnExactIsHandSaid : Prop := fnExactIsHandRow.holds Try.pinned (OpenSpec.ofChange fnExactIsHandSpec)

/-- ITS FALSE NEIGHBOUR: 'it returns false'. Refute it at one input. -/
def fnExactIsHandWrong : ChangeSpec := { name := "fnExactIsHand", fn := fun _ => fun
  | [d] => { results := [.lit (.bool false)], args := [d] }
  | _ => none }
def FnExactIsHandWrongFalsely : Prop := fnExactIsHandRow.holds Try.pinned (OpenSpec.ofChange fnExactIsHandWrong)

/-- 'laws.FnExactSetOf': WHATEVER THE INPUT: true; the input reads as it did. -/
def fnExactSetOfSpec : ChangeSpec := { name := "fnExactSetOf", fn := fun _ => fun
  | [d] => { results := [.lit (.bool true)], args := [d] }
  | _ => none }
def fnExactSetOfRow : OpenClaim := { program := "ytfdjcfgpgfknkaa", sum := "8fcc1b05c59301e81a3fa93833142a9a35074c9a3f757cd79498a33a4b36cfef", func := "loop.example/g01216/laws.FnExactSetOf", spec := "fnExactSetOf", plainKeys := false, apart := false }
def FnExactSetOfSaid : Prop := fnExactSetOfRow.holds Try.pinned (OpenSpec.ofChange fnExactSetOfSpec)

/-- ITS FALSE NEIGHBOUR: 'it returns false'. Refute it at one input. -/
def fnExactSetOfWrong : ChangeSpec := { name := "fnExactSetOf", fn := fun _ => fun
  | [d] => { results := [.lit (.bool false)], args := [d] }
  | _ => none }
def FnExactSetOfWrongFalsely : Prop := fnExactSetOfRow.holds Try.pinned (OpenSpec.ofChange fnExactSetOfWrong)

/-- 'laws.FnExactCountSet': WHATEVER THE INPUT: true; the input reads as it did. -/
def fnExactCountSetSpec : ChangeSpec := { name := "fnExactCountSet", fn := fun _ => fun
  | [d] => { results := [.lit (.bool true)], args := [d] }
  | _ => none }
def fnExactCountSetRow : OpenClaim := { program := "ytfdjcfgpgfknkaa", sum := "8fcc1b05c59301e81a3fa93833142a9a35074c9a3f757cd79498a33a4b36cfef", func := "loop.example/g01216/laws.FnExactCountSet", spec := "fnExactCountSet", plainKeys := false, apart := false }
def FnExactCountSetSaid : Prop := fnExactCountSetRow.holds Try.pinned (OpenSpec.ofChange fnExactCountSetSpec)

/-- ITS FALSE NEIGHBOUR: 'it returns false'. Refute it at one input. -/
def fnExactCountSetWrong : ChangeSpec := { name := "fnExactCountSet", fn := fun _ => fun
  | [d] => { results := [.lit (.bool false)], args := [d] }
  | _ => none }
def FnExactCountSetWrongFalsely : Prop := fnExactCountSetRow.holds Try.pinned (OpenSpec.ofChange fnExactCountSetWrong)

/-- 'laws.FnExactRankOf': WHATEVER THE INPUT: true; the input reads as it did. -/
def fnExactRankOfSpec : ChangeSpec := { name := "fnExactRankOf", fn := fun _ => fun
  | [d] => { results := [.lit (.bool true)], args := [d] }
  | _ => none }
def fnExactRankOfRow : OpenClaim := { program := "ytfdjcfgpgfknkaa", sum := "8fcc1b05c59301e81a3fa93833142a9a35074c9a3f757cd79498a33a4b36cfef", func := "loop.example/g01216/laws.FnExactRankOf", spec := "fnExactRankOf", plainKeys := false, apart := false }
def FnExactRankOfSaid : Prop := fnExactRankOfRow.holds Try.pinned (OpenSpec.ofChange fnExactRankOfSpec)

/-- ITS FALSE NEIGHBOUR: 'it returns false'. Refute it at one input. -/
def fnExactRankOfWrong : ChangeSpec := { name := "fnExactRankOf", fn := fun _ => fun
  | [d] => { results := [.lit (.bool false)], args := [d] }
  | _ => none }
def FnExactRankOfWrongFalsely : Prop := fnExactRankOfRow.holds Try.pinned (OpenSpec.ofChange fnExactRankOfWrong)

/-- 'laws.FnExactTileOfRank': WHATEVER THE INPUT: true; the input reads as it did. -/
def fnExactTileOfRankSpec : ChangeSpec := { name := "fnExactTileOfRank", fn := fun _ => fun
  | [d] => { results := [.lit (.bool true)], args := [d] }
  | _ => none }
def fnExactTileOfRankRow : OpenClaim := { program := "ytfdjcfgpgfknkaa", sum := "8fcc1b05c59301e81a3fa93833142a9a35074c9a3f757cd79498a33a4b36cfef", func := "loop.example/g01216/laws.FnExactTileOfRank", spec := "fnExactTileOfRank", plainKeys := false, apart := false }
def FnExactTileOfRankSaid : Prop := fnExactTileOfRankRow.holds Try.pinned (OpenSpec.ofChange fnExactTileOfRankSpec)

/-- ITS FALSE NEIGHBOUR: 'it returns false'. Refute it at one input. -/
def fnExactTileOfRankWrong : ChangeSpec := { name := "fnExactTileOfRank", fn := fun _ => fun
  | [d] => { results := [.lit (.bool false)], args := [d] }
  | _ => none }
def FnExactTileOfRankWrongFalsely : Prop := fnExactTileOfRankRow.holds Try.pinned (OpenSpec.ofChange fnExactTileOfRankWrong)

/-- 'laws.FnExactSortHand': WHATEVER THE INPUT: true; the input reads as it did. -/
def fnExactSortHandSpec : ChangeSpec := { name := "fnExactSortHand", fn := fun _ => fun
  | [d] => { results := [.lit (.bool true)], args := [d] }
  | _ => none }
def fnExactSortHandRow : OpenClaim := { program := "ytfdjcfgpgfknkaa", sum := "8fcc1b05c59301e81a3fa93833142a9a35074c9a3f757cd79498a33a4b36cfef", func := "loop.example/g01216/laws.FnExactSortHand", spec := "fnExactSortHand", unfollowed := true, recurses := true, plainKeys := false, apart := false }
def FnExactSortHandSaid : Prop := fnExactSortHandRow.holds Try.pinned (OpenSpec.ofChange fnExactSortHandSpec)

/-- ITS FALSE NEIGHBOUR: 'it returns false'. Refute it at one input. -/
def fnExactSortHandWrong : ChangeSpec := { name := "fnExactSortHand", fn := fun _ => fun
  | [d] => { results := [.lit (.bool false)], args := [d] }
  | _ => none }
def FnExactSortHandWrongFalsely : Prop := fnExactSortHandRow.holds Try.pinned (OpenSpec.ofChange fnExactSortHandWrong)

/-- 'laws.FnExactPipsOf': WHATEVER THE INPUT: true; the input reads as it did. -/
def fnExactPipsOfSpec : ChangeSpec := { name := "fnExactPipsOf", fn := fun _ => fun
  | [d] => { results := [.lit (.bool true)], args := [d] }
  | _ => none }
def fnExactPipsOfRow : OpenClaim := { program := "ytfdjcfgpgfknkaa", sum := "8fcc1b05c59301e81a3fa93833142a9a35074c9a3f757cd79498a33a4b36cfef", func := "loop.example/g01216/laws.FnExactPipsOf", spec := "fnExactPipsOf", plainKeys := false, apart := false }
def FnExactPipsOfSaid : Prop := fnExactPipsOfRow.holds Try.pinned (OpenSpec.ofChange fnExactPipsOfSpec)

/-- ITS FALSE NEIGHBOUR: 'it returns false'. Refute it at one input. -/
def fnExactPipsOfWrong : ChangeSpec := { name := "fnExactPipsOf", fn := fun _ => fun
  | [d] => { results := [.lit (.bool false)], args := [d] }
  | _ => none }
def FnExactPipsOfWrongFalsely : Prop := fnExactPipsOfRow.holds Try.pinned (OpenSpec.ofChange fnExactPipsOfWrong)

/-- 'laws.FnExactDoublesOf': WHATEVER THE INPUT: true; the input reads as it did. -/
def fnExactDoublesOfSpec : ChangeSpec := { name := "fnExactDoublesOf", fn := fun _ => fun
  | [d] => { results := [.lit (.bool true)], args := [d] }
  | _ => none }
def fnExactDoublesOfRow : OpenClaim := { program := "ytfdjcfgpgfknkaa", sum := "8fcc1b05c59301e81a3fa93833142a9a35074c9a3f757cd79498a33a4b36cfef", func := "loop.example/g01216/laws.FnExactDoublesOf", spec := "fnExactDoublesOf", plainKeys := false, apart := false }
def FnExactDoublesOfSaid : Prop := fnExactDoublesOfRow.holds Try.pinned (OpenSpec.ofChange fnExactDoublesOfSpec)

/-- ITS FALSE NEIGHBOUR: 'it returns false'. Refute it at one input. -/
def fnExactDoublesOfWrong : ChangeSpec := { name := "fnExactDoublesOf", fn := fun _ => fun
  | [d] => { results := [.lit (.bool false)], args := [d] }
  | _ => none }
def FnExactDoublesOfWrongFalsely : Prop := fnExactDoublesOfRow.holds Try.pinned (OpenSpec.ofChange fnExactDoublesOfWrong)

/-- 'laws.FnExactNumbersOf': WHATEVER THE INPUT: true; the input reads as it did. -/
def fnExactNumbersOfSpec : ChangeSpec := { name := "fnExactNumbersOf", fn := fun _ => fun
  | [d] => { results := [.lit (.bool true)], args := [d] }
  | _ => none }
def fnExactNumbersOfRow : OpenClaim := { program := "ytfdjcfgpgfknkaa", sum := "8fcc1b05c59301e81a3fa93833142a9a35074c9a3f757cd79498a33a4b36cfef", func := "loop.example/g01216/laws.FnExactNumbersOf", spec := "fnExactNumbersOf", plainKeys := false, apart := false }
def FnExactNumbersOfSaid : Prop := fnExactNumbersOfRow.holds Try.pinned (OpenSpec.ofChange fnExactNumbersOfSpec)

/-- ITS FALSE NEIGHBOUR: 'it returns false'. Refute it at one input. -/
def fnExactNumbersOfWrong : ChangeSpec := { name := "fnExactNumbersOf", fn := fun _ => fun
  | [d] => { results := [.lit (.bool false)], args := [d] }
  | _ => none }
def FnExactNumbersOfWrongFalsely : Prop := fnExactNumbersOfRow.holds Try.pinned (OpenSpec.ofChange fnExactNumbersOfWrong)

/-- 'laws.FnExactTimesOf': WHATEVER THE INPUT: true; the input reads as it did. -/
def fnExactTimesOfSpec : ChangeSpec := { name := "fnExactTimesOf", fn := fun _ => fun
  | [d1, d2] => { results := [.lit (.bool true)], args := [d1, d2] }
  | _ => none }
def fnExactTimesOfRow : OpenClaim := { program := "ytfdjcfgpgfknkaa", sum := "8fcc1b05c59301e81a3fa93833142a9a35074c9a3f757cd79498a33a4b36cfef", func := "loop.example/g01216/laws.FnExactTimesOf", spec := "fnExactTimesOf", plainKeys := false, apart := false }
def FnExactTimesOfSaid : Prop := fnExactTimesOfRow.holds Try.pinned (OpenSpec.ofChange fnExactTimesOfSpec)

/-- ITS FALSE NEIGHBOUR: 'it returns false'. Refute it at one input. -/
def fnExactTimesOfWrong : ChangeSpec := { name := "fnExactTimesOf", fn := fun _ => fun
  | [d1, d2] => { results := [.lit (.bool false)], args := [d1, d2] }
  | _ => none }
def FnExactTimesOfWrongFalsely : Prop := fnExactTimesOfRow.holds Try.pinned (OpenSpec.ofChange fnExactTimesOfWrong)

/- THE SECOND FORM. 'bulk': how many values and letters a reading holds, each counted each time it is reached (what is shared counts as often as it is met; a slice's spare places count too). A statement '..UptoSaid' is the law's where the arguments, and the package variables that the reading takes, are together of bulk at most 1048576: NARROWER than '..Said'. Prove '..Said' where nothing that the law and all that it calls make is longer than what came in: it says more and counts as full. Else prove '..UptoSaid'. A law counts once. -/
mutual
def uptoBulk {H : Type} : DataW H → Nat
  | .lit (.string bytes) => bytes.length + 1
  | .lit _ => 1
  | .nil => 1
  | .ptr d => uptoBulk d + 1
  | .slice elems spare => uptoBulkAll elems + uptoBulkAll spare + 1
  | .agg parts => uptoBulkAll parts + 1
  | .iface _ d => uptoBulk d + 1
  | .map entries => uptoBulkEntries entries + 1
  | .held _ => 1
def uptoBulkAll {H : Type} : List (DataW H) → Nat
  | [] => 0
  | d :: r => uptoBulk d + uptoBulkAll r
def uptoBulkEntries {H : Type} : List (Lit × DataW H) → Nat
  | [] => 0
  | x :: r => uptoBulkEntry x + uptoBulkEntries r
def uptoBulkEntry {H : Type} : Lit × DataW H → Nat
  | (.string bytes, d) => bytes.length + uptoBulk d + 1
  | (_, d) => uptoBulk d + 1
 end
def uptoSmall : (H : Type) → List (DataW H) → Bool := fun _ ds => decide (uptoBulkAll ds ≤ 1048576)
def OpenSpec.upto (s : _root_.Go.ChangeSpec) : _root_.Go.OpenSpec := { _root_.Go.OpenSpec.ofChange s with cond := some uptoSmall }

/-- 'laws.FnExactIsTile', WHERE WHAT IT READS IS OF BULK AT MOST 1048576: true; the input reads as it did. -/
def fnExactIsTileUptoRow : OpenClaim := { program := "ytfdjcfgpgfknkaa", sum := "8fcc1b05c59301e81a3fa93833142a9a35074c9a3f757cd79498a33a4b36cfef", func := "loop.example/g01216/laws.FnExactIsTile", spec := "fnExactIsTile", plainKeys := false, apart := false, narrowed := true }
def FnExactIsTileUptoSaid : Prop := fnExactIsTileUptoRow.holds Try.pinned (OpenSpec.upto fnExactIsTileSpec)

/-- 'laws.FnExactTileOf', WHERE WHAT IT READS IS OF BULK AT MOST 1048576: true; the input reads as it did. -/
def fnExactTileOfUptoRow : OpenClaim := { program := "ytfdjcfgpgfknkaa", sum := "8fcc1b05c59301e81a3fa93833142a9a35074c9a3f757cd79498a33a4b36cfef", func := "loop.example/g01216/laws.FnExactTileOf", spec := "fnExactTileOf", plainKeys := false, apart := false, narrowed := true }
def FnExactTileOfUptoSaid : Prop := fnExactTileOfUptoRow.holds Try.pinned (OpenSpec.upto fnExactTileOfSpec)

/-- 'laws.FnExactIsHand', WHERE WHAT IT READS IS OF BULK AT MOST 1048576: true; the input reads as it did. -/
def fnExactIsHandUptoRow : OpenClaim := { program := "ytfdjcfgpgfknkaa", sum := "8fcc1b05c59301e81a3fa93833142a9a35074c9a3f757cd79498a33a4b36cfef", func := "loop.example/g01216/laws.FnExactIsHand", spec := "fnExactIsHand", plainKeys := false, apart := false, narrowed := true }
def FnExactIsHandUptoSaid : Prop := fnExactIsHandUptoRow.holds Try.pinned (OpenSpec.upto fnExactIsHandSpec)

/-- 'laws.FnExactSetOf', WHERE WHAT IT READS IS OF BULK AT MOST 1048576: true; the input reads as it did. -/
def fnExactSetOfUptoRow : OpenClaim := { program := "ytfdjcfgpgfknkaa", sum := "8fcc1b05c59301e81a3fa93833142a9a35074c9a3f757cd79498a33a4b36cfef", func := "loop.example/g01216/laws.FnExactSetOf", spec := "fnExactSetOf", plainKeys := false, apart := false, narrowed := true }
def FnExactSetOfUptoSaid : Prop := fnExactSetOfUptoRow.holds Try.pinned (OpenSpec.upto fnExactSetOfSpec)

/-- 'laws.FnExactCountSet', WHERE WHAT IT READS IS OF BULK AT MOST 1048576: true; the input reads as it did. -/
def fnExactCountSetUptoRow : OpenClaim := { program := "ytfdjcfgpgfknkaa", sum := "8fcc1b05c59301e81a3fa93833142a9a35074c9a3f757cd79498a33a4b36cfef", func := "loop.example/g01216/laws.FnExactCountSet", spec := "fnExactCountSet", plainKeys := false, apart := false, narrowed := true }
def FnExactCountSetUptoSaid : Prop := fnExactCountSetUptoRow.holds Try.pinned (OpenSpec.upto fnExactCountSetSpec)

/-- 'laws.FnExactRankOf', WHERE WHAT IT READS IS OF BULK AT MOST 1048576: true; the input reads as it did. -/
def fnExactRankOfUptoRow : OpenClaim := { program := "ytfdjcfgpgfknkaa", sum := "8fcc1b05c59301e81a3fa93833142a9a35074c9a3f757cd79498a33a4b36cfef", func := "loop.example/g01216/laws.FnExactRankOf", spec := "fnExactRankOf", plainKeys := false, apart := false, narrowed := true }
def FnExactRankOfUptoSaid : Prop := fnExactRankOfUptoRow.holds Try.pinned (OpenSpec.upto fnExactRankOfSpec)

/-- 'laws.FnExactTileOfRank', WHERE WHAT IT READS IS OF BULK AT MOST 1048576: true; the input reads as it did. -/
def fnExactTileOfRankUptoRow : OpenClaim := { program := "ytfdjcfgpgfknkaa", sum := "8fcc1b05c59301e81a3fa93833142a9a35074c9a3f757cd79498a33a4b36cfef", func := "loop.example/g01216/laws.FnExactTileOfRank", spec := "fnExactTileOfRank", plainKeys := false, apart := false, narrowed := true }
def FnExactTileOfRankUptoSaid : Prop := fnExactTileOfRankUptoRow.holds Try.pinned (OpenSpec.upto fnExactTileOfRankSpec)

/-- 'laws.FnExactSortHand', WHERE WHAT IT READS IS OF BULK AT MOST 1048576: true; the input reads as it did. -/
def fnExactSortHandUptoRow : OpenClaim := { program := "ytfdjcfgpgfknkaa", sum := "8fcc1b05c59301e81a3fa93833142a9a35074c9a3f757cd79498a33a4b36cfef", func := "loop.example/g01216/laws.FnExactSortHand", spec := "fnExactSortHand", unfollowed := true, recurses := true, plainKeys := false, apart := false, narrowed := true }
def FnExactSortHandUptoSaid : Prop := fnExactSortHandUptoRow.holds Try.pinned (OpenSpec.upto fnExactSortHandSpec)

/-- 'laws.FnExactPipsOf', WHERE WHAT IT READS IS OF BULK AT MOST 1048576: true; the input reads as it did. -/
def fnExactPipsOfUptoRow : OpenClaim := { program := "ytfdjcfgpgfknkaa", sum := "8fcc1b05c59301e81a3fa93833142a9a35074c9a3f757cd79498a33a4b36cfef", func := "loop.example/g01216/laws.FnExactPipsOf", spec := "fnExactPipsOf", plainKeys := false, apart := false, narrowed := true }
def FnExactPipsOfUptoSaid : Prop := fnExactPipsOfUptoRow.holds Try.pinned (OpenSpec.upto fnExactPipsOfSpec)

/-- 'laws.FnExactDoublesOf', WHERE WHAT IT READS IS OF BULK AT MOST 1048576: true; the input reads as it did. -/
def fnExactDoublesOfUptoRow : OpenClaim := { program := "ytfdjcfgpgfknkaa", sum := "8fcc1b05c59301e81a3fa93833142a9a35074c9a3f757cd79498a33a4b36cfef", func := "loop.example/g01216/laws.FnExactDoublesOf", spec := "fnExactDoublesOf", plainKeys := false, apart := false, narrowed := true }
def FnExactDoublesOfUptoSaid : Prop := fnExactDoublesOfUptoRow.holds Try.pinned (OpenSpec.upto fnExactDoublesOfSpec)

/-- 'laws.FnExactNumbersOf', WHERE WHAT IT READS IS OF BULK AT MOST 1048576: true; the input reads as it did. -/
def fnExactNumbersOfUptoRow : OpenClaim := { program := "ytfdjcfgpgfknkaa", sum := "8fcc1b05c59301e81a3fa93833142a9a35074c9a3f757cd79498a33a4b36cfef", func := "loop.example/g01216/laws.FnExactNumbersOf", spec := "fnExactNumbersOf", plainKeys := false, apart := false, narrowed := true }
def FnExactNumbersOfUptoSaid : Prop := fnExactNumbersOfUptoRow.holds Try.pinned (OpenSpec.upto fnExactNumbersOfSpec)

/-- 'laws.FnExactTimesOf', WHERE WHAT IT READS IS OF BULK AT MOST 1048576: true; the input reads as it did. -/
def fnExactTimesOfUptoRow : OpenClaim := { program := "ytfdjcfgpgfknkaa", sum := "8fcc1b05c59301e81a3fa93833142a9a35074c9a3f757cd79498a33a4b36cfef", func := "loop.example/g01216/laws.FnExactTimesOf", spec := "fnExactTimesOf", plainKeys := false, apart := false, narrowed := true }
def FnExactTimesOfUptoSaid : Prop := fnExactTimesOfUptoRow.holds Try.pinned (OpenSpec.upto fnExactTimesOfSpec)

end Rows
end Go.Proofs.Ytfdjcfgpgfknkaa

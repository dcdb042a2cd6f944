/-
  No cell of these rows narrows 'for every input' (looked for: loops, veiled, ifaces, maps, wideKeys, modest, calm, conditions, laid).
  DERIVED. THE GIVEN ROWS OF THIS SEAT. 8 by the template 'for every input the law returns true; each argument reads behind the call as it read before'; 0 by the template 'total and deterministic' (their statements: YtfdjcfgpgfknkabTotals.lean).
  GIVEN WITH THE SEED: the statements are not yours to turn. If you find one false, say at which input.
  Laid BY PROGRAM, IN A SANDBOX (cutbox-rows.mjs): the forced cells as the released guide's own fill.sh prints them over the translation 15f37cc3902fd337… (all of the seat's roots in one cut). By AI agents, Wed Nov 11 2026. No macro, syntax, notation, axiom, sorry.
-/
import Derived.Test.YtfdjcfgpgfknkabChecked
import GoSem.Claim
import GoSem.ClaimJoined
import GoSem.ClaimMapViews
import Derived.JoinedTies
import Derived.KernelRfl
namespace Go.Proofs.Ytfdjcfgpgfknkab
/- THE CELL 'sum', in the pinned program and in every row, IS THE sha256 OF THE DUMP (.gsa) THAT YtfdjcfgpgfknkabProg.lean LOADS. Nothing in Lean hashes anything: it is a label: what it is worth is what the hold of that sum in a sandbox is worth. -/
noncomputable def Try.pinned : Pinned := { name := "ytfdjcfgpgfknkab", sum := "15f37cc3902fd3374fa22a3e890acb48dab5b05713af56d9bcc984527119435f", checked := Try.checked }
namespace Rows
def none {H : Type} : Left H := { results := [], args := [] }

/-- 'laws.FnExactWithNumber': WHATEVER THE INPUT: true; the input reads as it did. -/
def fnExactWithNumberSpec : ChangeSpec := { name := "fnExactWithNumber", fn := fun _ => fun
  | [d1, d2] => { results := [.lit (.bool true)], args := [d1, d2] }
  | _ => none }
def fnExactWithNumberRow : OpenClaim := { program := "ytfdjcfgpgfknkab", sum := "15f37cc3902fd3374fa22a3e890acb48dab5b05713af56d9bcc984527119435f", func := "loop.example/g01216/laws.FnExactWithNumber", spec := "fnExactWithNumber", unfollowed := true, recurses := true, plainKeys := false, apart := false }
def FnExactWithNumberSaid : Prop := fnExactWithNumberRow.holds Try.pinned (OpenSpec.ofChange fnExactWithNumberSpec)

/-- ITS FALSE NEIGHBOUR: 'it returns false'. Refute it at one input. -/
def fnExactWithNumberWrong : ChangeSpec := { name := "fnExactWithNumber", fn := fun _ => fun
  | [d1, d2] => { results := [.lit (.bool false)], args := [d1, d2] }
  | _ => none }
def FnExactWithNumberWrongFalsely : Prop := fnExactWithNumberRow.holds Try.pinned (OpenSpec.ofChange fnExactWithNumberWrong)

/-- 'laws.FnExactJoinHands': WHATEVER THE INPUT: true; the input reads as it did. -/
def fnExactJoinHandsSpec : ChangeSpec := { name := "fnExactJoinHands", fn := fun _ => fun
  | [d1, d2] => { results := [.lit (.bool true)], args := [d1, d2] }
  | _ => none }
def fnExactJoinHandsRow : OpenClaim := { program := "ytfdjcfgpgfknkab", sum := "15f37cc3902fd3374fa22a3e890acb48dab5b05713af56d9bcc984527119435f", func := "loop.example/g01216/laws.FnExactJoinHands", spec := "fnExactJoinHands", unfollowed := true, recurses := true, plainKeys := false, apart := false }
def FnExactJoinHandsSaid : Prop := fnExactJoinHandsRow.holds Try.pinned (OpenSpec.ofChange fnExactJoinHandsSpec)

/-- ITS FALSE NEIGHBOUR: 'it returns false'. Refute it at one input. -/
def fnExactJoinHandsWrong : ChangeSpec := { name := "fnExactJoinHands", fn := fun _ => fun
  | [d1, d2] => { results := [.lit (.bool false)], args := [d1, d2] }
  | _ => none }
def FnExactJoinHandsWrongFalsely : Prop := fnExactJoinHandsRow.holds Try.pinned (OpenSpec.ofChange fnExactJoinHandsWrong)

/-- 'laws.FnExactBothHands': WHATEVER THE INPUT: true; the input reads as it did. -/
def fnExactBothHandsSpec : ChangeSpec := { name := "fnExactBothHands", fn := fun _ => fun
  | [d1, d2] => { results := [.lit (.bool true)], args := [d1, d2] }
  | _ => none }
def fnExactBothHandsRow : OpenClaim := { program := "ytfdjcfgpgfknkab", sum := "15f37cc3902fd3374fa22a3e890acb48dab5b05713af56d9bcc984527119435f", func := "loop.example/g01216/laws.FnExactBothHands", spec := "fnExactBothHands", unfollowed := true, recurses := true, plainKeys := false, apart := false }
def FnExactBothHandsSaid : Prop := fnExactBothHandsRow.holds Try.pinned (OpenSpec.ofChange fnExactBothHandsSpec)

/-- ITS FALSE NEIGHBOUR: 'it returns false'. Refute it at one input. -/
def fnExactBothHandsWrong : ChangeSpec := { name := "fnExactBothHands", fn := fun _ => fun
  | [d1, d2] => { results := [.lit (.bool false)], args := [d1, d2] }
  | _ => none }
def FnExactBothHandsWrongFalsely : Prop := fnExactBothHandsRow.holds Try.pinned (OpenSpec.ofChange fnExactBothHandsWrong)

/-- 'laws.FnExactLessHand': WHATEVER THE INPUT: true; the input reads as it did. -/
def fnExactLessHandSpec : ChangeSpec := { name := "fnExactLessHand", fn := fun _ => fun
  | [d1, d2] => { results := [.lit (.bool true)], args := [d1, d2] }
  | _ => none }
def fnExactLessHandRow : OpenClaim := { program := "ytfdjcfgpgfknkab", sum := "15f37cc3902fd3374fa22a3e890acb48dab5b05713af56d9bcc984527119435f", func := "loop.example/g01216/laws.FnExactLessHand", spec := "fnExactLessHand", unfollowed := true, recurses := true, plainKeys := false, apart := false }
def FnExactLessHandSaid : Prop := fnExactLessHandRow.holds Try.pinned (OpenSpec.ofChange fnExactLessHandSpec)

/-- ITS FALSE NEIGHBOUR: 'it returns false'. Refute it at one input. -/
def fnExactLessHandWrong : ChangeSpec := { name := "fnExactLessHand", fn := fun _ => fun
  | [d1, d2] => { results := [.lit (.bool false)], args := [d1, d2] }
  | _ => none }
def FnExactLessHandWrongFalsely : Prop := fnExactLessHandRow.holds Try.pinned (OpenSpec.ofChange fnExactLessHandWrong)

/-- 'laws.FnExactMissingFrom': WHATEVER THE INPUT: true; the input reads as it did. -/
def fnExactMissingFromSpec : ChangeSpec := { name := "fnExactMissingFrom", fn := fun _ => fun
  | [d1, d2] => { results := [.lit (.bool true)], args := [d1, d2] }
  | _ => none }
def fnExactMissingFromRow : OpenClaim := { program := "ytfdjcfgpgfknkab", sum := "15f37cc3902fd3374fa22a3e890acb48dab5b05713af56d9bcc984527119435f", func := "loop.example/g01216/laws.FnExactMissingFrom", spec := "fnExactMissingFrom", unfollowed := true, recurses := true, plainKeys := false, apart := false }
def FnExactMissingFromSaid : Prop := fnExactMissingFromRow.holds Try.pinned (OpenSpec.ofChange fnExactMissingFromSpec)

/-- ITS FALSE NEIGHBOUR: 'it returns false'. Refute it at one input. -/
def fnExactMissingFromWrong : ChangeSpec := { name := "fnExactMissingFrom", fn := fun _ => fun
  | [d1, d2] => { results := [.lit (.bool false)], args := [d1, d2] }
  | _ => none }
def FnExactMissingFromWrongFalsely : Prop := fnExactMissingFromRow.holds Try.pinned (OpenSpec.ofChange fnExactMissingFromWrong)

/-- 'laws.FnExactRenameHand': WHATEVER THE INPUT: true; the input reads as it did. -/
def fnExactRenameHandSpec : ChangeSpec := { name := "fnExactRenameHand", fn := fun _ => fun
  | [d1, d2] => { results := [.lit (.bool true)], args := [d1, d2] }
  | _ => none }
def fnExactRenameHandRow : OpenClaim := { program := "ytfdjcfgpgfknkab", sum := "15f37cc3902fd3374fa22a3e890acb48dab5b05713af56d9bcc984527119435f", func := "loop.example/g01216/laws.FnExactRenameHand", spec := "fnExactRenameHand", unfollowed := true, recurses := true, plainKeys := false, apart := false }
def FnExactRenameHandSaid : Prop := fnExactRenameHandRow.holds Try.pinned (OpenSpec.ofChange fnExactRenameHandSpec)

/-- ITS FALSE NEIGHBOUR: 'it returns false'. Refute it at one input. -/
def fnExactRenameHandWrong : ChangeSpec := { name := "fnExactRenameHand", fn := fun _ => fun
  | [d1, d2] => { results := [.lit (.bool false)], args := [d1, d2] }
  | _ => none }
def FnExactRenameHandWrongFalsely : Prop := fnExactRenameHandRow.holds Try.pinned (OpenSpec.ofChange fnExactRenameHandWrong)

/-- 'laws.FnHandsAsSets': WHATEVER THE INPUT: true; the input reads as it did. -/
def fnHandsAsSetsSpec : ChangeSpec := { name := "fnHandsAsSets", fn := fun _ => fun
  | [d1, d2] => { results := [.lit (.bool true)], args := [d1, d2] }
  | _ => none }
def fnHandsAsSetsRow : OpenClaim := { program := "ytfdjcfgpgfknkab", sum := "15f37cc3902fd3374fa22a3e890acb48dab5b05713af56d9bcc984527119435f", func := "loop.example/g01216/laws.FnHandsAsSets", spec := "fnHandsAsSets", unfollowed := true, recurses := true, plainKeys := false, apart := false }
def FnHandsAsSetsSaid : Prop := fnHandsAsSetsRow.holds Try.pinned (OpenSpec.ofChange fnHandsAsSetsSpec)

/-- ITS FALSE NEIGHBOUR: 'it returns false'. Refute it at one input. -/
def fnHandsAsSetsWrong : ChangeSpec := { name := "fnHandsAsSets", fn := fun _ => fun
  | [d1, d2] => { results := [.lit (.bool false)], args := [d1, d2] }
  | _ => none }
def FnHandsAsSetsWrongFalsely : Prop := fnHandsAsSetsRow.holds Try.pinned (OpenSpec.ofChange fnHandsAsSetsWrong)

/-- 'laws.FnTilesRanked': WHATEVER THE INPUT: true; the input reads as it did. -/
def fnTilesRankedSpec : ChangeSpec := { name := "fnTilesRanked", fn := fun _ => fun
  | [d1, d2] => { results := [.lit (.bool true)], args := [d1, d2] }
  | _ => none }
def fnTilesRankedRow : OpenClaim := { program := "ytfdjcfgpgfknkab", sum := "15f37cc3902fd3374fa22a3e890acb48dab5b05713af56d9bcc984527119435f", func := "loop.example/g01216/laws.FnTilesRanked", spec := "fnTilesRanked", plainKeys := false, apart := false }
def FnTilesRankedSaid : Prop := fnTilesRankedRow.holds Try.pinned (OpenSpec.ofChange fnTilesRankedSpec)

/-- ITS FALSE NEIGHBOUR: 'it returns false'. Refute it at one input. -/
def fnTilesRankedWrong : ChangeSpec := { name := "fnTilesRanked", fn := fun _ => fun
  | [d1, d2] => { results := [.lit (.bool false)], args := [d1, d2] }
  | _ => none }
def FnTilesRankedWrongFalsely : Prop := fnTilesRankedRow.holds Try.pinned (OpenSpec.ofChange fnTilesRankedWrong)

/- THE SECOND FORM. 'bulk': how many values and letters a reading holds, each counted each time it is reached (what is shared counts as often as it is met; a slice's spare places count too). A statement '..UptoSaid' is the law's where the arguments, and the package variables that the reading takes, are together of bulk at most 1048576: NARROWER than '..Said'. Prove '..Said' where nothing that the law and all that it calls make is longer than what came in: it says more and counts as full. Else prove '..UptoSaid'. A law counts once. -/
mutual
def uptoBulk {H : Type} : DataW H → Nat
  | .lit (.string bytes) => bytes.length + 1
  | .lit _ => 1
  | .nil => 1
  | .ptr d => uptoBulk d + 1
  | .slice elems spare => uptoBulkAll elems + uptoBulkAll spare + 1
  | .agg parts => uptoBulkAll parts + 1
  | .iface _ d => uptoBulk d + 1
  | .map entries => uptoBulkEntries entries + 1
  | .held _ => 1
def uptoBulkAll {H : Type} : List (DataW H) → Nat
  | [] => 0
  | d :: r => uptoBulk d + uptoBulkAll r
def uptoBulkEntries {H : Type} : List (Lit × DataW H) → Nat
  | [] => 0
  | x :: r => uptoBulkEntry x + uptoBulkEntries r
def uptoBulkEntry {H : Type} : Lit × DataW H → Nat
  | (.string bytes, d) => bytes.length + uptoBulk d + 1
  | (_, d) => uptoBulk d + 1
 end
def uptoSmall : (H : Type) → List (DataW H) → Bool := fun _ ds => decide (uptoBulkAll ds ≤ 1048576)
def OpenSpec.upto (s : _root_.Go.ChangeSpec) : _root_.Go.OpenSpec := { _root_.Go.OpenSpec.ofChange s with cond := some uptoSmall }

/-- 'laws.FnExactWithNumber', WHERE WHAT IT READS IS OF BULK AT MOST 1048576: true; the input reads as it did. -/
def fnExactWithNumberUptoRow : OpenClaim := { program := "ytfdjcfgpgfknkab", sum := "15f37cc3902fd3374fa22a3e890acb48dab5b05713af56d9bcc984527119435f", func := "loop.example/g01216/laws.FnExactWithNumber", spec := "fnExactWithNumber", unfollowed := true, recurses := true, plainKeys := false, apart := false, narrowed := true }
def FnExactWithNumberUptoSaid : Prop := fnExactWithNumberUptoRow.holds Try.pinned (OpenSpec.upto fnExactWithNumberSpec)

/-- 'laws.FnExactJoinHands', WHERE WHAT IT READS IS OF BULK AT MOST 1048576: true; the input reads as it did. -/
def fnExactJoinHandsUptoRow : OpenClaim := { program := "ytfdjcfgpgfknkab", sum := "15f37cc3902fd3374fa22a3e890acb48dab5b05713af56d9bcc984527119435f", func := "loop.example/g01216/laws.FnExactJoinHands", spec := "fnExactJoinHands", unfollowed := true, recurses := true, plainKeys := false, apart := false, narrowed := true }
def FnExactJoinHandsUptoSaid : Prop := fnExactJoinHandsUptoRow.holds Try.pinned (OpenSpec.upto fnExactJoinHandsSpec)

/-- 'laws.FnExactBothHands', WHERE WHAT IT READS IS OF BULK AT MOST 1048576: true; the input reads as it did. -/
def fnExactBothHandsUptoRow : OpenClaim := { program := "ytfdjcfgpgfknkab", sum := "15f37cc3902fd3374fa22a3e890acb48dab5b05713af56d9bcc984527119435f", func := "loop.example/g01216/laws.FnExactBothHands", spec := "fnExactBothHands", unfollowed := true, recurses := true, plainKeys := false, apart := false, narrowed := true }
def FnExactBothHandsUptoSaid : Prop := fnExactBothHandsUptoRow.holds Try.pinned (OpenSpec.upto fnExactBothHandsSpec)

/-- 'laws.FnExactLessHand', WHERE WHAT IT READS IS OF BULK AT MOST 1048576: true; the input reads as it did. -/
def fnExactLessHandUptoRow : OpenClaim := { program := "ytfdjcfgpgfknkab", sum := "15f37cc3902fd3374fa22a3e890acb48dab5b05713af56d9bcc984527119435f", func := "loop.example/g01216/laws.FnExactLessHand", spec := "fnExactLessHand", unfollowed := true, recurses := true, plainKeys := false, apart := false, narrowed := true }
def FnExactLessHandUptoSaid : Prop := fnExactLessHandUptoRow.holds Try.pinned (OpenSpec.upto fnExactLessHandSpec)

/-- 'laws.FnExactMissingFrom', WHERE WHAT IT READS IS OF BULK AT MOST 1048576: true; the input reads as it did. -/
def fnExactMissingFromUptoRow : OpenClaim := { program := "ytfdjcfgpgfknkab", sum := "15f37cc3902fd3374fa22a3e890acb48dab5b05713af56d9bcc984527119435f", func := "loop.example/g01216/laws.FnExactMissingFrom", spec := "fnExactMissingFrom", unfollowed := true, recurses := true, plainKeys := false, apart := false, narrowed := true }
def FnExactMissingFromUptoSaid : Prop := fnExactMissingFromUptoRow.holds Try.pinned (OpenSpec.upto fnExactMissingFromSpec)

/-- 'laws.FnExactRenameHand', WHERE WHAT IT READS IS OF BULK AT MOST 1048576: true; the input reads as it did. -/
def fnExactRenameHandUptoRow : OpenClaim := { program := "ytfdjcfgpgfknkab", sum := "15f37cc3902fd3374fa22a3e890acb48dab5b05713af56d9bcc984527119435f", func := "loop.example/g01216/laws.FnExactRenameHand", spec := "fnExactRenameHand", unfollowed := true, recurses := true, plainKeys := false, apart := false, narrowed := true }
def FnExactRenameHandUptoSaid : Prop := fnExactRenameHandUptoRow.holds Try.pinned (OpenSpec.upto fnExactRenameHandSpec)

/-- 'laws.FnHandsAsSets', WHERE WHAT IT READS IS OF BULK AT MOST 1048576: true; the input reads as it did. -/
def fnHandsAsSetsUptoRow : OpenClaim := { program := "ytfdjcfgpgfknkab", sum := "15f37cc3902fd3374fa22a3e890acb48dab5b05713af56d9bcc984527119435f", func := "loop.example/g01216/laws.FnHandsAsSets", spec := "fnHandsAsSets", unfollowed := true, recurses := true, plainKeys := false, apart := false, narrowed := true }
def FnHandsAsSetsUptoSaid : Prop := fnHandsAsSetsUptoRow.holds Try.pinned (OpenSpec.upto fnHandsAsSetsSpec)

/-- 'laws.FnTilesRanked', WHERE WHAT IT READS IS OF BULK AT MOST 1048576: true; the input reads as it did. -/
def fnTilesRankedUptoRow : OpenClaim := { program := "ytfdjcfgpgfknkab", sum := "15f37cc3902fd3374fa22a3e890acb48dab5b05713af56d9bcc984527119435f", func := "loop.example/g01216/laws.FnTilesRanked", spec := "fnTilesRanked", plainKeys := false, apart := false, narrowed := true }
def FnTilesRankedUptoSaid : Prop := fnTilesRankedUptoRow.holds Try.pinned (OpenSpec.upto fnTilesRankedSpec)

end Rows
end Go.Proofs.Ytfdjcfgpgfknkab

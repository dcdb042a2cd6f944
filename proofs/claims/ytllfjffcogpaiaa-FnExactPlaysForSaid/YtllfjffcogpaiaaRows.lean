/-
  No cell of these rows narrows 'for every input' (looked for: loops, veiled, ifaces, maps, wideKeys, modest, calm, conditions, laid).
  DERIVED. THE GIVEN ROWS OF THIS SEAT. 12 by the template 'for every input the law returns true; each argument reads behind the call as it read before'; 0 by the template 'total and deterministic' (their statements: YtllfjffcogpaiaaTotals.lean).
  GIVEN WITH THE SEED: the statements are not yours to turn. If you find one false, say at which input.
  Laid BY PROGRAM, IN A SANDBOX (cutbox-rows.mjs): the forced cells as the released guide's own fill.sh prints them over the translation 52a0eaa63bd206e4… (all of the seat's roots in one cut). By AI agents, Wed Nov 11 2026. No macro, syntax, notation, axiom, sorry.
-/
import Derived.Test.YtllfjffcogpaiaaChecked
import GoSem.Claim
import GoSem.ClaimJoined
import GoSem.ClaimMapViews
import Derived.JoinedTies
import Derived.KernelRfl
namespace Go.Proofs.Ytllfjffcogpaiaa
/- THE CELL 'sum', in the pinned program and in every row, IS THE sha256 OF THE DUMP (.gsa) THAT YtllfjffcogpaiaaProg.lean LOADS. Nothing in Lean hashes anything: it is a label: what it is worth is what the hold of that sum in a sandbox is worth. -/
noncomputable def Try.pinned : Pinned := { name := "ytllfjffcogpaiaa", sum := "52a0eaa63bd206e47430884842e1a1afb691261c9335e707e6396b120abfcbb5", checked := Try.checked }
namespace Rows
def none {H : Type} : Left H := { results := [], args := [] }

/-- 'laws.FnExactIsSpread': WHATEVER THE INPUT: true; the input reads as it did. -/
def fnExactIsSpreadSpec : ChangeSpec := { name := "fnExactIsSpread", fn := fun _ => fun
  | [d] => { results := [.lit (.bool true)], args := [d] }
  | _ => none }
def fnExactIsSpreadRow : OpenClaim := { program := "ytllfjffcogpaiaa", sum := "52a0eaa63bd206e47430884842e1a1afb691261c9335e707e6396b120abfcbb5", func := "loop.example/g01216/laws.FnExactIsSpread", spec := "fnExactIsSpread", plainKeys := false, apart := false }
def FnExactIsSpreadSaid : Prop := fnExactIsSpreadRow.holds Try.pinned (OpenSpec.ofChange fnExactIsSpreadSpec)

/-- ITS FALSE NEIGHBOUR: 'it returns false'. Refute it at one input. -/
def fnExactIsSpreadWrong : ChangeSpec := { name := "fnExactIsSpread", fn := fun _ => fun
  | [d] => { results := [.lit (.bool false)], args := [d] }
  | _ => none }
def FnExactIsSpreadWrongFalsely : Prop := fnExactIsSpreadRow.holds Try.pinned (OpenSpec.ofChange fnExactIsSpreadWrong)

/-- 'laws.FnExactArmsOf': WHATEVER THE INPUT: true; the input reads as it did. -/
def fnExactArmsOfSpec : ChangeSpec := { name := "fnExactArmsOf", fn := fun _ => fun
  | [d] => { results := [.lit (.bool true)], args := [d] }
  | _ => none }
def fnExactArmsOfRow : OpenClaim := { program := "ytllfjffcogpaiaa", sum := "52a0eaa63bd206e47430884842e1a1afb691261c9335e707e6396b120abfcbb5", func := "loop.example/g01216/laws.FnExactArmsOf", spec := "fnExactArmsOf", plainKeys := false, apart := false }
def FnExactArmsOfSaid : Prop := fnExactArmsOfRow.holds Try.pinned (OpenSpec.ofChange fnExactArmsOfSpec)

/-- ITS FALSE NEIGHBOUR: 'it returns false'. Refute it at one input. -/
def fnExactArmsOfWrong : ChangeSpec := { name := "fnExactArmsOf", fn := fun _ => fun
  | [d] => { results := [.lit (.bool false)], args := [d] }
  | _ => none }
def FnExactArmsOfWrongFalsely : Prop := fnExactArmsOfRow.holds Try.pinned (OpenSpec.ofChange fnExactArmsOfWrong)

/-- 'laws.FnExactLaidTiles': WHATEVER THE INPUT: true; the input reads as it did. -/
def fnExactLaidTilesSpec : ChangeSpec := { name := "fnExactLaidTiles", fn := fun _ => fun
  | [d] => { results := [.lit (.bool true)], args := [d] }
  | _ => none }
def fnExactLaidTilesRow : OpenClaim := { program := "ytllfjffcogpaiaa", sum := "52a0eaa63bd206e47430884842e1a1afb691261c9335e707e6396b120abfcbb5", func := "loop.example/g01216/laws.FnExactLaidTiles", spec := "fnExactLaidTiles", unfollowed := true, recurses := true, plainKeys := false, apart := false }
def FnExactLaidTilesSaid : Prop := fnExactLaidTilesRow.holds Try.pinned (OpenSpec.ofChange fnExactLaidTilesSpec)

/-- ITS FALSE NEIGHBOUR: 'it returns false'. Refute it at one input. -/
def fnExactLaidTilesWrong : ChangeSpec := { name := "fnExactLaidTiles", fn := fun _ => fun
  | [d] => { results := [.lit (.bool false)], args := [d] }
  | _ => none }
def FnExactLaidTilesWrongFalsely : Prop := fnExactLaidTilesRow.holds Try.pinned (OpenSpec.ofChange fnExactLaidTilesWrong)

/-- 'laws.FnExactSpinnerOf': WHATEVER THE INPUT: true; the input reads as it did. -/
def fnExactSpinnerOfSpec : ChangeSpec := { name := "fnExactSpinnerOf", fn := fun _ => fun
  | [d] => { results := [.lit (.bool true)], args := [d] }
  | _ => none }
def fnExactSpinnerOfRow : OpenClaim := { program := "ytllfjffcogpaiaa", sum := "52a0eaa63bd206e47430884842e1a1afb691261c9335e707e6396b120abfcbb5", func := "loop.example/g01216/laws.FnExactSpinnerOf", spec := "fnExactSpinnerOf", plainKeys := false, apart := false }
def FnExactSpinnerOfSaid : Prop := fnExactSpinnerOfRow.holds Try.pinned (OpenSpec.ofChange fnExactSpinnerOfSpec)

/-- ITS FALSE NEIGHBOUR: 'it returns false'. Refute it at one input. -/
def fnExactSpinnerOfWrong : ChangeSpec := { name := "fnExactSpinnerOf", fn := fun _ => fun
  | [d] => { results := [.lit (.bool false)], args := [d] }
  | _ => none }
def FnExactSpinnerOfWrongFalsely : Prop := fnExactSpinnerOfRow.holds Try.pinned (OpenSpec.ofChange fnExactSpinnerOfWrong)

/-- 'laws.FnExactOpenNumbers': WHATEVER THE INPUT: true; the input reads as it did. -/
def fnExactOpenNumbersSpec : ChangeSpec := { name := "fnExactOpenNumbers", fn := fun _ => fun
  | [d] => { results := [.lit (.bool true)], args := [d] }
  | _ => none }
def fnExactOpenNumbersRow : OpenClaim := { program := "ytllfjffcogpaiaa", sum := "52a0eaa63bd206e47430884842e1a1afb691261c9335e707e6396b120abfcbb5", func := "loop.example/g01216/laws.FnExactOpenNumbers", spec := "fnExactOpenNumbers", unfollowed := true, recurses := true, plainKeys := false, apart := false }
def FnExactOpenNumbersSaid : Prop := fnExactOpenNumbersRow.holds Try.pinned (OpenSpec.ofChange fnExactOpenNumbersSpec)

/-- ITS FALSE NEIGHBOUR: 'it returns false'. Refute it at one input. -/
def fnExactOpenNumbersWrong : ChangeSpec := { name := "fnExactOpenNumbers", fn := fun _ => fun
  | [d] => { results := [.lit (.bool false)], args := [d] }
  | _ => none }
def FnExactOpenNumbersWrongFalsely : Prop := fnExactOpenNumbersRow.holds Try.pinned (OpenSpec.ofChange fnExactOpenNumbersWrong)

/-- 'laws.FnExactSumOfEnds': WHATEVER THE INPUT: true; the input reads as it did. -/
def fnExactSumOfEndsSpec : ChangeSpec := { name := "fnExactSumOfEnds", fn := fun _ => fun
  | [d] => { results := [.lit (.bool true)], args := [d] }
  | _ => none }
def fnExactSumOfEndsRow : OpenClaim := { program := "ytllfjffcogpaiaa", sum := "52a0eaa63bd206e47430884842e1a1afb691261c9335e707e6396b120abfcbb5", func := "loop.example/g01216/laws.FnExactSumOfEnds", spec := "fnExactSumOfEnds", unfollowed := true, recurses := true, plainKeys := false, apart := false }
def FnExactSumOfEndsSaid : Prop := fnExactSumOfEndsRow.holds Try.pinned (OpenSpec.ofChange fnExactSumOfEndsSpec)

/-- ITS FALSE NEIGHBOUR: 'it returns false'. Refute it at one input. -/
def fnExactSumOfEndsWrong : ChangeSpec := { name := "fnExactSumOfEnds", fn := fun _ => fun
  | [d] => { results := [.lit (.bool false)], args := [d] }
  | _ => none }
def FnExactSumOfEndsWrongFalsely : Prop := fnExactSumOfEndsRow.holds Try.pinned (OpenSpec.ofChange fnExactSumOfEndsWrong)

/-- 'laws.FnExactFivesOf': WHATEVER THE INPUT: true; the input reads as it did. -/
def fnExactFivesOfSpec : ChangeSpec := { name := "fnExactFivesOf", fn := fun _ => fun
  | [d] => { results := [.lit (.bool true)], args := [d] }
  | _ => none }
def fnExactFivesOfRow : OpenClaim := { program := "ytllfjffcogpaiaa", sum := "52a0eaa63bd206e47430884842e1a1afb691261c9335e707e6396b120abfcbb5", func := "loop.example/g01216/laws.FnExactFivesOf", spec := "fnExactFivesOf", unfollowed := true, recurses := true, plainKeys := false, apart := false }
def FnExactFivesOfSaid : Prop := fnExactFivesOfRow.holds Try.pinned (OpenSpec.ofChange fnExactFivesOfSpec)

/-- ITS FALSE NEIGHBOUR: 'it returns false'. Refute it at one input. -/
def fnExactFivesOfWrong : ChangeSpec := { name := "fnExactFivesOf", fn := fun _ => fun
  | [d] => { results := [.lit (.bool false)], args := [d] }
  | _ => none }
def FnExactFivesOfWrongFalsely : Prop := fnExactFivesOfRow.holds Try.pinned (OpenSpec.ofChange fnExactFivesOfWrong)

/-- 'laws.FnExactAllFives': WHATEVER THE INPUT: true; the input reads as it did. -/
def fnExactAllFivesSpec : ChangeSpec := { name := "fnExactAllFives", fn := fun _ => fun
  | [d] => { results := [.lit (.bool true)], args := [d] }
  | _ => none }
def fnExactAllFivesRow : OpenClaim := { program := "ytllfjffcogpaiaa", sum := "52a0eaa63bd206e47430884842e1a1afb691261c9335e707e6396b120abfcbb5", func := "loop.example/g01216/laws.FnExactAllFives", spec := "fnExactAllFives", plainKeys := false, apart := false }
def FnExactAllFivesSaid : Prop := fnExactAllFivesRow.holds Try.pinned (OpenSpec.ofChange fnExactAllFivesSpec)

/-- ITS FALSE NEIGHBOUR: 'it returns false'. Refute it at one input. -/
def fnExactAllFivesWrong : ChangeSpec := { name := "fnExactAllFives", fn := fun _ => fun
  | [d] => { results := [.lit (.bool false)], args := [d] }
  | _ => none }
def FnExactAllFivesWrongFalsely : Prop := fnExactAllFivesRow.holds Try.pinned (OpenSpec.ofChange fnExactAllFivesWrong)

/-- 'laws.FnExactPlaysFor': WHATEVER THE INPUT: true; the input reads as it did. -/
def fnExactPlaysForSpec : ChangeSpec := { name := "fnExactPlaysFor", fn := fun _ => fun
  | [d1, d2] => { results := [.lit (.bool true)], args := [d1, d2] }
  | _ => none }
def fnExactPlaysForRow : OpenClaim := { program := "ytllfjffcogpaiaa", sum := "52a0eaa63bd206e47430884842e1a1afb691261c9335e707e6396b120abfcbb5", func := "loop.example/g01216/laws.FnExactPlaysFor", spec := "fnExactPlaysFor", unfollowed := true, recurses := true, plainKeys := false, apart := false }
def FnExactPlaysForSaid : Prop := fnExactPlaysForRow.holds Try.pinned (OpenSpec.ofChange fnExactPlaysForSpec)

/-- ITS FALSE NEIGHBOUR: 'it returns false'. Refute it at one input. -/
def fnExactPlaysForWrong : ChangeSpec := { name := "fnExactPlaysFor", fn := fun _ => fun
  | [d1, d2] => { results := [.lit (.bool false)], args := [d1, d2] }
  | _ => none }
def FnExactPlaysForWrongFalsely : Prop := fnExactPlaysForRow.holds Try.pinned (OpenSpec.ofChange fnExactPlaysForWrong)

/-- 'laws.FnExactCanPlay': WHATEVER THE INPUT: true; the input reads as it did. -/
def fnExactCanPlaySpec : ChangeSpec := { name := "fnExactCanPlay", fn := fun _ => fun
  | [d1, d2] => { results := [.lit (.bool true)], args := [d1, d2] }
  | _ => none }
def fnExactCanPlayRow : OpenClaim := { program := "ytllfjffcogpaiaa", sum := "52a0eaa63bd206e47430884842e1a1afb691261c9335e707e6396b120abfcbb5", func := "loop.example/g01216/laws.FnExactCanPlay", spec := "fnExactCanPlay", unfollowed := true, recurses := true, plainKeys := false, apart := false }
def FnExactCanPlaySaid : Prop := fnExactCanPlayRow.holds Try.pinned (OpenSpec.ofChange fnExactCanPlaySpec)

/-- ITS FALSE NEIGHBOUR: 'it returns false'. Refute it at one input. -/
def fnExactCanPlayWrong : ChangeSpec := { name := "fnExactCanPlay", fn := fun _ => fun
  | [d1, d2] => { results := [.lit (.bool false)], args := [d1, d2] }
  | _ => none }
def FnExactCanPlayWrongFalsely : Prop := fnExactCanPlayRow.holds Try.pinned (OpenSpec.ofChange fnExactCanPlayWrong)

/-- 'laws.FnExactAddPlay': WHATEVER THE INPUT: true; the input reads as it did. -/
def fnExactAddPlaySpec : ChangeSpec := { name := "fnExactAddPlay", fn := fun _ => fun
  | [d1, d2] => { results := [.lit (.bool true)], args := [d1, d2] }
  | _ => none }
def fnExactAddPlayRow : OpenClaim := { program := "ytllfjffcogpaiaa", sum := "52a0eaa63bd206e47430884842e1a1afb691261c9335e707e6396b120abfcbb5", func := "loop.example/g01216/laws.FnExactAddPlay", spec := "fnExactAddPlay", plainKeys := false, apart := false }
def FnExactAddPlaySaid : Prop := fnExactAddPlayRow.holds Try.pinned (OpenSpec.ofChange fnExactAddPlaySpec)

/-- ITS FALSE NEIGHBOUR: 'it returns false'. Refute it at one input. -/
def fnExactAddPlayWrong : ChangeSpec := { name := "fnExactAddPlay", fn := fun _ => fun
  | [d1, d2] => { results := [.lit (.bool false)], args := [d1, d2] }
  | _ => none }
def FnExactAddPlayWrongFalsely : Prop := fnExactAddPlayRow.holds Try.pinned (OpenSpec.ofChange fnExactAddPlayWrong)

/-- 'laws.FnExactTakeBack': WHATEVER THE INPUT: true; the input reads as it did. -/
def fnExactTakeBackSpec : ChangeSpec := { name := "fnExactTakeBack", fn := fun _ => fun
  | [d1, d2] => { results := [.lit (.bool true)], args := [d1, d2] }
  | _ => none }
def fnExactTakeBackRow : OpenClaim := { program := "ytllfjffcogpaiaa", sum := "52a0eaa63bd206e47430884842e1a1afb691261c9335e707e6396b120abfcbb5", func := "loop.example/g01216/laws.FnExactTakeBack", spec := "fnExactTakeBack", plainKeys := false, apart := false }
def FnExactTakeBackSaid : Prop := fnExactTakeBackRow.holds Try.pinned (OpenSpec.ofChange fnExactTakeBackSpec)

/-- ITS FALSE NEIGHBOUR: 'it returns false'. Refute it at one input. -/
def fnExactTakeBackWrong : ChangeSpec := { name := "fnExactTakeBack", fn := fun _ => fun
  | [d1, d2] => { results := [.lit (.bool false)], args := [d1, d2] }
  | _ => none }
def FnExactTakeBackWrongFalsely : Prop := fnExactTakeBackRow.holds Try.pinned (OpenSpec.ofChange fnExactTakeBackWrong)

/- THE SECOND FORM. 'bulk': how many values and letters a reading holds, each counted each time it is reached (what is shared counts as often as it is met; a slice's spare places count too). A statement '..UptoSaid' is the law's where the arguments, and the package variables that the reading takes, are together of bulk at most 1048576: NARROWER than '..Said'. Prove '..Said' where nothing that the law and all that it calls make is longer than what came in: it says more and counts as full. Else prove '..UptoSaid'. A law counts once. -/
mutual
def uptoBulk {H : Type} : DataW H → Nat
  | .lit (.string bytes) => bytes.length + 1
  | .lit _ => 1
  | .nil => 1
  | .ptr d => uptoBulk d + 1
  | .slice elems spare => uptoBulkAll elems + uptoBulkAll spare + 1
  | .agg parts => uptoBulkAll parts + 1
  | .iface _ d => uptoBulk d + 1
  | .map entries => uptoBulkEntries entries + 1
  | .held _ => 1
def uptoBulkAll {H : Type} : List (DataW H) → Nat
  | [] => 0
  | d :: r => uptoBulk d + uptoBulkAll r
def uptoBulkEntries {H : Type} : List (Lit × DataW H) → Nat
  | [] => 0
  | x :: r => uptoBulkEntry x + uptoBulkEntries r
def uptoBulkEntry {H : Type} : Lit × DataW H → Nat
  | (.string bytes, d) => bytes.length + uptoBulk d + 1
  | (_, d) => uptoBulk d + 1
 end
def uptoSmall : (H : Type) → List (DataW H) → Bool := fun _ ds => decide (uptoBulkAll ds ≤ 1048576)
def OpenSpec.upto (s : _root_.Go.ChangeSpec) : _root_.Go.OpenSpec := { _root_.Go.OpenSpec.ofChange s with cond := some uptoSmall }

/-- 'laws.FnExactIsSpread', WHERE WHAT IT READS IS OF BULK AT MOST 1048576: true; the input reads as it did. -/
def fnExactIsSpreadUptoRow : OpenClaim := { program := "ytllfjffcogpaiaa", sum := "52a0eaa63bd206e47430884842e1a1afb691261c9335e707e6396b120abfcbb5", func := "loop.example/g01216/laws.FnExactIsSpread", spec := "fnExactIsSpread", plainKeys := false, apart := false, narrowed := true }
def FnExactIsSpreadUptoSaid : Prop := fnExactIsSpreadUptoRow.holds Try.pinned (OpenSpec.upto fnExactIsSpreadSpec)

/-- 'laws.FnExactArmsOf', WHERE WHAT IT READS IS OF BULK AT MOST 1048576: true; the input reads as it did. -/
def fnExactArmsOfUptoRow : OpenClaim := { program := "ytllfjffcogpaiaa", sum := "52a0eaa63bd206e47430884842e1a1afb691261c9335e707e6396b120abfcbb5", func := "loop.example/g01216/laws.FnExactArmsOf", spec := "fnExactArmsOf", plainKeys := false, apart := false, narrowed := true }
def FnExactArmsOfUptoSaid : Prop := fnExactArmsOfUptoRow.holds Try.pinned (OpenSpec.upto fnExactArmsOfSpec)

/-- 'laws.FnExactLaidTiles', WHERE WHAT IT READS IS OF BULK AT MOST 1048576: true; the input reads as it did. -/
def fnExactLaidTilesUptoRow : OpenClaim := { program := "ytllfjffcogpaiaa", sum := "52a0eaa63bd206e47430884842e1a1afb691261c9335e707e6396b120abfcbb5", func := "loop.example/g01216/laws.FnExactLaidTiles", spec := "fnExactLaidTiles", unfollowed := true, recurses := true, plainKeys := false, apart := false, narrowed := true }
def FnExactLaidTilesUptoSaid : Prop := fnExactLaidTilesUptoRow.holds Try.pinned (OpenSpec.upto fnExactLaidTilesSpec)

/-- 'laws.FnExactSpinnerOf', WHERE WHAT IT READS IS OF BULK AT MOST 1048576: true; the input reads as it did. -/
def fnExactSpinnerOfUptoRow : OpenClaim := { program := "ytllfjffcogpaiaa", sum := "52a0eaa63bd206e47430884842e1a1afb691261c9335e707e6396b120abfcbb5", func := "loop.example/g01216/laws.FnExactSpinnerOf", spec := "fnExactSpinnerOf", plainKeys := false, apart := false, narrowed := true }
def FnExactSpinnerOfUptoSaid : Prop := fnExactSpinnerOfUptoRow.holds Try.pinned (OpenSpec.upto fnExactSpinnerOfSpec)

/-- 'laws.FnExactOpenNumbers', WHERE WHAT IT READS IS OF BULK AT MOST 1048576: true; the input reads as it did. -/
def fnExactOpenNumbersUptoRow : OpenClaim := { program := "ytllfjffcogpaiaa", sum := "52a0eaa63bd206e47430884842e1a1afb691261c9335e707e6396b120abfcbb5", func := "loop.example/g01216/laws.FnExactOpenNumbers", spec := "fnExactOpenNumbers", unfollowed := true, recurses := true, plainKeys := false, apart := false, narrowed := true }
def FnExactOpenNumbersUptoSaid : Prop := fnExactOpenNumbersUptoRow.holds Try.pinned (OpenSpec.upto fnExactOpenNumbersSpec)

/-- 'laws.FnExactSumOfEnds', WHERE WHAT IT READS IS OF BULK AT MOST 1048576: true; the input reads as it did. -/
def fnExactSumOfEndsUptoRow : OpenClaim := { program := "ytllfjffcogpaiaa", sum := "52a0eaa63bd206e47430884842e1a1afb691261c9335e707e6396b120abfcbb5", func := "loop.example/g01216/laws.FnExactSumOfEnds", spec := "fnExactSumOfEnds", unfollowed := true, recurses := true, plainKeys := false, apart := false, narrowed := true }
def FnExactSumOfEndsUptoSaid : Prop := fnExactSumOfEndsUptoRow.holds Try.pinned (OpenSpec.upto fnExactSumOfEndsSpec)

/-- 'laws.FnExactFivesOf', WHERE WHAT IT READS IS OF BULK AT MOST 1048576: true; the input reads as it did. -/
def fnExactFivesOfUptoRow : OpenClaim := { program := "ytllfjffcogpaiaa", sum := "52a0eaa63bd206e47430884842e1a1afb691261c9335e707e6396b120abfcbb5", func := "loop.example/g01216/laws.FnExactFivesOf", spec := "fnExactFivesOf", unfollowed := true, recurses := true, plainKeys := false, apart := false, narrowed := true }
def FnExactFivesOfUptoSaid : Prop := fnExactFivesOfUptoRow.holds Try.pinned (OpenSpec.upto fnExactFivesOfSpec)

/-- 'laws.FnExactAllFives', WHERE WHAT IT READS IS OF BULK AT MOST 1048576: true; the input reads as it did. -/
def fnExactAllFivesUptoRow : OpenClaim := { program := "ytllfjffcogpaiaa", sum := "52a0eaa63bd206e47430884842e1a1afb691261c9335e707e6396b120abfcbb5", func := "loop.example/g01216/laws.FnExactAllFives", spec := "fnExactAllFives", plainKeys := false, apart := false, narrowed := true }
def FnExactAllFivesUptoSaid : Prop := fnExactAllFivesUptoRow.holds Try.pinned (OpenSpec.upto fnExactAllFivesSpec)

/-- 'laws.FnExactPlaysFor', WHERE WHAT IT READS IS OF BULK AT MOST 1048576: true; the input reads as it did. -/
def fnExactPlaysForUptoRow : OpenClaim := { program := "ytllfjffcogpaiaa", sum := "52a0eaa63bd206e47430884842e1a1afb691261c9335e707e6396b120abfcbb5", func := "loop.example/g01216/laws.FnExactPlaysFor", spec := "fnExactPlaysFor", unfollowed := true, recurses := true, plainKeys := false, apart := false, narrowed := true }
def FnExactPlaysForUptoSaid : Prop := fnExactPlaysForUptoRow.holds Try.pinned (OpenSpec.upto fnExactPlaysForSpec)

/-- 'laws.FnExactCanPlay', WHERE WHAT IT READS IS OF BULK AT MOST 1048576: true; the input reads as it did. -/
def fnExactCanPlayUptoRow : OpenClaim := { program := "ytllfjffcogpaiaa", sum := "52a0eaa63bd206e47430884842e1a1afb691261c9335e707e6396b120abfcbb5", func := "loop.example/g01216/laws.FnExactCanPlay", spec := "fnExactCanPlay", unfollowed := true, recurses := true, plainKeys := false, apart := false, narrowed := true }
def FnExactCanPlayUptoSaid : Prop := fnExactCanPlayUptoRow.holds Try.pinned (OpenSpec.upto fnExactCanPlaySpec)

/-- 'laws.FnExactAddPlay', WHERE WHAT IT READS IS OF BULK AT MOST 1048576: true; the input reads as it did. -/
def fnExactAddPlayUptoRow : OpenClaim := { program := "ytllfjffcogpaiaa", sum := "52a0eaa63bd206e47430884842e1a1afb691261c9335e707e6396b120abfcbb5", func := "loop.example/g01216/laws.FnExactAddPlay", spec := "fnExactAddPlay", plainKeys := false, apart := false, narrowed := true }
def FnExactAddPlayUptoSaid : Prop := fnExactAddPlayUptoRow.holds Try.pinned (OpenSpec.upto fnExactAddPlaySpec)

/-- 'laws.FnExactTakeBack', WHERE WHAT IT READS IS OF BULK AT MOST 1048576: true; the input reads as it did. -/
def fnExactTakeBackUptoRow : OpenClaim := { program := "ytllfjffcogpaiaa", sum := "52a0eaa63bd206e47430884842e1a1afb691261c9335e707e6396b120abfcbb5", func := "loop.example/g01216/laws.FnExactTakeBack", spec := "fnExactTakeBack", plainKeys := false, apart := false, narrowed := true }
def FnExactTakeBackUptoSaid : Prop := fnExactTakeBackUptoRow.holds Try.pinned (OpenSpec.upto fnExactTakeBackSpec)

end Rows
end Go.Proofs.Ytllfjffcogpaiaa

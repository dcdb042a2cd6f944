/-
  No cell of these rows narrows 'for every input' (looked for: loops, veiled, ifaces, maps, wideKeys, modest, calm, conditions, laid).
  DERIVED. THE GIVEN ROWS OF THIS SEAT. 12 by the template 'for every input the law returns true; each argument reads behind the call as it read before'; 0 by the template 'total and deterministic' (their statements: YteiiiceajpmndaaTotals.lean).
  GIVEN WITH THE SEED: the statements are not yours to turn. If you find one false, say at which input.
  Laid BY PROGRAM, IN A SANDBOX (cutbox-rows.mjs): the forced cells as the released guide's own fill.sh prints them over the translation 3829e1b02cb6e461… (all of the seat's roots in one cut). By AI agents, Wed Nov 11 2026. No macro, syntax, notation, axiom, sorry.
-/
import Derived.Test.YteiiiceajpmndaaChecked
import GoSem.Claim
import GoSem.ClaimJoined
import GoSem.ClaimMapViews
import Derived.JoinedTies
import Derived.KernelRfl
namespace Go.Proofs.Yteiiiceajpmndaa
/- THE CELL 'sum', in the pinned program and in every row, IS THE sha256 OF THE DUMP (.gsa) THAT YteiiiceajpmndaaProg.lean LOADS. Nothing in Lean hashes anything: it is a label: what it is worth is what the hold of that sum in a sandbox is worth. -/
noncomputable def Try.pinned : Pinned := { name := "yteiiiceajpmndaa", sum := "3829e1b02cb6e461aae7b8a01ccce73c82485241f3cee56d0891d1f86a2a7597", checked := Try.checked }
namespace Rows
def none {H : Type} : Left H := { results := [], args := [] }

/-- 'laws.FnExactOddNumbers': WHATEVER THE INPUT: true; the input reads as it did. -/
def fnExactOddNumbersSpec : ChangeSpec := { name := "fnExactOddNumbers", fn := fun _ => fun
  | [d] => { results := [.lit (.bool true)], args := [d] }
  | _ => none }
def fnExactOddNumbersRow : OpenClaim := { program := "yteiiiceajpmndaa", sum := "3829e1b02cb6e461aae7b8a01ccce73c82485241f3cee56d0891d1f86a2a7597", func := "loop.example/g01216/laws.FnExactOddNumbers", spec := "fnExactOddNumbers", plainKeys := false, apart := false }
def FnExactOddNumbersSaid : Prop := fnExactOddNumbersRow.holds Try.pinned (OpenSpec.ofChange fnExactOddNumbersSpec)

/-- ITS FALSE NEIGHBOUR: 'it returns false'. Refute it at one input. -/
def fnExactOddNumbersWrong : ChangeSpec := { name := "fnExactOddNumbers", fn := fun _ => fun
  | [d] => { results := [.lit (.bool false)], args := [d] }
  | _ => none }
def FnExactOddNumbersWrongFalsely : Prop := fnExactOddNumbersRow.holds Try.pinned (OpenSpec.ofChange fnExactOddNumbersWrong)

/-- 'laws.FnExactLeastLeftOut': WHATEVER THE INPUT: true; the input reads as it did. -/
def fnExactLeastLeftOutSpec : ChangeSpec := { name := "fnExactLeastLeftOut", fn := fun _ => fun
  | [d] => { results := [.lit (.bool true)], args := [d] }
  | _ => none }
def fnExactLeastLeftOutRow : OpenClaim := { program := "yteiiiceajpmndaa", sum := "3829e1b02cb6e461aae7b8a01ccce73c82485241f3cee56d0891d1f86a2a7597", func := "loop.example/g01216/laws.FnExactLeastLeftOut", spec := "fnExactLeastLeftOut", plainKeys := false, apart := false }
def FnExactLeastLeftOutSaid : Prop := fnExactLeastLeftOutRow.holds Try.pinned (OpenSpec.ofChange fnExactLeastLeftOutSpec)

/-- ITS FALSE NEIGHBOUR: 'it returns false'. Refute it at one input. -/
def fnExactLeastLeftOutWrong : ChangeSpec := { name := "fnExactLeastLeftOut", fn := fun _ => fun
  | [d] => { results := [.lit (.bool false)], args := [d] }
  | _ => none }
def FnExactLeastLeftOutWrongFalsely : Prop := fnExactLeastLeftOutRow.holds Try.pinned (OpenSpec.ofChange fnExactLeastLeftOutWrong)

/-- 'laws.FnExactFirstLeftOut': WHATEVER THE INPUT: true; the input reads as it did. -/
def fnExactFirstLeftOutSpec : ChangeSpec := { name := "fnExactFirstLeftOut", fn := fun _ => fun
  | [d] => { results := [.lit (.bool true)], args := [d] }
  | _ => none }
def fnExactFirstLeftOutRow : OpenClaim := { program := "yteiiiceajpmndaa", sum := "3829e1b02cb6e461aae7b8a01ccce73c82485241f3cee56d0891d1f86a2a7597", func := "loop.example/g01216/laws.FnExactFirstLeftOut", spec := "fnExactFirstLeftOut", recurses := true, plainKeys := false, apart := false }
def FnExactFirstLeftOutSaid : Prop := fnExactFirstLeftOutRow.holds Try.pinned (OpenSpec.ofChange fnExactFirstLeftOutSpec)

/-- ITS FALSE NEIGHBOUR: 'it returns false'. Refute it at one input. -/
def fnExactFirstLeftOutWrong : ChangeSpec := { name := "fnExactFirstLeftOut", fn := fun _ => fun
  | [d] => { results := [.lit (.bool false)], args := [d] }
  | _ => none }
def FnExactFirstLeftOutWrongFalsely : Prop := fnExactFirstLeftOutRow.holds Try.pinned (OpenSpec.ofChange fnExactFirstLeftOutWrong)

/-- 'laws.FnExactIsWhole': WHATEVER THE INPUT: true; the input reads as it did. -/
def fnExactIsWholeSpec : ChangeSpec := { name := "fnExactIsWhole", fn := fun _ => fun
  | [d1, d2] => { results := [.lit (.bool true)], args := [d1, d2] }
  | _ => none }
def fnExactIsWholeRow : OpenClaim := { program := "yteiiiceajpmndaa", sum := "3829e1b02cb6e461aae7b8a01ccce73c82485241f3cee56d0891d1f86a2a7597", func := "loop.example/g01216/laws.FnExactIsWhole", spec := "fnExactIsWhole", unfollowed := true, recurses := true, plainKeys := false, apart := false }
def FnExactIsWholeSaid : Prop := fnExactIsWholeRow.holds Try.pinned (OpenSpec.ofChange fnExactIsWholeSpec)

/-- ITS FALSE NEIGHBOUR: 'it returns false'. Refute it at one input. -/
def fnExactIsWholeWrong : ChangeSpec := { name := "fnExactIsWhole", fn := fun _ => fun
  | [d1, d2] => { results := [.lit (.bool false)], args := [d1, d2] }
  | _ => none }
def FnExactIsWholeWrongFalsely : Prop := fnExactIsWholeRow.holds Try.pinned (OpenSpec.ofChange fnExactIsWholeWrong)

/-- 'laws.FnExactPartsOfHand': WHATEVER THE INPUT: true; the input reads as it did. -/
def fnExactPartsOfHandSpec : ChangeSpec := { name := "fnExactPartsOfHand", fn := fun _ => fun
  | [d] => { results := [.lit (.bool true)], args := [d] }
  | _ => none }
def fnExactPartsOfHandRow : OpenClaim := { program := "yteiiiceajpmndaa", sum := "3829e1b02cb6e461aae7b8a01ccce73c82485241f3cee56d0891d1f86a2a7597", func := "loop.example/g01216/laws.FnExactPartsOfHand", spec := "fnExactPartsOfHand", unfollowed := true, recurses := true, plainKeys := false, apart := false }
def FnExactPartsOfHandSaid : Prop := fnExactPartsOfHandRow.holds Try.pinned (OpenSpec.ofChange fnExactPartsOfHandSpec)

/-- ITS FALSE NEIGHBOUR: 'it returns false'. Refute it at one input. -/
def fnExactPartsOfHandWrong : ChangeSpec := { name := "fnExactPartsOfHand", fn := fun _ => fun
  | [d] => { results := [.lit (.bool false)], args := [d] }
  | _ => none }
def FnExactPartsOfHandWrongFalsely : Prop := fnExactPartsOfHandRow.holds Try.pinned (OpenSpec.ofChange fnExactPartsOfHandWrong)

/-- 'laws.FnExactCanChain': WHATEVER THE INPUT: true; the input reads as it did. -/
def fnExactCanChainSpec : ChangeSpec := { name := "fnExactCanChain", fn := fun _ => fun
  | [d] => { results := [.lit (.bool true)], args := [d] }
  | _ => none }
def fnExactCanChainRow : OpenClaim := { program := "yteiiiceajpmndaa", sum := "3829e1b02cb6e461aae7b8a01ccce73c82485241f3cee56d0891d1f86a2a7597", func := "loop.example/g01216/laws.FnExactCanChain", spec := "fnExactCanChain", unfollowed := true, recurses := true, plainKeys := false, apart := false }
def FnExactCanChainSaid : Prop := fnExactCanChainRow.holds Try.pinned (OpenSpec.ofChange fnExactCanChainSpec)

/-- ITS FALSE NEIGHBOUR: 'it returns false'. Refute it at one input. -/
def fnExactCanChainWrong : ChangeSpec := { name := "fnExactCanChain", fn := fun _ => fun
  | [d] => { results := [.lit (.bool false)], args := [d] }
  | _ => none }
def FnExactCanChainWrongFalsely : Prop := fnExactCanChainRow.holds Try.pinned (OpenSpec.ofChange fnExactCanChainWrong)

/-- 'laws.FnExactCanRing': WHATEVER THE INPUT: true; the input reads as it did. -/
def fnExactCanRingSpec : ChangeSpec := { name := "fnExactCanRing", fn := fun _ => fun
  | [d] => { results := [.lit (.bool true)], args := [d] }
  | _ => none }
def fnExactCanRingRow : OpenClaim := { program := "yteiiiceajpmndaa", sum := "3829e1b02cb6e461aae7b8a01ccce73c82485241f3cee56d0891d1f86a2a7597", func := "loop.example/g01216/laws.FnExactCanRing", spec := "fnExactCanRing", unfollowed := true, recurses := true, plainKeys := false, apart := false }
def FnExactCanRingSaid : Prop := fnExactCanRingRow.holds Try.pinned (OpenSpec.ofChange fnExactCanRingSpec)

/-- ITS FALSE NEIGHBOUR: 'it returns false'. Refute it at one input. -/
def fnExactCanRingWrong : ChangeSpec := { name := "fnExactCanRing", fn := fun _ => fun
  | [d] => { results := [.lit (.bool false)], args := [d] }
  | _ => none }
def FnExactCanRingWrongFalsely : Prop := fnExactCanRingRow.holds Try.pinned (OpenSpec.ofChange fnExactCanRingWrong)

/-- 'laws.FnExactLeastChains': WHATEVER THE INPUT: true; the input reads as it did. -/
def fnExactLeastChainsSpec : ChangeSpec := { name := "fnExactLeastChains", fn := fun _ => fun
  | [d] => { results := [.lit (.bool true)], args := [d] }
  | _ => none }
def fnExactLeastChainsRow : OpenClaim := { program := "yteiiiceajpmndaa", sum := "3829e1b02cb6e461aae7b8a01ccce73c82485241f3cee56d0891d1f86a2a7597", func := "loop.example/g01216/laws.FnExactLeastChains", spec := "fnExactLeastChains", unfollowed := true, recurses := true, plainKeys := false, apart := false }
def FnExactLeastChainsSaid : Prop := fnExactLeastChainsRow.holds Try.pinned (OpenSpec.ofChange fnExactLeastChainsSpec)

/-- ITS FALSE NEIGHBOUR: 'it returns false'. Refute it at one input. -/
def fnExactLeastChainsWrong : ChangeSpec := { name := "fnExactLeastChains", fn := fun _ => fun
  | [d] => { results := [.lit (.bool false)], args := [d] }
  | _ => none }
def FnExactLeastChainsWrongFalsely : Prop := fnExactLeastChainsRow.holds Try.pinned (OpenSpec.ofChange fnExactLeastChainsWrong)

/-- 'laws.FnExactGroupsOf': WHATEVER THE INPUT: true; the input reads as it did. -/
def fnExactGroupsOfSpec : ChangeSpec := { name := "fnExactGroupsOf", fn := fun _ => fun
  | [d] => { results := [.lit (.bool true)], args := [d] }
  | _ => none }
def fnExactGroupsOfRow : OpenClaim := { program := "yteiiiceajpmndaa", sum := "3829e1b02cb6e461aae7b8a01ccce73c82485241f3cee56d0891d1f86a2a7597", func := "loop.example/g01216/laws.FnExactGroupsOf", spec := "fnExactGroupsOf", plainKeys := false, apart := false }
def FnExactGroupsOfSaid : Prop := fnExactGroupsOfRow.holds Try.pinned (OpenSpec.ofChange fnExactGroupsOfSpec)

/-- ITS FALSE NEIGHBOUR: 'it returns false'. Refute it at one input. -/
def fnExactGroupsOfWrong : ChangeSpec := { name := "fnExactGroupsOf", fn := fun _ => fun
  | [d] => { results := [.lit (.bool false)], args := [d] }
  | _ => none }
def FnExactGroupsOfWrongFalsely : Prop := fnExactGroupsOfRow.holds Try.pinned (OpenSpec.ofChange fnExactGroupsOfWrong)

/-- 'laws.FnExactFirstWhole': WHATEVER THE INPUT: true; the input reads as it did. -/
def fnExactFirstWholeSpec : ChangeSpec := { name := "fnExactFirstWhole", fn := fun _ => fun
  | [d] => { results := [.lit (.bool true)], args := [d] }
  | _ => none }
def fnExactFirstWholeRow : OpenClaim := { program := "yteiiiceajpmndaa", sum := "3829e1b02cb6e461aae7b8a01ccce73c82485241f3cee56d0891d1f86a2a7597", func := "loop.example/g01216/laws.FnExactFirstWhole", spec := "fnExactFirstWhole", unfollowed := true, recurses := true, plainKeys := false, apart := false }
def FnExactFirstWholeSaid : Prop := fnExactFirstWholeRow.holds Try.pinned (OpenSpec.ofChange fnExactFirstWholeSpec)

/-- ITS FALSE NEIGHBOUR: 'it returns false'. Refute it at one input. -/
def fnExactFirstWholeWrong : ChangeSpec := { name := "fnExactFirstWhole", fn := fun _ => fun
  | [d] => { results := [.lit (.bool false)], args := [d] }
  | _ => none }
def FnExactFirstWholeWrongFalsely : Prop := fnExactFirstWholeRow.holds Try.pinned (OpenSpec.ofChange fnExactFirstWholeWrong)

/-- 'laws.FnExactFirstRing': WHATEVER THE INPUT: true; the input reads as it did. -/
def fnExactFirstRingSpec : ChangeSpec := { name := "fnExactFirstRing", fn := fun _ => fun
  | [d] => { results := [.lit (.bool true)], args := [d] }
  | _ => none }
def fnExactFirstRingRow : OpenClaim := { program := "yteiiiceajpmndaa", sum := "3829e1b02cb6e461aae7b8a01ccce73c82485241f3cee56d0891d1f86a2a7597", func := "loop.example/g01216/laws.FnExactFirstRing", spec := "fnExactFirstRing", unfollowed := true, recurses := true, plainKeys := false, apart := false }
def FnExactFirstRingSaid : Prop := fnExactFirstRingRow.holds Try.pinned (OpenSpec.ofChange fnExactFirstRingSpec)

/-- ITS FALSE NEIGHBOUR: 'it returns false'. Refute it at one input. -/
def fnExactFirstRingWrong : ChangeSpec := { name := "fnExactFirstRing", fn := fun _ => fun
  | [d] => { results := [.lit (.bool false)], args := [d] }
  | _ => none }
def FnExactFirstRingWrongFalsely : Prop := fnExactFirstRingRow.holds Try.pinned (OpenSpec.ofChange fnExactFirstRingWrong)

/-- 'laws.FnExactChainsOfHand': WHATEVER THE INPUT: true; the input reads as it did. -/
def fnExactChainsOfHandSpec : ChangeSpec := { name := "fnExactChainsOfHand", fn := fun _ => fun
  | [d] => { results := [.lit (.bool true)], args := [d] }
  | _ => none }
def fnExactChainsOfHandRow : OpenClaim := { program := "yteiiiceajpmndaa", sum := "3829e1b02cb6e461aae7b8a01ccce73c82485241f3cee56d0891d1f86a2a7597", func := "loop.example/g01216/laws.FnExactChainsOfHand", spec := "fnExactChainsOfHand", unfollowed := true, recurses := true, plainKeys := false, apart := false }
def FnExactChainsOfHandSaid : Prop := fnExactChainsOfHandRow.holds Try.pinned (OpenSpec.ofChange fnExactChainsOfHandSpec)

/-- ITS FALSE NEIGHBOUR: 'it returns false'. Refute it at one input. -/
def fnExactChainsOfHandWrong : ChangeSpec := { name := "fnExactChainsOfHand", fn := fun _ => fun
  | [d] => { results := [.lit (.bool false)], args := [d] }
  | _ => none }
def FnExactChainsOfHandWrongFalsely : Prop := fnExactChainsOfHandRow.holds Try.pinned (OpenSpec.ofChange fnExactChainsOfHandWrong)

/- THE SECOND FORM. 'bulk': how many values and letters a reading holds, each counted each time it is reached (what is shared counts as often as it is met; a slice's spare places count too). A statement '..UptoSaid' is the law's where the arguments, and the package variables that the reading takes, are together of bulk at most 1048576: NARROWER than '..Said'. Prove '..Said' where nothing that the law and all that it calls make is longer than what came in: it says more and counts as full. Else prove '..UptoSaid'. A law counts once. -/
mutual
def uptoBulk {H : Type} : DataW H → Nat
  | .lit (.string bytes) => bytes.length + 1
  | .lit _ => 1
  | .nil => 1
  | .ptr d => uptoBulk d + 1
  | .slice elems spare => uptoBulkAll elems + uptoBulkAll spare + 1
  | .agg parts => uptoBulkAll parts + 1
  | .iface _ d => uptoBulk d + 1
  | .map entries => uptoBulkEntries entries + 1
  | .held _ => 1
def uptoBulkAll {H : Type} : List (DataW H) → Nat
  | [] => 0
  | d :: r => uptoBulk d + uptoBulkAll r
def uptoBulkEntries {H : Type} : List (Lit × DataW H) → Nat
  | [] => 0
  | x :: r => uptoBulkEntry x + uptoBulkEntries r
def uptoBulkEntry {H : Type} : Lit × DataW H → Nat
  | (.string bytes, d) => bytes.length + uptoBulk d + 1
  | (_, d) => uptoBulk d + 1
 end
def uptoSmall : (H : Type) → List (DataW H) → Bool := fun _ ds => decide (uptoBulkAll ds ≤ 1048576)
def OpenSpec.upto (s : _root_.Go.ChangeSpec) : _root_.Go.OpenSpec := { _root_.Go.OpenSpec.ofChange s with cond := some uptoSmall }

/-- 'laws.FnExactOddNumbers', WHERE WHAT IT READS IS OF BULK AT MOST 1048576: true; the input reads as it did. -/
def fnExactOddNumbersUptoRow : OpenClaim := { program := "yteiiiceajpmndaa", sum := "3829e1b02cb6e461aae7b8a01ccce73c82485241f3cee56d0891d1f86a2a7597", func := "loop.example/g01216/laws.FnExactOddNumbers", spec := "fnExactOddNumbers", plainKeys := false, apart := false, narrowed := true }
def FnExactOddNumbersUptoSaid : Prop := fnExactOddNumbersUptoRow.holds Try.pinned (OpenSpec.upto fnExactOddNumbersSpec)

/-- 'laws.FnExactLeastLeftOut', WHERE WHAT IT READS IS OF BULK AT MOST 1048576: true; the input reads as it did. -/
def fnExactLeastLeftOutUptoRow : OpenClaim := { program := "yteiiiceajpmndaa", sum := "3829e1b02cb6e461aae7b8a01ccce73c82485241f3cee56d0891d1f86a2a7597", func := "loop.example/g01216/laws.FnExactLeastLeftOut", spec := "fnExactLeastLeftOut", plainKeys := false, apart := false, narrowed := true }
def FnExactLeastLeftOutUptoSaid : Prop := fnExactLeastLeftOutUptoRow.holds Try.pinned (OpenSpec.upto fnExactLeastLeftOutSpec)

/-- 'laws.FnExactFirstLeftOut', WHERE WHAT IT READS IS OF BULK AT MOST 1048576: true; the input reads as it did. -/
def fnExactFirstLeftOutUptoRow : OpenClaim := { program := "yteiiiceajpmndaa", sum := "3829e1b02cb6e461aae7b8a01ccce73c82485241f3cee56d0891d1f86a2a7597", func := "loop.example/g01216/laws.FnExactFirstLeftOut", spec := "fnExactFirstLeftOut", recurses := true, plainKeys := false, apart := false, narrowed := true }
def FnExactFirstLeftOutUptoSaid : Prop := fnExactFirstLeftOutUptoRow.holds Try.pinned (OpenSpec.upto fnExactFirstLeftOutSpec)

/-- 'laws.FnExactIsWhole', WHERE WHAT IT READS IS OF BULK AT MOST 1048576: true; the input reads as it did. -/
def fnExactIsWholeUptoRow : OpenClaim := { program := "yteiiiceajpmndaa", sum := "3829e1b02cb6e461aae7b8a01ccce73c82485241f3cee56d0891d1f86a2a7597", func := "loop.example/g01216/laws.FnExactIsWhole", spec := "fnExactIsWhole", unfollowed := true, recurses := true, plainKeys := false, apart := false, narrowed := true }
def FnExactIsWholeUptoSaid : Prop := fnExactIsWholeUptoRow.holds Try.pinned (OpenSpec.upto fnExactIsWholeSpec)

/-- 'laws.FnExactPartsOfHand', WHERE WHAT IT READS IS OF BULK AT MOST 1048576: true; the input reads as it did. -/
def fnExactPartsOfHandUptoRow : OpenClaim := { program := "yteiiiceajpmndaa", sum := "3829e1b02cb6e461aae7b8a01ccce73c82485241f3cee56d0891d1f86a2a7597", func := "loop.example/g01216/laws.FnExactPartsOfHand", spec := "fnExactPartsOfHand", unfollowed := true, recurses := true, plainKeys := false, apart := false, narrowed := true }
def FnExactPartsOfHandUptoSaid : Prop := fnExactPartsOfHandUptoRow.holds Try.pinned (OpenSpec.upto fnExactPartsOfHandSpec)

/-- 'laws.FnExactCanChain', WHERE WHAT IT READS IS OF BULK AT MOST 1048576: true; the input reads as it did. -/
def fnExactCanChainUptoRow : OpenClaim := { program := "yteiiiceajpmndaa", sum := "3829e1b02cb6e461aae7b8a01ccce73c82485241f3cee56d0891d1f86a2a7597", func := "loop.example/g01216/laws.FnExactCanChain", spec := "fnExactCanChain", unfollowed := true, recurses := true, plainKeys := false, apart := false, narrowed := true }
def FnExactCanChainUptoSaid : Prop := fnExactCanChainUptoRow.holds Try.pinned (OpenSpec.upto fnExactCanChainSpec)

/-- 'laws.FnExactCanRing', WHERE WHAT IT READS IS OF BULK AT MOST 1048576: true; the input reads as it did. -/
def fnExactCanRingUptoRow : OpenClaim := { program := "yteiiiceajpmndaa", sum := "3829e1b02cb6e461aae7b8a01ccce73c82485241f3cee56d0891d1f86a2a7597", func := "loop.example/g01216/laws.FnExactCanRing", spec := "fnExactCanRing", unfollowed := true, recurses := true, plainKeys := false, apart := false, narrowed := true }
def FnExactCanRingUptoSaid : Prop := fnExactCanRingUptoRow.holds Try.pinned (OpenSpec.upto fnExactCanRingSpec)

/-- 'laws.FnExactLeastChains', WHERE WHAT IT READS IS OF BULK AT MOST 1048576: true; the input reads as it did. -/
def fnExactLeastChainsUptoRow : OpenClaim := { program := "yteiiiceajpmndaa", sum := "3829e1b02cb6e461aae7b8a01ccce73c82485241f3cee56d0891d1f86a2a7597", func := "loop.example/g01216/laws.FnExactLeastChains", spec := "fnExactLeastChains", unfollowed := true, recurses := true, plainKeys := false, apart := false, narrowed := true }
def FnExactLeastChainsUptoSaid : Prop := fnExactLeastChainsUptoRow.holds Try.pinned (OpenSpec.upto fnExactLeastChainsSpec)

/-- 'laws.FnExactGroupsOf', WHERE WHAT IT READS IS OF BULK AT MOST 1048576: true; the input reads as it did. -/
def fnExactGroupsOfUptoRow : OpenClaim := { program := "yteiiiceajpmndaa", sum := "3829e1b02cb6e461aae7b8a01ccce73c82485241f3cee56d0891d1f86a2a7597", func := "loop.example/g01216/laws.FnExactGroupsOf", spec := "fnExactGroupsOf", plainKeys := false, apart := false, narrowed := true }
def FnExactGroupsOfUptoSaid : Prop := fnExactGroupsOfUptoRow.holds Try.pinned (OpenSpec.upto fnExactGroupsOfSpec)

/-- 'laws.FnExactFirstWhole', WHERE WHAT IT READS IS OF BULK AT MOST 1048576: true; the input reads as it did. -/
def fnExactFirstWholeUptoRow : OpenClaim := { program := "yteiiiceajpmndaa", sum := "3829e1b02cb6e461aae7b8a01ccce73c82485241f3cee56d0891d1f86a2a7597", func := "loop.example/g01216/laws.FnExactFirstWhole", spec := "fnExactFirstWhole", unfollowed := true, recurses := true, plainKeys := false, apart := false, narrowed := true }
def FnExactFirstWholeUptoSaid : Prop := fnExactFirstWholeUptoRow.holds Try.pinned (OpenSpec.upto fnExactFirstWholeSpec)

/-- 'laws.FnExactFirstRing', WHERE WHAT IT READS IS OF BULK AT MOST 1048576: true; the input reads as it did. -/
def fnExactFirstRingUptoRow : OpenClaim := { program := "yteiiiceajpmndaa", sum := "3829e1b02cb6e461aae7b8a01ccce73c82485241f3cee56d0891d1f86a2a7597", func := "loop.example/g01216/laws.FnExactFirstRing", spec := "fnExactFirstRing", unfollowed := true, recurses := true, plainKeys := false, apart := false, narrowed := true }
def FnExactFirstRingUptoSaid : Prop := fnExactFirstRingUptoRow.holds Try.pinned (OpenSpec.upto fnExactFirstRingSpec)

/-- 'laws.FnExactChainsOfHand', WHERE WHAT IT READS IS OF BULK AT MOST 1048576: true; the input reads as it did. -/
def fnExactChainsOfHandUptoRow : OpenClaim := { program := "yteiiiceajpmndaa", sum := "3829e1b02cb6e461aae7b8a01ccce73c82485241f3cee56d0891d1f86a2a7597", func := "loop.example/g01216/laws.FnExactChainsOfHand", spec := "fnExactChainsOfHand", unfollowed := true, recurses := true, plainKeys := false, apart := false, narrowed := true }
def FnExactChainsOfHandUptoSaid : Prop := fnExactChainsOfHandUptoRow.holds Try.pinned (OpenSpec.upto fnExactChainsOfHandSpec)

end Rows
end Go.Proofs.Yteiiiceajpmndaa

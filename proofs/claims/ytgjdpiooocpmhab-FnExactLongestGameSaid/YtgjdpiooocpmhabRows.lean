/-
  No cell of these rows narrows 'for every input' (looked for: loops, veiled, ifaces, maps, wideKeys, modest, calm, conditions, laid).
  DERIVED. THE GIVEN ROWS OF THIS SEAT. 6 by the template 'for every input the law returns true; each argument reads behind the call as it read before'; 0 by the template 'total and deterministic' (their statements: YtgjdpiooocpmhabTotals.lean).
  GIVEN WITH THE SEED: the statements are not yours to turn. If you find one false, say at which input.
  Laid BY PROGRAM, IN A SANDBOX (cutbox-rows.mjs): the forced cells as the released guide's own fill.sh prints them over the translation bce847ecd5a4b8ae… (all of the seat's roots in one cut). By AI agents, Wed Nov 11 2026. No macro, syntax, notation, axiom, sorry.
-/
import Derived.Test.YtgjdpiooocpmhabChecked
import GoSem.Claim
import GoSem.ClaimJoined
import GoSem.ClaimMapViews
import Derived.JoinedTies
import Derived.KernelRfl
namespace Go.Proofs.Ytgjdpiooocpmhab
/- THE CELL 'sum', in the pinned program and in every row, IS THE sha256 OF THE DUMP (.gsa) THAT YtgjdpiooocpmhabProg.lean LOADS. Nothing in Lean hashes anything: it is a label: what it is worth is what the hold of that sum in a sandbox is worth. -/
noncomputable def Try.pinned : Pinned := { name := "ytgjdpiooocpmhab", sum := "bce847ecd5a4b8ae624fabe7420726a7f85eb39a4de82758153b0a3936f5ba24", checked := Try.checked }
namespace Rows
def none {H : Type} : Left H := { results := [], args := [] }

/-- 'laws.FnExactCountGames': WHATEVER THE INPUT: true; the input reads as it did. -/
def fnExactCountGamesSpec : ChangeSpec := { name := "fnExactCountGames", fn := fun _ => fun
  | [d] => { results := [.lit (.bool true)], args := [d] }
  | _ => none }
def fnExactCountGamesRow : OpenClaim := { program := "ytgjdpiooocpmhab", sum := "bce847ecd5a4b8ae624fabe7420726a7f85eb39a4de82758153b0a3936f5ba24", func := "loop.example/g01216/laws.FnExactCountGames", spec := "fnExactCountGames", unfollowed := true, recurses := true, plainKeys := false, apart := false }
def FnExactCountGamesSaid : Prop := fnExactCountGamesRow.holds Try.pinned (OpenSpec.ofChange fnExactCountGamesSpec)

/-- ITS FALSE NEIGHBOUR: 'it returns false'. Refute it at one input. -/
def fnExactCountGamesWrong : ChangeSpec := { name := "fnExactCountGames", fn := fun _ => fun
  | [d] => { results := [.lit (.bool false)], args := [d] }
  | _ => none }
def FnExactCountGamesWrongFalsely : Prop := fnExactCountGamesRow.holds Try.pinned (OpenSpec.ofChange fnExactCountGamesWrong)

/-- 'laws.FnExactLongestGame': WHATEVER THE INPUT: true; the input reads as it did. -/
def fnExactLongestGameSpec : ChangeSpec := { name := "fnExactLongestGame", fn := fun _ => fun
  | [d] => { results := [.lit (.bool true)], args := [d] }
  | _ => none }
def fnExactLongestGameRow : OpenClaim := { program := "ytgjdpiooocpmhab", sum := "bce847ecd5a4b8ae624fabe7420726a7f85eb39a4de82758153b0a3936f5ba24", func := "loop.example/g01216/laws.FnExactLongestGame", spec := "fnExactLongestGame", unfollowed := true, recurses := true, plainKeys := false, apart := false }
def FnExactLongestGameSaid : Prop := fnExactLongestGameRow.holds Try.pinned (OpenSpec.ofChange fnExactLongestGameSpec)

/-- ITS FALSE NEIGHBOUR: 'it returns false'. Refute it at one input. -/
def fnExactLongestGameWrong : ChangeSpec := { name := "fnExactLongestGame", fn := fun _ => fun
  | [d] => { results := [.lit (.bool false)], args := [d] }
  | _ => none }
def FnExactLongestGameWrongFalsely : Prop := fnExactLongestGameRow.holds Try.pinned (OpenSpec.ofChange fnExactLongestGameWrong)

/-- 'laws.FnExactDealHands': WHATEVER THE INPUT: true; the input reads as it did. -/
def fnExactDealHandsSpec : ChangeSpec := { name := "fnExactDealHands", fn := fun _ => fun
  | [d1, d2, d3] => { results := [.lit (.bool true)], args := [d1, d2, d3] }
  | _ => none }
def fnExactDealHandsRow : OpenClaim := { program := "ytgjdpiooocpmhab", sum := "bce847ecd5a4b8ae624fabe7420726a7f85eb39a4de82758153b0a3936f5ba24", func := "loop.example/g01216/laws.FnExactDealHands", spec := "fnExactDealHands", unfollowed := true, recurses := true, plainKeys := false, apart := false }
def FnExactDealHandsSaid : Prop := fnExactDealHandsRow.holds Try.pinned (OpenSpec.ofChange fnExactDealHandsSpec)

/-- ITS FALSE NEIGHBOUR: 'it returns false'. Refute it at one input. -/
def fnExactDealHandsWrong : ChangeSpec := { name := "fnExactDealHands", fn := fun _ => fun
  | [d1, d2, d3] => { results := [.lit (.bool false)], args := [d1, d2, d3] }
  | _ => none }
def FnExactDealHandsWrongFalsely : Prop := fnExactDealHandsRow.holds Try.pinned (OpenSpec.ofChange fnExactDealHandsWrong)

/-- 'laws.FnExactCanSweep': WHATEVER THE INPUT: true; the input reads as it did. -/
def fnExactCanSweepSpec : ChangeSpec := { name := "fnExactCanSweep", fn := fun _ => fun
  | [d] => { results := [.lit (.bool true)], args := [d] }
  | _ => none }
def fnExactCanSweepRow : OpenClaim := { program := "ytgjdpiooocpmhab", sum := "bce847ecd5a4b8ae624fabe7420726a7f85eb39a4de82758153b0a3936f5ba24", func := "loop.example/g01216/laws.FnExactCanSweep", spec := "fnExactCanSweep", unfollowed := true, recurses := true, plainKeys := false, apart := false }
def FnExactCanSweepSaid : Prop := fnExactCanSweepRow.holds Try.pinned (OpenSpec.ofChange fnExactCanSweepSpec)

/-- ITS FALSE NEIGHBOUR: 'it returns false'. Refute it at one input. -/
def fnExactCanSweepWrong : ChangeSpec := { name := "fnExactCanSweep", fn := fun _ => fun
  | [d] => { results := [.lit (.bool false)], args := [d] }
  | _ => none }
def FnExactCanSweepWrongFalsely : Prop := fnExactCanSweepRow.holds Try.pinned (OpenSpec.ofChange fnExactCanSweepWrong)

/-- 'laws.FnExactMostFives': WHATEVER THE INPUT: true; the input reads as it did. -/
def fnExactMostFivesSpec : ChangeSpec := { name := "fnExactMostFives", fn := fun _ => fun
  | [d1, d2] => { results := [.lit (.bool true)], args := [d1, d2] }
  | _ => none }
def fnExactMostFivesRow : OpenClaim := { program := "ytgjdpiooocpmhab", sum := "bce847ecd5a4b8ae624fabe7420726a7f85eb39a4de82758153b0a3936f5ba24", func := "loop.example/g01216/laws.FnExactMostFives", spec := "fnExactMostFives", unfollowed := true, recurses := true, plainKeys := false, apart := false }
def FnExactMostFivesSaid : Prop := fnExactMostFivesRow.holds Try.pinned (OpenSpec.ofChange fnExactMostFivesSpec)

/-- ITS FALSE NEIGHBOUR: 'it returns false'. Refute it at one input. -/
def fnExactMostFivesWrong : ChangeSpec := { name := "fnExactMostFives", fn := fun _ => fun
  | [d1, d2] => { results := [.lit (.bool false)], args := [d1, d2] }
  | _ => none }
def FnExactMostFivesWrongFalsely : Prop := fnExactMostFivesRow.holds Try.pinned (OpenSpec.ofChange fnExactMostFivesWrong)

/-- 'laws.FnExactChanceOfChain': WHATEVER THE INPUT: true; the input reads as it did. -/
def fnExactChanceOfChainSpec : ChangeSpec := { name := "fnExactChanceOfChain", fn := fun _ => fun
  | [d1, d2] => { results := [.lit (.bool true)], args := [d1, d2] }
  | _ => none }
def fnExactChanceOfChainRow : OpenClaim := { program := "ytgjdpiooocpmhab", sum := "bce847ecd5a4b8ae624fabe7420726a7f85eb39a4de82758153b0a3936f5ba24", func := "loop.example/g01216/laws.FnExactChanceOfChain", spec := "fnExactChanceOfChain", unfollowed := true, recurses := true, plainKeys := false, apart := false }
def FnExactChanceOfChainSaid : Prop := fnExactChanceOfChainRow.holds Try.pinned (OpenSpec.ofChange fnExactChanceOfChainSpec)

/-- ITS FALSE NEIGHBOUR: 'it returns false'. Refute it at one input. -/
def fnExactChanceOfChainWrong : ChangeSpec := { name := "fnExactChanceOfChain", fn := fun _ => fun
  | [d1, d2] => { results := [.lit (.bool false)], args := [d1, d2] }
  | _ => none }
def FnExactChanceOfChainWrongFalsely : Prop := fnExactChanceOfChainRow.holds Try.pinned (OpenSpec.ofChange fnExactChanceOfChainWrong)

/- THE SECOND FORM. 'bulk': how many values and letters a reading holds, each counted each time it is reached (what is shared counts as often as it is met; a slice's spare places count too). A statement '..UptoSaid' is the law's where the arguments, and the package variables that the reading takes, are together of bulk at most 1048576: NARROWER than '..Said'. Prove '..Said' where nothing that the law and all that it calls make is longer than what came in: it says more and counts as full. Else prove '..UptoSaid'. A law counts once. -/
mutual
def uptoBulk {H : Type} : DataW H → Nat
  | .lit (.string bytes) => bytes.length + 1
  | .lit _ => 1
  | .nil => 1
  | .ptr d => uptoBulk d + 1
  | .slice elems spare => uptoBulkAll elems + uptoBulkAll spare + 1
  | .agg parts => uptoBulkAll parts + 1
  | .iface _ d => uptoBulk d + 1
  | .map entries => uptoBulkEntries entries + 1
  | .held _ => 1
def uptoBulkAll {H : Type} : List (DataW H) → Nat
  | [] => 0
  | d :: r => uptoBulk d + uptoBulkAll r
def uptoBulkEntries {H : Type} : List (Lit × DataW H) → Nat
  | [] => 0
  | x :: r => uptoBulkEntry x + uptoBulkEntries r
def uptoBulkEntry {H : Type} : Lit × DataW H → Nat
  | (.string bytes, d) => bytes.length + uptoBulk d + 1
  | (_, d) => uptoBulk d + 1
 end
def uptoSmall : (H : Type) → List (DataW H) → Bool := fun _ ds => decide (uptoBulkAll ds ≤ 1048576)
def OpenSpec.upto (s : _root_.Go.ChangeSpec) : _root_.Go.OpenSpec := { _root_.Go.OpenSpec.ofChange s with cond := some uptoSmall }

/-- 'laws.FnExactCountGames', WHERE WHAT IT READS IS OF BULK AT MOST 1048576: true; the input reads as it did. -/
def fnExactCountGamesUptoRow : OpenClaim := { program := "ytgjdpiooocpmhab", sum := "bce847ecd5a4b8ae624fabe7420726a7f85eb39a4de82758153b0a3936f5ba24", func := "loop.example/g01216/laws.FnExactCountGames", spec := "fnExactCountGames", unfollowed := true, recurses := true, plainKeys := false, apart := false, narrowed := true }
def FnExactCountGamesUptoSaid : Prop := fnExactCountGamesUptoRow.holds Try.pinned (OpenSpec.upto fnExactCountGamesSpec)

/-- 'laws.FnExactLongestGame', WHERE WHAT IT READS IS OF BULK AT MOST 1048576: true; the input reads as it did. -/
def fnExactLongestGameUptoRow : OpenClaim := { program := "ytgjdpiooocpmhab", sum := "bce847ecd5a4b8ae624fabe7420726a7f85eb39a4de82758153b0a3936f5ba24", func := "loop.example/g01216/laws.FnExactLongestGame", spec := "fnExactLongestGame", unfollowed := true, recurses := true, plainKeys := false, apart := false, narrowed := true }
def FnExactLongestGameUptoSaid : Prop := fnExactLongestGameUptoRow.holds Try.pinned (OpenSpec.upto fnExactLongestGameSpec)

/-- 'laws.FnExactDealHands', WHERE WHAT IT READS IS OF BULK AT MOST 1048576: true; the input reads as it did. -/
def fnExactDealHandsUptoRow : OpenClaim := { program := "ytgjdpiooocpmhab", sum := "bce847ecd5a4b8ae624fabe7420726a7f85eb39a4de82758153b0a3936f5ba24", func := "loop.example/g01216/laws.FnExactDealHands", spec := "fnExactDealHands", unfollowed := true, recurses := true, plainKeys := false, apart := false, narrowed := true }
def FnExactDealHandsUptoSaid : Prop := fnExactDealHandsUptoRow.holds Try.pinned (OpenSpec.upto fnExactDealHandsSpec)

/-- 'laws.FnExactCanSweep', WHERE WHAT IT READS IS OF BULK AT MOST 1048576: true; the input reads as it did. -/
def fnExactCanSweepUptoRow : OpenClaim := { program := "ytgjdpiooocpmhab", sum := "bce847ecd5a4b8ae624fabe7420726a7f85eb39a4de82758153b0a3936f5ba24", func := "loop.example/g01216/laws.FnExactCanSweep", spec := "fnExactCanSweep", unfollowed := true, recurses := true, plainKeys := false, apart := false, narrowed := true }
def FnExactCanSweepUptoSaid : Prop := fnExactCanSweepUptoRow.holds Try.pinned (OpenSpec.upto fnExactCanSweepSpec)

/-- 'laws.FnExactMostFives', WHERE WHAT IT READS IS OF BULK AT MOST 1048576: true; the input reads as it did. -/
def fnExactMostFivesUptoRow : OpenClaim := { program := "ytgjdpiooocpmhab", sum := "bce847ecd5a4b8ae624fabe7420726a7f85eb39a4de82758153b0a3936f5ba24", func := "loop.example/g01216/laws.FnExactMostFives", spec := "fnExactMostFives", unfollowed := true, recurses := true, plainKeys := false, apart := false, narrowed := true }
def FnExactMostFivesUptoSaid : Prop := fnExactMostFivesUptoRow.holds Try.pinned (OpenSpec.upto fnExactMostFivesSpec)

/-- 'laws.FnExactChanceOfChain', WHERE WHAT IT READS IS OF BULK AT MOST 1048576: true; the input reads as it did. -/
def fnExactChanceOfChainUptoRow : OpenClaim := { program := "ytgjdpiooocpmhab", sum := "bce847ecd5a4b8ae624fabe7420726a7f85eb39a4de82758153b0a3936f5ba24", func := "loop.example/g01216/laws.FnExactChanceOfChain", spec := "fnExactChanceOfChain", unfollowed := true, recurses := true, plainKeys := false, apart := false, narrowed := true }
def FnExactChanceOfChainUptoSaid : Prop := fnExactChanceOfChainUptoRow.holds Try.pinned (OpenSpec.upto fnExactChanceOfChainSpec)

end Rows
end Go.Proofs.Ytgjdpiooocpmhab

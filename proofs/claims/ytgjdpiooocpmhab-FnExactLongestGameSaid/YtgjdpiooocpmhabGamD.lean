/- Games made of two hands, and exchanged: both sides. -/
import Derived.Test.YtgjdpiooocpmhabGamC
import Derived.Test.YtgjdpiooocpmhabGamI
import Derived.Deep.Cut
namespace Go.Proofs.Ytgjdpiooocpmhab
open Go.RowKit
set_option linter.unusedVariables false

def selT (b : Bool) (ts : List (Int × Int)) : List (Int × Int) := if b then ts else []
def selI (b : Bool) (xs : List Int) : List Int := if b then xs else []
def selV (b : Bool) (x : Int) : Int := if b then x else 0
theorem sel_len3 (b : Bool) (X Y : List (Int × Int)) (Z : List Int) {M : Nat} (h : X.length + Y.length + Z.length ≤ M) : (selT b X).length + (selT b Y).length + (selI b Z).length ≤ M := by
  cases b
  · simp [selT, selI]
  · exact h
/-- A game, if there is one. -/
def RetGs (w : World) (F S : List (Int × Int)) (R : List Int) (t u : Int) (b : Bool) : Ending → World → Prop := RetGB w (selT b F) (selT b S) (selI b R) (selV b t) (selV b u) b
theorem retGs_no {w w' : World} {F S : List (Int × Int)} {R : List Int} {t u : Int} (hb : Below w.heap.size w w') : RetGs w F S R t u false (.returned (.tuple #[.agg #[.slice none 0 0, .slice none 0 0, .slice none 0 0, .int .i64 0, .int .i64 0], .bool false])) w' :=
  ⟨none, 0, none, 0, none, 0, rfl, OwnG.none_ _ _ _, hb⟩
theorem retGs_yes {w w' : World} {F S : List (Int × Int)} {R : List Int} {t u : Int} {AF : Option Addr} {cF : Nat} {AS : Option Addr} {cS : Nat} {AR : Option Addr} {cR : Nat}
    (ho : OwnG w' w.heap.size w'.heap.size (.slice AF F.length cF) F.length F (.slice AS S.length cS) S.length S (.slice AR R.length cR) R.length R) (hb : Below w.heap.size w w') : RetGs w F S R t u true (.returned (.tuple #[.agg #[.slice AF F.length cF, .slice AS S.length cS, .slice AR R.length cR, .int .i64 t, .int .i64 u], .bool true])) w' :=
  ⟨AF, cF, AS, cS, AR, cR, rfl, ho, hb⟩

end Go.Proofs.Ytgjdpiooocpmhab

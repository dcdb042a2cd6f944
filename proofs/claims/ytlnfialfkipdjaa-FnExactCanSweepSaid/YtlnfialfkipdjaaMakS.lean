/- Games behind a move: the specification's plWithout. -/
import Derived.Test.YtlnfialfkipdjaaGames
import Derived.Test.YtlnfialfkipdjaaGameL
import Derived.Test.YtlnfialfkipdjaaMovA
import Derived.Laws.StructEq
namespace Go.Proofs.Ytlnfialfkipdjaa
open Go.RowKit
set_option linter.unusedVariables false

/-- All tiles but one. -/
def isTB (a b : Int) (x : Int × Int) : Bool := x.1 == a && x.2 == b
def woTo (ts : List (Int × Int)) (a b : Int) (k : Nat) : List (Int × Int) := (ts.take k).filter fun x => !isTB a b x
def woL (ts : List (Int × Int)) (a b : Int) : List (Int × Int) := ts.filter fun x => !isTB a b x
theorem woTo_zero (ts : List (Int × Int)) (a b : Int) : woTo ts a b 0 = [] := by simp [woTo]
theorem woTo_yes {ts : List (Int × Int)} {a b : Int} {k : Nat} (hk : k < ts.length) (h : isTB a b ts[k] = false) : woTo ts a b (k + 1) = woTo ts a b k ++ [ts[k]] := by
  unfold woTo
  rw [List.take_succ_eq_append_getElem hk, List.filter_append]
  simp [h]
theorem woTo_no {ts : List (Int × Int)} {a b : Int} {k : Nat} (hk : k < ts.length) (h : isTB a b ts[k] = true) : woTo ts a b (k + 1) = woTo ts a b k := by
  unfold woTo
  rw [List.take_succ_eq_append_getElem hk, List.filter_append]
  simp [h]
theorem woTo_len (ts : List (Int × Int)) (a b : Int) (k : Nat) : (woTo ts a b k).length ≤ ts.length := by
  unfold woTo
  exact Nat.le_trans (List.length_filter_le _ _) (by simp; omega)
theorem woTo_all (ts : List (Int × Int)) (a b : Int) : woTo ts a b ts.length = woL ts a b := by simp [woTo, woL]
theorem woL_len (ts : List (Int × Int)) (a b : Int) : (woL ts a b).length ≤ ts.length := List.length_filter_le _ _

theorem Try.eq_tile (a b c d : Int) (w : World) : (Op.equalIn 10000 95 (.agg #[.int .i64 a, .int .i64 b]) (.agg #[.int .i64 c, .int .i64 d])).run Try.prog w = .ok (a == c && b == d) w := by
  have h1 := Try.underlying3
  have h2 := Try.isAgg3
  have h3 := Try.sizeOf3
  have hS : Try.prog.underlying 95 = some (.struct (Try.prog.fieldsOf 95)) := by kernel_rfl
  have hp : Try.prog.stoodInHeld 95 = false := by kernel_rfl
  rw [show (10000 : Nat) = 9999 + 1 from rfl, run_equalIn_agg w 9999 95 _ _ hS hp]
  simp only [Program.fieldsOf, Try.underlying95]
  go_simp
  by_cases e1 : a = c <;> by_cases e2 : b = d <;> simp [e1, e2]

end Go.Proofs.Ytlnfialfkipdjaa

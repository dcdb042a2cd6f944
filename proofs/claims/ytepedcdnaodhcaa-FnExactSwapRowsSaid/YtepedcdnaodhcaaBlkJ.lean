/- The program's sums of rows and columns, and its answers on blocks. -/
import Derived.Test.YtepedcdnaodhcaaBlkI
import Derived.Test.YtepedcdnaodhcaaRegS
namespace Go.Proofs.Ytepedcdnaodhcaa
open Go.RowKit
set_option linter.unusedVariables false

set_option maxRecDepth 100000 in
set_option maxHeartbeats 1000000 in
theorem c_blkHeight (A : Option Addr) (n c W H : Nat) (w : World) (hW : 0 < W) (hn : n = H * W) (hn2 : n ≤ 1048576) :
    Calls Try.prog 122 #[.agg #[.slice A n c, .int .i64 W]] w fun e w' => e = .returned (.int .i64 H) ∧ Below w.heap.size w w' := by
  have q0 : ((W : Int) == 0) = false := by simp; omega
  have q1 : ¬ (W : Int) = 0 := by omega
  have n0 : (0 : Int) ≤ (n : Int) := by omega
  have e0 : n / W = H := by rw [hn]; exact Nat.mul_div_cancel H hW
  have hd : (n : Int).tdiv (W : Int) = (H : Int) := by
    rw [Int.tdiv_eq_ediv_of_nonneg n0, ← e0]; rfl
  have hd2 : (n : Int) / (W : Int) = (H : Int) := by rw [← e0]; rfl
  have hle : H ≤ n := by rw [← e0]; exact Nat.div_le_self _ _
  have iw : IntKind.i64.wrap (H : Int) = (H : Int) := IntWalk.i64_in _ (by omega)
  clear hn e0
  go_enter Try.func122, Try.ntmps122
  go_wp2
  go_ret
  exact ⟨rfl, by go_grown⟩

set_option maxRecDepth 100000 in
set_option maxHeartbeats 1000000 in
theorem c_blkRow (b off n c W i p : Nat) (w : World) (hW : 0 < W) (hp : p = i * W) (hn : p + W ≤ n) (hc : n ≤ c) (hn3 : n ≤ 1048576) (hn2 : c ≤ 9223372036854775807) (hi : i ≤ 1048576) :
    Calls Try.prog 123 #[.agg #[.slice (some ⟨b, off, none⟩) n c, .int .i64 W], .int .i64 i] w fun e w' => e = .returned (.slice (some ⟨b, off + p, none⟩) W W) ∧ Below w.heap.size w w' := by
  have e1 : (i : Int) * (W : Int) = (p : Int) := by rw [hp]; rfl
  have e2 : ((i : Int) + 1) * (W : Int) = (p : Int) + (W : Int) := by rw [Int.add_mul, e1, Int.one_mul]
  have iw0 : IntKind.i64.wrap (i : Int) = (i : Int) := IntWalk.i64_in _ (by omega)
  have iw1 : IntKind.i64.wrap ((i : Int) + 1) = (i : Int) + 1 := IntWalk.i64_in _ (by omega)
  have iw2 : IntKind.i64.wrap (p : Int) = (p : Int) := IntWalk.i64_in _ (by omega)
  have iw3 : IntKind.i64.wrap ((p : Int) + (W : Int)) = (p : Int) + (W : Int) := IntWalk.i64_in _ (by omega)
  have i0 : (0 : Int) ≤ (p : Int) := by omega
  have i1 : (p : Int) ≤ (p : Int) + (W : Int) := by omega
  have i2 : (p : Int) + (W : Int) ≤ (c : Int) := by omega
  have n1 : ¬ W = 0 := by omega
  have n2 : ¬ (W : Int) = 0 := by omega
  clear hp
  go_enter Try.func123, Try.ntmps123
  go_wp2_with fail
  go_quiet (fail)
  go_wp2
  go_ret
  refine ⟨?_, by first | exact (by go_grown : Below w.heap.size w _) | exact (belowN (by go_grown) _)⟩
  show Ending.returned (.slice (some ⟨b, off + p, none⟩) (p + W - p) (p + W - p)) = _
  rw [Nat.add_sub_cancel_left]

end Go.Proofs.Ytepedcdnaodhcaa

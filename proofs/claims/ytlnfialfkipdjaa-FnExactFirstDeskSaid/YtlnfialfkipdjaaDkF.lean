/- Desks: the first one, of both sides. -/
import Derived.Test.YtlnfialfkipdjaaDkL
import Derived.Test.YtlnfialfkipdjaaSets
namespace Go.Proofs.Ytlnfialfkipdjaa
open Go.RowKit
set_option linter.unusedVariables false

def firstT : List (Int × Int) := [(0, 0), (0, 1), (1, 1)]
theorem first_set : setL 1 = firstT := by decide +kernel
theorem first_len : firstT.length ≤ 10 := by decide

set_option maxRecDepth 100000 in
set_option maxHeartbeats 1000000 in
theorem c_specFirst (w : World) : Calls Try.prog 14 #[] w (RetD w firstT 6) := by
  have con := fun W => c_tiSet 1 (by omega) W
  rw [first_set] at con
  have Con := Lib.hid con
  clear con
  generalize firstT = T at *
  go_enter Try.func14, Try.ntmps14
  go_wp2_with fail
  obtain ⟨w0, hw0⟩ : ∃ w0, w0 = w.alloc (.cells #[.slice none 0 0, .int .i64 0] 24) := ⟨_, rfl⟩
  rw [← hw0]
  have hs0 : w0.heap.size = w.heap.size + 1 := by rw [hw0]; simp
  have br : Bx2 w0 w.heap.size (.slice none 0 0) (.int .i64 0) := by rw [hw0]; exact Bx2.fresh w _ _ _
  have hb0 : Below w.heap.size w w0 := by rw [hw0]; go_grown
  clear hw0
  refine (Con.out w0).mono ?_
  rintro e w1 ⟨A, c, rfl, o1, h1⟩
  have br1 := br.keep h1
  have r0 := br1.c0
  have r1 := br1.c1
  have z0 := br1.fz 0
  have z1 := br1.fz 1
  have n0 := br1.lt
  have O1 := Lib.hid o1
  have HQ := Lib.hid (bstep hb0 h1)
  clear br br1 o1 h1 hb0
  go_wp2
  refine bodyPost_ret (v := .agg #[.slice A T.length c, .int .i64 6]) (by simp [results, Try.results14, go_sem, r0, r1]) rfl ⟨A, c, rfl, ?_, ?_⟩
  · exact own_base (own_box (own_box O1.out (by omega)) (by omega)) (by omega)
  · exact below_box (below_box HQ.out (by omega)) (by omega)

set_option maxRecDepth 100000 in
set_option maxHeartbeats 1000000 in
theorem c_implFirst (w : World) : Calls Try.prog 15 #[] w (RetD w firstT 6) := by
  go_enter Try.func15, Try.ntmps15
  go_wp2
  refine bodyPost_ret (v := .agg #[.slice (some ⟨w.heap.size + 1, 0, none⟩) 3 3, .int .i64 6]) (by simp [results, Try.results15, go_sem]) rfl ⟨some ⟨w.heap.size + 1, 0, none⟩, 3, rfl, ?_, ?_⟩
  · have h := World.ownsRow_lit (base := w.heap.size + 1) (e := 95) (size := 2) (w.alloc (.cells #[.slice (some ⟨w.heap.size + 1, 0, none⟩) 3 3, .int .i64 6] 24)) #[.int .i64 0, .int .i64 0, .int .i64 0, .int .i64 1, .int .i64 1, .int .i64 1] 3 (by simp) (by unfold maxLen; omega) rfl
    rw [World.size_alloc] at h
    exact own_base h (by omega)
  · exact ((Below.refl _ _).alloc (Nat.le_refl _) _).alloc (by simp) _

end Go.Proofs.Ytlnfialfkipdjaa

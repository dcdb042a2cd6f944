/- Ratios compared: both sides. -/
import Derived.Test.YtgjdpiooocpmhaaChI
import Derived.Deep.Cut
import Derived.BigQuiet
import Derived.Laws.StructEq
namespace Go.Proofs.Ytgjdpiooocpmhaa
open Go.RowKit
set_option linter.unusedVariables false

theorem quiet_con {P : Program} {f : FuncId} {args : Array Value} {v : Value} (c : ∀ W, Calls P f args W fun e w' => e = .returned v ∧ W = w') (W : World) (n : Nat) : Calls P f args (W.drewN n) fun e w'' => e = .returned v ∧ ∃ m, w'' = W.drewN m :=
  Calls.quiet_of_same ((c (W.drewN n)).mono fun e w' h => ⟨h.1, h.2.symm⟩)

def in1 (a : Int) : Bool := decide (0 ≤ a) && decide (a ≤ 1000000000)
def in2 (b : Int) : Bool := decide (1 ≤ b) && decide (b ≤ 1000000000)
def isR (a b : Int) : Bool := (in1 a && in2 b) && ((rat a.toNat b.toNat).1 == a && (rat a.toNat b.toNat).2 == b)
def cmpI (x y : Int) : Int := if x < y then -1 else if y < x then 1 else 0
def sgnI (x : Int) : Int := if 0 < x then 1 else if x < 0 then -1 else 0
theorem cmp_sgn (x y : Int) : sgnI (x - y) = cmpI x y := by unfold sgnI cmpI; split <;> split <;> first | rfl | omega | (split <;> first | rfl | omega)
def cmpV (a b c d : Int) : Int := if isR a b && isR c d then cmpI (a * d) (c * b) else 0
theorem isR_bd {a b : Int} (h : isR a b = true) : 0 ≤ a ∧ a ≤ 1000000000 ∧ 1 ≤ b ∧ b ≤ 1000000000 := by
  simp only [isR, in1, in2, Bool.and_eq_true, decide_eq_true_eq] at h
  omega
theorem mul_bd {a d : Int} (h0 : 0 ≤ a) (h1 : a ≤ 1000000000) (h2 : 0 ≤ d) (h3 : d ≤ 1000000000) : 0 ≤ a * d ∧ a * d ≤ 1000000000000000000 := by
  refine ⟨Int.mul_nonneg h0 h2, ?_⟩
  have := Int.mul_le_mul h1 h3 h2 (by omega : (0 : Int) ≤ 1000000000)
  omega

theorem Try.eq_ratio (a b c d : Int) (w : World) : (Op.equalIn 10000 26 (.agg #[.int .i64 a, .int .i64 b]) (.agg #[.int .i64 c, .int .i64 d])).run Try.prog w = .ok (a == c && b == d) w := by
  have h1 := Try.underlying3
  have h2 := Try.isAgg3
  have h3 := Try.sizeOf3
  have hS : Try.prog.underlying 26 = some (.struct (Try.prog.fieldsOf 26)) := by kernel_rfl
  have hp : Try.prog.stoodInHeld 26 = false := by kernel_rfl
  rw [show (10000 : Nat) = 9999 + 1 from rfl, run_equalIn_agg w 9999 26 _ _ hS hp]
  simp only [Program.fieldsOf, Try.underlying26]
  go_simp
  by_cases e1 : a = c <;> by_cases e2 : b = d <;> simp [e1, e2]

set_option maxHeartbeats 400000 in
theorem c_l1Sign (x : Int) (w : World) : Calls Try.prog 57 #[.int .i64 x] w fun e w' => e = .returned (.int .i64 (sgnI x)) ∧ w = w' := by
  unfold sgnI
  by_cases h0 : 0 < x
  · rw [if_pos h0]
    go_enter Try.func57, Try.ntmps57
    go_wp2
    go_ret
    exact ⟨rfl, rfl⟩
  rw [if_neg h0]
  by_cases h1 : x < 0
  · rw [if_pos h1]
    go_enter Try.func57, Try.ntmps57
    go_wp2
    go_ret
    exact ⟨rfl, rfl⟩
  · rw [if_neg h1]
    go_enter Try.func57, Try.ntmps57
    go_wp2
    go_ret
    exact ⟨rfl, rfl⟩

set_option maxHeartbeats 400000 in
theorem c_isNaN (x : Int) (w : World) : Calls Try.prog 65 #[.int .i64 x] w fun e w' => e = .returned (.bool false) ∧ w = w' := by
  have h : (x != x) = false := by simp
  go_enter Try.func65, Try.ntmps65
  go_wp2
  go_ret
  exact ⟨(by first | rfl | simp), rfl⟩

set_option maxHeartbeats 1000000 in
theorem c_cmpCompare (x y : Int) (w : World) : Calls Try.prog 59 #[.int .i64 x, .int .i64 y] w fun e w' => e = .returned (.int .i64 (cmpI x y)) ∧ w = w' := by
  unfold cmpI
  by_cases h0 : x < y
  · rw [if_pos h0]
    go_enter Try.func59, Try.ntmps59
    go_wp2_with (go_at_call 65; refine (c_isNaN _ _).mono ?_; rintro e w' ⟨rfl, rfl⟩)
    go_ret
    exact ⟨rfl, rfl⟩
  rw [if_neg h0]
  by_cases h1 : y < x
  · rw [if_pos h1]
    go_enter Try.func59, Try.ntmps59
    go_wp2_with (go_at_call 65; refine (c_isNaN _ _).mono ?_; rintro e w' ⟨rfl, rfl⟩)
    go_ret
    exact ⟨rfl, rfl⟩
  · rw [if_neg h1]
    go_enter Try.func59, Try.ntmps59
    go_wp2_with (go_at_call 65; refine (c_isNaN _ _).mono ?_; rintro e w' ⟨rfl, rfl⟩)
    go_ret
    exact ⟨rfl, rfl⟩

set_option maxRecDepth 100000 in
set_option maxHeartbeats 1000000 in
theorem c_dcIs (a b : Int) (w : World) : Calls Try.prog 56 #[.agg #[.int .i64 a, .int .i64 b]] w fun e w' => e = .returned (.bool (isR a b)) ∧ Below w.heap.size w w' := by
  have con1 := fun W => c_l1In a 0 1000000000 W
  have con2 := fun W => c_l1In b 1 1000000000 W
  unfold isR
  cases h1 : in1 a
  · rw [Bool.false_and, Bool.false_and]
    unfold in1 at h1
    rw [h1] at con1
    have Con := Lib.hid con1
    clear con1 con2 h1
    go_enter Try.func56, Try.ntmps56
    go_wp2_with fail
    go_quiet (first | (go_at_call 50; exact quiet_con Con.out _ _))
    go_wp2
    go_ret
    exact ⟨rfl, below_drewN (by go_grown) _⟩
  cases h2 : in2 b
  · rw [Bool.and_false, Bool.false_and]
    unfold in1 at h1
    unfold in2 at h2
    rw [h1] at con1
    rw [h2] at con2
    have Con := Lib.hid con1
    have Con2 := Lib.hid con2
    clear con1 con2 h1 h2
    go_enter Try.func56, Try.ntmps56
    go_wp2_with fail
    go_quiet (first | (go_at_call_of 50 (Value.int .i64 a); exact quiet_con Con.out _ _) | (go_at_call 50; exact quiet_con Con2.out _ _))
    go_wp2
    go_ret
    exact ⟨rfl, below_drewN (by go_grown) _⟩
  · rw [Bool.and_self, Bool.true_and]
    unfold in1 at h1
    unfold in2 at h2
    rw [h1] at con1
    rw [h2] at con2
    have Con := Lib.hid con1
    have Con2 := Lib.hid con2
    simp only [Bool.and_eq_true, decide_eq_true_eq] at h1 h2
    obtain ⟨A, rfl⟩ : ∃ A : Nat, a = A := ⟨a.toNat, by omega⟩
    obtain ⟨B, rfl⟩ : ∃ B : Nat, b = B := ⟨b.toNat, by omega⟩
    simp only [Int.toNat_natCast]
    have heq := fun W => Try.eq_ratio (rat A B).1 (rat A B).2 A B W
    have conR := Lib.hid (fun W => c_dcRatio A B A B W rfl rfl (by omega) (by omega) (by omega))
    generalize ((rat A B).1 == (A : Int) && (rat A B).2 == (B : Int)) = v at *
    generalize rat A B = r at *
    clear con1 con2 h1 h2
    go_enter Try.func56, Try.ntmps56
    go_wp2_with fail
    obtain ⟨w0, hw0⟩ : ∃ w0, w0 = w.alloc (.cells #[.int .i64 A, .int .i64 B] 26) := ⟨_, rfl⟩
    rw [← hw0]
    have x0 : Bx2 w0 w.heap.size (.int .i64 A) (.int .i64 B) := by rw [hw0]; exact Bx2.fresh _ _ _ _
    have hb0 : Below w.heap.size w w0 := by rw [hw0]; go_grown
    clear hw0
    have y0 := x0.c0
    have y1 := x0.c1
    have hbd := hb0.drew
    go_region_held3 (fun w' => w'.cell? ⟨w.heap.size, 0, none⟩ = some (.int .i64 A) ∧ w'.cell? ⟨w.heap.size, 1, none⟩ = some (.int .i64 B)) (first | exact ⟨z0, z1⟩ | exact ⟨y0, y1⟩ | go_keep) (first | (go_at_call 49; refine (conR.out _).mono ?_; rintro e w1 ⟨rfl, h1⟩; have z0 := keepc h1 (cell_drew _ y0); have z1 := keepc h1 (cell_drew _ y1); have hb1 := bstep hbd h1) | (go_at_call_of 50 (Value.int .i64 (A : Int)); refine (Con.out _).mono ?_; rintro e w' ⟨rfl, rfl⟩) | (go_at_call 50; refine (Con2.out _).mono ?_; rintro e w' ⟨rfl, rfl⟩))
    go_wp2
    go_ret
    exact ⟨rfl, hb1⟩

set_option maxRecDepth 100000 in
set_option maxHeartbeats 1000000 in
theorem c_isCompared (a b : Int) (w : World) : Calls Try.prog 58 #[.agg #[.int .i64 a, .int .i64 b]] w fun e w' => e = .returned (.bool (isR a b)) ∧ Below w.heap.size w w' := by
  by_cases h1 : a < 0
  · have ev : isR a b = false := by unfold isR in1; rw [decide_eq_false (p := 0 ≤ a) (by omega)]; rfl
    rw [ev]
    have d1 : decide (0 ≤ a) = false := decide_eq_false (by omega)
    clear ev h1
    go_enter Try.func58, Try.ntmps58
    go_wp2_with fail
    go_quiet (fail)
    go_wp2
    go_ret
    exact ⟨rfl, below_drewN (by go_grown) _⟩
  have d1 : decide (0 ≤ a) = true := decide_eq_true (by omega)
  by_cases h2 : 1000000000 < a
  · have ev : isR a b = false := by unfold isR in1; rw [decide_eq_false (p := a ≤ 1000000000) (by omega), Bool.and_false]; rfl
    rw [ev]
    have d2 : decide (a ≤ 1000000000) = false := decide_eq_false (by omega)
    clear ev h1 h2
    go_enter Try.func58, Try.ntmps58
    go_wp2_with fail
    go_quiet (fail)
    go_wp2
    go_ret
    exact ⟨rfl, below_drewN (by go_grown) _⟩
  have d2 : decide (a ≤ 1000000000) = true := decide_eq_true (by omega)
  by_cases h3 : b < 1
  · have ev : isR a b = false := by unfold isR in2; rw [decide_eq_false (p := 1 ≤ b) (by omega), Bool.false_and, Bool.and_false]; rfl
    rw [ev]
    have d3 : decide (1 ≤ b) = false := decide_eq_false (by omega)
    clear ev h1 h2 h3
    go_enter Try.func58, Try.ntmps58
    go_wp2_with fail
    go_quiet (fail)
    go_wp2
    go_ret
    exact ⟨rfl, below_drewN (by go_grown) _⟩
  have d3 : decide (1 ≤ b) = true := decide_eq_true (by omega)
  by_cases h4 : 1000000000 < b
  · have ev : isR a b = false := by unfold isR in2; rw [decide_eq_false (p := b ≤ 1000000000) (by omega), Bool.and_false, Bool.and_false]; rfl
    rw [ev]
    have d4 : decide (b ≤ 1000000000) = false := decide_eq_false (by omega)
    clear ev h1 h2 h3 h4
    go_enter Try.func58, Try.ntmps58
    go_wp2_with fail
    go_quiet (fail)
    go_wp2
    go_ret
    exact ⟨rfl, below_drewN (by go_grown) _⟩
  have d4 : decide (b ≤ 1000000000) = true := decide_eq_true (by omega)
  obtain ⟨A, rfl⟩ : ∃ A : Nat, a = A := ⟨a.toNat, by omega⟩
  obtain ⟨B, rfl⟩ : ∃ B : Nat, b = B := ⟨b.toNat, by omega⟩
  have ev : isR (A : Int) (B : Int) = (((A : Int) == (rat A B).1) && ((B : Int) == (rat A B).2)) := by
    unfold isR in1 in2
    rw [d1, d2, d3, d4, Int.toNat_natCast, Int.toNat_natCast, Bool.beq_comm (a := (A : Int)), Bool.beq_comm (a := (B : Int))]
    rfl
  rw [ev]
  have heq := fun W => Try.eq_ratio A B (rat A B).1 (rat A B).2 W
  have conR := Lib.hid (fun W => c_ratioOf A B A B W rfl rfl (by omega) (by omega) (by omega))
  generalize ((A : Int) == (rat A B).1 && (B : Int) == (rat A B).2) = v at *
  generalize rat A B = r at *
  clear ev
  go_enter Try.func58, Try.ntmps58
  go_wp2_with fail
  obtain ⟨w0, hw0⟩ : ∃ w0, w0 = w.alloc (.cells #[.int .i64 A, .int .i64 B] 26) := ⟨_, rfl⟩
  rw [← hw0]
  have x0 : Bx2 w0 w.heap.size (.int .i64 A) (.int .i64 B) := by rw [hw0]; exact Bx2.fresh _ _ _ _
  have hb0 : Below w.heap.size w w0 := by rw [hw0]; go_grown
  clear hw0
  have y0 := x0.c0
  have y1 := x0.c1
  have hbd := hb0.drew
  go_region_held3 (fun w' => w'.cell? ⟨w.heap.size, 0, none⟩ = some (.int .i64 A) ∧ w'.cell? ⟨w.heap.size, 1, none⟩ = some (.int .i64 B)) (first | exact ⟨z0, z1⟩ | exact ⟨y0, y1⟩ | go_keep) (first | (go_at_call 55; refine (conR.out _).mono ?_; rintro e w1 ⟨rfl, h1⟩; have z0 := keepc h1 (cell_drew _ y0); have z1 := keepc h1 (cell_drew _ y1); have hb1 := bstep hbd h1))
  go_wp2
  go_ret
  exact ⟨rfl, hb1⟩

set_option maxRecDepth 100000 in
set_option maxHeartbeats 1000000 in
theorem c_specCmp (a b c d : Int) (w : World) : Calls Try.prog 37 #[.agg #[.int .i64 a, .int .i64 b], .agg #[.int .i64 c, .int .i64 d]] w fun e w' => e = .returned (.tuple #[.int .i64 (cmpV a b c d), .bool (isR a b && isR c d)]) ∧ Below w.heap.size w w' := by
  have con1 := fun W => c_dcIs a b W
  have con2 := fun W => c_dcIs c d W
  unfold cmpV
  cases h1 : isR a b
  · rw [Bool.false_and, if_neg (by decide)]
    rw [h1] at con1
    have Con1 := Lib.hid con1
    clear con1 con2 h1
    go_enter Try.func37, Try.ntmps37
    go_wp2_with fail
    refine (Con1.out _).mono ?_
    rintro e w1 ⟨rfl, h1⟩
    have hb1 : Below w.heap.size w w1 := bstep (by go_grown) h1
    go_wp2
    go_ret2
    exact ⟨rfl, hb1⟩
  rw [Bool.true_and]
  rw [h1] at con1
  have Con1 := Lib.hid con1
  cases h2 : isR c d
  all_goals
    rw [h2] at con2
    first | rw [if_neg (by decide)] | rw [if_pos rfl]
    have Con2 := Lib.hid con2
    have p1 := fun h => mul_bd (isR_bd h1).1 (isR_bd h1).2.1 (by have := (isR_bd (a := c) (b := d) h).2.2.1; omega) (isR_bd h).2.2.2
    have p2 := fun h => mul_bd (isR_bd (a := c) (b := d) h).1 (isR_bd h).2.1 (by have := (isR_bd h1).2.2.1; omega) (isR_bd h1).2.2.2
    first | (have q1 := p1 h2; have q2 := p2 h2) | skip
    clear con1 con2 h1 h2 p1 p2
    go_enter Try.func37, Try.ntmps37
    go_wp2_with fail
    obtain ⟨w0, hw0⟩ : ∃ w0, w0 = (w.alloc (.cells #[.int .i64 a, .int .i64 b] 26)).alloc (.cells #[.int .i64 c, .int .i64 d] 26) := ⟨_, rfl⟩
    rw [← hw0]
    have x0 : Bx2 w0 w.heap.size (.int .i64 a) (.int .i64 b) := by rw [hw0]; exact (Bx2.fresh _ _ _ _).more _
    have v0 : Bx2 w0 (w.heap.size + 1) (.int .i64 c) (.int .i64 d) := by
      have h := Bx2.fresh (w.alloc (.cells #[.int .i64 a, .int .i64 b] 26)) (.int .i64 c) (.int .i64 d) 26
      rw [World.size_alloc] at h
      rw [hw0]; exact h
    have hb0 : Below w.heap.size w w0 := by rw [hw0]; go_grown
    clear hw0
    refine (Con1.out _).mono ?_
    rintro e w1 ⟨rfl, h1⟩
    have x1 := x0.keep h1
    have v1 := v0.keep h1
    have hb1 := bstep hb0 h1
    have r0 := v1.c0
    have r1 := v1.c1
    go_wp2_with fail
    refine (Con2.out _).mono ?_
    rintro e w2 ⟨rfl, h2⟩
    have x2 := x1.keep h2
    have v2 := v1.keep h2
    have hb2 := bstep hb1 h2
    have s0 := x2.c0
    have s1 := x2.c1
    have t0 := v2.c0
    have t1 := v2.c1
    clear r0 r1
  · go_wp2
    go_ret2
    exact ⟨rfl, hb2⟩
  · go_wp2_with fail
    refine (c_l1Sign (a * d - c * b) w2).mono ?_
    rintro e w' ⟨rfl, rfl⟩
    rw [cmp_sgn]
    go_wp2
    go_ret2
    exact ⟨by first | rfl | (rw [cmp_sgn]), hb2⟩

set_option maxRecDepth 100000 in
set_option maxHeartbeats 1000000 in
theorem c_implCmp (a b c d : Int) (w : World) : Calls Try.prog 39 #[.agg #[.int .i64 a, .int .i64 b], .agg #[.int .i64 c, .int .i64 d]] w fun e w' => e = .returned (.tuple #[.int .i64 (cmpV a b c d), .bool (isR a b && isR c d)]) ∧ Below w.heap.size w w' := by
  have con1 := fun W => c_isCompared a b W
  have con2 := fun W => c_isCompared c d W
  unfold cmpV
  cases h1 : isR a b
  · rw [Bool.false_and, if_neg (by decide)]
    rw [h1] at con1
    have Con1 := Lib.hid con1
    clear con1 con2 h1
    go_enter Try.func39, Try.ntmps39
    go_wp2_with fail
    refine (Con1.out _).mono ?_
    rintro e w1 ⟨rfl, h1⟩
    have hb1 : Below w.heap.size w w1 := bstep (by go_grown) h1
    go_wp2
    go_ret2
    exact ⟨rfl, hb1⟩
  rw [Bool.true_and]
  rw [h1] at con1
  have Con1 := Lib.hid con1
  cases h2 : isR c d
  all_goals
    rw [h2] at con2
    first | rw [if_neg (by decide)] | rw [if_pos rfl]
    have Con2 := Lib.hid con2
    have p1 := fun h => mul_bd (isR_bd h1).1 (isR_bd h1).2.1 (by have := (isR_bd (a := c) (b := d) h).2.2.1; omega) (isR_bd h).2.2.2
    have p2 := fun h => mul_bd (isR_bd (a := c) (b := d) h).1 (isR_bd h).2.1 (by have := (isR_bd h1).2.2.1; omega) (isR_bd h1).2.2.2
    first | (have q1 := p1 h2; have q2 := p2 h2) | skip
    clear con1 con2 h1 h2 p1 p2
    go_enter Try.func39, Try.ntmps39
    go_wp2_with fail
    obtain ⟨w0, hw0⟩ : ∃ w0, w0 = (w.alloc (.cells #[.int .i64 a, .int .i64 b] 26)).alloc (.cells #[.int .i64 c, .int .i64 d] 26) := ⟨_, rfl⟩
    rw [← hw0]
    have x0 : Bx2 w0 w.heap.size (.int .i64 a) (.int .i64 b) := by rw [hw0]; exact (Bx2.fresh _ _ _ _).more _
    have v0 : Bx2 w0 (w.heap.size + 1) (.int .i64 c) (.int .i64 d) := by
      have h := Bx2.fresh (w.alloc (.cells #[.int .i64 a, .int .i64 b] 26)) (.int .i64 c) (.int .i64 d) 26
      rw [World.size_alloc] at h
      rw [hw0]; exact h
    have hb0 : Below w.heap.size w w0 := by rw [hw0]; go_grown
    clear hw0
    refine (Con1.out _).mono ?_
    rintro e w1 ⟨rfl, h1⟩
    have x1 := x0.keep h1
    have v1 := v0.keep h1
    have hb1 := bstep hb0 h1
    have r0 := v1.c0
    have r1 := v1.c1
    go_wp2_with fail
    refine (Con2.out _).mono ?_
    rintro e w2 ⟨rfl, h2⟩
    have x2 := x1.keep h2
    have v2 := v1.keep h2
    have hb2 := bstep hb1 h2
    have s0 := x2.c0
    have s1 := x2.c1
    have t0 := v2.c0
    have t1 := v2.c1
    clear r0 r1
  · go_wp2
    go_ret2
    exact ⟨rfl, hb2⟩
  · go_wp2_with fail
    refine (c_cmpCompare (a * d) (c * b) w2).mono ?_
    rintro e w' ⟨rfl, rfl⟩
    go_wp2
    go_ret2
    exact ⟨rfl, hb2⟩

set_option maxHeartbeats 400000 in
theorem c_toRatio (a b : Int) (w : World) : Calls Try.prog 38 #[.agg #[.int .i64 a, .int .i64 b]] w fun e w' => e = .returned (.agg #[.int .i64 a, .int .i64 b]) ∧ Below w.heap.size w w' := by
  go_enter Try.func38, Try.ntmps38
  go_wp2
  go_returns
  exact ⟨rfl, by go_grown⟩

end Go.Proofs.Ytgjdpiooocpmhaa

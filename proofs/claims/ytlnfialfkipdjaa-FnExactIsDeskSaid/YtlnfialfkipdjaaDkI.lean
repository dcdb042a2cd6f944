/- Desks: the program's IsDesk. -/
import Derived.Test.YtlnfialfkipdjaaDkS
import Derived.Test.YtlnfialfkipdjaaPzI
namespace Go.Proofs.Ytlnfialfkipdjaa
open Go.RowKit
set_option linter.unusedVariables false

set_option maxRecDepth 100000 in
set_option maxHeartbeats 1000000 in
theorem c_aboveTop (g : Nat) (v0 : Value) (top x y : Int) (w : World) (h1 : w.cell? ⟨g, 1, none⟩ = some (.int .i64 top)) :
    Calls Try.prog 94 #[.agg #[.int .i64 x, .int .i64 y], .pointer (some ⟨g, 0, none⟩)] w fun e w' => e = .returned (.bool (decide (top < y))) ∧ Below w.heap.size w w' := by
  have hg := block_lt h1
  have hb0 : Below w.heap.size w (w.alloc (.cells #[.int .i64 x, .int .i64 y] 95)) := (Below.refl _ _).alloc (Nat.le_refl _) _
  go_enter Try.func94, Try.ntmps94
  go_wp2
  go_ret
  exact ⟨rfl, hb0⟩

set_option maxRecDepth 100000 in
set_option maxHeartbeats 2000000 in
theorem c_aboveIndex (A : Option Addr) (c : Nat) (ts : List (Int × Int)) (g : Nat) (v0 : Value) (top : Int) (w : World) (hr : RdT w A ts) (hl : ts.length ≤ 1048576) (h1 : w.cell? ⟨g, 1, none⟩ = some (.int .i64 top)) :
    Calls Try.prog 159 #[.slice A ts.length c, .func (.func 94) #[] #[.pointer (some ⟨g, 0, none⟩)]] w fun e w' => (∃ i : Int, e = .returned (.int .i64 i) ∧ decide (0 ≤ i) = !topB ts top) ∧ Below w.heap.size w w' := by
  go_enter Try.func159, Try.ntmps159
  go_wp2
  go_loopw [8] (fun i wr => ∃ k : Nat, k ≤ ts.length ∧ i = .int .i64 k ∧ (∀ j (h : j < ts.length), j < k → ts[j].2 ≤ top) ∧ Below w.heap.size w wr) (fun i _ => ts.length - (intOf i).toNat)
  case atStart => exact ⟨0, Nat.zero_le _, rfl, fun j _ h => absurd h (Nat.not_lt_zero _), Below.refl _ _⟩
  case round =>
    obtain ⟨k, hk, rfl, hno, hb⟩ := hrel
    by_cases hlt : k < ts.length
    · obtain ⟨bk, off, rfl, hbk, hc⟩ := hr.at_ hlt
      have g1 := keepc hb (hc k hlt).1
      have g2 := keepc hb (hc k hlt).2
      have Hno := Lib.hid hno
      have Hb := Lib.hid hb
      have d1 := keepc hb h1
      obtain ⟨x, hx⟩ : ∃ x, ts[k].1 = x := ⟨_, rfl⟩
      obtain ⟨y, hy⟩ : ∃ y, ts[k].2 = y := ⟨_, rfl⟩
      rw [hx] at g1
      rw [hy] at g2
      have con := c_aboveTop g v0 top x y wr d1
      have Hy := Lib.hid hy
      have Bad := Lib.hid (fun (h : ¬ ts[k].2 ≤ top) => top_bad hlt h)
      obtain ⟨q, hq⟩ : ∃ q, decide (top < y) = q := ⟨_, rfl⟩
      rw [hq] at con
      have Con := Lib.hid con
      have Hq := Lib.hid hq
      clear con hq hx hy hc hb hno d1 hr h1
      cases q
      · go_wp2_with (go_at_call 94; refine Con.out.mono ?_; rintro e w2 ⟨rfl, hb2⟩)
        go_roundw
        case rel => exact ⟨k + 1, by omega, by go_num, fun j hj hjk => by
          rcases Nat.lt_succ_iff_lt_or_eq.1 hjk with h | rfl
          · exact Hno.out j hj h
          · have h1 := of_decide_eq_false Hq.out
            rw [Hy.out]; omega, bstep Hb.out hb2⟩
        case measure => simp [intOf]; omega
      · go_wp2_with (go_at_call 94; refine Con.out.mono ?_; rintro e w2 ⟨rfl, hb2⟩)
        go_ret
        exact ⟨⟨(k : Int), rfl, by rw [Bad.out (by have h1 := of_decide_eq_true Hq.out; rw [Hy.out]; omega)]; simp⟩, bstep Hb.out hb2⟩
    · have : k = ts.length := by omega
      subst this
      have hall := top_all fun j hj => hno j hj hj
      go_wp2
      go_ret
      exact ⟨⟨-1, rfl, by rw [hall]; rfl⟩, hb⟩

set_option maxRecDepth 100000 in
set_option maxHeartbeats 1000000 in
theorem c_aboveAny (A : Option Addr) (c : Nat) (ts : List (Int × Int)) (g : Nat) (v0 : Value) (top : Int) (w : World) (hr : RdT w A ts) (hl : ts.length ≤ 1048576) (h1 : w.cell? ⟨g, 1, none⟩ = some (.int .i64 top)) :
    Calls Try.prog 93 #[.slice A ts.length c, .func (.func 94) #[] #[.pointer (some ⟨g, 0, none⟩)]] w fun e w' => e = .returned (.bool (!topB ts top)) ∧ Below w.heap.size w w' := by
  have con := c_aboveIndex A c ts g v0 top w hr hl h1
  obtain ⟨q, hq⟩ : ∃ q, (!topB ts top) = q := ⟨_, rfl⟩
  simp only [hq] at con ⊢
  replace con := Lib.hid con
  clear hr h1 hq
  go_enter Try.func93, Try.ntmps93
  go_wp2_with fail
  refine con.out.mono ?_
  rintro e w1 ⟨⟨i, rfl, hi⟩, hb1⟩
  have Hi := Lib.hid hi
  clear hi con
  go_wp2
  go_ret
  exact ⟨ret_b (by rw [← Hi.out]), hb1⟩

set_option maxRecDepth 100000 in
set_option maxHeartbeats 2000000 in
theorem c_implIsDesk (AT : Option Addr) (cT : Nat) (T : List (Int × Int)) (top : Int) (w : World) (hT : RdT w AT T) (lT : T.length ≤ 1048576) :
    Calls Try.prog 22 #[.agg #[.slice AT T.length cT, .int .i64 top]] w fun e w' => e = .returned (.bool (dkB T top)) ∧ Below w.heap.size w w' := by
  have con1 := fun W => c_isNumber top W
  have con2 := fun W (hb : Below w.heap.size w W) => c_implIsHand AT cT T W (hT.below hb) (by omega)
  have con3 := fun (h : handB T = true) W (hb : Below w.heap.size w W) => c_isSorted AT cT T W (hT.below hb) h
  have con4 := fun W (hb : Below w.heap.size w W) g (hg : W.cell? ⟨g, 1, none⟩ = some (.int .i64 top)) => c_aboveAny AT cT T g (.int .i64 0) top W (hT.below hb) lT hg
  have hpz : dkB T top = (numB top && (handB T && (decide (sortL T = T) && topB T top))) := by
    unfold dkB
    cases handB T <;> cases numB top <;> cases topB T top <;> simp
  rw [hpz]
  clear hpz hT
  cases h1 : numB top
  · simp only [h1] at con1
    simp only [Bool.false_and]
    clear h1 con2 con3 con4
    go_enter Try.func22, Try.ntmps22
    go_wp2_with fail
    obtain ⟨w0, hw0⟩ : ∃ w0, w0 = w.alloc (.cells #[.slice AT T.length cT, .int .i64 top] 24) := ⟨_, rfl⟩
    rw [← hw0]
    have hb0 : Below w.heap.size w w0 := by rw [hw0]; go_grown
    clear hw0
    refine (con1 _).mono ?_
    rintro e w1 ⟨rfl, rfl⟩
    go_wp2
    go_ret
    exact ⟨rfl, hb0⟩
  simp only [h1] at con1
  cases h2 : handB T
  · simp only [h2] at con2
    simp only [Bool.false_and, Bool.and_false]
    have Con2 := Lib.hid con2
    clear h1 h2 con2 con3 con4
    go_enter Try.func22, Try.ntmps22
    go_wp2_with fail
    obtain ⟨w0, hw0⟩ : ∃ w0, w0 = w.alloc (.cells #[.slice AT T.length cT, .int .i64 top] 24) := ⟨_, rfl⟩
    rw [← hw0]
    have ba0 : Bx2 w0 w.heap.size (.slice AT T.length cT) (.int .i64 top) := by rw [hw0]; exact Bx2.fresh w _ _ _
    have hb0 : Below w.heap.size w w0 := by rw [hw0]; go_grown
    clear hw0
    refine (con1 _).mono ?_
    rintro e w1 ⟨rfl, rfl⟩
    have x0 := ba0.c0
    go_wp2_with fail
    refine (Con2.out _ hb0).mono ?_
    rintro e w2 ⟨rfl, q2⟩
    have hb2 := bstep hb0 q2
    go_wp2
    go_ret
    exact ⟨rfl, hb2⟩
  simp only [h2] at con2
  have Con2 := Lib.hid con2
  have con3b := con3 h2
  clear con2 con3
  cases h3 : decide (sortL T = T)
  · simp only [h3] at con3b
    simp only [Bool.false_and, Bool.and_false]
    have Con3 := Lib.hid con3b
    clear h1 h2 h3 con3b con4
    go_enter Try.func22, Try.ntmps22
    go_wp2_with fail
    obtain ⟨w0, hw0⟩ : ∃ w0, w0 = w.alloc (.cells #[.slice AT T.length cT, .int .i64 top] 24) := ⟨_, rfl⟩
    rw [← hw0]
    have ba0 : Bx2 w0 w.heap.size (.slice AT T.length cT) (.int .i64 top) := by rw [hw0]; exact Bx2.fresh w _ _ _
    have hb0 : Below w.heap.size w w0 := by rw [hw0]; go_grown
    clear hw0
    refine (con1 _).mono ?_
    rintro e w1 ⟨rfl, rfl⟩
    have x0 := ba0.c0
    go_wp2_with fail
    refine (Con2.out _ hb0).mono ?_
    rintro e w2 ⟨rfl, q2⟩
    have hb2 := bstep hb0 q2
    have ba2 := ba0.keep q2
    clear x0 ba0
    have x0 := ba2.c0
    go_wp2_with fail
    refine (Con3.out _ hb2).mono ?_
    rintro e w3 ⟨rfl, q3⟩
    have hb3 := bstep hb2 q3
    go_wp2
    go_ret
    exact ⟨rfl, hb3⟩
  simp only [h3] at con3b
  simp only [Bool.true_and]
  have Con3 := Lib.hid con3b
  have Con4 := Lib.hid con4
  clear h1 h2 h3 con3b con4
  obtain ⟨res, hres⟩ : ∃ res, topB T top = res := ⟨_, rfl⟩
  rw [hres] at Con4 ⊢
  clear hres
  go_enter Try.func22, Try.ntmps22
  go_wp2_with fail
  obtain ⟨w0, hw0⟩ : ∃ w0, w0 = w.alloc (.cells #[.slice AT T.length cT, .int .i64 top] 24) := ⟨_, rfl⟩
  rw [← hw0]
  have ba0 : Bx2 w0 w.heap.size (.slice AT T.length cT) (.int .i64 top) := by rw [hw0]; exact Bx2.fresh w _ _ _
  have hb0 : Below w.heap.size w w0 := by rw [hw0]; go_grown
  clear hw0
  refine (con1 _).mono ?_
  rintro e w1 ⟨rfl, rfl⟩
  have x0 := ba0.c0
  go_wp2_with fail
  refine (Con2.out _ hb0).mono ?_
  rintro e w2 ⟨rfl, q2⟩
  have hb2 := bstep hb0 q2
  have ba2 := ba0.keep q2
  clear x0 ba0
  have x0 := ba2.c0
  go_wp2_with fail
  refine (Con3.out _ hb2).mono ?_
  rintro e w3 ⟨rfl, q3⟩
  have hb3 := bstep hb2 q3
  have ba3 := ba2.keep q3
  clear x0 ba2
  have x0 := ba3.c0
  go_wp2_with fail
  refine (Con4.out _ hb3 _ ba3.c1).mono ?_
  rintro e w4 ⟨rfl, q4⟩
  have hb4 := bstep hb3 q4
  cases res
  all_goals
    go_wp2
    go_ret
    exact ⟨rfl, hb4⟩

end Go.Proofs.Ytlnfialfkipdjaa

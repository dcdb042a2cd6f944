/- The board of the program: whether a play fits. -/
import Derived.Test.YtnnkdnleencofabBrdW
namespace Go.Proofs.Ytnnkdnleencofab
open Go.RowKit
set_option linter.unusedVariables false

set_option maxRecDepth 100000 in
set_option maxHeartbeats 2000000 in
theorem c_fits (A : Option Addr) (c : Nat) (D : Option Addr) (d : Nat) (B : Brd) (x y k : Int) (w : World) (hr : RdP w A B.ps) (hq : RdA w D B.arms) (hB : Bok B) :
    Calls Try.prog 105 #[.agg #[.slice A B.ps.length c, .slice D B.arms.length d, .int .i64 B.fives], .agg #[.int .i64 x, .int .i64 y, .int .i64 k]] w fun e w' => e = .returned (.bool (fitsL B (x, y, k))) ∧ Below w.heap.size w w' := by
  have hl := hB.len
  have h4 := hB.four
  have conT := Lib.hid (fun W => c_implIsTile x y W)
  have conL := Lib.hid (fun W (hb : Below w.heap.size w W) => c_hasLaid A c D B.arms.length d B.fives B.ps x y W (hr.below hb) hl)
  have hb0 : Below w.heap.size w ((w.alloc (.cells #[.slice A B.ps.length c, .slice D B.arms.length d, .int .i64 B.fives] 94)).alloc (.cells #[.int .i64 x, .int .i64 y, .int .i64 k] 32)) := by go_grown
  have a0 : ((w.alloc (.cells #[.slice A B.ps.length c, .slice D B.arms.length d, .int .i64 B.fives] 94)).alloc (.cells #[.int .i64 x, .int .i64 y, .int .i64 k] 32)).cell? ⟨w.heap.size, 0, none⟩ = some (.slice A B.ps.length c) := by simp [go_sem]
  have a1 : ((w.alloc (.cells #[.slice A B.ps.length c, .slice D B.arms.length d, .int .i64 B.fives] 94)).alloc (.cells #[.int .i64 x, .int .i64 y, .int .i64 k] 32)).cell? ⟨w.heap.size, 1, none⟩ = some (.slice D B.arms.length d) := by simp [go_sem]
  have a2 : ((w.alloc (.cells #[.slice A B.ps.length c, .slice D B.arms.length d, .int .i64 B.fives] 94)).alloc (.cells #[.int .i64 x, .int .i64 y, .int .i64 k] 32)).cell? ⟨w.heap.size, 2, none⟩ = some (.int .i64 B.fives) := by simp [go_sem]
  have a3 : ((w.alloc (.cells #[.slice A B.ps.length c, .slice D B.arms.length d, .int .i64 B.fives] 94)).alloc (.cells #[.int .i64 x, .int .i64 y, .int .i64 k] 32)).cell? ⟨w.heap.size + 1, 0, none⟩ = some (.int .i64 x) := by simp [go_sem]
  have a4 : ((w.alloc (.cells #[.slice A B.ps.length c, .slice D B.arms.length d, .int .i64 B.fives] 94)).alloc (.cells #[.int .i64 x, .int .i64 y, .int .i64 k] 32)).cell? ⟨w.heap.size + 1, 1, none⟩ = some (.int .i64 y) := by simp [go_sem]
  have a5 : ((w.alloc (.cells #[.slice A B.ps.length c, .slice D B.arms.length d, .int .i64 B.fives] 94)).alloc (.cells #[.int .i64 x, .int .i64 y, .int .i64 k] 32)).cell? ⟨w.heap.size + 1, 2, none⟩ = some (.int .i64 k) := by simp [go_sem]
  by_cases h28 : B.ps.length = 28
  · have e1 : fitsL B (x, y, k) = false := by unfold fitsL; rw [decide_eq_true h28]; rfl
    have q : ((B.ps.length : Int) == 28) = true := beq_iff_eq.2 (by omega)
    rw [e1]
    clear h28 e1 hr hq hB
    go_enter Try.func105, Try.ntmps105
    go_wp2
    go_ret
    exact ⟨rfl, hb0⟩
  · have q : ((B.ps.length : Int) == 28) = false := beq_eq_false_iff_ne.2 (by omega)
    have e28 : decide (B.ps.length = 28) = false := decide_eq_false h28
    cases hg : goodB x y
    · have e1 : fitsL B (x, y, k) = false := by unfold fitsL; rw [hg]; simp
      rw [e1]
      rw [hg] at conT
      clear h28 e28 e1 hg hr hq hB
      go_enter Try.func105, Try.ntmps105
      go_wp2_with (go_at_call 134; refine (conT.out _).mono ?_; rintro e w1 ⟨rfl, hb1⟩; have b0 := keepc hb1 a0; have b1 := keepc hb1 a1; have b2 := keepc hb1 a2; have b3 := keepc hb1 a3; have b4 := keepc hb1 a4; have b5 := keepc hb1 a5; have hbw1 := bstep hb0 hb1)
      go_ret
      exact ⟨rfl, hbw1⟩
    · rw [hg] at conT
      cases hh : hasL B.ps x y
      rotate_left
      · have e1 : fitsL B (x, y, k) = false := by unfold fitsL; rw [hh]; simp
        rw [e1]
        rw [hh] at conL
        clear h28 e28 e1 hg hh hr hq hB
        go_enter Try.func105, Try.ntmps105
        go_wp2_with (first | (go_at_call 134; refine (conT.out _).mono ?_; rintro e w1 ⟨rfl, hb1⟩; have b0 := keepc hb1 a0; have b1 := keepc hb1 a1; have b2 := keepc hb1 a2; have b3 := keepc hb1 a3; have b4 := keepc hb1 a4; have b5 := keepc hb1 a5; have hbw1 := bstep hb0 hb1) | (go_at_call 135; refine (conL.out _ hbw1).mono ?_; rintro e w2 ⟨rfl, hb2⟩; have d0 := keepc hb2 b0; have d1 := keepc hb2 b1; have d2 := keepc hb2 b2; have d3 := keepc hb2 b3; have d4 := keepc hb2 b4; have d5 := keepc hb2 b5; have hbw2 := bstep hbw1 hb2))
        go_ret
        exact ⟨rfl, hbw2⟩
      · rw [hh] at conL
        have e2 : fitsL B (x, y, k) = (if B.ps.length = 0 then decide (k = 0) else decide (0 ≤ k) && decide (k < B.arms.length) && (decide (x = endL B.arms k) || decide (y = endL B.arms k))) := by unfold fitsL; rw [hg, hh, e28]; rfl
        by_cases h0 : B.ps.length = 0
        · rw [e2, if_pos h0]
          have q0 : ((B.ps.length : Int) == 0) = true := beq_iff_eq.2 (by omega)
          clear h28 e28 e2 hg hh hr hq hB h0
          cases hk : decide (k = 0)
          · have qk : (k == 0) = false := beq_eq_false_iff_ne.2 (of_decide_eq_false hk)
            clear hk
            go_enter Try.func105, Try.ntmps105
            go_wp2_with (first | (go_at_call 134; refine (conT.out _).mono ?_; rintro e w1 ⟨rfl, hb1⟩; have b0 := keepc hb1 a0; have b1 := keepc hb1 a1; have b2 := keepc hb1 a2; have b3 := keepc hb1 a3; have b4 := keepc hb1 a4; have b5 := keepc hb1 a5; have hbw1 := bstep hb0 hb1) | (go_at_call 135; refine (conL.out _ hbw1).mono ?_; rintro e w2 ⟨rfl, hb2⟩; have d0 := keepc hb2 b0; have d1 := keepc hb2 b1; have d2 := keepc hb2 b2; have d3 := keepc hb2 b3; have d4 := keepc hb2 b4; have d5 := keepc hb2 b5; have hbw2 := bstep hbw1 hb2))
            go_ret
            exact ⟨rfl, hbw2⟩
          · have qk : (k == 0) = true := beq_iff_eq.2 (of_decide_eq_true hk)
            clear hk
            go_enter Try.func105, Try.ntmps105
            go_wp2_with (first | (go_at_call 134; refine (conT.out _).mono ?_; rintro e w1 ⟨rfl, hb1⟩; have b0 := keepc hb1 a0; have b1 := keepc hb1 a1; have b2 := keepc hb1 a2; have b3 := keepc hb1 a3; have b4 := keepc hb1 a4; have b5 := keepc hb1 a5; have hbw1 := bstep hb0 hb1) | (go_at_call 135; refine (conL.out _ hbw1).mono ?_; rintro e w2 ⟨rfl, hb2⟩; have d0 := keepc hb2 b0; have d1 := keepc hb2 b1; have d2 := keepc hb2 b2; have d3 := keepc hb2 b3; have d4 := keepc hb2 b4; have d5 := keepc hb2 b5; have hbw2 := bstep hbw1 hb2))
            go_ret
            exact ⟨rfl, hbw2⟩
        · rw [e2, if_neg h0]
          have q0 : ((B.ps.length : Int) == 0) = false := beq_eq_false_iff_ne.2 (by omega)
          by_cases hk0 : 0 ≤ k
          · by_cases hk1 : k < (B.arms.length : Int)
            · obtain ⟨kn, rfl⟩ : ∃ kn : Nat, k = kn := ⟨k.toNat, by omega⟩
              have hkl : kn < B.arms.length := by omega
              obtain ⟨bk, off, rfl, hbk, hc⟩ := hq.at_ hkl
              have he : endL B.arms kn = B.arms[kn].1 := by unfold endL; simp [hkl]
              rw [he, decide_eq_true hk0, decide_eq_true hk1, Bool.true_and, Bool.true_and]
              have g0 := (hc kn hkl).1
              have g2 : ∀ W, Below w.heap.size w W → W.cell? ⟨bk, off + kn * 3, none⟩ = some (.int .i64 B.arms[kn].1) := fun W hb => keepc hb g0
              have G2 := Lib.hid g2
              obtain ⟨z, hz⟩ : ∃ z, B.arms[kn].1 = z := ⟨_, rfl⟩
              rw [hz] at G2 ⊢
              clear h28 e28 e2 hg hh hr hq hB h0 hc he g0 g2 hz
              cases h1 : decide (x = z)
              · have q1 : (x == z) = false := beq_eq_false_iff_ne.2 (of_decide_eq_false h1)
                cases h2 : decide (y = z)
                · have q2 : (y == z) = false := beq_eq_false_iff_ne.2 (of_decide_eq_false h2)
                  clear h1 h2
                  go_enter Try.func105, Try.ntmps105
                  go_wp2_with (first | (go_at_call 134; refine (conT.out _).mono ?_; rintro e w1 ⟨rfl, hb1⟩; have b0 := keepc hb1 a0; have b1 := keepc hb1 a1; have b2 := keepc hb1 a2; have b3 := keepc hb1 a3; have b4 := keepc hb1 a4; have b5 := keepc hb1 a5; have hbw1 := bstep hb0 hb1) | (go_at_call 135; refine (conL.out _ hbw1).mono ?_; rintro e w2 ⟨rfl, hb2⟩; have d0 := keepc hb2 b0; have d1 := keepc hb2 b1; have d2 := keepc hb2 b2; have d3 := keepc hb2 b3; have d4 := keepc hb2 b4; have d5 := keepc hb2 b5; have hbw2 := bstep hbw1 hb2; have g := G2.out _ hbw2))
                  go_ret
                  exact ⟨rfl, hbw2⟩
                · have q2 : (y == z) = true := beq_iff_eq.2 (of_decide_eq_true h2)
                  clear h1 h2
                  go_enter Try.func105, Try.ntmps105
                  go_wp2_with (first | (go_at_call 134; refine (conT.out _).mono ?_; rintro e w1 ⟨rfl, hb1⟩; have b0 := keepc hb1 a0; have b1 := keepc hb1 a1; have b2 := keepc hb1 a2; have b3 := keepc hb1 a3; have b4 := keepc hb1 a4; have b5 := keepc hb1 a5; have hbw1 := bstep hb0 hb1) | (go_at_call 135; refine (conL.out _ hbw1).mono ?_; rintro e w2 ⟨rfl, hb2⟩; have d0 := keepc hb2 b0; have d1 := keepc hb2 b1; have d2 := keepc hb2 b2; have d3 := keepc hb2 b3; have d4 := keepc hb2 b4; have d5 := keepc hb2 b5; have hbw2 := bstep hbw1 hb2; have g := G2.out _ hbw2))
                  go_ret
                  exact ⟨rfl, hbw2⟩
              · have q1 : (x == z) = true := beq_iff_eq.2 (of_decide_eq_true h1)
                clear h1
                rw [Bool.true_or]
                go_enter Try.func105, Try.ntmps105
                go_wp2_with (first | (go_at_call 134; refine (conT.out _).mono ?_; rintro e w1 ⟨rfl, hb1⟩; have b0 := keepc hb1 a0; have b1 := keepc hb1 a1; have b2 := keepc hb1 a2; have b3 := keepc hb1 a3; have b4 := keepc hb1 a4; have b5 := keepc hb1 a5; have hbw1 := bstep hb0 hb1) | (go_at_call 135; refine (conL.out _ hbw1).mono ?_; rintro e w2 ⟨rfl, hb2⟩; have d0 := keepc hb2 b0; have d1 := keepc hb2 b1; have d2 := keepc hb2 b2; have d3 := keepc hb2 b3; have d4 := keepc hb2 b4; have d5 := keepc hb2 b5; have hbw2 := bstep hbw1 hb2; have g := G2.out _ hbw2))
                go_ret
                exact ⟨rfl, hbw2⟩
            · rw [decide_eq_false hk1, Bool.and_false, Bool.false_and]
              have i0 : ¬ k < 0 := by omega
              have i1 : (B.arms.length : Int) ≤ k := by omega
              clear h28 e28 e2 hg hh hr hq hB h0 hk1
              go_enter Try.func105, Try.ntmps105
              go_wp2_with (first | (go_at_call 134; refine (conT.out _).mono ?_; rintro e w1 ⟨rfl, hb1⟩; have b0 := keepc hb1 a0; have b1 := keepc hb1 a1; have b2 := keepc hb1 a2; have b3 := keepc hb1 a3; have b4 := keepc hb1 a4; have b5 := keepc hb1 a5; have hbw1 := bstep hb0 hb1) | (go_at_call 135; refine (conL.out _ hbw1).mono ?_; rintro e w2 ⟨rfl, hb2⟩; have d0 := keepc hb2 b0; have d1 := keepc hb2 b1; have d2 := keepc hb2 b2; have d3 := keepc hb2 b3; have d4 := keepc hb2 b4; have d5 := keepc hb2 b5; have hbw2 := bstep hbw1 hb2))
              go_ret
              exact ⟨rfl, hbw2⟩
          · rw [decide_eq_false hk0, Bool.false_and, Bool.false_and]
            have i0 : k < 0 := by omega
            clear h28 e28 e2 hg hh hr hq hB h0 hk0
            go_enter Try.func105, Try.ntmps105
            go_wp2_with (first | (go_at_call 134; refine (conT.out _).mono ?_; rintro e w1 ⟨rfl, hb1⟩; have b0 := keepc hb1 a0; have b1 := keepc hb1 a1; have b2 := keepc hb1 a2; have b3 := keepc hb1 a3; have b4 := keepc hb1 a4; have b5 := keepc hb1 a5; have hbw1 := bstep hb0 hb1) | (go_at_call 135; refine (conL.out _ hbw1).mono ?_; rintro e w2 ⟨rfl, hb2⟩; have d0 := keepc hb2 b0; have d1 := keepc hb2 b1; have d2 := keepc hb2 b2; have d3 := keepc hb2 b3; have d4 := keepc hb2 b4; have d5 := keepc hb2 b5; have hbw2 := bstep hbw1 hb2))
            go_ret
            exact ⟨rfl, hbw2⟩
end Go.Proofs.Ytnnkdnleencofab

/- Magic blocks. -/
import Derived.Test.YtbanpgifhnbjoaaBlkK
namespace Go.Proofs.Ytbanpgifhnbjoaa
open Go.RowKit
set_option linter.unusedVariables false

set_option maxRecDepth 100000 in
set_option maxHeartbeats 1000000 in
theorem c_wiEqual (A : Option Addr) (c : Nat) (xs : List Int) (w : World) (hr : RdI w A xs) (hl : xs.length ≤ 1048576) :
    Calls Try.prog 66 #[.slice A xs.length c] w fun e w' => e = .returned (.bool (sameL xs)) ∧ Below w.heap.size w w' := by
  go_enter Try.func66, Try.ntmps66
  go_wp2
  go_loopw [7] (fun i wr => ∃ k : Nat, k ≤ xs.length ∧ i = .int .i64 k ∧ (∀ j, j < k → xs.getD j 0 = xs.getD 0 0) ∧ Below w.heap.size w wr) (fun i _ => xs.length - (intOf i).toNat)
  case atStart => exact ⟨0, Nat.zero_le _, rfl, by omega, Below.refl _ _⟩
  case round =>
    obtain ⟨k, hk, rfl, hs, hb⟩ := hrel
    by_cases hlt : k < xs.length
    · obtain ⟨bk, off, rfl, hbk, hc⟩ := hr.cellD (n := xs.length) rfl (by omega)
      have g1 := (hb.cell (p := ⟨bk, _, none⟩) hbk).trans (hc k hlt)
      have g2 := (hb.cell (p := ⟨bk, _, none⟩) hbk).trans (hc 0 (by omega))
      rw [Nat.add_zero] at g2
      have Hb := Lib.hid hb
      have i0 : (0 : Int) < (xs.length : Int) := by omega
      by_cases he : xs.getD k 0 = xs.getD 0 0
      · have q0 : (xs.getD k 0 != xs.getD 0 0) = false := bne_eq_false_iff_eq.2 he
        have Hs2 := Lib.hid (show ∀ j, j < k + 1 → xs.getD j 0 = xs.getD 0 0 from fun j hj => by
          rcases Nat.lt_succ_iff_lt_or_eq.1 hj with h | rfl
          · exact hs j h
          · exact he)
        clear hc hr hs hb he
        generalize xs.getD k 0 = p at *
        generalize xs.getD 0 0 = q at *
        go_wp2
        go_roundw
        case rel => exact ⟨k + 1, by omega, by go_num, Hs2.out, Hb.out⟩
        case measure => simp [intOf]; omega
      · have q0 : (xs.getD k 0 != xs.getD 0 0) = true := bne_iff_ne.2 he
        have Hno := Lib.hid (sameL_no hlt he)
        clear hc hr hs hb he
        generalize xs.getD k 0 = p at *
        generalize xs.getD 0 0 = q at *
        go_wp2
        go_ret
        exact ⟨ret_b Hno.out.symm, Hb.out⟩
    · have Hy := Lib.hid (sameL_yes (xs := xs) (fun j hj => hs j (by omega)))
      clear hs hr
      go_wp2
      go_ret
      exact ⟨ret_b Hy.out.symm, hb⟩

def magR (rss : List (List Int)) : Bool := sameL (sumsL (matF rss) rss.length (widB rss))

def magC (rss : List (List Int)) : Bool := sameL (sumsL (fun c i => matF rss i c) (widB rss) rss.length)

def magB (rss : List (List Int)) : Bool := blkB rss && (magR rss && magC rss)

set_option maxRecDepth 100000 in
set_option maxHeartbeats 2000000 in
theorem c_blkMagic (A : Option Addr) (n c W H : Nat) (F : List Int) (w : World) (hr : RdI w A F) (hFn : F.length = n) (hn : n = H * W) (hW : 0 < W) (hW4 : W ≤ 4) (hH : 0 < H) (hH3 : H ≤ 3) (hc : n ≤ c) (hc2 : c ≤ 9223372036854775807) (hbd : ∀ k, 0 ≤ F.getD k 0 ∧ F.getD k 0 ≤ 9) :
    Calls Try.prog 50 #[.agg #[.slice A n c, .int .i64 W]] w fun e w' => e = .returned (.bool (sameL (sumsL (fun i j => F.getD (i * W + j) 0) H W) && sameL (sumsL (fun i j => F.getD (j * W + i) 0) W H))) ∧ Below w.heap.size w w' := by
  have hb0 : Below w.heap.size w (w.alloc (.cells #[.slice A n c, .int .i64 W] 59)) := (Below.refl _ _).alloc (Nat.le_refl _) _
  have x0 : (w.alloc (.cells #[.slice A n c, .int .i64 W] 59)).cell? ⟨w.heap.size, 0, none⟩ = some (.slice A n c) := by simp
  have x1 : (w.alloc (.cells #[.slice A n c, .int .i64 W] 59)).cell? ⟨w.heap.size, 1, none⟩ = some (.int .i64 W) := by simp
  obtain ⟨v1, hv1⟩ : ∃ v1, v1 = w.alloc (.cells #[.slice A n c, .int .i64 W] 59) := ⟨_, rfl⟩
  have hr1 := hr.below hb0
  rw [← hv1] at hb0 x0 x1 hr1
  have conR := Lib.hid (fun W0 (hb : Below v1.heap.size v1 W0) => c_blkRowSums A n c W H F W0 (hr1.below hb) hFn hn hW hW4 hH hH3 hc hc2 hbd)
  have conC := Lib.hid (fun W0 (hb : Below v1.heap.size v1 W0) => c_blkColSums A n c W H F W0 (hr1.below hb) hFn hn hW hW4 hH hH3 hc hc2 hbd)
  have hR : (sumsL (fun i j => F.getD (i * W + j) 0) H W).length ≤ 1048576 := by rw [sumsL_len]; omega
  have hC : (sumsL (fun i j => F.getD (j * W + i) 0) W H).length ≤ 1048576 := by rw [sumsL_len]; omega
  have Hb0 := Lib.hid hb0
  generalize sumsL (fun i j => F.getD (i * W + j) 0) H W = R at *
  generalize sumsL (fun i j => F.getD (j * W + i) 0) W H = K at *
  have conR2 := Lib.hid (fun W A' c' base (ho : W.ownsRow base 3 1 (.slice A' R.length c') R.length (cellsI R)) => c_allSame A' c' R W (RdI.of_own ho) hR)
  have conC2 := Lib.hid (fun W A' c' base (ho : W.ownsRow base 3 1 (.slice A' K.length c') K.length (cellsI K)) => c_allSame A' c' K W (RdI.of_own ho) hC)
  clear hr hr1 hFn hn hbd hb0 hR hC
  cases hm : sameL R
  · rw [hm] at conR2
    rw [Bool.false_and]
    clear hm
    go_enter Try.func50, Try.ntmps50
    go_wp2_with fail
    rw [← hv1]
    clear hv1
    refine (conR.out _ (Below.refl _ _)).mono ?_
    rintro e w2 ⟨A2, c2, rfl, ho2, hb2⟩
    go_wp2_with (go_at_call 77; refine (conR2.out _ _ _ _ ho2).mono ?_; rintro e w3 ⟨rfl, hb3⟩)
    go_ret
    exact ⟨rfl, bstep (bstep Hb0.out hb2) hb3⟩
  · rw [hm] at conR2
    rw [Bool.true_and]
    clear hm
    go_enter Try.func50, Try.ntmps50
    go_wp2_with fail
    rw [← hv1]
    clear hv1
    refine (conR.out _ (Below.refl _ _)).mono ?_
    rintro e w2 ⟨A2, c2, rfl, ho2, hb2⟩
    have y0 := keepc hb2 x0
    have y1 := keepc hb2 x1
    clear x0 x1
    go_wp2_with (first | (go_at_call 77; refine (conC2.out _ _ _ _ ho4).mono ?_; rintro e w5 ⟨rfl, hb5⟩) | (go_at_call 77; refine (conR2.out _ _ _ _ ho2).mono ?_; rintro e w3 ⟨rfl, hb3⟩; have z0 := keepc hb3 y0; have z1 := keepc hb3 y1; have hb23 := bstep hb2 hb3) | (go_at_call 79; refine (conC.out _ hb23).mono ?_; rintro e w4 ⟨A4, c4, rfl, ho4, hb4⟩))
    go_ret
    exact ⟨rfl, bstep (bstep (bstep Hb0.out hb23) hb4) hb5⟩
end Go.Proofs.Ytbanpgifhnbjoaa

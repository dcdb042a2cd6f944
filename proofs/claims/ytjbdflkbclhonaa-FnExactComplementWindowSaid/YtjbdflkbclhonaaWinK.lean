/- The program's LeastWindow and ComplementWindow. -/
import Derived.Test.YtjbdflkbclhonaaWinL
namespace Go.Proofs.Ytjbdflkbclhonaa
open Go.RowKit
set_option linter.unusedVariables false

theorem win_best_len (xs : List Int) : (winL xs (bestL xs 4)).length ≤ 110 := by
  unfold winL
  split
  · rename_i h
    rw [bestL_len, win_len h]
    decide
  · simp

set_option maxRecDepth 100000 in
set_option maxHeartbeats 2000000 in
theorem c_implLeastW (A : Option Addr) (c : Nat) (xs : List Int) (w : World) (hr : RdI w A xs) (hl : xs.length ≤ 1048576) :
    Calls Try.prog 35 #[.slice A xs.length c] w (RetI w (winL xs (bestL xs 4)) (winB xs)) := by
  have con := Lib.hid (c_windowOf A c xs w hr (by omega))
  cases hw : winB xs
  · rw [hw] at con
    simp only [winF_no hw] at con
    rw [winL_no hw]
    clear hr hw
    go_enter Try.func35, Try.ntmps35
    go_wp2_with (go_at_call 51; refine con.out.mono ?_; rintro e w1 ⟨rfl, hb1⟩)
    go_ret2
    exact ⟨none, 0, rfl, World.ownsRow_nil _ _ _ _, (hb1.alloc hb1.size (.cells #[.int .i64 0, .int .i64 0, .int .i64 0, .int .i64 0, .int .i64 0, .int .i64 0, .int .i64 0, .int .i64 0] 46))⟩
  · rw [hw] at con
    simp only [winF_yes hw] at con
    obtain ⟨f, hf⟩ : ∃ f : Nat → Int, ∀ i, f i = xs.getD i 0 := ⟨fun i => xs.getD i 0, fun _ => rfl⟩
    have hbd : ∀ i, 0 ≤ f i ∧ f i ≤ 9 := fun i => by rw [hf]; exact win_numD hw i
    have h8 := win_len hw
    simp only [← hf] at con
    have e1 : bestL xs 4 = l8 (bestF f 4) := (bestF_l8 h8 hf 4 (by omega)).symm
    rw [winL_yes hw, e1]
    have conM := Lib.hid (fun W => c_least f W)
    generalize bestF f 4 = F at *
    have conL := Lib.hid (fun W => c_winList F W)
    generalize l8 F = S at *
    clear hr hw h8 hbd hf e1
    go_enter Try.func35, Try.ntmps35
    go_wp2_with (first | (go_at_call 51; refine con.out.mono ?_; rintro e w1 ⟨rfl, hb1⟩) | (go_at_call 65; refine (conM.out _).mono ?_; rintro e w2 ⟨rfl, hb2⟩) | (go_at_call 62; refine (conL.out _).mono ?_; rintro e w3 ⟨A3, c3, rfl, ho3, hb3⟩))
    go_ret2
    exact ⟨A3, c3, rfl, own_base ho3 (bstep (hb1.alloc hb1.size (.cells #[.int .i64 (f 0), .int .i64 (f 1), .int .i64 (f 2), .int .i64 (f 3), .int .i64 (f 4), .int .i64 (f 5), .int .i64 (f 6), .int .i64 (f 7)] 46)) hb2).size, bstep (bstep (hb1.alloc hb1.size (.cells #[.int .i64 (f 0), .int .i64 (f 1), .int .i64 (f 2), .int .i64 (f 3), .int .i64 (f 4), .int .i64 (f 5), .int .i64 (f 6), .int .i64 (f 7)] 46)) hb2) hb3⟩

set_option maxRecDepth 100000 in
set_option maxHeartbeats 2000000 in
theorem c_max8 (A : Option Addr) (c : Nat) (xs : List Int) (w : World) (hr : RdI w A xs) (h8 : xs.length = 8) :
    Calls Try.prog 69 #[.slice A 8 c] w fun e w' => (∃ m : Int, e = .returned (.int .i64 m) ∧ (∀ j, j < 8 → xs.getD j 0 ≤ m) ∧ ∃ j, j < 8 ∧ m = xs.getD j 0) ∧ Below w.heap.size w w' := by
  obtain ⟨bk, off, rfl, hbk, hc⟩ := hr.cellD h8 (by omega)
  have x0 := hc 0 (by omega)
  rw [Nat.add_zero] at x0
  clear hr h8
  go_enter Try.func69, Try.ntmps69
  go_wp2
  go_loopw [3, 4] (fun v i wr => ∃ (k : Nat) (m : Int), 1 ≤ k ∧ k ≤ 8 ∧ i = .int .i64 k ∧ v = .int .i64 m ∧ (∀ j, j < k → xs.getD j 0 ≤ m) ∧ (∃ j, j < k ∧ m = xs.getD j 0) ∧ Below w.heap.size w wr) (fun _ i _ => 8 - (intOf i).toNat)
  case atStart => exact ⟨1, xs.getD 0 0, by omega, by omega, rfl, rfl, (show ∀ j, j < 1 → xs.getD j 0 ≤ xs.getD 0 0 from fun j hj => by rw [show j = 0 from by omega]; exact Int.le_refl _), ⟨0, by omega, rfl⟩, Below.refl _ _⟩
  case round =>
    obtain ⟨k, m, h1, hk, rfl, rfl, hle, hin, hb⟩ := hrel
    by_cases hlt : k < 8
    · have g1 := (hb.cell (p := ⟨bk, _, none⟩) hbk).trans (hc k hlt)
      have i0 : (0 : Int) ≤ (k : Int) := by omega
      have i1 : (k : Int) < 8 := by omega
      have Hb := Lib.hid hb
      have hrel2 : (∀ j, j < k + 1 → xs.getD j 0 ≤ (if m < xs.getD k 0 then xs.getD k 0 else m)) ∧ ∃ j, j < k + 1 ∧ (if m < xs.getD k 0 then xs.getD k 0 else m) = xs.getD j 0 := by
        refine ⟨fun j hj => ?_, ?_⟩
        · rcases Nat.lt_succ_iff_lt_or_eq.1 hj with h | rfl
          · have := hle j h
            split <;> omega
          · split <;> omega
        · by_cases h : m < xs.getD k 0
          · exact ⟨k, by omega, if_pos h⟩
          · obtain ⟨j, hj, e⟩ := hin
            exact ⟨j, by omega, by rw [if_neg h]; exact e⟩
      have Hrel := Lib.hid hrel2
      clear hc hb hle hin hrel2 x0
      generalize xs.getD k 0 = p at *
      go_wp2
      go_roundw
      case rel => exact ⟨k + 1, _, by omega, by omega, by go_num, rfl, Hrel.out.1, Hrel.out.2, Hb.out⟩
      case measure => simp [intOf]; omega
    · obtain rfl : k = 8 := by omega
      have Hle := Lib.hid hle
      have Hin := Lib.hid hin
      clear hle hin hc
      go_wp2
      go_ret
      exact ⟨⟨m, rfl, Hle.out, Hin.out⟩, hb⟩

theorem comp_all {xs : List Int} {n m : Int} (h8 : xs.length = 8) (hg : ∀ i, 0 ≤ xs.getD i 0 ∧ xs.getD i 0 ≤ 9) (h1 : ∀ j, j < 8 → xs.getD j 0 ≤ m) (h2 : ∃ j, j < 8 ∧ m = xs.getD j 0) : decide (∀ x ∈ xs, inB n x = true) = decide (m ≤ n) := by
  rw [Bool.eq_iff_iff, decide_eq_true_eq, decide_eq_true_eq]
  constructor
  · intro h
    obtain ⟨j, hj, rfl⟩ := h2
    have hx : xs.getD j 0 ∈ xs := by
      rw [List.getD_eq_getElem?_getD, List.getElem?_eq_getElem (by omega)]
      exact List.getElem_mem _
    have := h _ hx
    simp only [inB, Bool.and_eq_true, decide_eq_true_eq] at this
    exact this.2
  · intro h x hx
    obtain ⟨i, hi, rfl⟩ := List.getElem_of_mem hx
    have a := hg i
    have b := h1 i (by omega)
    rw [List.getD_eq_getElem?_getD, List.getElem?_eq_getElem hi] at a b
    simp only [Option.getD_some] at a b
    simp only [inB, Bool.and_eq_true, decide_eq_true_eq]
    omega

set_option maxRecDepth 100000 in
set_option maxHeartbeats 2000000 in
theorem c_implCompW (A : Option Addr) (c : Nat) (xs : List Int) (n : Int) (w : World) (hr : RdI w A xs) (hl : xs.length ≤ 1048576) :
    Calls Try.prog 37 #[.slice A xs.length c, .int .i64 n] w (RetI w (compWL xs n) (compWB xs n)) := by
  have con := Lib.hid (c_implIsWindow A c xs w hr (by omega))
  cases hw : winB xs
  · have e1 : compWB xs n = false := by simp [compWB, hw]
    have e2 : compWL xs n = [] := by simp [compWL, e1]
    rw [e1, e2]
    rw [hw] at con
    clear hr hw e1 e2
    go_enter Try.func37, Try.ntmps37
    go_wp2_with (go_at_call 17; refine con.out.mono ?_; rintro e w1 ⟨rfl, hb1⟩)
    go_ret2
    exact ⟨none, 0, rfl, World.ownsRow_nil _ _ _ _, hb1⟩
  · rw [hw] at con
    have h8 := win_len hw
    have conN := Lib.hid (fun W => c_isNumber n W)
    cases hn : numB n
    · have e1 : compWB xs n = false := by unfold compWB; rw [hn, Bool.false_and, Bool.and_false]
      have e2 : compWL xs n = [] := by simp [compWL, e1]
      rw [e1, e2]
      rw [hn] at conN
      clear hr hw h8 e1 e2 hn
      go_enter Try.func37, Try.ntmps37
      go_wp2_with (first | (go_at_call 17; refine con.out.mono ?_; rintro e w1 ⟨rfl, hb1⟩) | (go_at_call 68; refine (conN.out _).mono ?_; rintro e w3 ⟨rfl, rfl⟩))
      go_ret2
      exact ⟨none, 0, rfl, World.ownsRow_nil _ _ _ _, hb1⟩
    · rw [hn] at conN
      have conM := Lib.hid (fun W (hb : Below w.heap.size w W) => c_max8 A c xs W (hr.below hb) h8)
      cases ha : decide (∀ x ∈ xs, inB n x = true)
      · have e1 : compWB xs n = false := by unfold compWB; rw [ha, Bool.and_false, Bool.and_false]
        have e2 : compWL xs n = [] := by simp [compWL, e1]
        rw [e1, e2]
        have conM2 := Lib.hid (fun W hb => (conM.out W hb).mono (R' := fun e w' => (∃ m : Int, e = .returned (.int .i64 m) ∧ n < m) ∧ Below W.heap.size W w') (fun e w' ⟨⟨m, h1, h2, h3⟩, h4⟩ => ⟨⟨m, h1, by
          have := comp_all (n := n) h8 (win_numD hw) h2 h3
          rw [ha] at this
          have := of_decide_eq_false this.symm
          omega⟩, h4⟩))
        rw [h8] at con ⊢
        clear hr hw h8 hl e1 e2 hn ha conM
        go_enter Try.func37, Try.ntmps37
        go_wp2_with (first | (go_at_call 17; refine con.out.mono ?_; rintro e w1 ⟨rfl, hb1⟩) | (go_at_call 68; refine (conN.out _).mono ?_; rintro e w3 ⟨rfl, rfl⟩) | (go_at_call 69; refine (conM2.out _ hb1).mono ?_; rintro e w4 ⟨⟨m, rfl, hm⟩, hb4⟩))
        go_ret2
        exact ⟨none, 0, rfl, World.ownsRow_nil _ _ _ _, bstep hb1 hb4⟩
      · have e1 : compWB xs n = true := by unfold compWB; rw [hw, hn, ha]; rfl
        have e2 : compWL xs n = compL xs n := by unfold compWL; rw [e1, if_pos rfl]
        rw [e1, e2]
        have conM2 := Lib.hid (fun W hb => (conM.out W hb).mono (R' := fun e w' => (∃ m : Int, e = .returned (.int .i64 m) ∧ m ≤ n) ∧ Below W.heap.size W w') (fun e w' ⟨⟨m, h1, h2, h3⟩, h4⟩ => ⟨⟨m, h1, by
          have := comp_all (n := n) h8 (win_numD hw) h2 h3
          rw [ha] at this
          exact of_decide_eq_true this.symm⟩, h4⟩))
        have Hbd := Lib.hid (win_numD hw)
        simp only [numB, Bool.and_eq_true, decide_eq_true_eq] at hn
        obtain ⟨bk, off, rfl, hbk, hc⟩ := hr.cellD h8 (by omega)
        have Hc := Lib.hid hc
        have hcl : (compL xs n).length = 8 := by rw [compL_len, h8]
        have Hget := Lib.hid (fun k (hk : k < (compL xs n).length) => (show (compL xs n)[k] = n - xs.getD k 0 from by
          have hk8 : k < xs.length := by rw [compL_len] at hk; exact hk
          simp [compL, hk8]))
        have Hst := Lib.hid (fun k (hk : k < (compL xs n).length) => copyI_step hk)
        have Hz := Lib.hid (copyI_zero (compL xs n))
        have Hall := Lib.hid (copyI_all (compL xs n))
        have HlenC := Lib.hid (fun k (hk : k ≤ (compL xs n).length) => copyI_length hk)
        have Hcl := Lib.hid hcl
        obtain ⟨i0, hi, hz0, hz1, hz2⟩ := info_parts Try.info_int
        rw [h8] at con ⊢
        clear hr hw h8 hl e1 e2 ha hc conM hcl
        generalize compL xs n = Y at *
        go_enter Try.func37, Try.ntmps37
        go_wp2_with (first | (go_at_call 17; refine con.out.mono ?_; rintro e w1 ⟨rfl, hb1⟩) | (go_at_call 68; refine (conN.out _).mono ?_; rintro e w3 ⟨rfl, rfl⟩) | (go_at_call 69; refine (conM2.out _ hb1).mono ?_; rintro e w4 ⟨⟨m, rfl, hm⟩, hb4⟩) | (refine wpList_make_full _ rfl _ _ _ rfl w4.heap.size 3 i0 _ 1 Try.underlying22 hi hz0 hz1 .i64 .i64 _ _ 8 rfl rfl rfl rfl (by rw [hz2]; omega) (by unfold maxLen; omega) (Nat.le_refl _) ?_; intro w5 hown5 hg5))
        have hz := Hz.out
        rw [Hcl.out] at hz
        rw [← hz] at hown5
        have hbw4 := bstep hb1 hb4
        have hb5 : Below w.heap.size w w5 := hbw4.trans (below_of_grown hg5 hbw4.size (by simp))
        have hz4 := hbw4.size
        clear hg5 hz0 hz1 hz2 hi hz con conN conM2 hb1 hb4
        have Hbw4 := Lib.hid hbw4
        clear hbw4
        go_loopw [28] (fun i wr => ∃ k : Nat, k ≤ 8 ∧ i = .int .i64 k ∧ wr.ownsRow w4.heap.size 3 1 (.slice (some ⟨w4.heap.size, 0, none⟩) 8 8) 8 (cellsI (copyI k Y)) ∧ Below w.heap.size w wr) (fun i _ => 8 - (intOf i).toNat)
        case atStart => exact ⟨0, by omega, rfl, hown5, hb5⟩
        case round =>
          clear hown5 hb5
          obtain ⟨k, hk, rfl, hown, hb⟩ := hrel
          by_cases hlt : k < 8
          · have g1 := (hb.cell (p := ⟨bk, _, none⟩) hbk).trans (Hc.out k hlt)
            have d1 := Hbd.out k
            have hkY : k < Y.length := by rw [Hcl.out]; exact hlt
            have hst := Hst.out k hkY
            rw [Hget.out k hkY] at hst
            have Hs := Lib.hid hst
            have hcl2 := HlenC.out k (by omega)
            have hcg : (cellsI (copyI k Y))[k]? = some (.int .i64 ((copyI k Y)[k]'(by rw [hcl2]; exact hkY))) := by simp [cellsI, hcl2, hkY]
            obtain ⟨q, x1⟩ : ∃ q : Int, wr.cell? ⟨w4.heap.size, k, none⟩ = some (.int .i64 q) := ⟨_, (hown.cellAt k (by omega)).trans hcg⟩
            have f1 := hown.frozenAt k
            have Hb := Lib.hid hb
            have Ho := Lib.hid hown
            have i0 : (0 : Int) ≤ (k : Int) := by omega
            have i1 : (k : Int) < 8 := by omega
            clear hst hb hown hcg hcl2
            generalize xs.getD k 0 = p at *
            clear hkY
            go_wp2
            go_roundw
            case rel =>
              refine ⟨k + 1, by omega, by go_num, ?_, Hb.out.setCell hz4 _⟩
              rw [← Hs.out]
              exact (Ho.out.stored _ _).1
            case measure => simp [intOf]; omega
          · obtain rfl : k = 8 := by omega
            have ha := Hall.out
            rw [Hcl.out] at ha
            rw [ha] at hown
            clear ha
            go_wp2
            go_ret2
            refine ⟨some ⟨w4.heap.size, 0, none⟩, 8, (by rw [Hcl.out]; rfl), ?_, hb⟩
            rw [Hcl.out]
            exact own_base hown hz4

end Go.Proofs.Ytjbdflkbclhonaa

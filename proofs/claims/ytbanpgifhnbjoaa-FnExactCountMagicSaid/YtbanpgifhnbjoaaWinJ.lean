/- The program's sums, sides and answers on windows. -/
import Derived.Test.YtbanpgifhnbjoaaWinI
import Derived.Test.YtbanpgifhnbjoaaWinU
namespace Go.Proofs.Ytbanpgifhnbjoaa
open Go.RowKit
set_option linter.unusedVariables false

set_option maxRecDepth 100000 in
set_option maxHeartbeats 1000000 in
theorem c_sides1 (g : Nat) (f : Nat → Int) (i j : Nat) (w : World) (hi : i < 4) (hj : j < 3) (hE : Eight w g f) :
    Calls Try.prog 60 #[.int .i64 i, .int .i64 j, .pointer (some ⟨g, 0, none⟩)] w fun e w' => e = .returned (.int .i64 (f ((2 * i + j) % 8))) ∧ Below w.heap.size w w' := by
  obtain ⟨r, hr⟩ : ∃ r : Nat, r = (2 * i + j) % 8 := ⟨_, rfl⟩
  have hrt : (2 * (i : Int) + (j : Int)).tmod 8 = (r : Int) := by rw [Int.tmod_eq_emod_of_nonneg (by omega)]; omega
  have cr := hE.1 r (by omega)
  rw [← hr]
  have i0 : (0 : Int) ≤ (r : Int) := by omega
  have i1 : (r : Int) < 8 := by omega
  clear hr hE
  generalize f r = v at *
  go_enter Try.func60, Try.ntmps60
  go_wp2
  go_ret
  exact ⟨rfl, Below.refl _ _⟩

set_option maxRecDepth 100000 in
set_option maxHeartbeats 4000000 in
theorem c_sumsW (g L C : Nat) (f : Nat → Nat → Int) (w : World) (hL : L ≤ 8) (hC : C ≤ 8) (hf : ∀ i j, 0 ≤ f i j ∧ f i j ≤ 9)
    (hF : ∀ W i j, Below w.heap.size w W → i < L → j < C → Calls Try.prog 60 #[.int .i64 (i : Nat), .int .i64 (j : Nat), .pointer (some ⟨g, 0, none⟩)] W fun e w' => e = .returned (.int .i64 (f i j)) ∧ Below W.heap.size W w') :
    Calls Try.prog 59 #[.int .i64 L, .int .i64 C, .func (.func 60) #[] #[.pointer (some ⟨g, 0, none⟩)]] w (RetN w (sumsL f L C)) := by
  obtain ⟨i0, hi, hz0, hz1, hz2⟩ := info_parts Try.info_int
  have HF := Lib.hid hF
  have Hbd := Lib.hid (fun i j => sumF_bd f i (fun j => hf i j) j)
  have Hf := Lib.hid hf
  have HR := Lib.hid (show sumsL f L C = totL f L C L 0 from (totL_all f L C).symm)
  have Hlen := Lib.hid (fun k j => totL_len f L C k j)
  clear hF hf
  go_enter Try.func59, Try.ntmps59
  go_wp2_with (refine wpList_make_full _ rfl _ _ _ rfl w.heap.size 3 i0 _ 1 Try.underlying39 hi hz0 hz1 .i64 .i64 _ _ L rfl rfl rfl rfl (by rw [hz2]; omega) (by unfold maxLen; omega) (Nat.le_refl _) ?_; intro w1 hown1 hg1)
  have hz : (madeCells (Value.int .i64 0).cells (L * 1)).toList = cellsI (totL f L C 0 0) := by
    have h := copyI_zero (List.replicate L 0)
    rw [List.length_replicate] at h
    rw [← h, totL_zero]
    simp [copyI]
  rw [hz] at hown1
  have hb1 : Below w.heap.size w w1 := below_of_grown hg1 (Nat.le_refl _) (by simp)
  clear hg1 hz0 hz1 hz2 hi hz
  go_loopw [14] (fun i wr => ∃ k : Nat, k ≤ L ∧ i = .int .i64 k ∧ wr.ownsRow w.heap.size 3 1 (.slice (some ⟨w.heap.size, 0, none⟩) L L) L (cellsI (totL f L C k 0)) ∧ Below w.heap.size w wr) (fun i _ => L - (intOf i).toNat)
  case atStart => exact ⟨0, Nat.zero_le _, rfl, hown1, hb1⟩
  case round =>
    clear hown1 hb1
    obtain ⟨k, hk, rfl, hown, hb⟩ := hrel
    by_cases hlt : k < L
    · obtain ⟨wo, rfl⟩ : ∃ wo : World, wo = wr := ⟨_, rfl⟩
      have i0 : (0 : Int) ≤ (k : Int) := by omega
      have i1 : (k : Int) < (L : Int) := by omega
      go_wp2
      go_loopw [18] (fun i wr => ∃ j : Nat, j ≤ C ∧ i = .int .i64 j ∧ wr.ownsRow w.heap.size 3 1 (.slice (some ⟨w.heap.size, 0, none⟩) L L) L (cellsI (totL f L C k j)) ∧ Below w.heap.size w wr) (fun i _ => C - (intOf i).toNat)
      case atStart => exact ⟨0, Nat.zero_le _, rfl, hown, hb⟩
      case round =>
        clear hown hb
        obtain ⟨j, hj, rfl, hown, hb⟩ := hrel
        by_cases hlj : j < C
        · have x1 := (hown.cellAt k (by omega)).trans (show (cellsI (totL f L C k j))[k]? = some (.int .i64 (sumF f k j)) from by rw [cellsI, List.getElem?_map, totL_get f hlt]; rfl)
          have f1 := hown.frozenAt k
          have hsz := (hown.lt w.heap.size rfl).2
          have hb9 := Hbd.out k j
          have hb8 := Hf.out k j
          have hst := totL_step f (C := C) (j := j) hlt
          have Hst := Lib.hid hst
          have Ho := Lib.hid hown
          have Hb := Lib.hid hb
          have conF := Lib.hid (fun W hb => HF.out W k j hb hlt hlj)
          have j9 : 9 * (j : Int) ≤ 72 := by omega
          clear hst hown hb HF
          generalize sumF f k j = s at *
          generalize f k j = v at *
          have iw : IntKind.i64.wrap (s + v) = s + v := IntWalk.i64_in _ (by omega)
          have j0 : (0 : Int) ≤ (j : Int) := by omega
          go_wp2_with fail
          first
            | (go_region_with ((go_at_call 60; refine (conF.out _ (by first | exact Hb.out.drew | exact Hb.out)).mono ?_; rintro e w2 ⟨rfl, hb2⟩; have x2 := keepc hb2 (show wr.drew.cell? ⟨w.heap.size, k, none⟩ = some (.int .i64 s) from x1); have f2 := (hb2.frozen (p := ⟨w.heap.size, k, none⟩) hsz).trans (show wr.drew.frozen? ⟨w.heap.size, k, none⟩ = false from f1))))
            | fail
          all_goals
            go_wp2
            go_roundw
            case rel =>
              refine ⟨j + 1, by omega, by go_num, ?_, (bstep Hb.out.drew hb2).setCell (Nat.le_refl _) _⟩
              rw [← Hst.out, ← cellsI_set]
              exact (own_keep (own_drew Ho.out) hb2).stored _ _ |>.1
            case measure => simp [intOf]; omega
        · obtain rfl : j = C := by omega
          have Ho := Lib.hid hown
          have Hb := Lib.hid hb
          clear hown hb
          go_wp2
          go_roundw
          case rel => exact ⟨k + 1, by omega, by go_num, by rw [← totL_next]; exact Ho.out, Hb.out⟩
          case measure => simp [intOf]; omega
    · obtain rfl : k = L := by omega
      go_wp2
      go_ret
      rw [HR.out]
      refine ⟨some ⟨w.heap.size, 0, none⟩, k, (by rw [Hlen.out]; rfl), ?_, hb⟩
      rw [Hlen.out]
      exact hown

theorem sums_sides {f : Nat → Int} {xs : List Int} (hf : ∀ i, f i = xs.getD i 0) : sumsL (fun i j => f ((2 * i + j) % 8)) 4 3 = sidesTo xs 4 := by
  unfold sumsL sidesTo
  refine List.map_congr_left fun i hi => ?_
  have hi4 := List.mem_range.1 hi
  simp only [sumF, sideV, hf]
  rw [show (2 * i + 0) % 8 = 2 * i from by omega, show (2 * i + 1) % 8 = 2 * i + 1 from by omega]
  omega

set_option maxRecDepth 100000 in
set_option maxHeartbeats 1000000 in
theorem c_winSides (f : Nat → Int) (w : World) (hf : ∀ i, 0 ≤ f i ∧ f i ≤ 9) : Calls Try.prog 40 #[.agg #[.int .i64 (f 0), .int .i64 (f 1), .int .i64 (f 2), .int .i64 (f 3), .int .i64 (f 4), .int .i64 (f 5), .int .i64 (f 6), .int .i64 (f 7)]] w (RetN w (sumsL (fun i j => f ((2 * i + j) % 8)) 4 3)) := by
  have hmf : ∀ (fn : Fn) (first cap : Array Value) (w : World), (Instr.makeFunc fn first cap).run Try.prog w = .ok (.func fn first cap) w := fun _ _ _ _ => rfl
  have hE := eight_box w 68 f
  have hb0 : Below w.heap.size w (w.alloc (.cells #[.int .i64 (f 0), .int .i64 (f 1), .int .i64 (f 2), .int .i64 (f 3), .int .i64 (f 4), .int .i64 (f 5), .int .i64 (f 6), .int .i64 (f 7)] 68)) := (Below.refl _ _).alloc (Nat.le_refl _) _
  have con := Lib.hid (c_sumsW w.heap.size 4 3 (fun i j => f ((2 * i + j) % 8)) (w.alloc (.cells #[.int .i64 (f 0), .int .i64 (f 1), .int .i64 (f 2), .int .i64 (f 3), .int .i64 (f 4), .int .i64 (f 5), .int .i64 (f 6), .int .i64 (f 7)] 68)) (by omega) (by omega) (fun i j => hf _) (fun W i j hb hi hj => c_sides1 w.heap.size f i j W hi hj (hE.keep hb)))
  clear hE
  go_enter Try.func40, Try.ntmps40
  go_wp2_with (go_at_call 59; refine con.out.mono ?_; rintro e w1 ⟨A1, c1, rfl, ho1, hb1⟩)
  go_ret
  exact ⟨A1, c1, rfl, own_base ho1 hb0.size, bstep hb0 hb1⟩

set_option maxRecDepth 100000 in
set_option maxHeartbeats 1000000 in
theorem c_allSame (A : Option Addr) (c : Nat) (xs : List Int) (w : World) (hr : RdI w A xs) (hl : xs.length ≤ 1048576) :
    Calls Try.prog 77 #[.slice A xs.length c] w fun e w' => e = .returned (.bool (sameL xs)) ∧ Below w.heap.size w w' := by
  go_enter Try.func77, Try.ntmps77
  go_wp2
  go_loopw [7] (fun i wr => ∃ k : Nat, k ≤ xs.length ∧ i = .int .i64 k ∧ (∀ j, j < k → xs.getD j 0 = xs.getD 0 0) ∧ Below w.heap.size w wr) (fun i _ => xs.length - (intOf i).toNat)
  case atStart => exact ⟨0, Nat.zero_le _, rfl, by omega, Below.refl _ _⟩
  case round =>
    obtain ⟨k, hk, rfl, hs, hb⟩ := hrel
    by_cases hlt : k < xs.length
    · obtain ⟨bk, off, rfl, hbk, hc⟩ := hr.cellD (n := xs.length) rfl (by omega)
      have g1 := (hb.cell (p := ⟨bk, _, none⟩) hbk).trans (hc k hlt)
      have g2 := (hb.cell (p := ⟨bk, _, none⟩) hbk).trans (hc 0 (by omega))
      rw [Nat.add_zero] at g2
      have Hb := Lib.hid hb
      have i0 : (0 : Int) < (xs.length : Int) := by omega
      by_cases he : xs.getD k 0 = xs.getD 0 0
      · have q0 : (xs.getD k 0 != xs.getD 0 0) = false := bne_eq_false_iff_eq.2 he
        have Hs2 := Lib.hid (show ∀ j, j < k + 1 → xs.getD j 0 = xs.getD 0 0 from fun j hj => by
          rcases Nat.lt_succ_iff_lt_or_eq.1 hj with h | rfl
          · exact hs j h
          · exact he)
        clear hc hr hs hb he
        generalize xs.getD k 0 = p at *
        generalize xs.getD 0 0 = q at *
        go_wp2
        go_roundw
        case rel => exact ⟨k + 1, by omega, by go_num, Hs2.out, Hb.out⟩
        case measure => simp [intOf]; omega
      · have q0 : (xs.getD k 0 != xs.getD 0 0) = true := bne_iff_ne.2 he
        have Hno := Lib.hid (sameL_no hlt he)
        clear hc hr hs hb he
        generalize xs.getD k 0 = p at *
        generalize xs.getD 0 0 = q at *
        go_wp2
        go_ret
        exact ⟨ret_b Hno.out.symm, Hb.out⟩
    · have Hy := Lib.hid (sameL_yes (xs := xs) (fun j hj => hs j (by omega)))
      clear hs hr
      go_wp2
      go_ret
      exact ⟨ret_b Hy.out.symm, hb⟩

set_option maxRecDepth 100000 in
set_option maxHeartbeats 1000000 in
theorem c_winFair (f : Nat → Int) (xs : List Int) (w : World) (hf : ∀ i, 0 ≤ f i ∧ f i ≤ 9) (hx : ∀ i, f i = xs.getD i 0) : Calls Try.prog 56 #[.agg #[.int .i64 (f 0), .int .i64 (f 1), .int .i64 (f 2), .int .i64 (f 3), .int .i64 (f 4), .int .i64 (f 5), .int .i64 (f 6), .int .i64 (f 7)]] w fun e w' => e = .returned (.bool (fairB xs)) ∧ Below w.heap.size w w' := by
  have hb0 : Below w.heap.size w (w.alloc (.cells #[.int .i64 (f 0), .int .i64 (f 1), .int .i64 (f 2), .int .i64 (f 3), .int .i64 (f 4), .int .i64 (f 5), .int .i64 (f 6), .int .i64 (f 7)] 68)) := (Below.refl _ _).alloc (Nat.le_refl _) _
  have e1 : fairB xs = sameL (sumsL (fun i j => f ((2 * i + j) % 8)) 4 3) := by rw [sums_sides hx]; rfl
  rw [e1]
  have hlen : (sumsL (fun i j => f ((2 * i + j) % 8)) 4 3).length ≤ 1048576 := by rw [sums_sides hx, sidesTo_len]; decide
  have con := Lib.hid (fun W => c_winSides f W hf)
  generalize sumsL (fun i j => f ((2 * i + j) % 8)) 4 3 = S at *
  have conA := Lib.hid (fun W A c base (ho : W.ownsRow base 3 1 (.slice A S.length c) S.length (cellsI S)) => c_allSame A c S W (RdI.of_own ho) hlen)
  clear hf hx e1
  go_enter Try.func56, Try.ntmps56
  go_wp2_with (first | (go_at_call 40; refine (con.out _).mono ?_; rintro e w1 ⟨A1, c1, rfl, ho1, hb1⟩) | (go_at_call 77; refine (conA.out _ _ _ _ ho1).mono ?_; rintro e w2 ⟨rfl, hb2⟩))
  go_ret
  exact ⟨rfl, bstep (bstep hb0 hb1) hb2⟩

end Go.Proofs.Ytbanpgifhnbjoaa

/- The program's sums of rows and columns, and its answers on blocks. -/
import Derived.Test.YtbanpgifhnbjoaaBlkI
import Derived.Test.YtbanpgifhnbjoaaRegS
namespace Go.Proofs.Ytbanpgifhnbjoaa
open Go.RowKit
set_option linter.unusedVariables false

set_option maxRecDepth 100000 in
set_option maxHeartbeats 1000000 in
theorem c_blkHeight (A : Option Addr) (n c W H : Nat) (w : World) (hW : 0 < W) (hn : n = H * W) (hn2 : n ≤ 1048576) :
    Calls Try.prog 52 #[.agg #[.slice A n c, .int .i64 W]] w fun e w' => e = .returned (.int .i64 H) ∧ Below w.heap.size w w' := by
  have q0 : ((W : Int) == 0) = false := by simp; omega
  have q1 : ¬ (W : Int) = 0 := by omega
  have n0 : (0 : Int) ≤ (n : Int) := by omega
  have e0 : n / W = H := by rw [hn]; exact Nat.mul_div_cancel H hW
  have hd : (n : Int).tdiv (W : Int) = (H : Int) := by
    rw [Int.tdiv_eq_ediv_of_nonneg n0, ← e0]; rfl
  have hd2 : (n : Int) / (W : Int) = (H : Int) := by rw [← e0]; rfl
  have hle : H ≤ n := by rw [← e0]; exact Nat.div_le_self _ _
  have iw : IntKind.i64.wrap (H : Int) = (H : Int) := IntWalk.i64_in _ (by omega)
  clear hn e0
  go_enter Try.func52, Try.ntmps52
  go_wp2
  go_ret
  exact ⟨rfl, by go_grown⟩

set_option maxRecDepth 100000 in
set_option maxHeartbeats 1000000 in
theorem c_blkRow (b off n c W i p : Nat) (w : World) (hW : 0 < W) (hp : p = i * W) (hn : p + W ≤ n) (hc : n ≤ c) (hn3 : n ≤ 1048576) (hn2 : c ≤ 9223372036854775807) (hi : i ≤ 1048576) :
    Calls Try.prog 53 #[.agg #[.slice (some ⟨b, off, none⟩) n c, .int .i64 W], .int .i64 i] w fun e w' => e = .returned (.slice (some ⟨b, off + p, none⟩) W W) ∧ Below w.heap.size w w' := by
  have e1 : (i : Int) * (W : Int) = (p : Int) := by rw [hp]; rfl
  have e2 : ((i : Int) + 1) * (W : Int) = (p : Int) + (W : Int) := by rw [Int.add_mul, e1, Int.one_mul]
  have iw0 : IntKind.i64.wrap (i : Int) = (i : Int) := IntWalk.i64_in _ (by omega)
  have iw1 : IntKind.i64.wrap ((i : Int) + 1) = (i : Int) + 1 := IntWalk.i64_in _ (by omega)
  have iw2 : IntKind.i64.wrap (p : Int) = (p : Int) := IntWalk.i64_in _ (by omega)
  have iw3 : IntKind.i64.wrap ((p : Int) + (W : Int)) = (p : Int) + (W : Int) := IntWalk.i64_in _ (by omega)
  have i0 : (0 : Int) ≤ (p : Int) := by omega
  have i1 : (p : Int) ≤ (p : Int) + (W : Int) := by omega
  have i2 : (p : Int) + (W : Int) ≤ (c : Int) := by omega
  have n1 : ¬ W = 0 := by omega
  have n2 : ¬ (W : Int) = 0 := by omega
  clear hp
  go_enter Try.func53, Try.ntmps53
  go_wp2_with fail
  go_quiet (fail)
  go_wp2
  go_ret
  refine ⟨?_, by first | exact (by go_grown : Below w.heap.size w _) | exact (belowN (by go_grown) _)⟩
  show Ending.returned (.slice (some ⟨b, off + p, none⟩) (p + W - p) (p + W - p)) = _
  rw [Nat.add_sub_cancel_left]

set_option maxRecDepth 100000 in
set_option maxHeartbeats 1000000 in
theorem c_rowClo (g b off n c W : Nat) (F : List Int) (i j : Nat) (w : World) (h0 : w.cell? ⟨g, 0, none⟩ = some (.slice (some ⟨b, off, none⟩) n c)) (h1 : w.cell? ⟨g, 1, none⟩ = some (.int .i64 W)) (hd : ∀ k, k < n → w.cell? ⟨b, off + k, none⟩ = some (.int .i64 (F.getD k 0)))
    (hW : 0 < W) (hn : i * W + W ≤ n) (hc : n ≤ c) (hn3 : n ≤ 1048576) (hc2 : c ≤ 9223372036854775807) (hi : i ≤ 1048576) (hj : j < W) :
    Calls Try.prog 101 #[.int .i64 i, .int .i64 j, .pointer (some ⟨g, 0, none⟩)] w fun e w' => e = .returned (.int .i64 (F.getD (i * W + j) 0)) ∧ Below w.heap.size w w' := by
  obtain ⟨p, hp⟩ : ∃ p, p = i * W := ⟨_, rfl⟩
  rw [← hp] at hn ⊢
  have x0 := hd (p + j) (by omega)
  rw [← Nat.add_assoc] at x0
  have con := Lib.hid (fun w' => c_blkRow b off n c W i p w' hW hp hn hc hn3 hc2 hi)
  have i0 : (0 : Int) ≤ (j : Int) := by omega
  have i1 : (j : Int) < (W : Int) := by omega
  generalize F.getD (p + j) 0 = v at *
  clear hd hp
  go_enter Try.func101, Try.ntmps101
  go_wp2_with (go_at_call 53; refine (con.out _).mono ?_; rintro e w1 ⟨rfl, hb1⟩; have y0 := keepc hb1 x0)
  go_ret
  exact ⟨rfl, hb1⟩

set_option maxRecDepth 100000 in
set_option maxHeartbeats 1000000 in
theorem c_colClo (g b off n c W : Nat) (F : List Int) (i j : Nat) (w : World) (h0 : w.cell? ⟨g, 0, none⟩ = some (.slice (some ⟨b, off, none⟩) n c)) (h1 : w.cell? ⟨g, 1, none⟩ = some (.int .i64 W)) (hd : ∀ k, k < n → w.cell? ⟨b, off + k, none⟩ = some (.int .i64 (F.getD k 0)))
    (hW : 0 < W) (hn : j * W + W ≤ n) (hc : n ≤ c) (hn3 : n ≤ 1048576) (hc2 : c ≤ 9223372036854775807) (hi : j ≤ 1048576) (hj : i < W) :
    Calls Try.prog 102 #[.int .i64 i, .int .i64 j, .pointer (some ⟨g, 0, none⟩)] w fun e w' => e = .returned (.int .i64 (F.getD (j * W + i) 0)) ∧ Below w.heap.size w w' := by
  obtain ⟨p, hp⟩ : ∃ p, p = j * W := ⟨_, rfl⟩
  rw [← hp] at hn ⊢
  have x0 := hd (p + i) (by omega)
  rw [← Nat.add_assoc] at x0
  have con := Lib.hid (fun w' => c_blkRow b off n c W j p w' hW hp hn hc hn3 hc2 hi)
  have i0 : (0 : Int) ≤ (i : Int) := by omega
  have i1 : (i : Int) < (W : Int) := by omega
  generalize F.getD (p + i) 0 = v at *
  clear hd hp
  go_enter Try.func102, Try.ntmps102
  go_wp2_with (go_at_call 53; refine (con.out _).mono ?_; rintro e w1 ⟨rfl, hb1⟩; have y0 := keepc hb1 x0)
  go_ret
  exact ⟨rfl, hb1⟩

set_option maxRecDepth 100000 in
set_option maxHeartbeats 4000000 in
theorem c_sumsR (g L C : Nat) (f : Nat → Nat → Int) (w : World) (hL : L ≤ 8) (hC : C ≤ 8) (hf : ∀ i j, 0 ≤ f i j ∧ f i j ≤ 9)
    (hF : ∀ W i j, Below w.heap.size w W → i < L → j < C → Calls Try.prog 101 #[.int .i64 (i : Nat), .int .i64 (j : Nat), .pointer (some ⟨g, 0, none⟩)] W fun e w' => e = .returned (.int .i64 (f i j)) ∧ Below W.heap.size W w') :
    Calls Try.prog 59 #[.int .i64 L, .int .i64 C, .func (.func 101) #[] #[.pointer (some ⟨g, 0, none⟩)]] w (RetN w (sumsL f L C)) := by
  obtain ⟨i0, hi, hz0, hz1, hz2⟩ := info_parts Try.info_int
  have HF := Lib.hid hF
  have Hbd := Lib.hid (fun i j => sumF_bd f i (fun j => hf i j) j)
  have Hf := Lib.hid hf
  have HR := Lib.hid (show sumsL f L C = totL f L C L 0 from (totL_all f L C).symm)
  have Hlen := Lib.hid (fun k j => totL_len f L C k j)
  clear hF hf
  go_enter Try.func59, Try.ntmps59
  go_wp2_with (refine wpList_make_full _ rfl _ _ _ rfl w.heap.size 3 i0 _ 1 Try.underlying39 hi hz0 hz1 .i64 .i64 _ _ L rfl rfl rfl rfl (by rw [hz2]; omega) (by unfold maxLen; omega) (Nat.le_refl _) ?_; intro w1 hown1 hg1)
  have hz : (madeCells (Value.int .i64 0).cells (L * 1)).toList = cellsI (totL f L C 0 0) := by
    have h := copyI_zero (List.replicate L 0)
    rw [List.length_replicate] at h
    rw [← h, totL_zero]
    simp [copyI]
  rw [hz] at hown1
  have hb1 : Below w.heap.size w w1 := below_of_grown hg1 (Nat.le_refl _) (by simp)
  clear hg1 hz0 hz1 hz2 hi hz
  go_loopw [14] (fun i wr => ∃ k : Nat, k ≤ L ∧ i = .int .i64 k ∧ wr.ownsRow w.heap.size 3 1 (.slice (some ⟨w.heap.size, 0, none⟩) L L) L (cellsI (totL f L C k 0)) ∧ Below w.heap.size w wr) (fun i _ => L - (intOf i).toNat)
  case atStart => exact ⟨0, Nat.zero_le _, rfl, hown1, hb1⟩
  case round =>
    clear hown1 hb1
    obtain ⟨k, hk, rfl, hown, hb⟩ := hrel
    by_cases hlt : k < L
    · obtain ⟨wo, rfl⟩ : ∃ wo : World, wo = wr := ⟨_, rfl⟩
      have i0 : (0 : Int) ≤ (k : Int) := by omega
      have i1 : (k : Int) < (L : Int) := by omega
      go_wp2
      go_loopw [18] (fun i wr => ∃ j : Nat, j ≤ C ∧ i = .int .i64 j ∧ wr.ownsRow w.heap.size 3 1 (.slice (some ⟨w.heap.size, 0, none⟩) L L) L (cellsI (totL f L C k j)) ∧ Below w.heap.size w wr) (fun i _ => C - (intOf i).toNat)
      case atStart => exact ⟨0, Nat.zero_le _, rfl, hown, hb⟩
      case round =>
        clear hown hb
        obtain ⟨j, hj, rfl, hown, hb⟩ := hrel
        by_cases hlj : j < C
        · have x1 := (hown.cellAt k (by omega)).trans (show (cellsI (totL f L C k j))[k]? = some (.int .i64 (sumF f k j)) from by rw [cellsI, List.getElem?_map, totL_get f hlt]; rfl)
          have f1 := hown.frozenAt k
          have hsz := (hown.lt w.heap.size rfl).2
          have hb9 := Hbd.out k j
          have hb8 := Hf.out k j
          have hst := totL_step f (C := C) (j := j) hlt
          have Hst := Lib.hid hst
          have Ho := Lib.hid hown
          have Hb := Lib.hid hb
          have conF := Lib.hid (fun W hb => HF.out W k j hb hlt hlj)
          have j9 : 9 * (j : Int) ≤ 72 := by omega
          clear hst hown hb HF
          generalize sumF f k j = s at *
          generalize f k j = v at *
          have iw : IntKind.i64.wrap (s + v) = s + v := IntWalk.i64_in _ (by omega)
          have j0 : (0 : Int) ≤ (j : Int) := by omega
          go_wp2_with fail
          first
            | (go_region_with ((go_at_call 101; refine (conF.out _ (by first | exact Hb.out.drew | exact Hb.out)).mono ?_; rintro e w2 ⟨rfl, hb2⟩; have x2 := keepc hb2 (show wr.drew.cell? ⟨w.heap.size, k, none⟩ = some (.int .i64 s) from x1); have f2 := (hb2.frozen (p := ⟨w.heap.size, k, none⟩) hsz).trans (show wr.drew.frozen? ⟨w.heap.size, k, none⟩ = false from f1))))
            | fail
          all_goals
            go_wp2
            go_roundw
            case rel =>
              refine ⟨j + 1, by omega, by go_num, ?_, (bstep Hb.out.drew hb2).setCell (Nat.le_refl _) _⟩
              rw [← Hst.out, ← cellsI_set]
              exact (own_keep (own_drew Ho.out) hb2).stored _ _ |>.1
            case measure => simp [intOf]; omega
        · obtain rfl : j = C := by omega
          have Ho := Lib.hid hown
          have Hb := Lib.hid hb
          clear hown hb
          go_wp2
          go_roundw
          case rel => exact ⟨k + 1, by omega, by go_num, by rw [← totL_next]; exact Ho.out, Hb.out⟩
          case measure => simp [intOf]; omega
    · obtain rfl : k = L := by omega
      go_wp2
      go_ret
      rw [HR.out]
      refine ⟨some ⟨w.heap.size, 0, none⟩, k, (by rw [Hlen.out]; rfl), ?_, hb⟩
      rw [Hlen.out]
      exact hown

set_option maxRecDepth 100000 in
set_option maxHeartbeats 4000000 in
theorem c_sumsC (g L C : Nat) (f : Nat → Nat → Int) (w : World) (hL : L ≤ 8) (hC : C ≤ 8) (hf : ∀ i j, 0 ≤ f i j ∧ f i j ≤ 9)
    (hF : ∀ W i j, Below w.heap.size w W → i < L → j < C → Calls Try.prog 102 #[.int .i64 (i : Nat), .int .i64 (j : Nat), .pointer (some ⟨g, 0, none⟩)] W fun e w' => e = .returned (.int .i64 (f i j)) ∧ Below W.heap.size W w') :
    Calls Try.prog 59 #[.int .i64 L, .int .i64 C, .func (.func 102) #[] #[.pointer (some ⟨g, 0, none⟩)]] w (RetN w (sumsL f L C)) := by
  obtain ⟨i0, hi, hz0, hz1, hz2⟩ := info_parts Try.info_int
  have HF := Lib.hid hF
  have Hbd := Lib.hid (fun i j => sumF_bd f i (fun j => hf i j) j)
  have Hf := Lib.hid hf
  have HR := Lib.hid (show sumsL f L C = totL f L C L 0 from (totL_all f L C).symm)
  have Hlen := Lib.hid (fun k j => totL_len f L C k j)
  clear hF hf
  go_enter Try.func59, Try.ntmps59
  go_wp2_with (refine wpList_make_full _ rfl _ _ _ rfl w.heap.size 3 i0 _ 1 Try.underlying39 hi hz0 hz1 .i64 .i64 _ _ L rfl rfl rfl rfl (by rw [hz2]; omega) (by unfold maxLen; omega) (Nat.le_refl _) ?_; intro w1 hown1 hg1)
  have hz : (madeCells (Value.int .i64 0).cells (L * 1)).toList = cellsI (totL f L C 0 0) := by
    have h := copyI_zero (List.replicate L 0)
    rw [List.length_replicate] at h
    rw [← h, totL_zero]
    simp [copyI]
  rw [hz] at hown1
  have hb1 : Below w.heap.size w w1 := below_of_grown hg1 (Nat.le_refl _) (by simp)
  clear hg1 hz0 hz1 hz2 hi hz
  go_loopw [14] (fun i wr => ∃ k : Nat, k ≤ L ∧ i = .int .i64 k ∧ wr.ownsRow w.heap.size 3 1 (.slice (some ⟨w.heap.size, 0, none⟩) L L) L (cellsI (totL f L C k 0)) ∧ Below w.heap.size w wr) (fun i _ => L - (intOf i).toNat)
  case atStart => exact ⟨0, Nat.zero_le _, rfl, hown1, hb1⟩
  case round =>
    clear hown1 hb1
    obtain ⟨k, hk, rfl, hown, hb⟩ := hrel
    by_cases hlt : k < L
    · obtain ⟨wo, rfl⟩ : ∃ wo : World, wo = wr := ⟨_, rfl⟩
      have i0 : (0 : Int) ≤ (k : Int) := by omega
      have i1 : (k : Int) < (L : Int) := by omega
      go_wp2
      go_loopw [18] (fun i wr => ∃ j : Nat, j ≤ C ∧ i = .int .i64 j ∧ wr.ownsRow w.heap.size 3 1 (.slice (some ⟨w.heap.size, 0, none⟩) L L) L (cellsI (totL f L C k j)) ∧ Below w.heap.size w wr) (fun i _ => C - (intOf i).toNat)
      case atStart => exact ⟨0, Nat.zero_le _, rfl, hown, hb⟩
      case round =>
        clear hown hb
        obtain ⟨j, hj, rfl, hown, hb⟩ := hrel
        by_cases hlj : j < C
        · have x1 := (hown.cellAt k (by omega)).trans (show (cellsI (totL f L C k j))[k]? = some (.int .i64 (sumF f k j)) from by rw [cellsI, List.getElem?_map, totL_get f hlt]; rfl)
          have f1 := hown.frozenAt k
          have hsz := (hown.lt w.heap.size rfl).2
          have hb9 := Hbd.out k j
          have hb8 := Hf.out k j
          have hst := totL_step f (C := C) (j := j) hlt
          have Hst := Lib.hid hst
          have Ho := Lib.hid hown
          have Hb := Lib.hid hb
          have conF := Lib.hid (fun W hb => HF.out W k j hb hlt hlj)
          have j9 : 9 * (j : Int) ≤ 72 := by omega
          clear hst hown hb HF
          generalize sumF f k j = s at *
          generalize f k j = v at *
          have iw : IntKind.i64.wrap (s + v) = s + v := IntWalk.i64_in _ (by omega)
          have j0 : (0 : Int) ≤ (j : Int) := by omega
          go_wp2_with fail
          first
            | (go_region_with ((go_at_call 102; refine (conF.out _ (by first | exact Hb.out.drew | exact Hb.out)).mono ?_; rintro e w2 ⟨rfl, hb2⟩; have x2 := keepc hb2 (show wr.drew.cell? ⟨w.heap.size, k, none⟩ = some (.int .i64 s) from x1); have f2 := (hb2.frozen (p := ⟨w.heap.size, k, none⟩) hsz).trans (show wr.drew.frozen? ⟨w.heap.size, k, none⟩ = false from f1))))
            | fail
          all_goals
            go_wp2
            go_roundw
            case rel =>
              refine ⟨j + 1, by omega, by go_num, ?_, (bstep Hb.out.drew hb2).setCell (Nat.le_refl _) _⟩
              rw [← Hst.out, ← cellsI_set]
              exact (own_keep (own_drew Ho.out) hb2).stored _ _ |>.1
            case measure => simp [intOf]; omega
        · obtain rfl : j = C := by omega
          have Ho := Lib.hid hown
          have Hb := Lib.hid hb
          clear hown hb
          go_wp2
          go_roundw
          case rel => exact ⟨k + 1, by omega, by go_num, by rw [← totL_next]; exact Ho.out, Hb.out⟩
          case measure => simp [intOf]; omega
    · obtain rfl : k = L := by omega
      go_wp2
      go_ret
      rw [HR.out]
      refine ⟨some ⟨w.heap.size, 0, none⟩, k, (by rw [Hlen.out]; rfl), ?_, hb⟩
      rw [Hlen.out]
      exact hown

set_option maxRecDepth 100000 in
set_option maxHeartbeats 4000000 in
theorem c_blkRowSums (A : Option Addr) (n c W H : Nat) (F : List Int) (w : World) (hr : RdI w A F) (hFn : F.length = n) (hn : n = H * W) (hW : 0 < W) (hW4 : W ≤ 4) (hH : 0 < H) (hH3 : H ≤ 3) (hc : n ≤ c) (hc2 : c ≤ 9223372036854775807) (hbd : ∀ k, 0 ≤ F.getD k 0 ∧ F.getD k 0 ≤ 9) :
    Calls Try.prog 78 #[.agg #[.slice A n c, .int .i64 W]] w (RetN w (sumsL (fun i j => F.getD (i * W + j) 0) H W)) := by
  have hmf : ∀ (fn : Fn) (first cap : Array Value) (w : World), (Instr.makeFunc fn first cap).run Try.prog w = .ok (.func fn first cap) w := fun _ _ _ _ => rfl
  have hn12 : n ≤ 12 := by
    rw [hn]
    have : H * W ≤ 3 * 4 := Nat.mul_le_mul hH3 hW4
    omega
  have hn0 : 0 < n := by rw [hn]; exact Nat.mul_pos hH hW
  obtain ⟨b, off, rfl, hbk, hd⟩ := hr.cellD hFn hn0
  have hb0 : Below w.heap.size w (w.alloc (.cells #[.slice (some ⟨b, off, none⟩) n c, .int .i64 W] 59)) := (Below.refl _ _).alloc (Nat.le_refl _) _
  have x0 : (w.alloc (.cells #[.slice (some ⟨b, off, none⟩) n c, .int .i64 W] 59)).cell? ⟨w.heap.size, 0, none⟩ = some (.slice (some ⟨b, off, none⟩) n c) := by simp
  have x1 : (w.alloc (.cells #[.slice (some ⟨b, off, none⟩) n c, .int .i64 W] 59)).cell? ⟨w.heap.size, 1, none⟩ = some (.int .i64 W) := by simp
  have hd1 : ∀ k, k < n → (w.alloc (.cells #[.slice (some ⟨b, off, none⟩) n c, .int .i64 W] 59)).cell? ⟨b, off + k, none⟩ = some (.int .i64 (F.getD k 0)) := fun k hk => keepc hb0 (hd k hk)
  obtain ⟨v1, hv1⟩ : ∃ v1, v1 = w.alloc (.cells #[.slice (some ⟨b, off, none⟩) n c, .int .i64 W] 59) := ⟨_, rfl⟩
  rw [← hv1] at hb0 x0 x1 hd1
  have conH := Lib.hid (fun w' => c_blkHeight (some ⟨b, off, none⟩) n c W H w' hW hn (by omega))
  have conS := Lib.hid (fun W0 (hb : Below v1.heap.size v1 W0) => c_sumsR w.heap.size H W (fun i j => F.getD (i * W + j) 0) W0 (by omega) (by omega) (fun i j => hbd _) (fun W' i j hb' hi hj => c_rowClo w.heap.size b off n c W F i j W' (keepc (bstep hb hb') x0) (keepc (bstep hb hb') x1) (fun k hk => keepc (bstep hb hb') (hd1 k hk)) hW (by
      have h1 : (i + 1) * W ≤ H * W := Nat.mul_le_mul_right W (by omega)
      rw [Nat.add_mul, Nat.one_mul] at h1
      omega) hc (by omega) hc2 (by omega) (by omega)))
  have Hb0 := Lib.hid hb0
  generalize hS : sumsL (fun i j => F.getD (i * W + j) 0) H W = S at *
  clear hr hFn hn hd hd1 hbd hb0 hS
  go_enter Try.func78, Try.ntmps78
  go_wp2_with fail
  rw [← hv1]
  clear hv1
  refine wp_region_held_drew (S := fun w' => w'.cell? ⟨w.heap.size, 0, none⟩ = some (.slice (some ⟨b, off, none⟩) n c) ∧ w'.cell? ⟨w.heap.size, 1, none⟩ = some (.int .i64 W)) (by kernel_rfl) ⟨g1d _ x0, g1d _ x1⟩ (fun hH0 => ?_)
  refine reg_take 0 rfl (by kernel_rfl) (by kernel_rfl) (by kernel_rfl) (fun _ _ _ h => h) (by rfl) (fun w hSw => by (try dsimp only at hSw); first | (go_simp; done) | (go_simp; with_reducible rfl)) (by assumption) ?_
  try simp only [Act.put, List.setIfInBounds_toArray, List.set_cons_zero, List.set_cons_succ, List.getElem_toArray, List.getElem_cons_zero]
  refine reg_take 2 rfl (by kernel_rfl) (by kernel_rfl) (by kernel_rfl) (fun _ _ _ h => h) (by rfl) (fun w _ => by first | (go_simp; done) | (go_simp; with_reducible rfl)) (by assumption) ?_
  try simp only [Act.put, List.setIfInBounds_toArray, List.set_cons_zero, List.set_cons_succ, List.getElem_toArray, List.getElem_cons_zero, List.getElem_cons_succ]
  refine reg_take 3 rfl (by kernel_rfl) (by kernel_rfl) (by kernel_rfl) (fun _ _ _ h => h) (by rfl) (fun w hSw => by (try dsimp only at hSw); first | (go_simp; done) | (go_simp; with_reducible rfl)) (by assumption) ?_
  try simp only [Act.put, List.setIfInBounds_toArray, List.set_cons_zero, List.set_cons_succ, List.getElem_toArray, List.getElem_cons_zero, List.getElem_cons_succ]
  refine reg_take 4 rfl (by kernel_rfl) (by kernel_rfl) (by kernel_rfl) (fun _ _ _ h => h) (by rfl) (fun w _ => by first | (go_simp; done) | (go_simp; with_reducible rfl)) (by assumption) ?_
  try simp only [Act.put, List.setIfInBounds_toArray, List.set_cons_zero, List.set_cons_succ, List.getElem_toArray, List.getElem_cons_zero, List.getElem_cons_succ]
  refine wpAnyH_ready (rs := [1]) (by kernel_rfl) (by simp) ?_
  refine AllReadyH.cons (i := 1) rfl (fun K hK => ?_) AllReadyH.nil
  go_simp
  go_at_call 52
  refine (conH.out _).mono ?_
  rintro e w2 ⟨rfl, hb2⟩
  have y0 := keepc hb2 (g1d _ x0)
  have y1 := keepc hb2 (g1d _ x1)
  have hb02 := bstep (Below.refl _ v1).drew hb2
  refine hK.out _ _ ⟨y0, y1⟩ (fun hH1 => ?_)
  clear hK K
  try simp only [Act.put, List.setIfInBounds_toArray, List.set_cons_zero, List.set_cons_succ, List.getElem_toArray, List.getElem_cons_zero, List.getElem_cons_succ]
  refine wpAnyH_ready (rs := [5]) (by kernel_rfl) (by simp) ?_
  refine AllReadyH.cons (i := 5) rfl (fun K hK => ?_) AllReadyH.nil
  go_simp
  go_at_call 59
  refine (conS.out _ hb02).mono ?_
  rintro e w3 ⟨A3, c3, rfl, ho3, hb3⟩
  have z0 := keepc hb3 y0
  have z1 := keepc hb3 y1
  refine hK.out _ _ ⟨z0, z1⟩ (fun hH5 => ?_)
  clear hK K
  try simp only [Act.put, List.setIfInBounds_toArray, List.set_cons_zero, List.set_cons_succ, List.getElem_toArray, List.getElem_cons_zero, List.getElem_cons_succ]
  refine reg_take 6 rfl (by kernel_rfl) (by kernel_rfl) (by kernel_rfl) (fun _ _ _ h => h) (by rfl) (fun w _ => by first | (go_simp; done) | (go_simp; with_reducible rfl)) (by assumption) ?_
  try simp only [Act.put, List.setIfInBounds_toArray, List.set_cons_zero, List.set_cons_succ, List.getElem_toArray, List.getElem_cons_zero, List.getElem_cons_succ]
  refine wpAnyH_done (by kernel_rfl) ?_ _
  go_wp2
  go_ret
  exact ⟨A3, c3, rfl, own_base ho3 (bstep Hb0.out hb02).size, bstep (bstep Hb0.out hb02) hb3⟩

set_option maxRecDepth 100000 in
set_option maxHeartbeats 4000000 in
theorem c_blkColSums (A : Option Addr) (n c W H : Nat) (F : List Int) (w : World) (hr : RdI w A F) (hFn : F.length = n) (hn : n = H * W) (hW : 0 < W) (hW4 : W ≤ 4) (hH : 0 < H) (hH3 : H ≤ 3) (hc : n ≤ c) (hc2 : c ≤ 9223372036854775807) (hbd : ∀ k, 0 ≤ F.getD k 0 ∧ F.getD k 0 ≤ 9) :
    Calls Try.prog 79 #[.agg #[.slice A n c, .int .i64 W]] w (RetN w (sumsL (fun i j => F.getD (j * W + i) 0) W H)) := by
  have hmf : ∀ (fn : Fn) (first cap : Array Value) (w : World), (Instr.makeFunc fn first cap).run Try.prog w = .ok (.func fn first cap) w := fun _ _ _ _ => rfl
  have hn12 : n ≤ 12 := by
    rw [hn]
    have : H * W ≤ 3 * 4 := Nat.mul_le_mul hH3 hW4
    omega
  have hn0 : 0 < n := by rw [hn]; exact Nat.mul_pos hH hW
  obtain ⟨b, off, rfl, hbk, hd⟩ := hr.cellD hFn hn0
  have hb0 : Below w.heap.size w (w.alloc (.cells #[.slice (some ⟨b, off, none⟩) n c, .int .i64 W] 59)) := (Below.refl _ _).alloc (Nat.le_refl _) _
  have x0 : (w.alloc (.cells #[.slice (some ⟨b, off, none⟩) n c, .int .i64 W] 59)).cell? ⟨w.heap.size, 0, none⟩ = some (.slice (some ⟨b, off, none⟩) n c) := by simp
  have x1 : (w.alloc (.cells #[.slice (some ⟨b, off, none⟩) n c, .int .i64 W] 59)).cell? ⟨w.heap.size, 1, none⟩ = some (.int .i64 W) := by simp
  have hd1 : ∀ k, k < n → (w.alloc (.cells #[.slice (some ⟨b, off, none⟩) n c, .int .i64 W] 59)).cell? ⟨b, off + k, none⟩ = some (.int .i64 (F.getD k 0)) := fun k hk => keepc hb0 (hd k hk)
  obtain ⟨v1, hv1⟩ : ∃ v1, v1 = w.alloc (.cells #[.slice (some ⟨b, off, none⟩) n c, .int .i64 W] 59) := ⟨_, rfl⟩
  rw [← hv1] at hb0 x0 x1 hd1
  have conH := Lib.hid (fun w' => c_blkHeight (some ⟨b, off, none⟩) n c W H w' hW hn (by omega))
  have conS := Lib.hid (fun W0 (hb : Below v1.heap.size v1 W0) => c_sumsC w.heap.size W H (fun i j => F.getD (j * W + i) 0) W0 (by omega) (by omega) (fun i j => hbd _) (fun W' i j hb' hi hj => c_colClo w.heap.size b off n c W F i j W' (keepc (bstep hb hb') x0) (keepc (bstep hb hb') x1) (fun k hk => keepc (bstep hb hb') (hd1 k hk)) hW (by
      have h1 : (j + 1) * W ≤ H * W := Nat.mul_le_mul_right W (by omega)
      rw [Nat.add_mul, Nat.one_mul] at h1
      omega) hc (by omega) hc2 (by omega) (by omega)))
  have Hb0 := Lib.hid hb0
  generalize hS : sumsL (fun i j => F.getD (j * W + i) 0) W H = S at *
  clear hr hFn hn hd hd1 hbd hb0 hS
  go_enter Try.func79, Try.ntmps79
  go_wp2_with fail
  rw [← hv1]
  clear hv1
  refine wp_region_held_drew (S := fun w' => w'.cell? ⟨w.heap.size, 0, none⟩ = some (.slice (some ⟨b, off, none⟩) n c) ∧ w'.cell? ⟨w.heap.size, 1, none⟩ = some (.int .i64 W)) (by kernel_rfl) ⟨g1d _ x0, g1d _ x1⟩ (fun hH0 => ?_)
  refine reg_take 0 rfl (by kernel_rfl) (by kernel_rfl) (by kernel_rfl) (fun _ _ _ h => h) (by rfl) (fun w _ => by first | (go_simp; done) | (go_simp; with_reducible rfl)) (by assumption) ?_
  try simp only [Act.put, List.setIfInBounds_toArray, List.set_cons_zero, List.set_cons_succ, List.getElem_toArray, List.getElem_cons_zero]
  refine reg_take 1 rfl (by kernel_rfl) (by kernel_rfl) (by kernel_rfl) (fun _ _ _ h => h) (by rfl) (fun w hSw => by (try dsimp only at hSw); first | (go_simp; done) | (go_simp; with_reducible rfl)) (by assumption) ?_
  try simp only [Act.put, List.setIfInBounds_toArray, List.set_cons_zero, List.set_cons_succ, List.getElem_toArray, List.getElem_cons_zero, List.getElem_cons_succ]
  refine reg_take 2 rfl (by kernel_rfl) (by kernel_rfl) (by kernel_rfl) (fun _ _ _ h => h) (by rfl) (fun w hSw => by (try dsimp only at hSw); first | (go_simp; done) | (go_simp; with_reducible rfl)) (by assumption) ?_
  try simp only [Act.put, List.setIfInBounds_toArray, List.set_cons_zero, List.set_cons_succ, List.getElem_toArray, List.getElem_cons_zero, List.getElem_cons_succ]
  refine reg_take 4 rfl (by kernel_rfl) (by kernel_rfl) (by kernel_rfl) (fun _ _ _ h => h) (by rfl) (fun w _ => by first | (go_simp; done) | (go_simp; with_reducible rfl)) (by assumption) ?_
  try simp only [Act.put, List.setIfInBounds_toArray, List.set_cons_zero, List.set_cons_succ, List.getElem_toArray, List.getElem_cons_zero, List.getElem_cons_succ]
  refine wpAnyH_ready (rs := [3]) (by kernel_rfl) (by simp) ?_
  refine AllReadyH.cons (i := 3) rfl (fun K hK => ?_) AllReadyH.nil
  go_simp
  go_at_call 52
  refine (conH.out _).mono ?_
  rintro e w2 ⟨rfl, hb2⟩
  have y0 := keepc hb2 (g1d _ x0)
  have y1 := keepc hb2 (g1d _ x1)
  have hb02 := bstep (Below.refl _ v1).drew hb2
  refine hK.out _ _ ⟨y0, y1⟩ (fun hH3 => ?_)
  clear hK K
  try simp only [Act.put, List.setIfInBounds_toArray, List.set_cons_zero, List.set_cons_succ, List.getElem_toArray, List.getElem_cons_zero, List.getElem_cons_succ]
  refine wpAnyH_ready (rs := [5]) (by kernel_rfl) (by simp) ?_
  refine AllReadyH.cons (i := 5) rfl (fun K hK => ?_) AllReadyH.nil
  go_simp
  go_at_call 59
  refine (conS.out _ hb02).mono ?_
  rintro e w3 ⟨A3, c3, rfl, ho3, hb3⟩
  have z0 := keepc hb3 y0
  have z1 := keepc hb3 y1
  refine hK.out _ _ ⟨z0, z1⟩ (fun hH5 => ?_)
  clear hK K
  try simp only [Act.put, List.setIfInBounds_toArray, List.set_cons_zero, List.set_cons_succ, List.getElem_toArray, List.getElem_cons_zero, List.getElem_cons_succ]
  refine reg_take 6 rfl (by kernel_rfl) (by kernel_rfl) (by kernel_rfl) (fun _ _ _ h => h) (by rfl) (fun w _ => by first | (go_simp; done) | (go_simp; with_reducible rfl)) (by assumption) ?_
  try simp only [Act.put, List.setIfInBounds_toArray, List.set_cons_zero, List.set_cons_succ, List.getElem_toArray, List.getElem_cons_zero, List.getElem_cons_succ]
  refine wpAnyH_done (by kernel_rfl) ?_ _
  go_wp2
  go_ret
  exact ⟨A3, c3, rfl, own_base ho3 (bstep Hb0.out hb02).size, bstep (bstep Hb0.out hb02) hb3⟩

end Go.Proofs.Ytbanpgifhnbjoaa

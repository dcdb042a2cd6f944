/- The program's sums, sides and answers on windows. -/
import Derived.Test.YtjbdflkbclhonaaWinI
import Derived.Test.YtjbdflkbclhonaaWinU
namespace Go.Proofs.Ytjbdflkbclhonaa
open Go.RowKit
set_option linter.unusedVariables false

set_option maxRecDepth 100000 in
set_option maxHeartbeats 1000000 in
theorem c_sides1 (g : Nat) (f : Nat → Int) (i j : Nat) (w : World) (hi : i < 4) (hj : j < 3) (hE : Eight w g f) :
    Calls Try.prog 82 #[.int .i64 i, .int .i64 j, .pointer (some ⟨g, 0, none⟩)] w fun e w' => e = .returned (.int .i64 (f ((2 * i + j) % 8))) ∧ Below w.heap.size w w' := by
  obtain ⟨r, hr⟩ : ∃ r : Nat, r = (2 * i + j) % 8 := ⟨_, rfl⟩
  have hrt : (2 * (i : Int) + (j : Int)).tmod 8 = (r : Int) := by rw [Int.tmod_eq_emod_of_nonneg (by omega)]; omega
  have cr := hE.1 r (by omega)
  rw [← hr]
  have i0 : (0 : Int) ≤ (r : Int) := by omega
  have i1 : (r : Int) < 8 := by omega
  clear hr hE
  generalize f r = v at *
  go_enter Try.func82, Try.ntmps82
  go_wp2
  go_ret
  exact ⟨rfl, Below.refl _ _⟩

set_option maxRecDepth 100000 in
set_option maxHeartbeats 4000000 in
theorem c_sumsW (g L C : Nat) (f : Nat → Nat → Int) (w : World) (hL : L ≤ 8) (hC : C ≤ 8) (hf : ∀ i j, 0 ≤ f i j ∧ f i j ≤ 9)
    (hF : ∀ W i j, Below w.heap.size w W → i < L → j < C → Calls Try.prog 82 #[.int .i64 (i : Nat), .int .i64 (j : Nat), .pointer (some ⟨g, 0, none⟩)] W fun e w' => e = .returned (.int .i64 (f i j)) ∧ Below W.heap.size W w') :
    Calls Try.prog 81 #[.int .i64 L, .int .i64 C, .func (.func 82) #[] #[.pointer (some ⟨g, 0, none⟩)]] w (RetN w (sumsL f L C)) := by
  obtain ⟨i0, hi, hz0, hz1, hz2⟩ := info_parts Try.info_int
  have HF := Lib.hid hF
  have Hbd := Lib.hid (fun i j => sumF_bd f i (fun j => hf i j) j)
  have Hf := Lib.hid hf
  have HR := Lib.hid (show sumsL f L C = totL f L C L 0 from (totL_all f L C).symm)
  have Hlen := Lib.hid (fun k j => totL_len f L C k j)
  clear hF hf
  go_enter Try.func81, Try.ntmps81
  go_wp2_with (refine wpList_make_full _ rfl _ _ _ rfl w.heap.size 3 i0 _ 1 Try.underlying22 hi hz0 hz1 .i64 .i64 _ _ L rfl rfl rfl rfl (by rw [hz2]; omega) (by unfold maxLen; omega) (Nat.le_refl _) ?_; intro w1 hown1 hg1)
  have hz : (madeCells (Value.int .i64 0).cells (L * 1)).toList = cellsI (totL f L C 0 0) := by
    have h := copyI_zero (List.replicate L 0)
    rw [List.length_replicate] at h
    rw [← h, totL_zero]
    simp [copyI]
  rw [hz] at hown1
  have hb1 : Below w.heap.size w w1 := below_of_grown hg1 (Nat.le_refl _) (by simp)
  clear hg1 hz0 hz1 hz2 hi hz
  go_loopw [14] (fun i wr => ∃ k : Nat, k ≤ L ∧ i = .int .i64 k ∧ wr.ownsRow w.heap.size 3 1 (.slice (some ⟨w.heap.size, 0, none⟩) L L) L (cellsI (totL f L C k 0)) ∧ Below w.heap.size w wr) (fun i _ => L - (intOf i).toNat)
  case atStart => exact ⟨0, Nat.zero_le _, rfl, hown1, hb1⟩
  case round =>
    clear hown1 hb1
    obtain ⟨k, hk, rfl, hown, hb⟩ := hrel
    by_cases hlt : k < L
    · obtain ⟨wo, rfl⟩ : ∃ wo : World, wo = wr := ⟨_, rfl⟩
      have i0 : (0 : Int) ≤ (k : Int) := by omega
      have i1 : (k : Int) < (L : Int) := by omega
      go_wp2
      go_loopw [18] (fun i wr => ∃ j : Nat, j ≤ C ∧ i = .int .i64 j ∧ wr.ownsRow w.heap.size 3 1 (.slice (some ⟨w.heap.size, 0, none⟩) L L) L (cellsI (totL f L C k j)) ∧ Below w.heap.size w wr) (fun i _ => C - (intOf i).toNat)
      case atStart => exact ⟨0, Nat.zero_le _, rfl, hown, hb⟩
      case round =>
        clear hown hb
        obtain ⟨j, hj, rfl, hown, hb⟩ := hrel
        by_cases hlj : j < C
        · have x1 := (hown.cellAt k (by omega)).trans (show (cellsI (totL f L C k j))[k]? = some (.int .i64 (sumF f k j)) from by rw [cellsI, List.getElem?_map, totL_get f hlt]; rfl)
          have f1 := hown.frozenAt k
          have hsz := (hown.lt w.heap.size rfl).2
          have hb9 := Hbd.out k j
          have hb8 := Hf.out k j
          have hst := totL_step f (C := C) (j := j) hlt
          have Hst := Lib.hid hst
          have Ho := Lib.hid hown
          have Hb := Lib.hid hb
          have conF := Lib.hid (fun W hb => HF.out W k j hb hlt hlj)
          have j9 : 9 * (j : Int) ≤ 72 := by omega
          clear hst hown hb HF
          generalize sumF f k j = s at *
          generalize f k j = v at *
          have iw : IntKind.i64.wrap (s + v) = s + v := IntWalk.i64_in _ (by omega)
          have j0 : (0 : Int) ≤ (j : Int) := by omega
          go_wp2_with fail
          first
            | (go_region_with ((go_at_call 82; refine (conF.out _ (by first | exact Hb.out.drew | exact Hb.out)).mono ?_; rintro e w2 ⟨rfl, hb2⟩; have x2 := keepc hb2 (show wr.drew.cell? ⟨w.heap.size, k, none⟩ = some (.int .i64 s) from x1); have f2 := (hb2.frozen (p := ⟨w.heap.size, k, none⟩) hsz).trans (show wr.drew.frozen? ⟨w.heap.size, k, none⟩ = false from f1))))
            | fail
          all_goals
            go_wp2
            go_roundw
            case rel =>
              refine ⟨j + 1, by omega, by go_num, ?_, (bstep Hb.out.drew hb2).setCell (Nat.le_refl _) _⟩
              rw [← Hst.out, ← cellsI_set]
              exact (own_keep (own_drew Ho.out) hb2).stored _ _ |>.1
            case measure => simp [intOf]; omega
        · obtain rfl : j = C := by omega
          have Ho := Lib.hid hown
          have Hb := Lib.hid hb
          clear hown hb
          go_wp2
          go_roundw
          case rel => exact ⟨k + 1, by omega, by go_num, by rw [← totL_next]; exact Ho.out, Hb.out⟩
          case measure => simp [intOf]; omega
    · obtain rfl : k = L := by omega
      go_wp2
      go_ret
      rw [HR.out]
      refine ⟨some ⟨w.heap.size, 0, none⟩, k, (by rw [Hlen.out]; rfl), ?_, hb⟩
      rw [Hlen.out]
      exact hown

theorem sums_sides {f : Nat → Int} {xs : List Int} (hf : ∀ i, f i = xs.getD i 0) : sumsL (fun i j => f ((2 * i + j) % 8)) 4 3 = sidesTo xs 4 := by
  unfold sumsL sidesTo
  refine List.map_congr_left fun i hi => ?_
  have hi4 := List.mem_range.1 hi
  simp only [sumF, sideV, hf]
  rw [show (2 * i + 0) % 8 = 2 * i from by omega, show (2 * i + 1) % 8 = 2 * i + 1 from by omega]
  omega

set_option maxRecDepth 100000 in
set_option maxHeartbeats 1000000 in
theorem c_winSides (f : Nat → Int) (w : World) (hf : ∀ i, 0 ≤ f i ∧ f i ≤ 9) : Calls Try.prog 56 #[.agg #[.int .i64 (f 0), .int .i64 (f 1), .int .i64 (f 2), .int .i64 (f 3), .int .i64 (f 4), .int .i64 (f 5), .int .i64 (f 6), .int .i64 (f 7)]] w (RetN w (sumsL (fun i j => f ((2 * i + j) % 8)) 4 3)) := by
  have hmf : ∀ (fn : Fn) (first cap : Array Value) (w : World), (Instr.makeFunc fn first cap).run Try.prog w = .ok (.func fn first cap) w := fun _ _ _ _ => rfl
  have hE := eight_box w 46 f
  have hb0 : Below w.heap.size w (w.alloc (.cells #[.int .i64 (f 0), .int .i64 (f 1), .int .i64 (f 2), .int .i64 (f 3), .int .i64 (f 4), .int .i64 (f 5), .int .i64 (f 6), .int .i64 (f 7)] 46)) := (Below.refl _ _).alloc (Nat.le_refl _) _
  have con := Lib.hid (c_sumsW w.heap.size 4 3 (fun i j => f ((2 * i + j) % 8)) (w.alloc (.cells #[.int .i64 (f 0), .int .i64 (f 1), .int .i64 (f 2), .int .i64 (f 3), .int .i64 (f 4), .int .i64 (f 5), .int .i64 (f 6), .int .i64 (f 7)] 46)) (by omega) (by omega) (fun i j => hf _) (fun W i j hb hi hj => c_sides1 w.heap.size f i j W hi hj (hE.keep hb)))
  clear hE
  go_enter Try.func56, Try.ntmps56
  go_wp2_with (go_at_call 81; refine con.out.mono ?_; rintro e w1 ⟨A1, c1, rfl, ho1, hb1⟩)
  go_ret
  exact ⟨A1, c1, rfl, own_base ho1 hb0.size, bstep hb0 hb1⟩

set_option maxRecDepth 100000 in
set_option maxHeartbeats 1000000 in
theorem c_allSame (A : Option Addr) (c : Nat) (xs : List Int) (w : World) (hr : RdI w A xs) (hl : xs.length ≤ 1048576) :
    Calls Try.prog 83 #[.slice A xs.length c] w fun e w' => e = .returned (.bool (sameL xs)) ∧ Below w.heap.size w w' := by
  go_enter Try.func83, Try.ntmps83
  go_wp2
  go_loopw [7] (fun i wr => ∃ k : Nat, k ≤ xs.length ∧ i = .int .i64 k ∧ (∀ j, j < k → xs.getD j 0 = xs.getD 0 0) ∧ Below w.heap.size w wr) (fun i _ => xs.length - (intOf i).toNat)
  case atStart => exact ⟨0, Nat.zero_le _, rfl, by omega, Below.refl _ _⟩
  case round =>
    obtain ⟨k, hk, rfl, hs, hb⟩ := hrel
    by_cases hlt : k < xs.length
    · obtain ⟨bk, off, rfl, hbk, hc⟩ := hr.cellD (n := xs.length) rfl (by omega)
      have g1 := (hb.cell (p := ⟨bk, _, none⟩) hbk).trans (hc k hlt)
      have g2 := (hb.cell (p := ⟨bk, _, none⟩) hbk).trans (hc 0 (by omega))
      rw [Nat.add_zero] at g2
      have Hb := Lib.hid hb
      have i0 : (0 : Int) < (xs.length : Int) := by omega
      by_cases he : xs.getD k 0 = xs.getD 0 0
      · have q0 : (xs.getD k 0 != xs.getD 0 0) = false := bne_eq_false_iff_eq.2 he
        have Hs2 := Lib.hid (show ∀ j, j < k + 1 → xs.getD j 0 = xs.getD 0 0 from fun j hj => by
          rcases Nat.lt_succ_iff_lt_or_eq.1 hj with h | rfl
          · exact hs j h
          · exact he)
        clear hc hr hs hb he
        generalize xs.getD k 0 = p at *
        generalize xs.getD 0 0 = q at *
        go_wp2
        go_roundw
        case rel => exact ⟨k + 1, by omega, by go_num, Hs2.out, Hb.out⟩
        case measure => simp [intOf]; omega
      · have q0 : (xs.getD k 0 != xs.getD 0 0) = true := bne_iff_ne.2 he
        have Hno := Lib.hid (sameL_no hlt he)
        clear hc hr hs hb he
        generalize xs.getD k 0 = p at *
        generalize xs.getD 0 0 = q at *
        go_wp2
        go_ret
        exact ⟨ret_b Hno.out.symm, Hb.out⟩
    · have Hy := Lib.hid (sameL_yes (xs := xs) (fun j hj => hs j (by omega)))
      clear hs hr
      go_wp2
      go_ret
      exact ⟨ret_b Hy.out.symm, hb⟩

set_option maxRecDepth 100000 in
set_option maxHeartbeats 1000000 in
theorem c_winFair (f : Nat → Int) (xs : List Int) (w : World) (hf : ∀ i, 0 ≤ f i ∧ f i ≤ 9) (hx : ∀ i, f i = xs.getD i 0) : Calls Try.prog 58 #[.agg #[.int .i64 (f 0), .int .i64 (f 1), .int .i64 (f 2), .int .i64 (f 3), .int .i64 (f 4), .int .i64 (f 5), .int .i64 (f 6), .int .i64 (f 7)]] w fun e w' => e = .returned (.bool (fairB xs)) ∧ Below w.heap.size w w' := by
  have hb0 : Below w.heap.size w (w.alloc (.cells #[.int .i64 (f 0), .int .i64 (f 1), .int .i64 (f 2), .int .i64 (f 3), .int .i64 (f 4), .int .i64 (f 5), .int .i64 (f 6), .int .i64 (f 7)] 46)) := (Below.refl _ _).alloc (Nat.le_refl _) _
  have e1 : fairB xs = sameL (sumsL (fun i j => f ((2 * i + j) % 8)) 4 3) := by rw [sums_sides hx]; rfl
  rw [e1]
  have hlen : (sumsL (fun i j => f ((2 * i + j) % 8)) 4 3).length ≤ 1048576 := by rw [sums_sides hx, sidesTo_len]; decide
  have con := Lib.hid (fun W => c_winSides f W hf)
  generalize sumsL (fun i j => f ((2 * i + j) % 8)) 4 3 = S at *
  have conA := Lib.hid (fun W A c base (ho : W.ownsRow base 3 1 (.slice A S.length c) S.length (cellsI S)) => c_allSame A c S W (RdI.of_own ho) hlen)
  clear hf hx e1
  go_enter Try.func58, Try.ntmps58
  go_wp2_with (first | (go_at_call 56; refine (con.out _).mono ?_; rintro e w1 ⟨A1, c1, rfl, ho1, hb1⟩) | (go_at_call 83; refine (conA.out _ _ _ _ ho1).mono ?_; rintro e w2 ⟨rfl, hb2⟩))
  go_ret
  exact ⟨rfl, bstep (bstep hb0 hb1) hb2⟩

set_option maxRecDepth 100000 in
set_option maxHeartbeats 1000000 in
theorem c_implIsWindow (A : Option Addr) (c : Nat) (xs : List Int) (w : World) (hr : RdI w A xs) (hl : xs.length ≤ 9223372036854775807) :
    Calls Try.prog 17 #[.slice A xs.length c] w fun e w' => e = .returned (.bool (winB xs)) ∧ Below w.heap.size w w' := by
  have con := Lib.hid (c_windowOf A c xs w hr hl)
  clear hr
  go_enter Try.func17, Try.ntmps17
  go_wp2_with (go_at_call 51; refine con.out.mono ?_; rintro e w1 ⟨rfl, hb1⟩)
  go_ret
  exact ⟨rfl, hb1.alloc hb1.size _⟩

set_option maxRecDepth 100000 in
set_option maxHeartbeats 1000000 in
theorem c_implWinTiles (A : Option Addr) (c : Nat) (xs : List Int) (w : World) (hr : RdI w A xs) (hl : xs.length ≤ 1048576) :
    Calls Try.prog 20 #[.slice A xs.length c] w (RetT w (winT xs) (winB xs)) := by
  have con := Lib.hid (c_implIsWindow A c xs w hr (by omega))
  have conT := Lib.hid (fun W (hb : Below w.heap.size w W) => c_tilesOfPairs A c xs W (hr.below hb) hl)
  clear hr
  cases hc : winB xs
  · have e1 : winT xs = [] := by simp [winT, hc]
    rw [e1]
    rw [hc] at con
    clear e1 hc
    go_enter Try.func20, Try.ntmps20
    go_wp2_with (go_at_call 17; refine con.out.mono ?_; rintro e w1 ⟨rfl, hb1⟩)
    go_ret2
    exact ⟨none, 0, rfl, World.ownsRow_nil _ _ _ _, hb1⟩
  · have e1 : winT xs = handT xs := by rw [handT_yes (win_hand hc)]; simp [winT, hc]
    rw [e1]
    rw [hc] at con
    have hh := win_hand hc
    rw [hh] at conT
    generalize handT xs = T at *
    clear e1 hc hh
    go_enter Try.func20, Try.ntmps20
    go_wp2_with (first | (go_at_call 17; refine con.out.mono ?_; rintro e w1 ⟨rfl, hb1⟩) | (go_at_call 53; refine (conT.out _ hb1).mono ?_; rintro e w2 ⟨A2, c2, rfl, ho2, hb2⟩))
    go_ret2
    exact ⟨A2, c2, rfl, own_base ho2 hb1.size, bstep hb1 hb2⟩

set_option maxRecDepth 100000 in
set_option maxHeartbeats 2000000 in
theorem c_implSides (A : Option Addr) (c : Nat) (xs : List Int) (w : World) (hr : RdI w A xs) (hl : xs.length ≤ 1048576) :
    Calls Try.prog 26 #[.slice A xs.length c] w (RetI w (winL xs (sidesTo xs 4)) (winB xs)) := by
  have con := Lib.hid (c_windowOf A c xs w hr (by omega))
  cases hw : winB xs
  · rw [hw] at con
    simp only [winF_no hw] at con
    rw [winL_no hw]
    clear hr hw
    go_enter Try.func26, Try.ntmps26
    go_wp2_with (go_at_call 51; refine con.out.mono ?_; rintro e w1 ⟨rfl, hb1⟩)
    go_ret2
    exact ⟨none, 0, rfl, World.ownsRow_nil _ _ _ _, (hb1.alloc hb1.size (.cells #[.int .i64 0, .int .i64 0, .int .i64 0, .int .i64 0, .int .i64 0, .int .i64 0, .int .i64 0, .int .i64 0] 46))⟩
  · rw [hw] at con
    simp only [winF_yes hw] at con
    obtain ⟨f, hf⟩ : ∃ f : Nat → Int, ∀ i, f i = xs.getD i 0 := ⟨fun i => xs.getD i 0, fun _ => rfl⟩
    have hbd : ∀ i, 0 ≤ f i ∧ f i ≤ 9 := fun i => by rw [hf]; exact win_numD hw i
    have h8 := win_len hw
    simp only [← hf] at con
    rw [winL_yes hw, ← sums_sides hf]
    have conS := Lib.hid (fun W => c_winSides f W hbd)
    generalize sumsL (fun i j => f ((2 * i + j) % 8)) 4 3 = S at *
    clear hr hw h8 hbd hf
    go_enter Try.func26, Try.ntmps26
    go_wp2_with (first | (go_at_call 51; refine con.out.mono ?_; rintro e w1 ⟨rfl, hb1⟩) | (go_at_call 56; refine (conS.out _).mono ?_; rintro e w2 ⟨A2, c2, rfl, ho2, hb2⟩))
    go_ret2
    exact ⟨A2, c2, rfl, own_base ho2 (hb1.alloc hb1.size (.cells #[.int .i64 (f 0), .int .i64 (f 1), .int .i64 (f 2), .int .i64 (f 3), .int .i64 (f 4), .int .i64 (f 5), .int .i64 (f 6), .int .i64 (f 7)] 46)).size, bstep (hb1.alloc hb1.size (.cells #[.int .i64 (f 0), .int .i64 (f 1), .int .i64 (f 2), .int .i64 (f 3), .int .i64 (f 4), .int .i64 (f 5), .int .i64 (f 6), .int .i64 (f 7)] 46)) hb2⟩

set_option maxRecDepth 100000 in
set_option maxHeartbeats 2000000 in
theorem c_implFair (A : Option Addr) (c : Nat) (xs : List Int) (w : World) (hr : RdI w A xs) (hl : xs.length ≤ 9223372036854775807) :
    Calls Try.prog 29 #[.slice A xs.length c] w fun e w' => e = .returned (.tuple #[.bool (fairW xs), .bool (winB xs)]) ∧ Below w.heap.size w w' := by
  have con := Lib.hid (c_windowOf A c xs w hr hl)
  unfold fairW
  cases hw : winB xs
  · rw [hw] at con
    simp only [winF_no hw] at con
    rw [Bool.false_and]
    clear hr hw
    go_enter Try.func29, Try.ntmps29
    go_wp2_with (go_at_call 51; refine con.out.mono ?_; rintro e w1 ⟨rfl, hb1⟩)
    go_ret2
    exact ⟨rfl, (hb1.alloc hb1.size (.cells #[.int .i64 0, .int .i64 0, .int .i64 0, .int .i64 0, .int .i64 0, .int .i64 0, .int .i64 0, .int .i64 0] 46))⟩
  · rw [hw] at con
    simp only [winF_yes hw] at con
    obtain ⟨f, hf⟩ : ∃ f : Nat → Int, ∀ i, f i = xs.getD i 0 := ⟨fun i => xs.getD i 0, fun _ => rfl⟩
    have hbd : ∀ i, 0 ≤ f i ∧ f i ≤ 9 := fun i => by rw [hf]; exact win_numD hw i
    have h8 := win_len hw
    simp only [← hf] at con
    rw [Bool.true_and]
    have conS := Lib.hid (fun W => c_winFair f xs W hbd hf)
    generalize fairB xs = S at *
    clear hr hw h8 hbd hf
    go_enter Try.func29, Try.ntmps29
    go_wp2_with (first | (go_at_call 51; refine con.out.mono ?_; rintro e w1 ⟨rfl, hb1⟩) | (go_at_call 58; refine (conS.out _).mono ?_; rintro e w2 ⟨rfl, hb2⟩))
    go_ret2
    exact ⟨rfl, bstep (hb1.alloc hb1.size (.cells #[.int .i64 (f 0), .int .i64 (f 1), .int .i64 (f 2), .int .i64 (f 3), .int .i64 (f 4), .int .i64 (f 5), .int .i64 (f 6), .int .i64 (f 7)] 46)) hb2⟩

set_option maxRecDepth 100000 in
set_option maxHeartbeats 2000000 in
theorem c_implMirrorW (A : Option Addr) (c : Nat) (xs : List Int) (w : World) (hr : RdI w A xs) (hl : xs.length ≤ 1048576) :
    Calls Try.prog 33 #[.slice A xs.length c] w (RetI w (winL xs (mirL xs)) (winB xs)) := by
  have con := Lib.hid (c_windowOf A c xs w hr (by omega))
  cases hw : winB xs
  · rw [hw] at con
    simp only [winF_no hw] at con
    rw [winL_no hw]
    clear hr hw
    go_enter Try.func33, Try.ntmps33
    go_wp2_with (go_at_call 51; refine con.out.mono ?_; rintro e w1 ⟨rfl, hb1⟩)
    go_ret2
    exact ⟨none, 0, rfl, World.ownsRow_nil _ _ _ _, (hb1.alloc hb1.size (.cells #[.int .i64 0, .int .i64 0, .int .i64 0, .int .i64 0, .int .i64 0, .int .i64 0, .int .i64 0, .int .i64 0] 46))⟩
  · rw [hw] at con
    simp only [winF_yes hw] at con
    obtain ⟨f, hf⟩ : ∃ f : Nat → Int, ∀ i, f i = xs.getD i 0 := ⟨fun i => xs.getD i 0, fun _ => rfl⟩
    have hbd : ∀ i, 0 ≤ f i ∧ f i ≤ 9 := fun i => by rw [hf]; exact win_numD hw i
    have h8 := win_len hw
    simp only [← hf] at con
    have e1 : mirL xs = l8 (mirF f) := by
      unfold mirL l8 mirF
      exact List.map_congr_left fun i _ => (hf _).symm
    rw [winL_yes hw, e1]
    have conM := Lib.hid (fun W => c_mirrored f W)
    generalize mirF f = F at *
    have conL := Lib.hid (fun W => c_winList F W)
    generalize l8 F = S at *
    clear hr hw h8 hbd hf e1
    go_enter Try.func33, Try.ntmps33
    go_wp2_with (first | (go_at_call 51; refine con.out.mono ?_; rintro e w1 ⟨rfl, hb1⟩) | (go_at_call 63; refine (conM.out _).mono ?_; rintro e w2 ⟨rfl, hb2⟩) | (go_at_call 62; refine (conL.out _).mono ?_; rintro e w3 ⟨A3, c3, rfl, ho3, hb3⟩))
    go_ret2
    exact ⟨A3, c3, rfl, own_base ho3 (bstep (hb1.alloc hb1.size (.cells #[.int .i64 (f 0), .int .i64 (f 1), .int .i64 (f 2), .int .i64 (f 3), .int .i64 (f 4), .int .i64 (f 5), .int .i64 (f 6), .int .i64 (f 7)] 46)) hb2).size, bstep (bstep (hb1.alloc hb1.size (.cells #[.int .i64 (f 0), .int .i64 (f 1), .int .i64 (f 2), .int .i64 (f 3), .int .i64 (f 4), .int .i64 (f 5), .int .i64 (f 6), .int .i64 (f 7)] 46)) hb2) hb3⟩

set_option maxRecDepth 100000 in
set_option maxHeartbeats 2000000 in
theorem c_implSpinW (A : Option Addr) (c : Nat) (xs : List Int) (k : Int) (w : World) (hr : RdI w A xs) (hl : xs.length ≤ 1048576) :
    Calls Try.prog 31 #[.slice A xs.length c, .int .i64 k] w (RetI w (spinWL xs k) (spinWB xs k)) := by
  have con := Lib.hid (c_windowOf A c xs w hr (by omega))
  cases hw : winB xs
  · rw [hw] at con
    simp only [winF_no hw] at con
    have e1 : spinWB xs k = false := by simp [spinWB, hw]
    have e2 : spinWL xs k = [] := by simp [spinWL, e1]
    rw [e1, e2]
    clear e1 e2
    clear hr hw
    go_enter Try.func31, Try.ntmps31
    go_wp2_with (go_at_call 51; refine con.out.mono ?_; rintro e w1 ⟨rfl, hb1⟩)
    go_ret2
    exact ⟨none, 0, rfl, World.ownsRow_nil _ _ _ _, (hb1.alloc hb1.size (.cells #[.int .i64 0, .int .i64 0, .int .i64 0, .int .i64 0, .int .i64 0, .int .i64 0, .int .i64 0, .int .i64 0] 46))⟩
  · rw [hw] at con
    simp only [winF_yes hw] at con
    obtain ⟨f, hf⟩ : ∃ f : Nat → Int, ∀ i, f i = xs.getD i 0 := ⟨fun i => xs.getD i 0, fun _ => rfl⟩
    have hbd : ∀ i, 0 ≤ f i ∧ f i ≤ 9 := fun i => by rw [hf]; exact win_numD hw i
    have h8 := win_len hw
    simp only [← hf] at con
    by_cases hk0 : 0 ≤ k
    · by_cases hk3 : k ≤ 3
      · have e1 : spinWB xs k = true := by simp [spinWB, hw, hk0, hk3]
        have e2 : spinWL xs k = spinL xs k.toNat := by simp [spinWL, e1]
        obtain ⟨m, rfl⟩ : ∃ m : Nat, k = m := ⟨k.toNat, by omega⟩
        rw [Int.toNat_natCast] at e2
        have e3 : l8 (spinF f m) = spinL xs m := l8_of (by rw [spinL_len, h8]) (fun i hi => by rw [spinL_get h8 (by omega) hi]; unfold spinF; exact hf _)
        rw [e1, e2, ← e3]
        have conM := Lib.hid (fun W => c_spun f m W (by omega))
        generalize spinF f m = F at *
        have conL := Lib.hid (fun W => c_winList F W)
        generalize l8 F = S at *
        have i1 : (m : Int) < 4 := by omega
        clear hr hw h8 hbd hf e1 e2 e3
        go_enter Try.func31, Try.ntmps31
        go_wp2_with (first | (go_at_call 51; refine con.out.mono ?_; rintro e w1 ⟨rfl, hb1⟩) | (go_at_call 61; refine (conM.out _).mono ?_; rintro e w2 ⟨rfl, hb2⟩) | (go_at_call 62; refine (conL.out _).mono ?_; rintro e w3 ⟨A3, c3, rfl, ho3, hb3⟩))
        go_ret2
        exact ⟨A3, c3, rfl, own_base ho3 (bstep (hb1.alloc hb1.size (.cells #[.int .i64 (f 0), .int .i64 (f 1), .int .i64 (f 2), .int .i64 (f 3), .int .i64 (f 4), .int .i64 (f 5), .int .i64 (f 6), .int .i64 (f 7)] 46)) hb2).size, bstep (bstep (hb1.alloc hb1.size (.cells #[.int .i64 (f 0), .int .i64 (f 1), .int .i64 (f 2), .int .i64 (f 3), .int .i64 (f 4), .int .i64 (f 5), .int .i64 (f 6), .int .i64 (f 7)] 46)) hb2) hb3⟩
      · have e1 : spinWB xs k = false := by simp [spinWB, hk3]
        have e2 : spinWL xs k = [] := by simp [spinWL, e1]
        rw [e1, e2]
        have i1 : 4 ≤ k := by omega
        clear hr hw h8 hbd hf e1 e2 hk3
        go_enter Try.func31, Try.ntmps31
        go_wp2_with (go_at_call 51; refine con.out.mono ?_; rintro e w1 ⟨rfl, hb1⟩)
        go_ret2
        exact ⟨none, 0, rfl, World.ownsRow_nil _ _ _ _, (hb1.alloc hb1.size (.cells #[.int .i64 (f 0), .int .i64 (f 1), .int .i64 (f 2), .int .i64 (f 3), .int .i64 (f 4), .int .i64 (f 5), .int .i64 (f 6), .int .i64 (f 7)] 46))⟩
    · have e1 : spinWB xs k = false := by simp [spinWB, hk0]
      have e2 : spinWL xs k = [] := by simp [spinWL, e1]
      rw [e1, e2]
      have i1 : k < 0 := by omega
      clear hr hw h8 hbd hf e1 e2 hk0
      go_enter Try.func31, Try.ntmps31
      go_wp2_with (go_at_call 51; refine con.out.mono ?_; rintro e w1 ⟨rfl, hb1⟩)
      go_ret2
      exact ⟨none, 0, rfl, World.ownsRow_nil _ _ _ _, (hb1.alloc hb1.size (.cells #[.int .i64 (f 0), .int .i64 (f 1), .int .i64 (f 2), .int .i64 (f 3), .int .i64 (f 4), .int .i64 (f 5), .int .i64 (f 6), .int .i64 (f 7)] 46))⟩

end Go.Proofs.Ytjbdflkbclhonaa

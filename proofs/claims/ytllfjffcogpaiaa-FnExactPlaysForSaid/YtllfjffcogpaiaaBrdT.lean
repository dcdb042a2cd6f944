/- What is told of a list of plays: the program's. -/
import Derived.Test.YtllfjffcogpaiaaBrdO
namespace Go.Proofs.Ytllfjffcogpaiaa
open Go.RowKit
set_option linter.unusedVariables false

set_option maxRecDepth 100000 in
set_option maxHeartbeats 1000000 in
theorem c_implIsSpread (A : Option Addr) (c : Nat) (ps : List (Int × Int × Int)) (w : World) (hr : RdP w A ps) (hl : ps.length ≤ 1048576) :
    Calls Try.prog 18 #[.slice A ps.length c] w fun e w' => e = .returned (.bool (okL ps)) ∧ Below w.heap.size w w' := by
  have con := Lib.hid (c_boardOf A c ps w hr hl)
  clear hr
  go_enter Try.func18, Try.ntmps18
  go_wp2_with (go_at_call 57; refine con.out.mono ?_; rintro e w1 ⟨A1, c1, D1, d1, rfl, ho1, ha1, hb1⟩)
  go_ret
  exact ⟨rfl, Below.trans hb1 ((Below.refl _ _).alloc hb1.size _)⟩

set_option maxRecDepth 100000 in
set_option maxHeartbeats 1000000 in
theorem c_implArmsOf (A : Option Addr) (c : Nat) (ps : List (Int × Int × Int)) (w : World) (hr : RdP w A ps) (hl : ps.length ≤ 1048576) :
    Calls Try.prog 21 #[.slice A ps.length c] w (RetA w (brdD ps).arms (okL ps)) := by
  have con := Lib.hid (c_boardOf A c ps w hr hl)
  clear hr
  go_enter Try.func21, Try.ntmps21
  go_wp2_with (go_at_call 57; refine con.out.mono ?_; rintro e w1 ⟨A1, c1, D1, d1, rfl, ho1, ha1, hb1⟩; have Ha1 := Lib.hid ha1; have hz1 := hb1.size)
  go_ret2
  exact ⟨D1, d1, rfl, own_keep Ha1.out ((Below.refl _ _).alloc (Nat.le_refl _) _), by go_grown⟩

def spinD (ps : List (Int × Int × Int)) : Bool := decide (0 ≤ spinL (brdD ps).ps)
set_option maxRecDepth 100000 in
set_option maxHeartbeats 1000000 in
theorem c_implSpinnerOf (A : Option Addr) (c : Nat) (ps : List (Int × Int × Int)) (w : World) (hr : RdP w A ps) (hl : ps.length ≤ 1048576) :
    Calls Try.prog 32 #[.slice A ps.length c] w fun e w' => e = .returned (.tuple #[.int .i64 (spinV (brdD ps).ps), .bool (spinD ps)]) ∧ Below w.heap.size w w' := by
  have con := Lib.hid (c_boardOf A c ps w hr hl)
  have hB := brdD_ok ps
  have conS := Lib.hid (fun A1 c1 D1 d1 W (h : RdP W A1 (brdD ps).ps) => c_spinner A1 c1 D1 (brdD ps).arms.length d1 (brdD ps).fives (brdD ps).ps W h hB.len hB.good)
  clear hr hB
  go_enter Try.func32, Try.ntmps32
  go_wp2_with (first | (go_at_call 57; refine con.out.mono ?_; rintro e w1 ⟨A1, c1, D1, d1, rfl, ho1, ha1, hb1⟩; have Ho1 := Lib.hid (RdP.of_own ho1)) | (go_at_call 63; refine (conS.out A1 c1 D1 d1 _ (Ho1.out.below ((Below.refl _ _).alloc (Nat.le_refl _) _))).mono ?_; rintro e w2 ⟨rfl, hb2⟩))
  go_ret2
  exact ⟨rfl, (Below.trans hb1 ((Below.refl _ _).alloc hb1.size _)).trans (hb2.mono (by have := hb1.size; simp; omega))⟩

set_option maxRecDepth 100000 in
set_option maxHeartbeats 1000000 in
theorem c_implAllFives (A : Option Addr) (c : Nat) (ps : List (Int × Int × Int)) (w : World) (hr : RdP w A ps) (hl : ps.length ≤ 1048576) :
    Calls Try.prog 43 #[.slice A ps.length c] w fun e w' => e = .returned (.tuple #[.int .i64 (brdD ps).fives, .bool (okL ps)]) ∧ Below w.heap.size w w' := by
  have con := Lib.hid (c_boardOf A c ps w hr hl)
  clear hr
  go_enter Try.func43, Try.ntmps43
  go_wp2_with (go_at_call 57; refine con.out.mono ?_; rintro e w1 ⟨A1, c1, D1, d1, rfl, ho1, ha1, hb1⟩)
  go_ret2
  exact ⟨rfl, Below.trans hb1 ((Below.refl _ _).alloc hb1.size _)⟩

theorem brd_zero {ps : List (Int × Int × Int)} (h : okL ps = false) : sumL (brdD ps).ps.length (brdD ps).arms = 0 ∧ ptsL (brdD ps).ps.length (brdD ps).arms = 0 ∧ (brdD ps).fives = 0 := by
  rw [brdD_no h]
  exact ⟨rfl, rfl, rfl⟩

set_option maxRecDepth 100000 in
set_option maxHeartbeats 1000000 in
theorem c_implSumOfEnds (A : Option Addr) (c : Nat) (ps : List (Int × Int × Int)) (w : World) (hr : RdP w A ps) (hl : ps.length ≤ 1048576) :
    Calls Try.prog 39 #[.slice A ps.length c] w fun e w' => e = .returned (.tuple #[.int .i64 (sumL (brdD ps).ps.length (brdD ps).arms), .bool (okL ps)]) ∧ Below w.heap.size w w' := by
  have con := Lib.hid (c_boardOf A c ps w hr hl)
  have hB := brdD_ok ps
  have conS := Lib.hid (fun A1 c1 D1 d1 W (h : RdA W D1 (brdD ps).arms) => c_sumOfEnds A1 (brdD ps).ps.length c1 D1 d1 (brdD ps).fives (brdD ps).arms W h hB.four hB.ends hB.len)
  have hz := brd_zero (ps := ps)
  have conT : Calls Try.prog 68 #[.slice A ps.length c, .func (.func 69) #[] #[]] w fun e w' => e = .returned (.tuple #[.int .i64 (sumL (brdD ps).ps.length (brdD ps).arms), .bool (okL ps)]) ∧ Below w.heap.size w w' := by
    cases hok : okL ps
    · rw [hok] at con
      rw [(hz hok).1]
      clear hr hB hz hok
      go_enter Try.func68, Try.ntmps68
      go_wp2_with (go_at_call 57; refine con.out.mono ?_; rintro e w1 ⟨A1, c1, D1, d1, rfl, ho1, ha1, hb1⟩)
      go_ret2
      exact ⟨rfl, Below.trans hb1 ((Below.refl _ _).alloc hb1.size _)⟩
    · rw [hok] at con
      clear hr hB hz hok
      go_enter Try.func68, Try.ntmps68
      go_wp2_with (first | (go_at_call 57; refine con.out.mono ?_; rintro e w1 ⟨A1, c1, D1, d1, rfl, ho1, ha1, hb1⟩; have Ha1 := Lib.hid (RdA.of_own ha1)) | (go_at_call 69; refine (conS.out A1 c1 D1 d1 _ (Ha1.out.below ((Below.refl _ _).alloc (Nat.le_refl _) _))).mono ?_; rintro e w2 ⟨rfl, hb2⟩))
      go_ret2
      exact ⟨rfl, (Below.trans hb1 ((Below.refl _ _).alloc hb1.size _)).trans (hb2.mono (by have := hb1.size; simp; omega))⟩
  have ConT := Lib.hid conT
  clear hr hB conT hz
  go_enter Try.func39, Try.ntmps39
  go_wp2_with (go_at_call 68; refine ConT.out.mono ?_; rintro e w1 ⟨rfl, hb1⟩)
  go_ret2
  exact ⟨rfl, hb1⟩

set_option maxRecDepth 100000 in
set_option maxHeartbeats 1000000 in
theorem c_implFivesOf (A : Option Addr) (c : Nat) (ps : List (Int × Int × Int)) (w : World) (hr : RdP w A ps) (hl : ps.length ≤ 1048576) :
    Calls Try.prog 41 #[.slice A ps.length c] w fun e w' => e = .returned (.tuple #[.int .i64 (ptsL (brdD ps).ps.length (brdD ps).arms), .bool (okL ps)]) ∧ Below w.heap.size w w' := by
  have con := Lib.hid (c_boardOf A c ps w hr hl)
  have hB := brdD_ok ps
  have conS := Lib.hid (fun A1 c1 D1 d1 W (h : RdA W D1 (brdD ps).arms) => c_points A1 (brdD ps).ps.length c1 D1 d1 (brdD ps).fives (brdD ps).arms W h hB.four hB.ends hB.len)
  have hz := brd_zero (ps := ps)
  have conT : Calls Try.prog 68 #[.slice A ps.length c, .func (.func 71) #[] #[]] w fun e w' => e = .returned (.tuple #[.int .i64 (ptsL (brdD ps).ps.length (brdD ps).arms), .bool (okL ps)]) ∧ Below w.heap.size w w' := by
    cases hok : okL ps
    · rw [hok] at con
      rw [(hz hok).2.1]
      clear hr hB hz hok
      go_enter Try.func68, Try.ntmps68
      go_wp2_with (go_at_call 57; refine con.out.mono ?_; rintro e w1 ⟨A1, c1, D1, d1, rfl, ho1, ha1, hb1⟩)
      go_ret2
      exact ⟨rfl, Below.trans hb1 ((Below.refl _ _).alloc hb1.size _)⟩
    · rw [hok] at con
      clear hr hB hz hok
      go_enter Try.func68, Try.ntmps68
      go_wp2_with (first | (go_at_call 57; refine con.out.mono ?_; rintro e w1 ⟨A1, c1, D1, d1, rfl, ho1, ha1, hb1⟩; have Ha1 := Lib.hid (RdA.of_own ha1)) | (go_at_call 71; refine (conS.out A1 c1 D1 d1 _ (Ha1.out.below ((Below.refl _ _).alloc (Nat.le_refl _) _))).mono ?_; rintro e w2 ⟨rfl, hb2⟩))
      go_ret2
      exact ⟨rfl, (Below.trans hb1 ((Below.refl _ _).alloc hb1.size _)).trans (hb2.mono (by have := hb1.size; simp; omega))⟩
  have ConT := Lib.hid conT
  clear hr hB conT hz
  go_enter Try.func41, Try.ntmps41
  go_wp2_with (go_at_call 68; refine ConT.out.mono ?_; rintro e w1 ⟨rfl, hb1⟩)
  go_ret2
  exact ⟨rfl, hb1⟩

set_option maxRecDepth 100000 in
set_option maxHeartbeats 1000000 in
theorem c_tilesOf (A : Option Addr) (c : Nat) (D : Option Addr) (n d : Nat) (f : Int) (ps : List (Int × Int × Int)) (w : World) (hr : RdP w A ps) (hl : ps.length ≤ 28) :
    Calls Try.prog 61 #[.agg #[.slice A ps.length c, .slice D n d, .int .i64 f]] w (RetL w (ps.map tileOf)) := by
  obtain ⟨i0, hi, hz0, hz1, hz2⟩ := info_parts Try.info_tile
  have hml : (ps.map tileOf).length = ps.length := List.length_map _
  have hb0 : Below w.heap.size w (w.alloc (.cells #[.slice A ps.length c, .slice D n d, .int .i64 f] 71)) := by go_grown
  have b0 : (w.alloc (.cells #[.slice A ps.length c, .slice D n d, .int .i64 f] 71)).cell? ⟨w.heap.size, 0, none⟩ = some (.slice A ps.length c) := by simp
  have hs0 : (w.alloc (.cells #[.slice A ps.length c, .slice D n d, .int .i64 f] 71)).heap.size = w.heap.size + 1 := by simp
  go_enter Try.func61, Try.ntmps61
  go_wp2_with (refine wpList_make_full _ rfl _ _ _ rfl (w.heap.size + 1) 60 i0 _ 2 Try.underlying35 hi hz0 hz1 .i64 .i64 _ _ ps.length rfl rfl rfl rfl (by rw [hz2]; omega) (by unfold maxLen; omega) (by simp) ?_; intro w1 hown1 hg1; have hb1 := below_of_grown hg1 (B := w.heap.size + 1) (by simp) (by simp); have b1 := (hb1.cell (p := ⟨w.heap.size, 0, none⟩) (by simp)).trans b0)
  rw [hs0, show ps.length * 2 = (ps.map tileOf).length * 2 from by rw [hml], ← copyL_zero] at hown1
  have hbw1 : Below w.heap.size w w1 := hb0.trans (hb1.mono (by omega))
  clear hg1 hz0 hz1 hz2 hi hb0 b0 hb1
  go_loopw [13] (fun i wr => ∃ k : Nat, k ≤ ps.length ∧ i = .int .i64 k ∧ wr.ownsRow (w.heap.size + 1) 60 2 (.slice (some ⟨w.heap.size + 1, 0, none⟩) ps.length ps.length) ps.length (cellsT (copyL k (ps.map tileOf))) ∧ Below w.heap.size w wr) (fun i _ => ps.length - (intOf i).toNat)
  case atStart => exact ⟨0, Nat.zero_le _, rfl, hown1, hbw1⟩
  case round =>
    clear hown1 hbw1
    obtain ⟨k, hk, rfl, hown, hb⟩ := hrel
    by_cases hlt : k < ps.length
    · obtain ⟨bk, off, rfl, hbk, hc⟩ := hr.at_ hlt
      have g0 := (hb.cell (p := ⟨bk, _, none⟩) hbk).trans (hc k hlt).1
      have g1 := (hb.cell (p := ⟨bk, _, none⟩) hbk).trans (hc k hlt).2.1
      have g2 := (hb.cell (p := ⟨bk, _, none⟩) hbk).trans (hc k hlt).2.2
      have Hb := Lib.hid hb
      have Ho := Lib.hid hown
      have hcg := cellsT_get (copyL k (ps.map tileOf)) k (by rw [copyL_length (by rw [hml]; exact hk), hml]; exact hlt)
      have x0 := (hown.cellAt (k * 2) (by omega)).trans hcg.1
      have x1 := (hown.cellAt (k * 2 + 1) (by omega)).trans hcg.2
      have f0 := hown.frozenAt (k * 2)
      have f1 := hown.frozenAt (k * 2 + 1)
      have hsz := (hown.lt _ rfl).2
      have hst := Lib.hid (copyL_step (ts := ps.map tileOf) (k := k) (by rw [hml]; exact hlt))
      have hz := hb.size
      clear hc hcg hown hb hr
      go_wp2
      go_roundw
      case rel =>
        refine ⟨k + 1, by omega, by go_num, ?_, by have hb0 := Hb.out; have hz0 := hb0.size; exact Below.alloc ((hb0.setCell (p := ⟨w.heap.size + 1, k * 2, none⟩) (by simp) _).setCell (p := ⟨w.heap.size + 1, k * 2 + 1, none⟩) (by simp) _) (by simpa [World.setCell] using hz0) _⟩
        rw [← hst.out]
        have he : (ps.map tileOf)[k]'(by rw [hml]; exact hlt) = (ps[k].1, ps[k].2.1) := by simp [tileOf]
        rw [he]
        exact ((World.ownsRow.stored (Ho.out.stored _ _).1 _ _).1).alloc _
      case measure => simp [intOf]; omega
    · have hke : k = ps.length := by omega
      have he : copyL k (ps.map tileOf) = ps.map tileOf := by rw [hke, ← hml]; exact copyL_all _
      rw [he] at hown
      have Ho := Lib.hid hown
      clear hown he
      go_wp2
      go_ret
      exact ⟨_, ps.length, by rw [hml]; rfl, by rw [hml]; exact own_base Ho.out (by omega), hb⟩

set_option maxRecDepth 100000 in
set_option maxHeartbeats 1000000 in
theorem c_implLaid (A : Option Addr) (c : Nat) (ps : List (Int × Int × Int)) (w : World) (hr : RdP w A ps) (hl : ps.length ≤ 1048576) :
    Calls Try.prog 27 #[.slice A ps.length c] w (RetT w ((brdD ps).ps.map tileOf) (okL ps)) := by
  have con := Lib.hid (c_boardOf A c ps w hr hl)
  have hB := brdD_ok ps
  have conS := Lib.hid (fun A1 c1 D1 d1 W (h : RdP W A1 (brdD ps).ps) => c_tilesOf A1 c1 D1 (brdD ps).arms.length d1 (brdD ps).fives (brdD ps).ps W h hB.len)
  have hz : okL ps = false → (brdD ps).ps.map tileOf = [] := fun h => by rw [brdD_no h]; rfl
  have conT : Calls Try.prog 60 #[.slice A ps.length c, .func (.func 61) #[] #[]] w (RetT w ((brdD ps).ps.map tileOf) (okL ps)) := by
    cases hok : okL ps
    · rw [hok] at con
      rw [hz hok]
      clear hr hB hz hok
      go_enter Try.func60, Try.ntmps60
      go_wp2_with (go_at_call 57; refine con.out.mono ?_; rintro e w1 ⟨A1, c1, D1, d1, rfl, ho1, ha1, hb1⟩)
      go_ret2
      exact ⟨none, 0, rfl, World.ownsRow_nil _ _ _ _, Below.trans hb1 ((Below.refl _ _).alloc hb1.size _)⟩
    · rw [hok] at con
      clear hr hB hz hok
      go_enter Try.func60, Try.ntmps60
      go_wp2_with (first | (go_at_call 57; refine con.out.mono ?_; rintro e w1 ⟨A1, c1, D1, d1, rfl, ho1, ha1, hb1⟩; have Ho1 := Lib.hid (RdP.of_own ho1); have hbx := Below.trans hb1 ((Below.refl _ _).alloc hb1.size (.cells #[.slice A1 (brdD ps).ps.length c1, .slice D1 (brdD ps).arms.length d1, .int .i64 (brdD ps).fives] 71))) | (go_at_call 61; refine (conS.out A1 c1 D1 d1 _ (Ho1.out.below ((Below.refl _ _).alloc (Nat.le_refl _) _))).mono ?_; rintro e w2 ⟨A2, c2, rfl, ho2, hb2⟩))
      go_ret2
      exact ⟨A2, c2, by simp, own_base ho2 hbx.size, bstep hbx hb2⟩
  have ConT := Lib.hid conT
  clear hr hB conT hz
  go_enter Try.func27, Try.ntmps27
  go_wp2_with (go_at_call 60; refine ConT.out.mono ?_; rintro e w1 ⟨A1, c1, rfl, ho1, hb1⟩)
  go_ret2
  exact ⟨A1, c1, by simp, ho1, hb1⟩
end Go.Proofs.Ytllfjffcogpaiaa

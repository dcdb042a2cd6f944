/- The program's answers on blocks. -/
import Derived.Test.YtjbdflkbclhonaaBlkJ
namespace Go.Proofs.Ytjbdflkbclhonaa
open Go.RowKit
set_option linter.unusedVariables false

theorem own_capM {w : World} {base e size n c : Nat} {A : Option Addr} {cs : List Value} (h : w.ownsRow base e size (.slice A n c) n cs) : c ≤ 9223372036854775807 := by
  obtain ⟨_, ⟨hv, hn⟩ | ⟨g, cap, cur, hv, _, _, _, hm, _⟩⟩ := h
  · injection hv with h1 h2 h3
    omega
  · injection hv with h1 h2 h3
    unfold maxLen at hm
    omega

theorem blkF_yes {rss : List (List Int)} (h : blkB rss = true) : blkF rss = rss.flatten := by simp [blkF, h]

theorem blkW_yes {rss : List (List Int)} (h : blkB rss = true) : blkW rss = widB rss := by simp [blkW, h]

theorem blkF_no {rss : List (List Int)} (h : blkB rss = false) : blkF rss = [] := by simp [blkF, h]

theorem blkW_no {rss : List (List Int)} (h : blkB rss = false) : blkW rss = 0 := by simp [blkW, h]

/-- The block of rows, told with its numbers F, its width and height. -/
theorem c_blockYes (A : Option Addr) (c : Nat) (rss : List (List Int)) (w : World) (hr : RdII w A rss) (hl : rss.length ≤ 9223372036854775807) (hlr : ∀ k, k < rss.length → (rss.getD k []).length ≤ 9223372036854775807) (h : blkB rss = true) :
    Calls Try.prog 72 #[.slice A rss.length c] w fun e w' => ∃ A2 c2, e = .returned (.tuple #[.agg #[.slice A2 rss.flatten.length c2, .int .i64 (widB rss)], .bool true]) ∧ w'.ownsRow w.heap.size 3 1 (.slice A2 rss.flatten.length c2) rss.flatten.length (cellsI rss.flatten) ∧ rss.flatten.length ≤ c2 ∧ c2 ≤ 9223372036854775807 ∧ Below w.heap.size w w' :=
  (c_blockOf A c rss w hr hl hlr).mono fun e w' ⟨A2, c2, h1, h2, h3⟩ => by
    rw [blkF_yes h, blkW_yes h, h] at h1
    rw [blkF_yes h] at h2
    exact ⟨A2, c2, h1, h2, own_cap h2, own_capM h2, h3⟩

theorem c_blockNo (A : Option Addr) (c : Nat) (rss : List (List Int)) (w : World) (hr : RdII w A rss) (hl : rss.length ≤ 9223372036854775807) (hlr : ∀ k, k < rss.length → (rss.getD k []).length ≤ 9223372036854775807) (h : blkB rss = false) :
    Calls Try.prog 72 #[.slice A rss.length c] w fun e w' => ∃ A2 c2, e = .returned (.tuple #[.agg #[.slice A2 0 c2, .int .i64 0], .bool false]) ∧ Below w.heap.size w w' :=
  (c_blockOf A c rss w hr hl hlr).mono fun e w' ⟨A2, c2, h1, h2, h3⟩ => by
    rw [blkF_no h, blkW_no h, h] at h1
    exact ⟨A2, c2, h1, h3⟩

theorem flat_bd {rss : List (List Int)} (h : blkB rss = true) (k : Nat) : 0 ≤ rss.flatten.getD k 0 ∧ rss.flatten.getD k 0 ≤ 9 := by
  have := numB_getD (pairs2_num (shape_even (blk_shape h)) (blk_hand h)) k
  simpa [numB] using this

theorem flat_rows {rss : List (List Int)} (h : shapeP rss) : sumsL (fun i j => rss.flatten.getD (i * widB rss + j) 0) rss.length (widB rss) = sumsL (matF rss) rss.length (widB rss) :=
  sumsL_same fun i j hi hj => flat_get rss (widB rss) h.2.2.2 i j hi hj

theorem flat_cols {rss : List (List Int)} (h : shapeP rss) : sumsL (fun i j => rss.flatten.getD (j * widB rss + i) 0) (widB rss) rss.length = sumsL (fun c i => matF rss i c) (widB rss) rss.length :=
  sumsL_same fun i j hi hj => flat_get rss (widB rss) h.2.2.2 j i hj hi

set_option maxRecDepth 100000 in
set_option maxHeartbeats 1000000 in
theorem c_implIsBlock (A : Option Addr) (c : Nat) (rss : List (List Int)) (w : World) (hr : RdII w A rss) (hl : rss.length ≤ 9223372036854775807) (hlr : ∀ k, k < rss.length → (rss.getD k []).length ≤ 9223372036854775807) :
    Calls Try.prog 41 #[.slice A rss.length c] w fun e w' => e = .returned (.bool (blkB rss)) ∧ Below w.heap.size w w' := by
  have con := Lib.hid (c_blockOf A c rss w hr hl hlr)
  unfold RetBlk at con
  generalize blkF rss = F at *
  clear hr hlr
  go_enter Try.func41, Try.ntmps41
  go_wp2_with (go_at_call 72; refine con.out.mono ?_; rintro e w1 ⟨A1, c1, rfl, ho1, hb1⟩)
  go_ret
  exact ⟨rfl, hb1.alloc hb1.size _⟩

set_option maxRecDepth 100000 in
set_option maxHeartbeats 2000000 in
theorem c_implBlkTiles (A : Option Addr) (c : Nat) (rss : List (List Int)) (w : World) (hr : RdII w A rss) (hl : rss.length ≤ 9223372036854775807) (hlr : ∀ k, k < rss.length → (rss.getD k []).length ≤ 9223372036854775807) :
    Calls Try.prog 44 #[.slice A rss.length c] w (RetT w (blkT rss) (blkB rss)) := by
  cases hw : blkB rss
  · have con := Lib.hid (c_blockNo A c rss w hr hl hlr hw)
    have e1 : blkT rss = [] := by simp [blkT, hw]
    rw [e1]
    clear e1
    clear hr hw hlr
    go_enter Try.func44, Try.ntmps44
    go_wp2_with (go_at_call 72; refine con.out.mono ?_; rintro e w1 ⟨A1, c1, rfl, hb1⟩)
    go_ret2
    exact ⟨none, 0, rfl, World.ownsRow_nil _ _ _ _, hb1.alloc hb1.size _⟩
  · have con := Lib.hid (c_blockYes A c rss w hr hl hlr hw)
    have hs := blk_shape hw
    have hfl := flat_len hs.2.2.2
    have e1 : blkT rss = handT rss.flatten := by rw [handT_yes (blk_hand hw)]; simp [blkT, hw]
    rw [e1]
    have hW4 : widB rss ≤ 4 := by have := hs.2.2.1; omega
    have hln : rss.flatten.length ≤ 1048576 := by
      rw [hfl]
      have : rss.length * widB rss ≤ 3 * 4 := Nat.mul_le_mul hs.2.1 hW4
      omega
    have conT := Lib.hid (fun W A' c' base (ho : W.ownsRow base 3 1 (.slice A' rss.flatten.length c') rss.flatten.length (cellsI rss.flatten)) => c_tilesOfPairs A' c' rss.flatten W (RdI.of_own ho) hln)
    rw [blk_hand hw] at conT
    clear hr hw hlr hs hfl e1 hln hW4
    generalize rss.flatten = F at *
    generalize handT F = T at *
    generalize widB rss = W at *
    go_enter Try.func44, Try.ntmps44
    go_wp2_with (first | (go_at_call 72; refine con.out.mono ?_; rintro e w1 ⟨A1, c1, rfl, ho1, hc1, hm1, hb1⟩; have Ho1 := Lib.hid (ho1.alloc (.cells #[.slice A1 F.length c1, .int .i64 W] 63)); have Hb1 := Lib.hid (hb1.alloc hb1.size (.cells #[.slice A1 F.length c1, .int .i64 W] 63)); clear ho1 hb1) | (go_at_call 53; refine (conT.out _ _ _ _ Ho1.out).mono ?_; rintro e w2 ⟨A2, c2, rfl, ho2, hb2⟩))
    go_ret2
    exact ⟨A2, c2, rfl, own_base ho2 Hb1.out.size, bstep Hb1.out hb2⟩

set_option maxRecDepth 100000 in
set_option maxHeartbeats 2000000 in
theorem c_implRowSums (A : Option Addr) (c : Nat) (rss : List (List Int)) (w : World) (hr : RdII w A rss) (hl : rss.length ≤ 9223372036854775807) (hlr : ∀ k, k < rss.length → (rss.getD k []).length ≤ 9223372036854775807) :
    Calls Try.prog 47 #[.slice A rss.length c] w (RetI w (blkL rss (sumsL (matF rss) rss.length (widB rss))) (blkB rss)) := by
  cases hw : blkB rss
  · have con := Lib.hid (c_blockNo A c rss w hr hl hlr hw)
    rw [blkL_no hw]
    clear hr hw hlr
    go_enter Try.func47, Try.ntmps47
    go_wp2_with (go_at_call 72; refine con.out.mono ?_; rintro e w1 ⟨A1, c1, rfl, hb1⟩)
    go_ret2
    exact ⟨none, 0, rfl, World.ownsRow_nil _ _ _ _, hb1.alloc hb1.size _⟩
  · have con := Lib.hid (c_blockYes A c rss w hr hl hlr hw)
    have hs := blk_shape hw
    have hfl := flat_len hs.2.2.2
    rw [blkL_yes hw, ← flat_rows hs]
    have conT := Lib.hid (fun W A' c' base (ho : W.ownsRow base 3 1 (.slice A' rss.flatten.length c') rss.flatten.length (cellsI rss.flatten)) hc hm => c_blkRowSums A' rss.flatten.length c' (widB rss) rss.length rss.flatten W (RdI.of_own ho) rfl hfl (by have := hs.2.2.1; omega) (by have := hs.2.2.1; omega) (by have := hs.1; omega) hs.2.1 hc hm (flat_bd hw))
    generalize hS : sumsL _ _ _ = S at *
    clear hr hw hlr hs hfl hS
    generalize rss.flatten = F at *
    generalize widB rss = W at *
    go_enter Try.func47, Try.ntmps47
    go_wp2_with (first | (go_at_call 72; refine con.out.mono ?_; rintro e w1 ⟨A1, c1, rfl, ho1, hc1, hm1, hb1⟩; have Ho1 := Lib.hid (ho1.alloc (.cells #[.slice A1 F.length c1, .int .i64 W] 63)); have Hb1 := Lib.hid (hb1.alloc hb1.size (.cells #[.slice A1 F.length c1, .int .i64 W] 63)); clear ho1 hb1) | (go_at_call 75; refine (conT.out _ _ _ _ Ho1.out hc1 hm1).mono ?_; rintro e w2 ⟨A2, c2, rfl, ho2, hb2⟩))
    go_ret2
    exact ⟨A2, c2, rfl, own_base ho2 Hb1.out.size, bstep Hb1.out hb2⟩

set_option maxRecDepth 100000 in
set_option maxHeartbeats 2000000 in
theorem c_implColSums (A : Option Addr) (c : Nat) (rss : List (List Int)) (w : World) (hr : RdII w A rss) (hl : rss.length ≤ 9223372036854775807) (hlr : ∀ k, k < rss.length → (rss.getD k []).length ≤ 9223372036854775807) :
    Calls Try.prog 49 #[.slice A rss.length c] w (RetI w (blkL rss (sumsL (fun c i => matF rss i c) (widB rss) rss.length)) (blkB rss)) := by
  cases hw : blkB rss
  · have con := Lib.hid (c_blockNo A c rss w hr hl hlr hw)
    rw [blkL_no hw]
    clear hr hw hlr
    go_enter Try.func49, Try.ntmps49
    go_wp2_with (go_at_call 72; refine con.out.mono ?_; rintro e w1 ⟨A1, c1, rfl, hb1⟩)
    go_ret2
    exact ⟨none, 0, rfl, World.ownsRow_nil _ _ _ _, hb1.alloc hb1.size _⟩
  · have con := Lib.hid (c_blockYes A c rss w hr hl hlr hw)
    have hs := blk_shape hw
    have hfl := flat_len hs.2.2.2
    rw [blkL_yes hw, ← flat_cols hs]
    have conT := Lib.hid (fun W A' c' base (ho : W.ownsRow base 3 1 (.slice A' rss.flatten.length c') rss.flatten.length (cellsI rss.flatten)) hc hm => c_blkColSums A' rss.flatten.length c' (widB rss) rss.length rss.flatten W (RdI.of_own ho) rfl hfl (by have := hs.2.2.1; omega) (by have := hs.2.2.1; omega) (by have := hs.1; omega) hs.2.1 hc hm (flat_bd hw))
    generalize hS : sumsL _ _ _ = S at *
    clear hr hw hlr hs hfl hS
    generalize rss.flatten = F at *
    generalize widB rss = W at *
    go_enter Try.func49, Try.ntmps49
    go_wp2_with (first | (go_at_call 72; refine con.out.mono ?_; rintro e w1 ⟨A1, c1, rfl, ho1, hc1, hm1, hb1⟩; have Ho1 := Lib.hid (ho1.alloc (.cells #[.slice A1 F.length c1, .int .i64 W] 63)); have Hb1 := Lib.hid (hb1.alloc hb1.size (.cells #[.slice A1 F.length c1, .int .i64 W] 63)); clear ho1 hb1) | (go_at_call 77; refine (conT.out _ _ _ _ Ho1.out hc1 hm1).mono ?_; rintro e w2 ⟨A2, c2, rfl, ho2, hb2⟩))
    go_ret2
    exact ⟨A2, c2, rfl, own_base ho2 Hb1.out.size, bstep Hb1.out hb2⟩

end Go.Proofs.Ytjbdflkbclhonaa

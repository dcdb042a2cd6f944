/- TurnTable on both sides. -/
import Derived.Test.YtjbdflkbclhonabDoorTabWm
namespace Go.Proofs.YtjbdflkbclhonabDoor
open Go.RowKit
set_option linter.unusedVariables false

/-- The cell that stands at t behind the turn by a quarter. -/
def tix (W H t : Nat) : Nat := (H - 1 - t % H) * W + t / H

theorem tix_lt {W H n t : Nat} (hH : 0 < H) (hn : n = H * W) (ht : t < n) : tix W H t < n := by
  unfold tix
  have h1 := Nat.mod_lt t hH
  have h2 : t / H < W := by rw [Nat.div_lt_iff_lt_mul hH, Nat.mul_comm, ← hn]; exact ht
  have h3 : (H - 1 - t % H) * W + W ≤ n := by
    rw [hn, ← Nat.succ_mul]
    exact Nat.mul_le_mul_right _ (by omega)
  omega

theorem tix_at {W H x y : Nat} (hx : x < H) : tix W H (y * H + x) = (H - 1 - x) * W + y := by
  unfold tix
  have h1 : (y * H + x) % H = x := by rw [Nat.add_comm, Nat.add_mul_mod_self_right]; exact Nat.mod_eq_of_lt hx
  have h2 : (y * H + x) / H = y := by rw [Nat.add_comm, Nat.add_mul_div_right _ _ (by omega), Nat.div_eq_of_lt hx, Nat.zero_add]
  rw [h1, h2]

def turS (s : ByteArray) : ByteArray := if tabB s then txB (hgtK true s) (fun t => (cellsK true s).getD (tix (widK true s) (hgtK true s) t) 0) (cellsK true s).length else ⟨#[]⟩

theorem turS_yes {s : ByteArray} (h : tabB s = true) : turS s = txB (hgtK true s) (fun t => (cellsK true s).getD (tix (widK true s) (hgtK true s) t) 0) (cellsK true s).length := by
  unfold turS
  rw [h]
  rfl

theorem turS_no {s : ByteArray} (h : tabB s = false) : turS s = ⟨#[]⟩ := by
  unfold turS
  rw [h]
  rfl

def turD (W H : Nat) (D : List Int) : List Int := (List.range D.length).map fun t => D.getD (tix W H t) 0

theorem turD_len (W H : Nat) (D : List Int) : (turD W H D).length = D.length := by simp [turD]

theorem turD_step {W H k : Nat} {D : List Int} (h : k < D.length) : (turD W H D).take (k + 1) = (turD W H D).take k ++ [D.getD (tix W H k) 0] := by
  rw [List.take_succ_eq_append_getElem (by rw [turD_len]; exact h)]
  congr 1
  simp [turD]

theorem turD_num {W H : Nat} {D : List Int} (h : ∀ x ∈ D, numB x = true) : ∀ x ∈ turD W H D, numB x = true := by
  intro x hx
  unfold turD at hx
  obtain ⟨t, _, rfl⟩ := List.mem_map.1 hx
  rw [List.getD_eq_getElem?_getD]
  by_cases h2 : tix W H t < D.length
  · rw [List.getElem?_eq_getElem h2]
    exact h _ (List.getElem_mem h2)
  · rw [List.getElem?_eq_none (by omega)]
    rfl

theorem tur_text {W H : Nat} {L : List UInt8} (hH : 0 < H) (hn : L.length = H * W) (h : ∀ b ∈ L, digB b = true) : txB H (fun j => dgV ((turD W H (digL L)).getD j 0)) L.length = txB H (fun t => L.getD (tix W H t) 0) L.length := by
  refine txB_same fun j hj => ?_
  have h1 := tix_lt hH hn hj
  have e1 : (turD W H (digL L)).getD j 0 = (digL L).getD (tix W H j) 0 := by
    unfold turD
    rw [List.getD_eq_getElem?_getD, List.getElem?_map, List.getElem?_range (by rw [digL_len]; exact hj)]
    rfl
  have e2 : (digL L).getD (tix W H j) 0 = (L[tix W H j].toNat : Int) - 48 := by
    rw [List.getD_eq_getElem?_getD, List.getElem?_eq_getElem (by rw [digL_len]; exact h1)]
    simp [digL]
  have e3 : L.getD (tix W H j) 0 = L[tix W H j] := by
    rw [List.getD_eq_getElem?_getD, List.getElem?_eq_getElem h1]
    rfl
  rw [e1, e2, e3]
  exact dgV_dig (h _ (List.getElem_mem h1))

/-- What is laid behind y rows and x cells of the next one. -/
def turF (F : Nat → Int) (W H y x t : Nat) : Int := if H - 1 - t % H < y ∨ (H - 1 - t % H = y ∧ t / H < x) then F (tix W H t) else 0

theorem turF_zero (F : Nat → Int) (W H t : Nat) : turF F W H 0 0 t = 0 := by
  unfold turF
  generalize t / H = u
  generalize t % H = v
  rw [if_neg (by omega)]

theorem turF_row {F : Nat → Int} {W H n : Nat} (hH : 0 < H) (hn : n = H * W) (y t : Nat) (ht : t < n) : turF F W H y W t = turF F W H (y + 1) 0 t := by
  unfold turF
  have h2 : t / H < W := by rw [Nat.div_lt_iff_lt_mul hH, Nat.mul_comm, ← hn]; exact ht
  generalize tix W H t = z
  generalize t / H = u at *
  generalize t % H = v at *
  by_cases h : H - 1 - v < y ∨ (H - 1 - v = y ∧ u < W)
  · rw [if_pos h, if_pos (by omega)]
  · rw [if_neg h, if_neg (by omega)]

theorem turF_all {F : Nat → Int} {W H : Nat} (hH : 0 < H) (t : Nat) : turF F W H H 0 t = F (tix W H t) := by
  unfold turF
  rw [if_pos (by omega)]

theorem turF_step {F : Nat → Int} {W H : Nat} (hH : 0 < H) (y x t : Nat) (hy : y < H) : (if t = x * H + (H - 1 - y) then F (y * W + x) else turF F W H y x t) = turF F W H y (x + 1) t := by
  have h1 := Nat.div_add_mod t H
  have h2 := Nat.mod_lt t hH
  by_cases e : t = x * H + (H - 1 - y)
  · rw [if_pos e]
    have ht := tix_at (W := W) (y := x) (show H - 1 - y < H by omega)
    have hd : t / H = x := by rw [e, Nat.add_comm, Nat.add_mul_div_right _ _ hH, Nat.div_eq_of_lt (by omega), Nat.zero_add]
    have hm : t % H = H - 1 - y := by rw [e, Nat.add_comm, Nat.add_mul_mod_self_right]; exact Nat.mod_eq_of_lt (by omega)
    unfold turF
    rw [if_pos (by omega)]
    rw [← e] at ht
    rw [ht, show H - 1 - (H - 1 - y) = y from by omega]
  · rw [if_neg e]
    have hne : ¬ (H - 1 - t % H = y ∧ t / H = x) := by
      rintro ⟨a, b⟩
      apply e
      rw [← b, Nat.mul_comm]
      omega
    unfold turF
    by_cases h : H - 1 - t % H < y ∨ (H - 1 - t % H = y ∧ t / H < x)
    · rw [if_pos h, if_pos (by omega)]
    · rw [if_neg h, if_neg (by omega)]

theorem Tryd.info_u8V : (Tryd.prog.info? 5).map (fun i => (i.zero, i.size, i.bytes)) = some (some (.int .u8 0), 1, 1) := by kernel_rfl

set_option maxRecDepth 100000 in
set_option maxHeartbeats 2000000 in
theorem c_blankGrid (a b n : Nat) (w : World) (hab : (a : Int) * (b : Int) = (n : Int)) (hn : n ≤ 60) (ha : a ≤ 60) (hb : b ≤ 60) :
    Calls Tryd.prog 39 #[.int .i64 a, .int .i64 b] w fun e w' => e = .returned (.agg #[.slice (some ⟨w.heap.size + 1, 0, none⟩) n n, .int .i64 a]) ∧ BytA w' (w.heap.size + 1) n (fun _ => 0) ∧ Below w.heap.size w w' ∧ w.heap.size + 1 < w'.heap.size := by
  obtain ⟨v1, hv1⟩ : ∃ v1, v1 = w.alloc (.cells #[.slice none 0 0, .int .i64 0] 53) := ⟨_, rfl⟩
  have hb0 : Below w.heap.size w v1 := by rw [hv1]; go_grown
  have r0 : v1.cell? ⟨w.heap.size, 0, none⟩ = some (.slice none 0 0) := by rw [hv1]; simp
  have r1 : v1.cell? ⟨w.heap.size, 1, none⟩ = some (.int .i64 0) := by rw [hv1]; simp
  have f0 : v1.frozen? ⟨w.heap.size, 0, none⟩ = false := by rw [hv1]; exact frozen_freshT _ _ _ _
  have f1 : v1.frozen? ⟨w.heap.size, 1, none⟩ = false := by rw [hv1]; exact frozen_freshT _ _ _ _
  have hz1 : v1.heap.size = w.heap.size + 1 := by rw [hv1]; simp
  have iw : IntKind.i64.wrap (n : Int) = (n : Int) := IntWalk.i64_in _ (by omega)
  obtain ⟨i0, hi, hq0, hq1, hq2⟩ := info_parts Tryd.info_u8V
  go_enter Tryd.func39, Tryd.ntmps39
  go_wp2_with (rw [← hv1]; clear hv1; refine wpList_make_full _ rfl _ _ _ rfl v1.heap.size 5 i0 _ 1 Tryd.underlying51 hi hq0 hq1 .i64 .i64 _ _ n rfl rfl rfl rfl (by rw [hq2]; omega) (by unfold maxLen; omega) (Nat.le_refl _) ?_; intro w2 hown2 hg2; have hb2 : Below v1.heap.size v1 w2 := below_of_grown hg2 (Nat.le_refl _) (by simp); have s0 := keepc hb2 r0; have s1 := keepc hb2 r1; have g0 := (hb2.frozen (p := ⟨w.heap.size, 0, none⟩) (block_lt r0)).trans f0; have g1 := (hb2.frozen (p := ⟨w.heap.size, 1, none⟩) (block_lt r1)).trans f1; have hsz : w.heap.size < w2.heap.size := block_lt s0)
  rw [hz1] at hown2 hb2
  have hB : BytA w2 (w.heap.size + 1) n (fun _ => 0) := fun j hj => by
    refine ⟨(hown2.cellAt j (by omega)).trans ?_, hown2.frozenAt j⟩
    rw [Nat.mul_one]
    refine Eq.trans (congrArg (fun l : List Value => l[j]?) (toList_madeCells_one (.int .u8 0) n)) ?_
    simp [hj]
  have hz2 : w.heap.size + 1 < w2.heap.size := (hown2.lt _ rfl).2
  have n0 : w.heap.size ≠ w.heap.size + 1 := by omega
  refine bodyPost_ret (v := .agg #[.slice (some ⟨w.heap.size + 1, 0, none⟩) n n, .int .i64 a]) (by simp [results, Tryd.results39, go_sem, s0, s1]) rfl ?_
  refine ⟨rfl, fun j hj => ⟨farT n0 (farT n0 (hB j hj).1), (World.frozen?_setCell _ _ _ _).trans ((World.frozen?_setCell _ _ _ _).trans (hB j hj).2)⟩, ((bstep hb0 (by rw [hz1]; exact hb2)).setCell (p := ⟨w.heap.size, 0, none⟩) (Nat.le_refl _) _).setCell (p := ⟨w.heap.size, 1, none⟩) (Nat.le_refl _) _, by simp; omega⟩

set_option maxRecDepth 100000 in
set_option maxHeartbeats 4000000 in
theorem c_specTurnT (s : ByteArray) (w : World) (hl : s.size ≤ 1048576) :
    Calls Tryd.prog 20 #[.string s] w fun e w' => e = .returned (.tuple #[.string (turS s), .bool (tabB s)]) ∧ Below w.heap.size w w' := by
  have con := Lib.hid (c_taRead s w hl)
  unfold RetTab at con
  cases ht : tabB s
  · rw [turS_no ht]
    rw [ht, cellsK_no, widK_no, hgtK_no] at con
    clear ht
    go_enter Tryd.func20, Tryd.ntmps20
    go_wp2_with (go_at_call 24; refine con.out.mono ?_; rintro e w1 ⟨A, c, rfl, hO, hb1⟩; have Hb := Lib.hid hb1; clear hb1 hO)
    go_ret2
    exact ⟨rfl, Hb.out.alloc Hb.out.size _⟩
  · obtain ⟨h1, h2, h3, h4, h5, h6⟩ := tab_small ht
    have hHpos : 0 < hgtK true s := by
      rcases Nat.eq_zero_or_pos (hgtK true s) with h | h
      · rw [h, Nat.zero_mul] at h6; omega
      · exact h
    rw [turS_yes ht, ← tur_text hHpos h6 (tab_dig ht)]
    rw [ht] at con
    have hnum := digL_num (tab_dig ht)
    have hdl := digL_len (cellsK true s)
    rw [← hdl] at h3 h4 h6
    rw [← hdl]
    generalize digL (cellsK true s) = D at *
    generalize widK true s = W at *
    generalize hgtK true s = H at *
    have HD := Lib.hid (fun A c W0 (hA : RdI W0 A (turD W H D)) => c_taDigits H W D.length A c (turD W H D) W0 hA (turD_len W H D) (turD_num hnum) hHpos (by omega) (by omega))
    have Hst := Lib.hid (fun k (h : k < D.length) => turD_step (W := W) (H := H) h)
    have Hall := Lib.hid (show (turD W H D).take (W * H) = turD W H D from by rw [Nat.mul_comm, ← h6, ← turD_len W H D, List.take_length])
    have Hrl := Lib.hid (fun k (h : k < D.length) => tix_lt hHpos h6 h)
    have Hlen := Lib.hid (fun k (h : k ≤ D.length) => (show ((turD W H D).take k).length = k from by rw [List.length_take, turD_len]; omega))
    have Hmul := Lib.hid (fun y (h : y < W) => (show y * H + H ≤ D.length from by rw [h6, Nat.mul_comm H W, ← Nat.succ_mul]; exact Nat.mul_le_mul_right _ h))
    have H6 := Lib.hid (show W * H = D.length from by rw [h6, Nat.mul_comm])
    generalize turD W H D = M at *
    generalize txB H (fun j => dgV (M.getD j 0)) D.length = R at *
    clear ht hnum hdl h4 h6
    go_enter Tryd.func20, Tryd.ntmps20
    go_wp2_with (go_at_call 24; refine con.out.mono ?_; rintro e w1 ⟨A, c, rfl, hO, hb1⟩; have x0 : (w1.alloc (.cells #[.int .i64 (W : Int), .int .i64 (H : Int), .slice A D.length c] 46)).cell? ⟨w1.heap.size, 0, none⟩ = some (.int .i64 (W : Int)) := (by simp); have x1 : (w1.alloc (.cells #[.int .i64 (W : Int), .int .i64 (H : Int), .slice A D.length c] 46)).cell? ⟨w1.heap.size, 1, none⟩ = some (.int .i64 (H : Int)) := (by simp); have x2 : (w1.alloc (.cells #[.int .i64 (W : Int), .int .i64 (H : Int), .slice A D.length c] 46)).cell? ⟨w1.heap.size, 2, none⟩ = some (.slice A D.length c) := (by simp); have HR := Lib.hid ((RdI.of_own hO).below ((Below.refl w1.heap.size w1).alloc (Nat.le_refl _) (.cells #[.int .i64 (W : Int), .int .i64 (H : Int), .slice A D.length c] 46))); have Hb := Lib.hid (hb1.alloc hb1.size (.cells #[.int .i64 (W : Int), .int .i64 (H : Int), .slice A D.length c] 46)); clear hb1 hO)
    obtain ⟨v1, hv1⟩ : ∃ v1, v1 = w1.alloc (.cells #[.int .i64 (W : Int), .int .i64 (H : Int), .slice A D.length c] 46) := ⟨_, rfl⟩
    have hzv : v1.heap.size = w1.heap.size + 1 := by rw [hv1]; simp
    rw [← hzv]
    rw [← hv1] at x0 x1 x2 HR Hb ⊢
    obtain ⟨w2, hw2⟩ : ∃ w2, w2 = v1.alloc (.cells #[.int .i64 (H : Int), .int .i64 (W : Int), .slice none 0 0] 46) := ⟨_, rfl⟩
    have hG2 : GridAt v1 w2 (H : Int) (W : Int) none 0 [] := by
      refine ⟨?_, ?_, ?_, ?_, World.ownsRow_nil _ _ _ _, ?_⟩ <;> rw [hw2]
      · simp
      · simp
      · simp
      · exact frozen_freshT _ _ _ _
      · exact (Below.refl _ _).alloc (Nat.le_refl _) _
    rw [← hw2]
    have Hzv := Lib.hid hzv
    clear hw2 hv1 con hzv
    have hW60 : W ≤ 60 := by omega
    have hH60 : H ≤ 60 := by omega
    go_loopw [7] (fun i wr => ∃ (y : Nat) (A3 : Option Addr) (c3 : Nat), y ≤ W ∧ i = .int .i64 y ∧ GridAt v1 wr (H : Int) (W : Int) A3 c3 (M.take (y * H))) (fun i _ => W - (intOf i).toNat)
    case atStart => exact ⟨0, none, 0, Nat.zero_le _, rfl, by rw [Nat.zero_mul, List.take_zero]; exact hG2⟩
    case round =>
      clear hG2
      obtain ⟨y, A3, c3, hy, rfl, hG⟩ := hrel
      by_cases hyl : y < W
      · have o1 := hG.c1
        have hym := Hmul.out y hyl
        have hWy : (y : Int) < (W : Int) := by omega
        have HG0 := Lib.hid hG
        clear hG
        go_wp2
        obtain ⟨wo, rfl⟩ : ∃ wo, wo = wr := ⟨_, rfl⟩
        go_loopw [8] (fun i wr => ∃ (x : Nat) (A3 : Option Addr) (c3 : Nat), x ≤ H ∧ i = .int .i64 x ∧ GridAt v1 wr (H : Int) (W : Int) A3 c3 (M.take (y * H + x))) (fun i _ => H - (intOf i).toNat)
        case atStart => exact ⟨0, A3, c3, Nat.zero_le _, rfl, HG0.out⟩
        case round =>
          clear HG0 o1
          obtain ⟨x, A3, c3, hx, rfl, hG⟩ := hrel
          have o0 := hG.c0
          by_cases hxl : x < H
          · have hkl : y * H + x < D.length := by omega
            obtain ⟨bd, od, rfl, hbd, hcd⟩ := HR.out.at_ hkl
            have hzl := Hrl.out _ hkl
            have yp := keepc hG.low (hcd _ hzl)
            have y0 := keepc hG.low x0
            have y1 := keepc hG.low x1
            have y2 := keepc hG.low x2
            have hst := Hst.out _ hkl
            have hgd : D.getD (tix W H (y * H + x)) 0 = D[tix W H (y * H + x)] := by rw [List.getD_eq_getElem?_getD, List.getElem?_eq_getElem hzl]; rfl
            rw [hgd] at hst
            have Hst2 := Lib.hid hst
            have hln := Hlen.out _ (Nat.le_of_lt hkl)
            have hz := tix_at (W := W) (y := y) hxl
            have haW : (H - 1 - x) * W + W ≤ D.length := by rw [← H6.out, Nat.mul_comm W H, ← Nat.succ_mul]; exact Nat.mul_le_mul_right _ (by omega)
            obtain ⟨a, ha⟩ : ∃ a, a = (H - 1 - x) * W := ⟨_, rfl⟩
            obtain ⟨d, hd⟩ : ∃ d, d = H - 1 := ⟨_, rfl⟩
            obtain ⟨u, hu⟩ : ∃ u, u = H - 1 - x := ⟨_, rfl⟩
            have hqm : (u : Int) * (W : Int) = (a : Int) := by rw [ha, hu]; rfl
            rw [← ha] at hz haW
            generalize D[tix W H (y * H + x)] = p at *
            generalize tix W H (y * H + x) = z at *
            obtain ⟨k, hk⟩ : ∃ k, k = y * H + x := ⟨_, rfl⟩
            have iwa : IntKind.i64.wrap (a : Int) = (a : Int) := IntWalk.i64_in _ (by omega)
            have iw1 : IntKind.i64.wrap ((H : Int) - 1) = (d : Int) := by rw [IntWalk.i64_in _ (by omega)]; omega
            have iw2 : IntKind.i64.wrap ((d : Int) - (x : Int)) = (u : Int) := by rw [IntWalk.i64_in _ (by omega)]; omega
            have iw3 : IntKind.i64.wrap ((a : Int) + (y : Int)) = (z : Int) := by rw [IntWalk.i64_in _ (by omega)]; omega
            have j2 : (0 : Int) ≤ (z : Int) := by omega
            have j3 : (z : Int) < (D.length : Int) := by omega
            have jx : (x : Int) < (H : Int) := by omega
            have k60 : k ≤ 60 := by omega
            have Hk1 := Lib.hid (show y * H + (x + 1) = k + 1 from by omega)
            rw [← hk] at hln Hst2 hG
            have HG := Lib.hid hG
            have e2 := hG.c2
            rw [hln] at e2
            have hzb := hG.lt
            have n1 : v1.heap.size ≠ w1.heap.size := by have := Hzv.out; omega
            have n2 : v1.heap.size ≠ bd := by omega
            clear hcd hG hgd hst ha hd hu hk hz Hst Hrl Hall Hlen HD hzl hkl Hmul haW hym H6
            go_wp2_with fail
            obtain ⟨v7, hv7⟩ : ∃ v7, v7 = wr.drew := ⟨_, rfl⟩
            have hS : v7.cell? ⟨w1.heap.size, 0, none⟩ = some (.int .i64 (W : Int)) ∧ v7.cell? ⟨w1.heap.size, 1, none⟩ = some (.int .i64 (H : Int)) ∧ v7.cell? ⟨w1.heap.size, 2, none⟩ = some (.slice (some ⟨bd, od, none⟩) D.length c) ∧ v7.cell? ⟨bd, od + z, none⟩ = some (.int .i64 p) := by rw [hv7]; exact ⟨g1d _ y0, g1d _ y1, g1d _ y2, g1d _ yp⟩
            have H7 : GridAt v1 v7 (H : Int) (W : Int) A3 c3 (M.take k) := by rw [hv7]; exact HG.out.keep (Below.refl _ _).drew
            refine wp_region_held_drew (S := fun w' => w'.cell? ⟨w1.heap.size, 0, none⟩ = some (.int .i64 (W : Int)) ∧ w'.cell? ⟨w1.heap.size, 1, none⟩ = some (.int .i64 (H : Int)) ∧ w'.cell? ⟨w1.heap.size, 2, none⟩ = some (.slice (some ⟨bd, od, none⟩) D.length c) ∧ w'.cell? ⟨bd, od + z, none⟩ = some (.int .i64 p)) (by kernel_rfl) ⟨g1d _ y0, g1d _ y1, g1d _ y2, g1d _ yp⟩ (fun hH0 => ?_)
            clear hH0
            have E2 := H7.c2
            rw [hln] at E2
            rw [← hv7]
            clear hv7 e2 HG hzb y0 y1 y2 yp o0
            have HH7 := Lib.hid H7
            clear H7
            refine reg_take 0 rfl (by kernel_rfl) (by kernel_rfl) (by kernel_rfl) (fun _ _ _ h => h) (by rfl) (fun w _ => by first | (go_simp; done) | (go_simp; with_reducible rfl)) hS ?_
            try simp only [Act.put, List.setIfInBounds_toArray, List.set_cons_zero, List.set_cons_succ, List.getElem_toArray, List.getElem_cons_zero]
            refine reg_take 2 rfl (by kernel_rfl) (by kernel_rfl) (by kernel_rfl) (fun _ _ _ h => h) (by rfl) (fun w _ => by first | (go_simp; done) | (go_simp; with_reducible rfl)) hS ?_
            try simp only [Act.put, List.setIfInBounds_toArray, List.set_cons_zero, List.set_cons_succ, List.getElem_toArray, List.getElem_cons_zero, List.getElem_cons_succ]
            refine reg_take 3 rfl (by kernel_rfl) (by kernel_rfl) (by kernel_rfl) (fun _ _ _ h => h) (by rfl) (fun w hSw => by (try dsimp only at hSw); first | (go_simp; done) | (go_simp; with_reducible rfl)) hS ?_
            try simp only [Act.put, List.setIfInBounds_toArray, List.set_cons_zero, List.set_cons_succ, List.getElem_toArray, List.getElem_cons_zero, List.getElem_cons_succ]
            refine reg_take 4 rfl (by kernel_rfl) (by kernel_rfl) (by kernel_rfl) (fun _ _ _ h => h) (by rfl) (fun w _ => by first | (go_simp; done) | (go_simp; with_reducible rfl)) hS ?_
            try simp only [Act.put, List.setIfInBounds_toArray, List.set_cons_zero, List.set_cons_succ, List.getElem_toArray, List.getElem_cons_zero, List.getElem_cons_succ]
            refine reg_take 5 rfl (by kernel_rfl) (by kernel_rfl) (by kernel_rfl) (fun _ _ _ h => h) (by rfl) (fun w hSw => by (try dsimp only at hSw); first | (go_simp; done) | (go_simp; with_reducible rfl)) hS ?_
            try simp only [Act.put, List.setIfInBounds_toArray, List.set_cons_zero, List.set_cons_succ, List.getElem_toArray, List.getElem_cons_zero, List.getElem_cons_succ]
            refine reg_take 6 rfl (by kernel_rfl) (by kernel_rfl) (by kernel_rfl) (fun _ _ _ h => h) (by rfl) (fun w _ => by first | (go_simp; done) | (go_simp; with_reducible rfl)) hS ?_
            try simp only [Act.put, List.setIfInBounds_toArray, List.set_cons_zero, List.set_cons_succ, List.getElem_toArray, List.getElem_cons_zero, List.getElem_cons_succ]
            refine reg_take 7 rfl (by kernel_rfl) (by kernel_rfl) (by kernel_rfl) (fun _ _ _ h => h) (by rfl) (fun w _ => by first | (go_simp; done) | (go_simp; with_reducible rfl)) hS ?_
            try simp only [Act.put, List.setIfInBounds_toArray, List.set_cons_zero, List.set_cons_succ, List.getElem_toArray, List.getElem_cons_zero, List.getElem_cons_succ]
            refine reg_take 8 rfl (by kernel_rfl) (by kernel_rfl) (by kernel_rfl) (fun _ _ _ h => h) (by rfl) (fun w _ => by first | (go_simp; done) | (go_simp; with_reducible rfl)) hS ?_
            try simp only [Act.put, List.setIfInBounds_toArray, List.set_cons_zero, List.set_cons_succ, List.getElem_toArray, List.getElem_cons_zero, List.getElem_cons_succ]
            refine reg_take 9 rfl (by kernel_rfl) (by kernel_rfl) (by kernel_rfl) (fun _ _ _ h => h) (by rfl) (fun w _ => by first | (go_simp; done) | (go_simp; with_reducible rfl)) hS ?_
            try simp only [Act.put, List.setIfInBounds_toArray, List.set_cons_zero, List.set_cons_succ, List.getElem_toArray, List.getElem_cons_zero, List.getElem_cons_succ]
            refine reg_take 10 rfl (by kernel_rfl) (by kernel_rfl) (by kernel_rfl) (fun _ _ _ h => h) (by rfl) (fun w hSw => by (try dsimp only at hSw); first | (go_simp; done) | (go_simp; with_reducible rfl)) hS ?_
            try simp only [Act.put, List.setIfInBounds_toArray, List.set_cons_zero, List.set_cons_succ, List.getElem_toArray, List.getElem_cons_zero, List.getElem_cons_succ]
            refine reg_take 11 rfl (by kernel_rfl) (by kernel_rfl) (by kernel_rfl) (fun _ _ _ h => h) (by rfl) (fun w _ => by first | (go_simp; done) | (go_simp; with_reducible rfl)) hS ?_
            try simp only [Act.put, List.setIfInBounds_toArray, List.set_cons_zero, List.set_cons_succ, List.getElem_toArray, List.getElem_cons_zero, List.getElem_cons_succ]
            refine reg_take 12 rfl (by kernel_rfl) (by kernel_rfl) (by kernel_rfl) (fun _ _ _ h => h) (by rfl) (fun w _ => by first | (go_simp; done) | (go_simp; with_reducible rfl)) hS ?_
            try simp only [Act.put, List.setIfInBounds_toArray, List.set_cons_zero, List.set_cons_succ, List.getElem_toArray, List.getElem_cons_zero, List.getElem_cons_succ]
            refine reg_take 13 rfl (by kernel_rfl) (by kernel_rfl) (by kernel_rfl) (fun _ _ _ h => h) (by rfl) (fun w _ => by first | (go_simp; done) | (go_simp; with_reducible rfl)) hS ?_
            try simp only [Act.put, List.setIfInBounds_toArray, List.set_cons_zero, List.set_cons_succ, List.getElem_toArray, List.getElem_cons_zero, List.getElem_cons_succ]
            refine reg_take 14 rfl (by kernel_rfl) (by kernel_rfl) (by kernel_rfl) (fun _ _ _ h => h) (by rfl) (fun w _ => by first | (go_simp; done) | (go_simp; with_reducible rfl)) hS ?_
            try simp only [Act.put, List.setIfInBounds_toArray, List.set_cons_zero, List.set_cons_succ, List.getElem_toArray, List.getElem_cons_zero, List.getElem_cons_succ]
            refine reg_take 15 rfl (by kernel_rfl) (by kernel_rfl) (by kernel_rfl) (fun _ _ _ h => h) (by rfl) (fun w hSw => by (try dsimp only at hSw); first | (go_simp; done) | (go_simp; with_reducible rfl)) hS ?_
            try simp only [Act.put, List.setIfInBounds_toArray, List.set_cons_zero, List.set_cons_succ, List.getElem_toArray, List.getElem_cons_zero, List.getElem_cons_succ]
            refine wpAnyH_ready (rs := [1, 16]) (by kernel_rfl) (by simp) ?_
            refine AllReadyH.cons (i := 1) rfl (fun K hK => ?_) (AllReadyH.cons (i := 16) rfl (fun K hK => ?_) AllReadyH.nil)
            · skip
              go_simp
              skip
              refine hK.out _ _ hS (fun hH1 => ?_)
              clear hK K hH1
              try simp only [Act.put, List.setIfInBounds_toArray, List.set_cons_zero, List.set_cons_succ, List.getElem_toArray, List.getElem_cons_zero, List.getElem_cons_succ]
              refine wpAnyH_ready (rs := [16]) (by kernel_rfl) (by simp) ?_
              refine AllReadyH.cons (i := 16) rfl (fun K hK => ?_) AllReadyH.nil
              go_simp
              have hS8 : (v7.alloc (.cells #[.int .i64 p] 3)).cell? ⟨w1.heap.size, 0, none⟩ = some (.int .i64 (W : Int)) ∧ (v7.alloc (.cells #[.int .i64 p] 3)).cell? ⟨w1.heap.size, 1, none⟩ = some (.int .i64 (H : Int)) ∧ (v7.alloc (.cells #[.int .i64 p] 3)).cell? ⟨w1.heap.size, 2, none⟩ = some (.slice (some ⟨bd, od, none⟩) D.length c) ∧ (v7.alloc (.cells #[.int .i64 p] 3)).cell? ⟨bd, od + z, none⟩ = some (.int .i64 p) := ⟨keepc ((Below.refl _ _).alloc (Nat.le_refl _) _) hS.1, keepc ((Below.refl _ _).alloc (Nat.le_refl _) _) hS.2.1, keepc ((Below.refl _ _).alloc (Nat.le_refl _) _) hS.2.2.1, keepc ((Below.refl _ _).alloc (Nat.le_refl _) _) hS.2.2.2⟩
              refine hK.out _ _ hS8 (fun hH1 => ?_)
              clear hK K hH1
              try simp only [Act.put, List.setIfInBounds_toArray, List.set_cons_zero, List.set_cons_succ, List.getElem_toArray, List.getElem_cons_zero, List.getElem_cons_succ]
              have X0 : (v7.alloc (.cells #[.int .i64 p] 3)).cell? ⟨v7.heap.size, 0, none⟩ = some (.int .i64 p) := by simp
              obtain ⟨v8, hv8⟩ : ∃ v8, v8 = (v7.alloc (.cells #[.int .i64 p] 3)) := ⟨_, rfl⟩
              have H8 : GridAt v1 v8 (H : Int) (W : Int) A3 c3 (M.take k) := by rw [hv8]; exact HH7.out.keep ((Below.refl _ _).alloc (Nat.le_refl _) _)
              rw [← hv8] at X0 hS8 ⊢
              clear hv8 hS
              have hS := hS8
              clear hS8
              have F2 := H8.c2
              rw [hln] at F2
              have hz8 := H8.lt
              have HH8 := Lib.hid H8
              clear H8
              refine wpAnyH_ready (rs := [17]) (by kernel_rfl) (by simp) ?_
              refine AllReadyH.cons (i := 17) rfl (fun K hK => ?_) AllReadyH.nil
              refine step_append_int rfl (.tmp 34) (.tmp 49) rfl (v1.heap.size + 1) (.slice A3 k c3) (M.take k) rfl (by have h := HH8.out.own; rwa [hln] at h ⊢) p v7.heap.size rfl X0 (by omega) hz8 ?_
              intro A4 c4 v9 ho9 hg9
              rw [hln] at ho9
              have far : ∀ {g : Nat}, (Value.slice A3 k c3).ownBlock = some g → v1.heap.size + 1 ≤ g := fun hg => (HH8.out.own.lt _ (by rw [hln]; exact hg)).1
              have Y2 : v9.cell? ⟨v1.heap.size, 2, none⟩ = some (.slice A3 k c3) := World.grownBy.cell hg9 F2 fun e => by have := far e.symm; (try simp at this); omega
              have Yf : v9.frozen? ⟨v1.heap.size, 2, none⟩ = false := (grown_frozenT hg9 hz8 fun e => by have := far e.symm; (try simp at this); omega).trans HH8.out.f2
              have hS9 : v9.cell? ⟨w1.heap.size, 0, none⟩ = some (.int .i64 (W : Int)) ∧ v9.cell? ⟨w1.heap.size, 1, none⟩ = some (.int .i64 (H : Int)) ∧ v9.cell? ⟨w1.heap.size, 2, none⟩ = some (.slice (some ⟨bd, od, none⟩) D.length c) ∧ v9.cell? ⟨bd, od + z, none⟩ = some (.int .i64 p) := ⟨World.grownBy.cell hg9 hS.1 (fun e => by have := far e.symm; have hzz := Hzv.out; (try simp at this); omega), World.grownBy.cell hg9 hS.2.1 (fun e => by have := far e.symm; have hzz := Hzv.out; (try simp at this); omega), World.grownBy.cell hg9 hS.2.2.1 (fun e => by have := far e.symm; have hzz := Hzv.out; (try simp at this); omega), World.grownBy.cell hg9 hS.2.2.2 (fun e => by have := far e.symm; have hzz := Hzv.out; (try simp at this); omega)⟩
              rw [hln]
              refine hK.out _ _ hS9 (fun hH1 => ?_)
              clear hK K hH1
              try simp only [Act.put, List.setIfInBounds_toArray, List.set_cons_zero, List.set_cons_succ, List.getElem_toArray, List.getElem_cons_zero, List.getElem_cons_succ]
              clear hS
              have hS := hS9
              clear hS9
              refine reg_take 18 rfl (by kernel_rfl) (by kernel_rfl) (by kernel_rfl) (fun _ _ _ h => h) (by rfl) (fun w _ => by first | (go_simp; done) | (go_simp; with_reducible rfl)) hS ?_
              try simp only [Act.put, List.setIfInBounds_toArray, List.set_cons_zero, List.set_cons_succ, List.getElem_toArray, List.getElem_cons_zero, List.getElem_cons_succ]
              refine wpAnyH_ready (rs := [19]) (by kernel_rfl) (by simp) ?_
              refine AllReadyH.cons (i := 19) rfl (fun K hK => ?_) AllReadyH.nil
              go_simp
              skip
              refine hK.out _ _ ⟨farT n1 hS.1, farT n1 hS.2.1, farT n1 hS.2.2.1, farT n2 hS.2.2.2⟩ (fun hH1 => ?_)
              clear hK K hH1
              try simp only [Act.put, List.setIfInBounds_toArray, List.set_cons_zero, List.set_cons_succ, List.getElem_toArray, List.getElem_cons_zero, List.getElem_cons_succ]
              refine wpAnyH_done (by kernel_rfl) ?_ _
              have HN := HH8.out.grow (A' := A4) (c' := c4) (d := p) (by rw [hln]; exact hg9) (by rw [hln]; exact ho9)
              rw [← Hst2.out, hln] at HN
              obtain ⟨vA, hvA⟩ : ∃ vA, vA = v9.setCell ⟨v1.heap.size, 2, none⟩ (.slice A4 (k + 1) c4) := ⟨_, rfl⟩
              rw [← hvA] at HN ⊢
              clear hvA Y2 Yf hg9 ho9 far F2 E2 X0 hS
              have HHN := Lib.hid HN
              clear HN
              go_wp2
              go_roundw
              case rel => exact ⟨x + 1, A4, c4, by omega, by go_num, by rw [Hk1.out]; exact HHN.out⟩
              case measure => simp [intOf]; omega
            · skip
              go_simp
              have hS8 : (v7.alloc (.cells #[.int .i64 p] 3)).cell? ⟨w1.heap.size, 0, none⟩ = some (.int .i64 (W : Int)) ∧ (v7.alloc (.cells #[.int .i64 p] 3)).cell? ⟨w1.heap.size, 1, none⟩ = some (.int .i64 (H : Int)) ∧ (v7.alloc (.cells #[.int .i64 p] 3)).cell? ⟨w1.heap.size, 2, none⟩ = some (.slice (some ⟨bd, od, none⟩) D.length c) ∧ (v7.alloc (.cells #[.int .i64 p] 3)).cell? ⟨bd, od + z, none⟩ = some (.int .i64 p) := ⟨keepc ((Below.refl _ _).alloc (Nat.le_refl _) _) hS.1, keepc ((Below.refl _ _).alloc (Nat.le_refl _) _) hS.2.1, keepc ((Below.refl _ _).alloc (Nat.le_refl _) _) hS.2.2.1, keepc ((Below.refl _ _).alloc (Nat.le_refl _) _) hS.2.2.2⟩
              refine hK.out _ _ hS8 (fun hH1 => ?_)
              clear hK K hH1
              try simp only [Act.put, List.setIfInBounds_toArray, List.set_cons_zero, List.set_cons_succ, List.getElem_toArray, List.getElem_cons_zero, List.getElem_cons_succ]
              have X0 : (v7.alloc (.cells #[.int .i64 p] 3)).cell? ⟨v7.heap.size, 0, none⟩ = some (.int .i64 p) := by simp
              obtain ⟨v8, hv8⟩ : ∃ v8, v8 = (v7.alloc (.cells #[.int .i64 p] 3)) := ⟨_, rfl⟩
              have H8 : GridAt v1 v8 (H : Int) (W : Int) A3 c3 (M.take k) := by rw [hv8]; exact HH7.out.keep ((Below.refl _ _).alloc (Nat.le_refl _) _)
              rw [← hv8] at X0 hS8 ⊢
              clear hv8 hS
              have hS := hS8
              clear hS8
              have F2 := H8.c2
              rw [hln] at F2
              have hz8 := H8.lt
              have HH8 := Lib.hid H8
              clear H8
              refine wpAnyH_ready (rs := [1]) (by kernel_rfl) (by simp) ?_
              refine AllReadyH.cons (i := 1) rfl (fun K hK => ?_) AllReadyH.nil
              go_simp
              skip
              refine hK.out _ _ hS (fun hH1 => ?_)
              clear hK K hH1
              try simp only [Act.put, List.setIfInBounds_toArray, List.set_cons_zero, List.set_cons_succ, List.getElem_toArray, List.getElem_cons_zero, List.getElem_cons_succ]
              refine wpAnyH_ready (rs := [17]) (by kernel_rfl) (by simp) ?_
              refine AllReadyH.cons (i := 17) rfl (fun K hK => ?_) AllReadyH.nil
              refine step_append_int rfl (.tmp 34) (.tmp 49) rfl (v1.heap.size + 1) (.slice A3 k c3) (M.take k) rfl (by have h := HH8.out.own; rwa [hln] at h ⊢) p v7.heap.size rfl X0 (by omega) hz8 ?_
              intro A4 c4 v9 ho9 hg9
              rw [hln] at ho9
              have far : ∀ {g : Nat}, (Value.slice A3 k c3).ownBlock = some g → v1.heap.size + 1 ≤ g := fun hg => (HH8.out.own.lt _ (by rw [hln]; exact hg)).1
              have Y2 : v9.cell? ⟨v1.heap.size, 2, none⟩ = some (.slice A3 k c3) := World.grownBy.cell hg9 F2 fun e => by have := far e.symm; (try simp at this); omega
              have Yf : v9.frozen? ⟨v1.heap.size, 2, none⟩ = false := (grown_frozenT hg9 hz8 fun e => by have := far e.symm; (try simp at this); omega).trans HH8.out.f2
              have hS9 : v9.cell? ⟨w1.heap.size, 0, none⟩ = some (.int .i64 (W : Int)) ∧ v9.cell? ⟨w1.heap.size, 1, none⟩ = some (.int .i64 (H : Int)) ∧ v9.cell? ⟨w1.heap.size, 2, none⟩ = some (.slice (some ⟨bd, od, none⟩) D.length c) ∧ v9.cell? ⟨bd, od + z, none⟩ = some (.int .i64 p) := ⟨World.grownBy.cell hg9 hS.1 (fun e => by have := far e.symm; have hzz := Hzv.out; (try simp at this); omega), World.grownBy.cell hg9 hS.2.1 (fun e => by have := far e.symm; have hzz := Hzv.out; (try simp at this); omega), World.grownBy.cell hg9 hS.2.2.1 (fun e => by have := far e.symm; have hzz := Hzv.out; (try simp at this); omega), World.grownBy.cell hg9 hS.2.2.2 (fun e => by have := far e.symm; have hzz := Hzv.out; (try simp at this); omega)⟩
              rw [hln]
              refine hK.out _ _ hS9 (fun hH1 => ?_)
              clear hK K hH1
              try simp only [Act.put, List.setIfInBounds_toArray, List.set_cons_zero, List.set_cons_succ, List.getElem_toArray, List.getElem_cons_zero, List.getElem_cons_succ]
              clear hS
              have hS := hS9
              clear hS9
              refine reg_take 18 rfl (by kernel_rfl) (by kernel_rfl) (by kernel_rfl) (fun _ _ _ h => h) (by rfl) (fun w _ => by first | (go_simp; done) | (go_simp; with_reducible rfl)) hS ?_
              try simp only [Act.put, List.setIfInBounds_toArray, List.set_cons_zero, List.set_cons_succ, List.getElem_toArray, List.getElem_cons_zero, List.getElem_cons_succ]
              refine wpAnyH_ready (rs := [19]) (by kernel_rfl) (by simp) ?_
              refine AllReadyH.cons (i := 19) rfl (fun K hK => ?_) AllReadyH.nil
              go_simp
              skip
              refine hK.out _ _ ⟨farT n1 hS.1, farT n1 hS.2.1, farT n1 hS.2.2.1, farT n2 hS.2.2.2⟩ (fun hH1 => ?_)
              clear hK K hH1
              try simp only [Act.put, List.setIfInBounds_toArray, List.set_cons_zero, List.set_cons_succ, List.getElem_toArray, List.getElem_cons_zero, List.getElem_cons_succ]
              refine wpAnyH_done (by kernel_rfl) ?_ _
              have HN := HH8.out.grow (A' := A4) (c' := c4) (d := p) (by rw [hln]; exact hg9) (by rw [hln]; exact ho9)
              rw [← Hst2.out, hln] at HN
              obtain ⟨vA, hvA⟩ : ∃ vA, vA = v9.setCell ⟨v1.heap.size, 2, none⟩ (.slice A4 (k + 1) c4) := ⟨_, rfl⟩
              rw [← hvA] at HN ⊢
              clear hvA Y2 Yf hg9 ho9 far F2 E2 X0 hS
              have HHN := Lib.hid HN
              clear HN
              go_wp2
              go_roundw
              case rel => exact ⟨x + 1, A4, c4, by omega, by go_num, by rw [Hk1.out]; exact HHN.out⟩
              case measure => simp [intOf]; omega
          · have hxe : x = H := by omega
            subst hxe
            have jx : ¬ (x : Int) < (x : Int) := by omega
            rw [← Nat.succ_mul] at hG
            have HG := Lib.hid hG
            clear hG
            go_wp2
            go_roundw
            case rel => exact ⟨y + 1, A3, c3, by omega, by go_num, HG.out⟩
            case measure => simp [intOf]; omega
      · obtain rfl : y = W := by omega
        rw [Hall.out] at hG
        have hml := Hlen.out D.length (Nat.le_refl _)
        rw [← H6.out, Hall.out, H6.out] at hml
        have hT := Lib.hid (HD.out A3 c3 wr (RdI.of_own hG.own))
        have e0 := hG.c0
        have e1 := hG.c1
        have e2 := hG.c2
        rw [hml] at e2
        have hzb := hG.lt
        have HB := Lib.hid (bstep Hb.out hG.low)
        clear hG HD Hst Hrl Hlen Hall hml Hmul H6
        go_wp2_with (go_at_call 38; refine hT.out.mono ?_; rintro e w5 ⟨rfl, hb5⟩)
        go_ret2
        exact ⟨rfl, bstep HB.out hb5⟩

/-- The program's state while it lays the turned cells: the two grids' boxes b4 and b6, the source's block g, the new one's g2. -/
structure TurnAt (w wr : World) (b4 b6 g g2 n c W H : Nat) (F T : Nat → Int) : Prop where
  p0 : wr.cell? ⟨b4, 0, none⟩ = some (.slice (some ⟨g, 0, none⟩) n c)
  p1 : wr.cell? ⟨b4, 1, none⟩ = some (.int .i64 (W : Int))
  q0 : wr.cell? ⟨b6, 0, none⟩ = some (.slice (some ⟨g2, 0, none⟩) n n)
  q1 : wr.cell? ⟨b6, 1, none⟩ = some (.int .i64 (H : Int))
  src : ∀ j, j < n → wr.cell? ⟨g, j, none⟩ = some (.int .u8 (F j))
  dst : BytA wr g2 n T
  low : Below w.heap.size w wr

theorem TurnAt.keep {w wr w' : World} {b4 b6 g g2 n c W H : Nat} {F T : Nat → Int} (h : TurnAt w wr b4 b6 g g2 n c W H F T) (hb : Below wr.heap.size wr w') : TurnAt w w' b4 b6 g g2 n c W H F T :=
  ⟨keepc hb h.p0, keepc hb h.p1, keepc hb h.q0, keepc hb h.q1, fun j hj => keepc hb (h.src j hj), h.dst.below hb, bstep h.low hb⟩

theorem TurnAt.put {w wr : World} {b4 b6 g g2 n c W H : Nat} {F T : Nat → Int} (h : TurnAt w wr b4 b6 g g2 n c W H F T) (n4 : g2 ≠ b4) (n6 : g2 ≠ b6) (ng : g2 ≠ g) (hw : w.heap.size ≤ g2) {i : Nat} (hi : i < n) (u : Int) : TurnAt w (wr.setCell ⟨g2, i, none⟩ (.int .u8 u)) b4 b6 g g2 n c W H F (fun j => if j = i then u else T j) :=
  ⟨farT n4 h.p0, farT n4 h.p1, farT n6 h.q0, farT n6 h.q1, fun j hj => farT ng (h.src j hj), h.dst.put hi u, h.low.setCell hw _⟩

theorem TurnAt.same {w wr : World} {b4 b6 g g2 n c W H : Nat} {F T T' : Nat → Int} (h : TurnAt w wr b4 b6 g g2 n c W H F T) (e : ∀ j, j < n → T j = T' j) : TurnAt w wr b4 b6 g g2 n c W H F T' :=
  ⟨h.p0, h.p1, h.q0, h.q1, h.src, h.dst.same e, h.low⟩

theorem tur_bytes {W H : Nat} {L : List UInt8} (hH : 0 < H) (j : Nat) : turF (fun i => ((L.getD i 0).toNat : Int)) W H H 0 j = ((L.getD (tix W H j) 0).toNat : Int) := turF_all hH j

theorem tur_F (L : List UInt8) (W H : Nat) (hH : 0 < H) : ∃ F : Nat → Int, (∀ j (hj : j < L.length), F j = (L[j].toNat : Int)) ∧ ∀ j, turF F W H H 0 j = ((L.getD (tix W H j) 0).toNat : Int) :=
  ⟨fun i => ((L.getD i 0).toNat : Int), fun j hj => by simp only; rw [List.getD_eq_getElem?_getD, List.getElem?_eq_getElem hj]; rfl, tur_bytes hH⟩

set_option maxRecDepth 100000 in
set_option maxHeartbeats 8000000 in
theorem c_implTurnT (s : ByteArray) (m : Int) (w : World) (hm : w.cell? ⟨0, 0, none⟩ = some (.int .i64 m)) (hl : s.size ≤ 1048576) :
    Calls Tryd.prog 21 #[.string s] w fun e w' => e = .returned (.tuple #[.string (turS s), .bool (tabB s)]) ∧ Below w.heap.size w w' := by
  have con := Lib.hid (c_tableOf s m w hm hl)
  unfold RetG at con
  clear hm
  cases ht : tabB s
  · rw [turS_no ht]
    rw [ht, cellsK_no, widK_no] at con
    clear ht
    go_enter Tryd.func21, Tryd.ntmps21
    go_wp2_with (go_at_call 27; refine con.out.mono ?_; rintro e w1 ⟨A, c, rfl, hc, hOU, hb1⟩; have Hb := Lib.hid hb1; clear hb1 hOU hc)
    go_ret2
    exact ⟨rfl, Hb.out.alloc Hb.out.size _⟩
  · obtain ⟨h1, h2, h3, h4, h5, h6⟩ := tab_small ht
    rw [turS_yes ht]
    rw [ht] at con
    generalize cellsK true s = L at *
    generalize widK true s = W at *
    generalize hgtK true s = H at *
    have hHpos : 0 < H := by
      rcases Nat.eq_zero_or_pos H with h | h
      · rw [h, Nat.zero_mul] at h6; omega
      · exact h
    obtain ⟨F, hF, hG⟩ := tur_F L W H hHpos
    obtain ⟨G, hGe⟩ : ∃ G : Nat → UInt8, G = fun t => L.getD (tix W H t) 0 := ⟨_, rfl⟩
    have hGk := Lib.hid (fun j => (show turF F W H H 0 j = ((G j).toNat : Int) from by rw [hG j, hGe]))
    rw [← hGe]
    have hdiv : L.length / W = H := by rw [h6, Nat.mul_div_cancel _ h1]
    have HF := Lib.hid hF
    have Hhei := Lib.hid (fun A c W0 => (show Calls Tryd.prog 40 #[.agg #[.slice A L.length c, .int .i64 W]] W0 fun e w' => e = .returned (.int .i64 (H : Int)) ∧ Below W0.heap.size W0 w' from by
      have h := c_height A L.length c W W0 h1 (by omega)
      rwa [hdiv] at h))
    have Hrow := Lib.hid (fun g c k (hk : k < H) (hc : L.length ≤ c) W0 => (show Calls Tryd.prog 41 #[.agg #[.slice (some ⟨g, 0, none⟩) L.length c, .int .i64 W], .int .i64 k] W0 fun e w' => e = .returned (.slice (some ⟨g, k * W, none⟩) W W) ∧ Below W0.heap.size W0 w' from by
      have hkW : k * W + W ≤ L.length := by rw [h6, ← Nat.succ_mul]; exact Nat.mul_le_mul_right _ hk
      have h := c_gridRow g 0 L.length c W k (k * W) W0 h1 rfl hkW hc (by omega) (by omega)
      rwa [Nat.zero_add] at h))
    have Hrow2 := Lib.hid (fun g2 k (hk : k < W) W0 => (show Calls Tryd.prog 41 #[.agg #[.slice (some ⟨g2, 0, none⟩) L.length L.length, .int .i64 H], .int .i64 k] W0 fun e w' => e = .returned (.slice (some ⟨g2, k * H, none⟩) H H) ∧ Below W0.heap.size W0 w' from by
      have hkW : k * H + H ≤ L.length := by rw [h6, Nat.mul_comm H W, ← Nat.succ_mul]; exact Nat.mul_le_mul_right _ hk
      have h := c_gridRow g2 0 L.length L.length H k (k * H) W0 hHpos rfl hkW (Nat.le_refl _) (by omega) (by omega)
      rwa [Nat.zero_add] at h))
    have Hblank := Lib.hid (fun W0 => c_blankGrid H W L.length W0 (by rw [h6]; rfl) (by omega) (by omega) (by omega))
    have Htext := Lib.hid (fun g2 W0 (hB : BytA W0 g2 L.length (turF F W H H 0)) => c_gridText g2 L.length L.length H W G W0 (fun j hj => by rw [(hB j hj).1, hGk.out j]) (by rw [h6, Nat.mul_comm]) hHpos h1 (Nat.le_refl _) (by omega))
    have Hrowt := Lib.hid (fun y t (ht : t < L.length) => turF_row (F := F) (W := W) hHpos h6 y t ht)
    have Hstep := Lib.hid (fun y x t (hy : y < H) => turF_step (F := F) (W := W) hHpos y x t hy)
    have Hyx := Lib.hid (fun y x (hy : y < H) (hx : x < W) => (show y * W + x < L.length from by
      have : y * W + W ≤ L.length := by rw [h6, ← Nat.succ_mul]; exact Nat.mul_le_mul_right _ hy
      omega))
    have Hxy := Lib.hid (fun x e (hx : x < W) (he : e < H) => (show x * H + e < L.length from by
      have : x * H + H ≤ L.length := by rw [h6, Nat.mul_comm H W, ← Nat.succ_mul]; exact Nat.mul_le_mul_right _ hx
      omega))
    have hLp : 0 < L.length := by omega
    have hH30 : H ≤ 30 := h5
    have hW30 : W ≤ 30 := h2
    generalize txB H G L.length = R at *
    clear ht hG hGe hF hGk hdiv hHpos h1 h2 h3 h4 h5 h6
    go_enter Tryd.func21, Tryd.ntmps21
    go_wp2_with (go_at_call 27; refine con.out.mono ?_; rintro e w1 ⟨A, c, rfl, hc, hOU, hb1⟩; obtain ⟨g, rfl, hgb, hgl, hgF⟩ := hOU.at0 hLp; have HB := Lib.hid (hgF F HF.out); have HB1 := Lib.hid hb1; have Hc := Lib.hid hc; clear hb1 hOU hc hgF)
    obtain ⟨v1, hv1⟩ : ∃ v1, v1 = w1.alloc (.cells #[.slice (some ⟨g, 0, none⟩) L.length c, .int .i64 (W : Int)] 53) := ⟨_, rfl⟩
    have x0 : v1.cell? ⟨w1.heap.size, 0, none⟩ = some (.slice (some ⟨g, 0, none⟩) L.length c) := by rw [hv1]; simp
    have x1 : v1.cell? ⟨w1.heap.size, 1, none⟩ = some (.int .i64 (W : Int)) := by rw [hv1]; simp
    have HS := Lib.hid (show ∀ j, j < L.length → v1.cell? ⟨g, j, none⟩ = some (.int .u8 (F j)) from fun j hj => by rw [hv1]; exact keepc ((Below.refl w1.heap.size w1).alloc (Nat.le_refl _) _) (HB.out j hj).1)
    have Hb := Lib.hid (show Below w.heap.size w v1 from by rw [hv1]; exact HB1.out.alloc HB1.out.size _)
    have hz1 : w1.heap.size < v1.heap.size := block_lt x0
    have hzw : w.heap.size ≤ w1.heap.size := HB1.out.size
    rw [← hv1]
    obtain ⟨b4, hb4⟩ : ∃ b4, b4 = w1.heap.size := ⟨_, rfl⟩
    rw [← hb4] at x0 x1 hz1 hgl hzw ⊢
    have hgb4 : g < b4 := hgl
    have hwb4 : w.heap.size ≤ b4 := hzw
    clear hv1 HB HB1 con hb4 HF hgl hzw
    go_wp2_with fail
    obtain ⟨u0, hu0⟩ : ∃ u0, u0 = v1.drew := ⟨_, rfl⟩
    have hS : u0.cell? ⟨b4, 0, none⟩ = some (.slice (some ⟨g, 0, none⟩) L.length c) ∧ u0.cell? ⟨b4, 1, none⟩ = some (.int .i64 (W : Int)) := by rw [hu0]; exact ⟨g1d _ x0, g1d _ x1⟩
    have HS0 := Lib.hid (show ∀ j, j < L.length → u0.cell? ⟨g, j, none⟩ = some (.int .u8 (F j)) from fun j hj => by rw [hu0]; exact g1d _ (HS.out j hj))
    have Hb0 := Lib.hid (show Below w.heap.size w u0 from by rw [hu0]; exact Hb.out.drew)
    have hz0 : b4 < u0.heap.size := block_lt hS.1
    refine wp_region_held_drew (S := fun w' => w'.cell? ⟨b4, 0, none⟩ = some (.slice (some ⟨g, 0, none⟩) L.length c) ∧ w'.cell? ⟨b4, 1, none⟩ = some (.int .i64 (W : Int))) (by kernel_rfl) ⟨g1d _ x0, g1d _ x1⟩ (fun hH0 => ?_)
    clear hH0
    rw [← hu0]
    clear hu0 x0 x1 HS Hb hz1
    refine reg_take 0 rfl (by kernel_rfl) (by kernel_rfl) (by kernel_rfl) (fun _ _ _ h => h) (by rfl) (fun w hSw => by (try dsimp only at hSw); first | (go_simp; done) | (go_simp; with_reducible rfl)) hS ?_
    try simp only [Act.put, List.setIfInBounds_toArray, List.set_cons_zero, List.set_cons_succ, List.getElem_toArray, List.getElem_cons_zero]
    refine reg_take 2 rfl (by kernel_rfl) (by kernel_rfl) (by kernel_rfl) (fun _ _ _ h => h) (by rfl) (fun w _ => by first | (go_simp; done) | (go_simp; with_reducible rfl)) hS ?_
    try simp only [Act.put, List.setIfInBounds_toArray, List.set_cons_zero, List.set_cons_succ, List.getElem_toArray, List.getElem_cons_zero, List.getElem_cons_succ]
    refine reg_take 3 rfl (by kernel_rfl) (by kernel_rfl) (by kernel_rfl) (fun _ _ _ h => h) (by rfl) (fun w hSw => by (try dsimp only at hSw); first | (go_simp; done) | (go_simp; with_reducible rfl)) hS ?_
    try simp only [Act.put, List.setIfInBounds_toArray, List.set_cons_zero, List.set_cons_succ, List.getElem_toArray, List.getElem_cons_zero, List.getElem_cons_succ]
    refine wpAnyH_ready (rs := [1, 5]) (by kernel_rfl) (by simp) ?_
    refine AllReadyH.cons (i := 1) rfl (fun K hK => ?_) (AllReadyH.cons (i := 5) rfl (fun K hK => ?_) AllReadyH.nil)
    · skip
      go_simp
      go_at_call 40
      refine (Hhei.out _ _ _).mono ?_
      rintro e u1 ⟨rfl, hbn⟩
      have hSn := show u1.cell? ⟨b4, 0, none⟩ = some (.slice (some ⟨g, 0, none⟩) L.length c) ∧ u1.cell? ⟨b4, 1, none⟩ = some (.int .i64 (W : Int)) from ⟨keepc hbn hS.1, keepc hbn hS.2⟩
      have HSn := Lib.hid (fun j (hj : j < L.length) => keepc hbn (HS0.out j hj))
      have Hbn := Lib.hid (bstep Hb0.out hbn)
      have hsz1 := hbn.size
      refine hK.out _ _ hSn (fun hHx => ?_)
      clear hK K hHx hS HS0 Hb0 hbn
      have hS := hSn
      have HS0 := HSn
      have Hb0 := Hbn
      clear hSn HSn Hbn
      try simp only [Act.put, List.setIfInBounds_toArray, List.set_cons_zero, List.set_cons_succ, List.getElem_toArray, List.getElem_cons_zero, List.getElem_cons_succ]
      refine wpAnyH_ready (rs := [4, 5]) (by kernel_rfl) (by simp) ?_
      refine AllReadyH.cons (i := 4) rfl (fun K hK => ?_) (AllReadyH.cons (i := 5) rfl (fun K hK => ?_) AllReadyH.nil)
      · skip
        go_simp
        go_at_call 39
        refine (Hblank.out _).mono ?_
        rintro e u2 ⟨rfl, hZn, hbn, hzn⟩
        have hSn := show u2.cell? ⟨b4, 0, none⟩ = some (.slice (some ⟨g, 0, none⟩) L.length c) ∧ u2.cell? ⟨b4, 1, none⟩ = some (.int .i64 (W : Int)) from ⟨keepc hbn hS.1, keepc hbn hS.2⟩
        have HSn := Lib.hid (fun j (hj : j < L.length) => keepc hbn (HS0.out j hj))
        have Hbn := Lib.hid (bstep Hb0.out hbn)
        have HZn := Lib.hid hZn
        have hsz2 := hbn.size
        refine hK.out _ _ hSn (fun hHx => ?_)
        clear hK K hHx hS HS0 Hb0 hbn
        have hS := hSn
        have HS0 := HSn
        have Hb0 := Hbn
        clear hSn HSn Hbn
        have HZ := HZn
        clear HZn hZn
        try simp only [Act.put, List.setIfInBounds_toArray, List.set_cons_zero, List.set_cons_succ, List.getElem_toArray, List.getElem_cons_zero, List.getElem_cons_succ]
        refine wpAnyH_ready (rs := [5]) (by kernel_rfl) (by simp) ?_
        refine AllReadyH.cons (i := 5) rfl (fun K hK => ?_) AllReadyH.nil
        go_simp
        obtain ⟨u3, hvn⟩ : ∃ u3, u3 = u2.alloc (.cells #[.slice none 0 0, .int .i64 0] 53) := ⟨_, rfl⟩
        have hbn : Below u2.heap.size u2 u3 := by rw [hvn]; exact (Below.refl _ _).alloc (Nat.le_refl _) _
        have z0 : u3.cell? ⟨u2.heap.size, 0, none⟩ = some (.slice none 0 0) := by rw [hvn]; simp
        have z1 : u3.cell? ⟨u2.heap.size, 1, none⟩ = some (.int .i64 0) := by rw [hvn]; simp
        have zf0 : u3.frozen? ⟨u2.heap.size, 0, none⟩ = false := by rw [hvn]; exact frozen_freshT _ _ _ _
        have zf1 : u3.frozen? ⟨u2.heap.size, 1, none⟩ = false := by rw [hvn]; exact frozen_freshT _ _ _ _
        have hsz3 : u3.heap.size = u2.heap.size + 1 := by rw [hvn]; simp
        rw [← hvn]
        clear hvn
        have hSn := show u3.cell? ⟨b4, 0, none⟩ = some (.slice (some ⟨g, 0, none⟩) L.length c) ∧ u3.cell? ⟨b4, 1, none⟩ = some (.int .i64 (W : Int)) from ⟨keepc hbn hS.1, keepc hbn hS.2⟩
        have HSn := Lib.hid (fun j (hj : j < L.length) => keepc hbn (HS0.out j hj))
        have Hbn := Lib.hid (bstep Hb0.out hbn)
        have HZn := Lib.hid (HZ.out.below hbn)
        clear HZ
        have HZ := HZn
        clear HZn
        refine hK.out _ _ hSn (fun hHx => ?_)
        clear hK K hHx hS HS0 Hb0 hbn
        have hS := hSn
        have HS0 := HSn
        have Hb0 := Hbn
        clear hSn HSn Hbn
        try simp only [Act.put, List.setIfInBounds_toArray, List.set_cons_zero, List.set_cons_succ, List.getElem_toArray, List.getElem_cons_zero, List.getElem_cons_succ]
        obtain ⟨b6, hb6⟩ : ∃ b6, b6 = u2.heap.size := ⟨_, rfl⟩
        obtain ⟨g2, hg2⟩ : ∃ g2, g2 = (u1.heap.size + 1) := ⟨_, rfl⟩
        have n4 : g2 ≠ b4 := by omega
        have n6 : g2 ≠ b6 := by omega
        have ng : g2 ≠ g := by omega
        have n46 : b6 ≠ b4 := by omega
        have ng6 : b6 ≠ g := by omega
        have hw2 : w.heap.size ≤ g2 := by omega
        have hw6 : w.heap.size ≤ b6 := by omega
        rw [← hb6] at z0 z1 zf0 zf1 ⊢
        rw [← hg2] at HZ ⊢
        clear hb6 hg2
        refine wpAnyH_ready (rs := [6]) (by kernel_rfl) (by simp) ?_
        refine AllReadyH.cons (i := 6) rfl (fun K hK => ?_) AllReadyH.nil
        go_simp
        refine hK.out _ _ ⟨farT n46 (farT n46 hS.1), farT n46 (farT n46 hS.2)⟩ (fun hHx => ?_)
        clear hK K hHx
        try simp only [Act.put, List.setIfInBounds_toArray, List.set_cons_zero, List.set_cons_succ, List.getElem_toArray, List.getElem_cons_zero, List.getElem_cons_succ]
        refine wpAnyH_done (by kernel_rfl) ?_ _
        have HT0 := Lib.hid (show TurnAt w ((u3.setCell ⟨b6, 0, none⟩ (.slice (some ⟨g2, 0, none⟩) L.length L.length)).setCell ⟨b6, 1, none⟩ (.int .i64 (H : Int))) b4 b6 g g2 L.length c W H F (fun _ => 0) from ⟨farT n46 (farT n46 hS.1), farT n46 (farT n46 hS.2), sameT (by omega) (World.cell?_setCell_same _ _ _ z0), World.cell?_setCell_same _ _ _ (sameT (by omega) z1), fun j hj => farT ng6 (farT ng6 (HS0.out j hj)), fun j hj => ⟨farT n6.symm (farT n6.symm (HZ.out j hj).1), (World.frozen?_setCell _ _ _ _).trans ((World.frozen?_setCell _ _ _ _).trans (HZ.out j hj).2)⟩, (Hb0.out.setCell hw6 _).setCell hw6 _⟩)
        obtain ⟨vT, hvT⟩ : ∃ vT, vT = ((u3.setCell ⟨b6, 0, none⟩ (.slice (some ⟨g2, 0, none⟩) L.length L.length)).setCell ⟨b6, 1, none⟩ (.int .i64 (H : Int))) := ⟨_, rfl⟩
        rw [← hvT] at HT0 ⊢
        clear hvT hS HS0 Hb0 HZ z0 z1 zf0 zf1
        have p0 := HT0.out.p0
        have p1 := HT0.out.p1
        go_wp2_with (go_at_call 40; refine (Hhei.out _ _ _).mono ?_; rintro e w5 ⟨rfl, hb5⟩; have HT5 := Lib.hid (HT0.out.keep hb5); clear hb5)
        clear p0 p1
        go_loopw [24] (fun i wr => ∃ y : Nat, y ≤ H ∧ i = .int .i64 y ∧ TurnAt w wr b4 b6 g g2 L.length c W H F (turF F W H y 0)) (fun i _ => H - (intOf i).toNat)
        case atStart => exact ⟨0, Nat.zero_le _, rfl, HT5.out.same (fun t _ => (turF_zero F W H t).symm)⟩
        case round =>
          obtain ⟨y, hy, rfl, hT⟩ := hrel
          by_cases hyl : y < H
          · have p0 := hT.p0
            have p1 := hT.p1
            have HT := Lib.hid hT
            have conR := Lib.hid (fun W0 => Hrow.out g c y hyl Hc.out W0)
            have jy : (y : Int) < (H : Int) := by omega
            clear hT HT5 HT0
            have Hoff := Lib.hid (fun x (hx : x < W) => Hyx.out y x hyl hx)
            have Hst := Lib.hid (fun x t => Hstep.out y x t hyl)
            obtain ⟨o, ho⟩ : ∃ o, o = y * W := ⟨_, rfl⟩
            rw [← ho] at conR Hoff Hst
            clear ho
            go_wp2_with (go_at_call 41; refine (conR.out _).mono ?_; rintro e w6 ⟨rfl, hb6⟩; have HT6 := Lib.hid (HT.out.keep hb6); clear hb6)
            clear p0 p1
            obtain ⟨wo, rfl⟩ : ∃ wo, wo = wr := ⟨_, rfl⟩
            go_loopw [31] (fun i wr => ∃ x : Nat, x ≤ W ∧ i = .int .i64 x ∧ TurnAt w wr b4 b6 g g2 L.length c W H F (turF F W H y x)) (fun i _ => W - (intOf i).toNat)
            case atStart => exact ⟨0, Nat.zero_le _, rfl, HT6.out⟩
            case round =>
              clear HT HT6
              obtain ⟨x, hx, rfl, hT⟩ := hrel
              by_cases hxl : x < W
              · have hox := Hoff.out x hxl
                have c0 := hT.src (o + x) hox
                have jx : (x : Int) < (W : Int) := by omega
                have j0 : (0 : Int) ≤ (x : Int) := by omega
                have HT := Lib.hid hT
                have q0 := hT.p0
                have q1 := hT.p1
                have q2 := hT.q0
                have q3 := hT.q1
                obtain ⟨d, hd⟩ : ∃ d, d = H - 1 := ⟨_, rfl⟩
                obtain ⟨u, hu⟩ : ∃ u, u = H - 1 - y := ⟨_, rfl⟩
                have iw1 : IntKind.i64.wrap ((H : Int) - 1) = (d : Int) := by rw [IntWalk.i64_in _ (by omega)]; omega
                have iw2 : IntKind.i64.wrap ((d : Int) - (y : Int)) = (u : Int) := by rw [IntWalk.i64_in _ (by omega)]; omega
                have ju : (u : Int) < (H : Int) := by omega
                have ju0 : (0 : Int) ≤ (u : Int) := by omega
                have hux := Hxy.out x u hxl (by omega)
                have Hst3 := Lib.hid (fun t => Hst.out x t)
                rw [← hu] at Hst3
                have conX := Lib.hid (fun W0 => Hrow2.out g2 x hxl W0)
                obtain ⟨r, hr⟩ : ∃ r, r = x * H := ⟨_, rfl⟩
                rw [← hr] at conX Hst3 hux
                generalize F (o + x) = p at *
                clear hT hd hu hr Hst Hoff Hrowt Hstep Hxy Hyx Htext Hrow Hrow2 Hblank conR
                go_wp2_with fail
                clear c0
                obtain ⟨v7, hv7⟩ : ∃ v7, v7 = wr.drew := ⟨_, rfl⟩
                have hS : v7.cell? ⟨b4, 0, none⟩ = some (.slice (some ⟨g, 0, none⟩) L.length c) ∧ v7.cell? ⟨b4, 1, none⟩ = some (.int .i64 (W : Int)) ∧ v7.cell? ⟨b6, 0, none⟩ = some (.slice (some ⟨g2, 0, none⟩) L.length L.length) ∧ v7.cell? ⟨b6, 1, none⟩ = some (.int .i64 (H : Int)) := by rw [hv7]; exact ⟨g1d _ q0, g1d _ q1, g1d _ q2, g1d _ q3⟩
                have HT7 := Lib.hid (show TurnAt w v7 b4 b6 g g2 L.length c W H F (turF F W H y x) from by rw [hv7]; exact HT.out.keep (Below.refl _ _).drew)
                refine wp_region_held_drew (S := fun w' => w'.cell? ⟨b4, 0, none⟩ = some (.slice (some ⟨g, 0, none⟩) L.length c) ∧ w'.cell? ⟨b4, 1, none⟩ = some (.int .i64 (W : Int)) ∧ w'.cell? ⟨b6, 0, none⟩ = some (.slice (some ⟨g2, 0, none⟩) L.length L.length) ∧ w'.cell? ⟨b6, 1, none⟩ = some (.int .i64 (H : Int))) (by kernel_rfl) ⟨g1d _ q0, g1d _ q1, g1d _ q2, g1d _ q3⟩ (fun hH0 => ?_)
                clear hH0
                rw [← hv7]
                clear hv7 q0 q1 q2 q3 HT
                refine reg_take 0 rfl (by kernel_rfl) (by kernel_rfl) (by kernel_rfl) (fun _ _ _ h => h) (by rfl) (fun w hSw => by (try dsimp only at hSw); first | (go_simp; done) | (go_simp; with_reducible rfl)) hS ?_
                try simp only [Act.put, List.setIfInBounds_toArray, List.set_cons_zero, List.set_cons_succ, List.getElem_toArray, List.getElem_cons_zero]
                refine reg_take 1 rfl (by kernel_rfl) (by kernel_rfl) (by kernel_rfl) (fun _ _ _ h => h) (by rfl) (fun w _ => by first | (go_simp; done) | (go_simp; with_reducible rfl)) hS ?_
                try simp only [Act.put, List.setIfInBounds_toArray, List.set_cons_zero, List.set_cons_succ, List.getElem_toArray, List.getElem_cons_zero, List.getElem_cons_succ]
                refine reg_take 3 rfl (by kernel_rfl) (by kernel_rfl) (by kernel_rfl) (fun _ _ _ h => h) (by rfl) (fun w hSw => by (try dsimp only at hSw); first | (go_simp; done) | (go_simp; with_reducible rfl)) hS ?_
                try simp only [Act.put, List.setIfInBounds_toArray, List.set_cons_zero, List.set_cons_succ, List.getElem_toArray, List.getElem_cons_zero, List.getElem_cons_succ]
                refine reg_take 6 rfl (by kernel_rfl) (by kernel_rfl) (by kernel_rfl) (fun _ _ _ h => h) (by rfl) (fun w _ => by first | (go_simp; done) | (go_simp; with_reducible rfl)) hS ?_
                try simp only [Act.put, List.setIfInBounds_toArray, List.set_cons_zero, List.set_cons_succ, List.getElem_toArray, List.getElem_cons_zero, List.getElem_cons_succ]
                refine reg_take 8 rfl (by kernel_rfl) (by kernel_rfl) (by kernel_rfl) (fun _ _ _ h => h) (by rfl) (fun w _ => by first | (go_simp; done) | (go_simp; with_reducible rfl)) hS ?_
                try simp only [Act.put, List.setIfInBounds_toArray, List.set_cons_zero, List.set_cons_succ, List.getElem_toArray, List.getElem_cons_zero, List.getElem_cons_succ]
                refine wpAnyH_ready (rs := [2]) (by kernel_rfl) (by simp) ?_
                refine AllReadyH.cons (i := 2) rfl (fun K hK => ?_) AllReadyH.nil
                go_simp
                go_at_call 41
                refine (conX.out _).mono ?_
                rintro e v8 ⟨rfl, hb7⟩
                have HTn := Lib.hid (HT7.out.keep hb7)
                have hSn := show v8.cell? ⟨b4, 0, none⟩ = some (.slice (some ⟨g, 0, none⟩) L.length c) ∧ v8.cell? ⟨b4, 1, none⟩ = some (.int .i64 (W : Int)) ∧ v8.cell? ⟨b6, 0, none⟩ = some (.slice (some ⟨g2, 0, none⟩) L.length L.length) ∧ v8.cell? ⟨b6, 1, none⟩ = some (.int .i64 (H : Int)) from ⟨HTn.out.p0, HTn.out.p1, HTn.out.q0, HTn.out.q1⟩
                refine hK.out _ _ hSn (fun hHx => ?_)
                clear hK K hHx hS hb7
                have hS := hSn
                have HTv8 := HTn
                clear hSn HTn HT7
                try simp only [Act.put, List.setIfInBounds_toArray, List.set_cons_zero, List.set_cons_succ, List.getElem_toArray, List.getElem_cons_zero, List.getElem_cons_succ]
                refine wpAnyH_ready (rs := [4]) (by kernel_rfl) (by simp) ?_
                refine AllReadyH.cons (i := 4) rfl (fun K hK => ?_) AllReadyH.nil
                go_simp
                go_at_call 40
                refine (Hhei.out _ _ _).mono ?_
                rintro e v9 ⟨rfl, hb7⟩
                have HTn := Lib.hid (HTv8.out.keep hb7)
                have hSn := show v9.cell? ⟨b4, 0, none⟩ = some (.slice (some ⟨g, 0, none⟩) L.length c) ∧ v9.cell? ⟨b4, 1, none⟩ = some (.int .i64 (W : Int)) ∧ v9.cell? ⟨b6, 0, none⟩ = some (.slice (some ⟨g2, 0, none⟩) L.length L.length) ∧ v9.cell? ⟨b6, 1, none⟩ = some (.int .i64 (H : Int)) from ⟨HTn.out.p0, HTn.out.p1, HTn.out.q0, HTn.out.q1⟩
                refine hK.out _ _ hSn (fun hHx => ?_)
                clear hK K hHx hS hb7
                have hS := hSn
                have HTv9 := HTn
                clear hSn HTn HTv8
                try simp only [Act.put, List.setIfInBounds_toArray, List.set_cons_zero, List.set_cons_succ, List.getElem_toArray, List.getElem_cons_zero, List.getElem_cons_succ]
                refine reg_take 5 rfl (by kernel_rfl) (by kernel_rfl) (by kernel_rfl) (fun _ _ _ h => h) (by rfl) (fun w _ => by first | (go_simp; done) | (go_simp; with_reducible rfl)) hS ?_
                try simp only [Act.put, List.setIfInBounds_toArray, List.set_cons_zero, List.set_cons_succ, List.getElem_toArray, List.getElem_cons_zero, List.getElem_cons_succ]
                refine reg_take 7 rfl (by kernel_rfl) (by kernel_rfl) (by kernel_rfl) (fun _ _ _ h => h) (by rfl) (fun w _ => by first | (go_simp; done) | (go_simp; with_reducible rfl)) hS ?_
                try simp only [Act.put, List.setIfInBounds_toArray, List.set_cons_zero, List.set_cons_succ, List.getElem_toArray, List.getElem_cons_zero, List.getElem_cons_succ]
                refine reg_take 9 rfl (by kernel_rfl) (by kernel_rfl) (by kernel_rfl) (fun _ _ _ h => h) (by rfl) (fun w _ => by first | (go_simp; done) | (go_simp; with_reducible rfl)) hS ?_
                try simp only [Act.put, List.setIfInBounds_toArray, List.set_cons_zero, List.set_cons_succ, List.getElem_toArray, List.getElem_cons_zero, List.getElem_cons_succ]
                have u0 := (HTv9.out.dst (r + u) hux).1
                have uf := (HTv9.out.dst (r + u) hux).2
                refine wpAnyH_ready (rs := [10]) (by kernel_rfl) (by simp) ?_
                refine AllReadyH.cons (i := 10) rfl (fun K hK => ?_) AllReadyH.nil
                go_simp
                refine hK.out _ _ ⟨farT n4 hS.1, farT n4 hS.2.1, farT n6 hS.2.2.1, farT n6 hS.2.2.2⟩ (fun hHx => ?_)
                clear hK K hHx
                try simp only [Act.put, List.setIfInBounds_toArray, List.set_cons_zero, List.set_cons_succ, List.getElem_toArray, List.getElem_cons_zero, List.getElem_cons_succ]
                refine wpAnyH_done (by kernel_rfl) ?_ _
                have HTp := (HTv9.out.put n4 n6 ng hw2 hux p).same (fun t _ => Hst3.out t)
                obtain ⟨vA, hvA⟩ : ∃ vA, vA = v9.setCell ⟨g2, r + u, none⟩ (.int .u8 p) := ⟨_, rfl⟩
                rw [← hvA] at HTp ⊢
                clear hvA u0 uf hS HTv9
                have HTq := Lib.hid HTp
                clear HTp
                go_wp2
                go_roundw
                case rel => exact ⟨x + 1, by omega, by go_num, HTq.out⟩
                case measure => simp [intOf]; omega
              · obtain rfl : x = W := by omega
                have HTe := Lib.hid (hT.same (fun t ht => Hrowt.out y t ht))
                clear hT
                go_wp2
                go_roundw
                case rel => exact ⟨y + 1, by omega, by go_num, HTe.out⟩
                case measure => simp [intOf]; omega
          · obtain rfl : y = H := by omega
            have q2 := hT.q0
            have q3 := hT.q1
            have conT := Lib.hid (Htext.out g2 wr hT.dst)
            have HL := Lib.hid hT.low
            clear hT HT5 HT0
            go_wp2_with (go_at_call 42; refine conT.out.mono ?_; rintro e w7 ⟨rfl, hb7⟩)
            go_ret2
            exact ⟨rfl, bstep HL.out hb7⟩
      · skip
        go_simp
        obtain ⟨u2, hvn⟩ : ∃ u2, u2 = u1.alloc (.cells #[.slice none 0 0, .int .i64 0] 53) := ⟨_, rfl⟩
        have hbn : Below u1.heap.size u1 u2 := by rw [hvn]; exact (Below.refl _ _).alloc (Nat.le_refl _) _
        have z0 : u2.cell? ⟨u1.heap.size, 0, none⟩ = some (.slice none 0 0) := by rw [hvn]; simp
        have z1 : u2.cell? ⟨u1.heap.size, 1, none⟩ = some (.int .i64 0) := by rw [hvn]; simp
        have zf0 : u2.frozen? ⟨u1.heap.size, 0, none⟩ = false := by rw [hvn]; exact frozen_freshT _ _ _ _
        have zf1 : u2.frozen? ⟨u1.heap.size, 1, none⟩ = false := by rw [hvn]; exact frozen_freshT _ _ _ _
        have hsz2 : u2.heap.size = u1.heap.size + 1 := by rw [hvn]; simp
        rw [← hvn]
        clear hvn
        have hSn := show u2.cell? ⟨b4, 0, none⟩ = some (.slice (some ⟨g, 0, none⟩) L.length c) ∧ u2.cell? ⟨b4, 1, none⟩ = some (.int .i64 (W : Int)) from ⟨keepc hbn hS.1, keepc hbn hS.2⟩
        have HSn := Lib.hid (fun j (hj : j < L.length) => keepc hbn (HS0.out j hj))
        have Hbn := Lib.hid (bstep Hb0.out hbn)
        refine hK.out _ _ hSn (fun hHx => ?_)
        clear hK K hHx hS HS0 Hb0 hbn
        have hS := hSn
        have HS0 := HSn
        have Hb0 := Hbn
        clear hSn HSn Hbn
        try simp only [Act.put, List.setIfInBounds_toArray, List.set_cons_zero, List.set_cons_succ, List.getElem_toArray, List.getElem_cons_zero, List.getElem_cons_succ]
        refine wpAnyH_ready (rs := [4]) (by kernel_rfl) (by simp) ?_
        refine AllReadyH.cons (i := 4) rfl (fun K hK => ?_) AllReadyH.nil
        go_simp
        go_at_call 39
        refine (Hblank.out _).mono ?_
        rintro e u3 ⟨rfl, hZn, hbn, hzn⟩
        have hSn := show u3.cell? ⟨b4, 0, none⟩ = some (.slice (some ⟨g, 0, none⟩) L.length c) ∧ u3.cell? ⟨b4, 1, none⟩ = some (.int .i64 (W : Int)) from ⟨keepc hbn hS.1, keepc hbn hS.2⟩
        have HSn := Lib.hid (fun j (hj : j < L.length) => keepc hbn (HS0.out j hj))
        have Hbn := Lib.hid (bstep Hb0.out hbn)
        have zn0 := keepc hbn z0
        have zn1 := keepc hbn z1
        have zg0 := (hbn.frozen (p := ⟨u1.heap.size, 0, none⟩) (block_lt z0)).trans zf0
        have zg1 := (hbn.frozen (p := ⟨u1.heap.size, 1, none⟩) (block_lt z1)).trans zf1
        have HZn := Lib.hid hZn
        have hsz3 := hbn.size
        refine hK.out _ _ hSn (fun hHx => ?_)
        clear hK K hHx hS HS0 Hb0 hbn
        have hS := hSn
        have HS0 := HSn
        have Hb0 := Hbn
        clear hSn HSn Hbn
        clear z0 z1 zf0 zf1
        have z0 := zn0
        have z1 := zn1
        have zf0 := zg0
        have zf1 := zg1
        clear zn0 zn1 zg0 zg1
        have HZ := HZn
        clear HZn hZn
        try simp only [Act.put, List.setIfInBounds_toArray, List.set_cons_zero, List.set_cons_succ, List.getElem_toArray, List.getElem_cons_zero, List.getElem_cons_succ]
        obtain ⟨b6, hb6⟩ : ∃ b6, b6 = u1.heap.size := ⟨_, rfl⟩
        obtain ⟨g2, hg2⟩ : ∃ g2, g2 = (u2.heap.size + 1) := ⟨_, rfl⟩
        have n4 : g2 ≠ b4 := by omega
        have n6 : g2 ≠ b6 := by omega
        have ng : g2 ≠ g := by omega
        have n46 : b6 ≠ b4 := by omega
        have ng6 : b6 ≠ g := by omega
        have hw2 : w.heap.size ≤ g2 := by omega
        have hw6 : w.heap.size ≤ b6 := by omega
        rw [← hb6] at z0 z1 zf0 zf1 ⊢
        rw [← hg2] at HZ ⊢
        clear hb6 hg2
        refine wpAnyH_ready (rs := [6]) (by kernel_rfl) (by simp) ?_
        refine AllReadyH.cons (i := 6) rfl (fun K hK => ?_) AllReadyH.nil
        go_simp
        refine hK.out _ _ ⟨farT n46 (farT n46 hS.1), farT n46 (farT n46 hS.2)⟩ (fun hHx => ?_)
        clear hK K hHx
        try simp only [Act.put, List.setIfInBounds_toArray, List.set_cons_zero, List.set_cons_succ, List.getElem_toArray, List.getElem_cons_zero, List.getElem_cons_succ]
        refine wpAnyH_done (by kernel_rfl) ?_ _
        have HT0 := Lib.hid (show TurnAt w ((u3.setCell ⟨b6, 0, none⟩ (.slice (some ⟨g2, 0, none⟩) L.length L.length)).setCell ⟨b6, 1, none⟩ (.int .i64 (H : Int))) b4 b6 g g2 L.length c W H F (fun _ => 0) from ⟨farT n46 (farT n46 hS.1), farT n46 (farT n46 hS.2), sameT (by omega) (World.cell?_setCell_same _ _ _ z0), World.cell?_setCell_same _ _ _ (sameT (by omega) z1), fun j hj => farT ng6 (farT ng6 (HS0.out j hj)), fun j hj => ⟨farT n6.symm (farT n6.symm (HZ.out j hj).1), (World.frozen?_setCell _ _ _ _).trans ((World.frozen?_setCell _ _ _ _).trans (HZ.out j hj).2)⟩, (Hb0.out.setCell hw6 _).setCell hw6 _⟩)
        obtain ⟨vT, hvT⟩ : ∃ vT, vT = ((u3.setCell ⟨b6, 0, none⟩ (.slice (some ⟨g2, 0, none⟩) L.length L.length)).setCell ⟨b6, 1, none⟩ (.int .i64 (H : Int))) := ⟨_, rfl⟩
        rw [← hvT] at HT0 ⊢
        clear hvT hS HS0 Hb0 HZ z0 z1 zf0 zf1
        have p0 := HT0.out.p0
        have p1 := HT0.out.p1
        go_wp2_with (go_at_call 40; refine (Hhei.out _ _ _).mono ?_; rintro e w5 ⟨rfl, hb5⟩; have HT5 := Lib.hid (HT0.out.keep hb5); clear hb5)
        clear p0 p1
        go_loopw [24] (fun i wr => ∃ y : Nat, y ≤ H ∧ i = .int .i64 y ∧ TurnAt w wr b4 b6 g g2 L.length c W H F (turF F W H y 0)) (fun i _ => H - (intOf i).toNat)
        case atStart => exact ⟨0, Nat.zero_le _, rfl, HT5.out.same (fun t _ => (turF_zero F W H t).symm)⟩
        case round =>
          obtain ⟨y, hy, rfl, hT⟩ := hrel
          by_cases hyl : y < H
          · have p0 := hT.p0
            have p1 := hT.p1
            have HT := Lib.hid hT
            have conR := Lib.hid (fun W0 => Hrow.out g c y hyl Hc.out W0)
            have jy : (y : Int) < (H : Int) := by omega
            clear hT HT5 HT0
            have Hoff := Lib.hid (fun x (hx : x < W) => Hyx.out y x hyl hx)
            have Hst := Lib.hid (fun x t => Hstep.out y x t hyl)
            obtain ⟨o, ho⟩ : ∃ o, o = y * W := ⟨_, rfl⟩
            rw [← ho] at conR Hoff Hst
            clear ho
            go_wp2_with (go_at_call 41; refine (conR.out _).mono ?_; rintro e w6 ⟨rfl, hb6⟩; have HT6 := Lib.hid (HT.out.keep hb6); clear hb6)
            clear p0 p1
            obtain ⟨wo, rfl⟩ : ∃ wo, wo = wr := ⟨_, rfl⟩
            go_loopw [31] (fun i wr => ∃ x : Nat, x ≤ W ∧ i = .int .i64 x ∧ TurnAt w wr b4 b6 g g2 L.length c W H F (turF F W H y x)) (fun i _ => W - (intOf i).toNat)
            case atStart => exact ⟨0, Nat.zero_le _, rfl, HT6.out⟩
            case round =>
              clear HT HT6
              obtain ⟨x, hx, rfl, hT⟩ := hrel
              by_cases hxl : x < W
              · have hox := Hoff.out x hxl
                have c0 := hT.src (o + x) hox
                have jx : (x : Int) < (W : Int) := by omega
                have j0 : (0 : Int) ≤ (x : Int) := by omega
                have HT := Lib.hid hT
                have q0 := hT.p0
                have q1 := hT.p1
                have q2 := hT.q0
                have q3 := hT.q1
                obtain ⟨d, hd⟩ : ∃ d, d = H - 1 := ⟨_, rfl⟩
                obtain ⟨u, hu⟩ : ∃ u, u = H - 1 - y := ⟨_, rfl⟩
                have iw1 : IntKind.i64.wrap ((H : Int) - 1) = (d : Int) := by rw [IntWalk.i64_in _ (by omega)]; omega
                have iw2 : IntKind.i64.wrap ((d : Int) - (y : Int)) = (u : Int) := by rw [IntWalk.i64_in _ (by omega)]; omega
                have ju : (u : Int) < (H : Int) := by omega
                have ju0 : (0 : Int) ≤ (u : Int) := by omega
                have hux := Hxy.out x u hxl (by omega)
                have Hst3 := Lib.hid (fun t => Hst.out x t)
                rw [← hu] at Hst3
                have conX := Lib.hid (fun W0 => Hrow2.out g2 x hxl W0)
                obtain ⟨r, hr⟩ : ∃ r, r = x * H := ⟨_, rfl⟩
                rw [← hr] at conX Hst3 hux
                generalize F (o + x) = p at *
                clear hT hd hu hr Hst Hoff Hrowt Hstep Hxy Hyx Htext Hrow Hrow2 Hblank conR
                go_wp2_with fail
                clear c0
                obtain ⟨v7, hv7⟩ : ∃ v7, v7 = wr.drew := ⟨_, rfl⟩
                have hS : v7.cell? ⟨b4, 0, none⟩ = some (.slice (some ⟨g, 0, none⟩) L.length c) ∧ v7.cell? ⟨b4, 1, none⟩ = some (.int .i64 (W : Int)) ∧ v7.cell? ⟨b6, 0, none⟩ = some (.slice (some ⟨g2, 0, none⟩) L.length L.length) ∧ v7.cell? ⟨b6, 1, none⟩ = some (.int .i64 (H : Int)) := by rw [hv7]; exact ⟨g1d _ q0, g1d _ q1, g1d _ q2, g1d _ q3⟩
                have HT7 := Lib.hid (show TurnAt w v7 b4 b6 g g2 L.length c W H F (turF F W H y x) from by rw [hv7]; exact HT.out.keep (Below.refl _ _).drew)
                refine wp_region_held_drew (S := fun w' => w'.cell? ⟨b4, 0, none⟩ = some (.slice (some ⟨g, 0, none⟩) L.length c) ∧ w'.cell? ⟨b4, 1, none⟩ = some (.int .i64 (W : Int)) ∧ w'.cell? ⟨b6, 0, none⟩ = some (.slice (some ⟨g2, 0, none⟩) L.length L.length) ∧ w'.cell? ⟨b6, 1, none⟩ = some (.int .i64 (H : Int))) (by kernel_rfl) ⟨g1d _ q0, g1d _ q1, g1d _ q2, g1d _ q3⟩ (fun hH0 => ?_)
                clear hH0
                rw [← hv7]
                clear hv7 q0 q1 q2 q3 HT
                refine reg_take 0 rfl (by kernel_rfl) (by kernel_rfl) (by kernel_rfl) (fun _ _ _ h => h) (by rfl) (fun w hSw => by (try dsimp only at hSw); first | (go_simp; done) | (go_simp; with_reducible rfl)) hS ?_
                try simp only [Act.put, List.setIfInBounds_toArray, List.set_cons_zero, List.set_cons_succ, List.getElem_toArray, List.getElem_cons_zero]
                refine reg_take 1 rfl (by kernel_rfl) (by kernel_rfl) (by kernel_rfl) (fun _ _ _ h => h) (by rfl) (fun w _ => by first | (go_simp; done) | (go_simp; with_reducible rfl)) hS ?_
                try simp only [Act.put, List.setIfInBounds_toArray, List.set_cons_zero, List.set_cons_succ, List.getElem_toArray, List.getElem_cons_zero, List.getElem_cons_succ]
                refine reg_take 3 rfl (by kernel_rfl) (by kernel_rfl) (by kernel_rfl) (fun _ _ _ h => h) (by rfl) (fun w hSw => by (try dsimp only at hSw); first | (go_simp; done) | (go_simp; with_reducible rfl)) hS ?_
                try simp only [Act.put, List.setIfInBounds_toArray, List.set_cons_zero, List.set_cons_succ, List.getElem_toArray, List.getElem_cons_zero, List.getElem_cons_succ]
                refine reg_take 6 rfl (by kernel_rfl) (by kernel_rfl) (by kernel_rfl) (fun _ _ _ h => h) (by rfl) (fun w _ => by first | (go_simp; done) | (go_simp; with_reducible rfl)) hS ?_
                try simp only [Act.put, List.setIfInBounds_toArray, List.set_cons_zero, List.set_cons_succ, List.getElem_toArray, List.getElem_cons_zero, List.getElem_cons_succ]
                refine reg_take 8 rfl (by kernel_rfl) (by kernel_rfl) (by kernel_rfl) (fun _ _ _ h => h) (by rfl) (fun w _ => by first | (go_simp; done) | (go_simp; with_reducible rfl)) hS ?_
                try simp only [Act.put, List.setIfInBounds_toArray, List.set_cons_zero, List.set_cons_succ, List.getElem_toArray, List.getElem_cons_zero, List.getElem_cons_succ]
                refine wpAnyH_ready (rs := [2]) (by kernel_rfl) (by simp) ?_
                refine AllReadyH.cons (i := 2) rfl (fun K hK => ?_) AllReadyH.nil
                go_simp
                go_at_call 41
                refine (conX.out _).mono ?_
                rintro e v8 ⟨rfl, hb7⟩
                have HTn := Lib.hid (HT7.out.keep hb7)
                have hSn := show v8.cell? ⟨b4, 0, none⟩ = some (.slice (some ⟨g, 0, none⟩) L.length c) ∧ v8.cell? ⟨b4, 1, none⟩ = some (.int .i64 (W : Int)) ∧ v8.cell? ⟨b6, 0, none⟩ = some (.slice (some ⟨g2, 0, none⟩) L.length L.length) ∧ v8.cell? ⟨b6, 1, none⟩ = some (.int .i64 (H : Int)) from ⟨HTn.out.p0, HTn.out.p1, HTn.out.q0, HTn.out.q1⟩
                refine hK.out _ _ hSn (fun hHx => ?_)
                clear hK K hHx hS hb7
                have hS := hSn
                have HTv8 := HTn
                clear hSn HTn HT7
                try simp only [Act.put, List.setIfInBounds_toArray, List.set_cons_zero, List.set_cons_succ, List.getElem_toArray, List.getElem_cons_zero, List.getElem_cons_succ]
                refine wpAnyH_ready (rs := [4]) (by kernel_rfl) (by simp) ?_
                refine AllReadyH.cons (i := 4) rfl (fun K hK => ?_) AllReadyH.nil
                go_simp
                go_at_call 40
                refine (Hhei.out _ _ _).mono ?_
                rintro e v9 ⟨rfl, hb7⟩
                have HTn := Lib.hid (HTv8.out.keep hb7)
                have hSn := show v9.cell? ⟨b4, 0, none⟩ = some (.slice (some ⟨g, 0, none⟩) L.length c) ∧ v9.cell? ⟨b4, 1, none⟩ = some (.int .i64 (W : Int)) ∧ v9.cell? ⟨b6, 0, none⟩ = some (.slice (some ⟨g2, 0, none⟩) L.length L.length) ∧ v9.cell? ⟨b6, 1, none⟩ = some (.int .i64 (H : Int)) from ⟨HTn.out.p0, HTn.out.p1, HTn.out.q0, HTn.out.q1⟩
                refine hK.out _ _ hSn (fun hHx => ?_)
                clear hK K hHx hS hb7
                have hS := hSn
                have HTv9 := HTn
                clear hSn HTn HTv8
                try simp only [Act.put, List.setIfInBounds_toArray, List.set_cons_zero, List.set_cons_succ, List.getElem_toArray, List.getElem_cons_zero, List.getElem_cons_succ]
                refine reg_take 5 rfl (by kernel_rfl) (by kernel_rfl) (by kernel_rfl) (fun _ _ _ h => h) (by rfl) (fun w _ => by first | (go_simp; done) | (go_simp; with_reducible rfl)) hS ?_
                try simp only [Act.put, List.setIfInBounds_toArray, List.set_cons_zero, List.set_cons_succ, List.getElem_toArray, List.getElem_cons_zero, List.getElem_cons_succ]
                refine reg_take 7 rfl (by kernel_rfl) (by kernel_rfl) (by kernel_rfl) (fun _ _ _ h => h) (by rfl) (fun w _ => by first | (go_simp; done) | (go_simp; with_reducible rfl)) hS ?_
                try simp only [Act.put, List.setIfInBounds_toArray, List.set_cons_zero, List.set_cons_succ, List.getElem_toArray, List.getElem_cons_zero, List.getElem_cons_succ]
                refine reg_take 9 rfl (by kernel_rfl) (by kernel_rfl) (by kernel_rfl) (fun _ _ _ h => h) (by rfl) (fun w _ => by first | (go_simp; done) | (go_simp; with_reducible rfl)) hS ?_
                try simp only [Act.put, List.setIfInBounds_toArray, List.set_cons_zero, List.set_cons_succ, List.getElem_toArray, List.getElem_cons_zero, List.getElem_cons_succ]
                have u0 := (HTv9.out.dst (r + u) hux).1
                have uf := (HTv9.out.dst (r + u) hux).2
                refine wpAnyH_ready (rs := [10]) (by kernel_rfl) (by simp) ?_
                refine AllReadyH.cons (i := 10) rfl (fun K hK => ?_) AllReadyH.nil
                go_simp
                refine hK.out _ _ ⟨farT n4 hS.1, farT n4 hS.2.1, farT n6 hS.2.2.1, farT n6 hS.2.2.2⟩ (fun hHx => ?_)
                clear hK K hHx
                try simp only [Act.put, List.setIfInBounds_toArray, List.set_cons_zero, List.set_cons_succ, List.getElem_toArray, List.getElem_cons_zero, List.getElem_cons_succ]
                refine wpAnyH_done (by kernel_rfl) ?_ _
                have HTp := (HTv9.out.put n4 n6 ng hw2 hux p).same (fun t _ => Hst3.out t)
                obtain ⟨vA, hvA⟩ : ∃ vA, vA = v9.setCell ⟨g2, r + u, none⟩ (.int .u8 p) := ⟨_, rfl⟩
                rw [← hvA] at HTp ⊢
                clear hvA u0 uf hS HTv9
                have HTq := Lib.hid HTp
                clear HTp
                go_wp2
                go_roundw
                case rel => exact ⟨x + 1, by omega, by go_num, HTq.out⟩
                case measure => simp [intOf]; omega
              · obtain rfl : x = W := by omega
                have HTe := Lib.hid (hT.same (fun t ht => Hrowt.out y t ht))
                clear hT
                go_wp2
                go_roundw
                case rel => exact ⟨y + 1, by omega, by go_num, HTe.out⟩
                case measure => simp [intOf]; omega
          · obtain rfl : y = H := by omega
            have q2 := hT.q0
            have q3 := hT.q1
            have conT := Lib.hid (Htext.out g2 wr hT.dst)
            have HL := Lib.hid hT.low
            clear hT HT5 HT0
            go_wp2_with (go_at_call 42; refine conT.out.mono ?_; rintro e w7 ⟨rfl, hb7⟩)
            go_ret2
            exact ⟨rfl, bstep HL.out hb7⟩
    · skip
      go_simp
      obtain ⟨u1, hvn⟩ : ∃ u1, u1 = u0.alloc (.cells #[.slice none 0 0, .int .i64 0] 53) := ⟨_, rfl⟩
      have hbn : Below u0.heap.size u0 u1 := by rw [hvn]; exact (Below.refl _ _).alloc (Nat.le_refl _) _
      have z0 : u1.cell? ⟨u0.heap.size, 0, none⟩ = some (.slice none 0 0) := by rw [hvn]; simp
      have z1 : u1.cell? ⟨u0.heap.size, 1, none⟩ = some (.int .i64 0) := by rw [hvn]; simp
      have zf0 : u1.frozen? ⟨u0.heap.size, 0, none⟩ = false := by rw [hvn]; exact frozen_freshT _ _ _ _
      have zf1 : u1.frozen? ⟨u0.heap.size, 1, none⟩ = false := by rw [hvn]; exact frozen_freshT _ _ _ _
      have hsz1 : u1.heap.size = u0.heap.size + 1 := by rw [hvn]; simp
      rw [← hvn]
      clear hvn
      have hSn := show u1.cell? ⟨b4, 0, none⟩ = some (.slice (some ⟨g, 0, none⟩) L.length c) ∧ u1.cell? ⟨b4, 1, none⟩ = some (.int .i64 (W : Int)) from ⟨keepc hbn hS.1, keepc hbn hS.2⟩
      have HSn := Lib.hid (fun j (hj : j < L.length) => keepc hbn (HS0.out j hj))
      have Hbn := Lib.hid (bstep Hb0.out hbn)
      refine hK.out _ _ hSn (fun hHx => ?_)
      clear hK K hHx hS HS0 Hb0 hbn
      have hS := hSn
      have HS0 := HSn
      have Hb0 := Hbn
      clear hSn HSn Hbn
      try simp only [Act.put, List.setIfInBounds_toArray, List.set_cons_zero, List.set_cons_succ, List.getElem_toArray, List.getElem_cons_zero, List.getElem_cons_succ]
      refine wpAnyH_ready (rs := [1]) (by kernel_rfl) (by simp) ?_
      refine AllReadyH.cons (i := 1) rfl (fun K hK => ?_) AllReadyH.nil
      go_simp
      go_at_call 40
      refine (Hhei.out _ _ _).mono ?_
      rintro e u2 ⟨rfl, hbn⟩
      have hSn := show u2.cell? ⟨b4, 0, none⟩ = some (.slice (some ⟨g, 0, none⟩) L.length c) ∧ u2.cell? ⟨b4, 1, none⟩ = some (.int .i64 (W : Int)) from ⟨keepc hbn hS.1, keepc hbn hS.2⟩
      have HSn := Lib.hid (fun j (hj : j < L.length) => keepc hbn (HS0.out j hj))
      have Hbn := Lib.hid (bstep Hb0.out hbn)
      have zn0 := keepc hbn z0
      have zn1 := keepc hbn z1
      have zg0 := (hbn.frozen (p := ⟨u0.heap.size, 0, none⟩) (block_lt z0)).trans zf0
      have zg1 := (hbn.frozen (p := ⟨u0.heap.size, 1, none⟩) (block_lt z1)).trans zf1
      have hsz2 := hbn.size
      refine hK.out _ _ hSn (fun hHx => ?_)
      clear hK K hHx hS HS0 Hb0 hbn
      have hS := hSn
      have HS0 := HSn
      have Hb0 := Hbn
      clear hSn HSn Hbn
      clear z0 z1 zf0 zf1
      have z0 := zn0
      have z1 := zn1
      have zf0 := zg0
      have zf1 := zg1
      clear zn0 zn1 zg0 zg1
      try simp only [Act.put, List.setIfInBounds_toArray, List.set_cons_zero, List.set_cons_succ, List.getElem_toArray, List.getElem_cons_zero, List.getElem_cons_succ]
      refine wpAnyH_ready (rs := [4]) (by kernel_rfl) (by simp) ?_
      refine AllReadyH.cons (i := 4) rfl (fun K hK => ?_) AllReadyH.nil
      go_simp
      go_at_call 39
      refine (Hblank.out _).mono ?_
      rintro e u3 ⟨rfl, hZn, hbn, hzn⟩
      have hSn := show u3.cell? ⟨b4, 0, none⟩ = some (.slice (some ⟨g, 0, none⟩) L.length c) ∧ u3.cell? ⟨b4, 1, none⟩ = some (.int .i64 (W : Int)) from ⟨keepc hbn hS.1, keepc hbn hS.2⟩
      have HSn := Lib.hid (fun j (hj : j < L.length) => keepc hbn (HS0.out j hj))
      have Hbn := Lib.hid (bstep Hb0.out hbn)
      have zn0 := keepc hbn z0
      have zn1 := keepc hbn z1
      have zg0 := (hbn.frozen (p := ⟨u0.heap.size, 0, none⟩) (block_lt z0)).trans zf0
      have zg1 := (hbn.frozen (p := ⟨u0.heap.size, 1, none⟩) (block_lt z1)).trans zf1
      have HZn := Lib.hid hZn
      have hsz3 := hbn.size
      refine hK.out _ _ hSn (fun hHx => ?_)
      clear hK K hHx hS HS0 Hb0 hbn
      have hS := hSn
      have HS0 := HSn
      have Hb0 := Hbn
      clear hSn HSn Hbn
      clear z0 z1 zf0 zf1
      have z0 := zn0
      have z1 := zn1
      have zf0 := zg0
      have zf1 := zg1
      clear zn0 zn1 zg0 zg1
      have HZ := HZn
      clear HZn hZn
      try simp only [Act.put, List.setIfInBounds_toArray, List.set_cons_zero, List.set_cons_succ, List.getElem_toArray, List.getElem_cons_zero, List.getElem_cons_succ]
      obtain ⟨b6, hb6⟩ : ∃ b6, b6 = u0.heap.size := ⟨_, rfl⟩
      obtain ⟨g2, hg2⟩ : ∃ g2, g2 = (u2.heap.size + 1) := ⟨_, rfl⟩
      have n4 : g2 ≠ b4 := by omega
      have n6 : g2 ≠ b6 := by omega
      have ng : g2 ≠ g := by omega
      have n46 : b6 ≠ b4 := by omega
      have ng6 : b6 ≠ g := by omega
      have hw2 : w.heap.size ≤ g2 := by omega
      have hw6 : w.heap.size ≤ b6 := by omega
      rw [← hb6] at z0 z1 zf0 zf1 ⊢
      rw [← hg2] at HZ ⊢
      clear hb6 hg2
      refine wpAnyH_ready (rs := [6]) (by kernel_rfl) (by simp) ?_
      refine AllReadyH.cons (i := 6) rfl (fun K hK => ?_) AllReadyH.nil
      go_simp
      refine hK.out _ _ ⟨farT n46 (farT n46 hS.1), farT n46 (farT n46 hS.2)⟩ (fun hHx => ?_)
      clear hK K hHx
      try simp only [Act.put, List.setIfInBounds_toArray, List.set_cons_zero, List.set_cons_succ, List.getElem_toArray, List.getElem_cons_zero, List.getElem_cons_succ]
      refine wpAnyH_done (by kernel_rfl) ?_ _
      have HT0 := Lib.hid (show TurnAt w ((u3.setCell ⟨b6, 0, none⟩ (.slice (some ⟨g2, 0, none⟩) L.length L.length)).setCell ⟨b6, 1, none⟩ (.int .i64 (H : Int))) b4 b6 g g2 L.length c W H F (fun _ => 0) from ⟨farT n46 (farT n46 hS.1), farT n46 (farT n46 hS.2), sameT (by omega) (World.cell?_setCell_same _ _ _ z0), World.cell?_setCell_same _ _ _ (sameT (by omega) z1), fun j hj => farT ng6 (farT ng6 (HS0.out j hj)), fun j hj => ⟨farT n6.symm (farT n6.symm (HZ.out j hj).1), (World.frozen?_setCell _ _ _ _).trans ((World.frozen?_setCell _ _ _ _).trans (HZ.out j hj).2)⟩, (Hb0.out.setCell hw6 _).setCell hw6 _⟩)
      obtain ⟨vT, hvT⟩ : ∃ vT, vT = ((u3.setCell ⟨b6, 0, none⟩ (.slice (some ⟨g2, 0, none⟩) L.length L.length)).setCell ⟨b6, 1, none⟩ (.int .i64 (H : Int))) := ⟨_, rfl⟩
      rw [← hvT] at HT0 ⊢
      clear hvT hS HS0 Hb0 HZ z0 z1 zf0 zf1
      have p0 := HT0.out.p0
      have p1 := HT0.out.p1
      go_wp2_with (go_at_call 40; refine (Hhei.out _ _ _).mono ?_; rintro e w5 ⟨rfl, hb5⟩; have HT5 := Lib.hid (HT0.out.keep hb5); clear hb5)
      clear p0 p1
      go_loopw [24] (fun i wr => ∃ y : Nat, y ≤ H ∧ i = .int .i64 y ∧ TurnAt w wr b4 b6 g g2 L.length c W H F (turF F W H y 0)) (fun i _ => H - (intOf i).toNat)
      case atStart => exact ⟨0, Nat.zero_le _, rfl, HT5.out.same (fun t _ => (turF_zero F W H t).symm)⟩
      case round =>
        obtain ⟨y, hy, rfl, hT⟩ := hrel
        by_cases hyl : y < H
        · have p0 := hT.p0
          have p1 := hT.p1
          have HT := Lib.hid hT
          have conR := Lib.hid (fun W0 => Hrow.out g c y hyl Hc.out W0)
          have jy : (y : Int) < (H : Int) := by omega
          clear hT HT5 HT0
          have Hoff := Lib.hid (fun x (hx : x < W) => Hyx.out y x hyl hx)
          have Hst := Lib.hid (fun x t => Hstep.out y x t hyl)
          obtain ⟨o, ho⟩ : ∃ o, o = y * W := ⟨_, rfl⟩
          rw [← ho] at conR Hoff Hst
          clear ho
          go_wp2_with (go_at_call 41; refine (conR.out _).mono ?_; rintro e w6 ⟨rfl, hb6⟩; have HT6 := Lib.hid (HT.out.keep hb6); clear hb6)
          clear p0 p1
          obtain ⟨wo, rfl⟩ : ∃ wo, wo = wr := ⟨_, rfl⟩
          go_loopw [31] (fun i wr => ∃ x : Nat, x ≤ W ∧ i = .int .i64 x ∧ TurnAt w wr b4 b6 g g2 L.length c W H F (turF F W H y x)) (fun i _ => W - (intOf i).toNat)
          case atStart => exact ⟨0, Nat.zero_le _, rfl, HT6.out⟩
          case round =>
            clear HT HT6
            obtain ⟨x, hx, rfl, hT⟩ := hrel
            by_cases hxl : x < W
            · have hox := Hoff.out x hxl
              have c0 := hT.src (o + x) hox
              have jx : (x : Int) < (W : Int) := by omega
              have j0 : (0 : Int) ≤ (x : Int) := by omega
              have HT := Lib.hid hT
              have q0 := hT.p0
              have q1 := hT.p1
              have q2 := hT.q0
              have q3 := hT.q1
              obtain ⟨d, hd⟩ : ∃ d, d = H - 1 := ⟨_, rfl⟩
              obtain ⟨u, hu⟩ : ∃ u, u = H - 1 - y := ⟨_, rfl⟩
              have iw1 : IntKind.i64.wrap ((H : Int) - 1) = (d : Int) := by rw [IntWalk.i64_in _ (by omega)]; omega
              have iw2 : IntKind.i64.wrap ((d : Int) - (y : Int)) = (u : Int) := by rw [IntWalk.i64_in _ (by omega)]; omega
              have ju : (u : Int) < (H : Int) := by omega
              have ju0 : (0 : Int) ≤ (u : Int) := by omega
              have hux := Hxy.out x u hxl (by omega)
              have Hst3 := Lib.hid (fun t => Hst.out x t)
              rw [← hu] at Hst3
              have conX := Lib.hid (fun W0 => Hrow2.out g2 x hxl W0)
              obtain ⟨r, hr⟩ : ∃ r, r = x * H := ⟨_, rfl⟩
              rw [← hr] at conX Hst3 hux
              generalize F (o + x) = p at *
              clear hT hd hu hr Hst Hoff Hrowt Hstep Hxy Hyx Htext Hrow Hrow2 Hblank conR
              go_wp2_with fail
              clear c0
              obtain ⟨v7, hv7⟩ : ∃ v7, v7 = wr.drew := ⟨_, rfl⟩
              have hS : v7.cell? ⟨b4, 0, none⟩ = some (.slice (some ⟨g, 0, none⟩) L.length c) ∧ v7.cell? ⟨b4, 1, none⟩ = some (.int .i64 (W : Int)) ∧ v7.cell? ⟨b6, 0, none⟩ = some (.slice (some ⟨g2, 0, none⟩) L.length L.length) ∧ v7.cell? ⟨b6, 1, none⟩ = some (.int .i64 (H : Int)) := by rw [hv7]; exact ⟨g1d _ q0, g1d _ q1, g1d _ q2, g1d _ q3⟩
              have HT7 := Lib.hid (show TurnAt w v7 b4 b6 g g2 L.length c W H F (turF F W H y x) from by rw [hv7]; exact HT.out.keep (Below.refl _ _).drew)
              refine wp_region_held_drew (S := fun w' => w'.cell? ⟨b4, 0, none⟩ = some (.slice (some ⟨g, 0, none⟩) L.length c) ∧ w'.cell? ⟨b4, 1, none⟩ = some (.int .i64 (W : Int)) ∧ w'.cell? ⟨b6, 0, none⟩ = some (.slice (some ⟨g2, 0, none⟩) L.length L.length) ∧ w'.cell? ⟨b6, 1, none⟩ = some (.int .i64 (H : Int))) (by kernel_rfl) ⟨g1d _ q0, g1d _ q1, g1d _ q2, g1d _ q3⟩ (fun hH0 => ?_)
              clear hH0
              rw [← hv7]
              clear hv7 q0 q1 q2 q3 HT
              refine reg_take 0 rfl (by kernel_rfl) (by kernel_rfl) (by kernel_rfl) (fun _ _ _ h => h) (by rfl) (fun w hSw => by (try dsimp only at hSw); first | (go_simp; done) | (go_simp; with_reducible rfl)) hS ?_
              try simp only [Act.put, List.setIfInBounds_toArray, List.set_cons_zero, List.set_cons_succ, List.getElem_toArray, List.getElem_cons_zero]
              refine reg_take 1 rfl (by kernel_rfl) (by kernel_rfl) (by kernel_rfl) (fun _ _ _ h => h) (by rfl) (fun w _ => by first | (go_simp; done) | (go_simp; with_reducible rfl)) hS ?_
              try simp only [Act.put, List.setIfInBounds_toArray, List.set_cons_zero, List.set_cons_succ, List.getElem_toArray, List.getElem_cons_zero, List.getElem_cons_succ]
              refine reg_take 3 rfl (by kernel_rfl) (by kernel_rfl) (by kernel_rfl) (fun _ _ _ h => h) (by rfl) (fun w hSw => by (try dsimp only at hSw); first | (go_simp; done) | (go_simp; with_reducible rfl)) hS ?_
              try simp only [Act.put, List.setIfInBounds_toArray, List.set_cons_zero, List.set_cons_succ, List.getElem_toArray, List.getElem_cons_zero, List.getElem_cons_succ]
              refine reg_take 6 rfl (by kernel_rfl) (by kernel_rfl) (by kernel_rfl) (fun _ _ _ h => h) (by rfl) (fun w _ => by first | (go_simp; done) | (go_simp; with_reducible rfl)) hS ?_
              try simp only [Act.put, List.setIfInBounds_toArray, List.set_cons_zero, List.set_cons_succ, List.getElem_toArray, List.getElem_cons_zero, List.getElem_cons_succ]
              refine reg_take 8 rfl (by kernel_rfl) (by kernel_rfl) (by kernel_rfl) (fun _ _ _ h => h) (by rfl) (fun w _ => by first | (go_simp; done) | (go_simp; with_reducible rfl)) hS ?_
              try simp only [Act.put, List.setIfInBounds_toArray, List.set_cons_zero, List.set_cons_succ, List.getElem_toArray, List.getElem_cons_zero, List.getElem_cons_succ]
              refine wpAnyH_ready (rs := [2]) (by kernel_rfl) (by simp) ?_
              refine AllReadyH.cons (i := 2) rfl (fun K hK => ?_) AllReadyH.nil
              go_simp
              go_at_call 41
              refine (conX.out _).mono ?_
              rintro e v8 ⟨rfl, hb7⟩
              have HTn := Lib.hid (HT7.out.keep hb7)
              have hSn := show v8.cell? ⟨b4, 0, none⟩ = some (.slice (some ⟨g, 0, none⟩) L.length c) ∧ v8.cell? ⟨b4, 1, none⟩ = some (.int .i64 (W : Int)) ∧ v8.cell? ⟨b6, 0, none⟩ = some (.slice (some ⟨g2, 0, none⟩) L.length L.length) ∧ v8.cell? ⟨b6, 1, none⟩ = some (.int .i64 (H : Int)) from ⟨HTn.out.p0, HTn.out.p1, HTn.out.q0, HTn.out.q1⟩
              refine hK.out _ _ hSn (fun hHx => ?_)
              clear hK K hHx hS hb7
              have hS := hSn
              have HTv8 := HTn
              clear hSn HTn HT7
              try simp only [Act.put, List.setIfInBounds_toArray, List.set_cons_zero, List.set_cons_succ, List.getElem_toArray, List.getElem_cons_zero, List.getElem_cons_succ]
              refine wpAnyH_ready (rs := [4]) (by kernel_rfl) (by simp) ?_
              refine AllReadyH.cons (i := 4) rfl (fun K hK => ?_) AllReadyH.nil
              go_simp
              go_at_call 40
              refine (Hhei.out _ _ _).mono ?_
              rintro e v9 ⟨rfl, hb7⟩
              have HTn := Lib.hid (HTv8.out.keep hb7)
              have hSn := show v9.cell? ⟨b4, 0, none⟩ = some (.slice (some ⟨g, 0, none⟩) L.length c) ∧ v9.cell? ⟨b4, 1, none⟩ = some (.int .i64 (W : Int)) ∧ v9.cell? ⟨b6, 0, none⟩ = some (.slice (some ⟨g2, 0, none⟩) L.length L.length) ∧ v9.cell? ⟨b6, 1, none⟩ = some (.int .i64 (H : Int)) from ⟨HTn.out.p0, HTn.out.p1, HTn.out.q0, HTn.out.q1⟩
              refine hK.out _ _ hSn (fun hHx => ?_)
              clear hK K hHx hS hb7
              have hS := hSn
              have HTv9 := HTn
              clear hSn HTn HTv8
              try simp only [Act.put, List.setIfInBounds_toArray, List.set_cons_zero, List.set_cons_succ, List.getElem_toArray, List.getElem_cons_zero, List.getElem_cons_succ]
              refine reg_take 5 rfl (by kernel_rfl) (by kernel_rfl) (by kernel_rfl) (fun _ _ _ h => h) (by rfl) (fun w _ => by first | (go_simp; done) | (go_simp; with_reducible rfl)) hS ?_
              try simp only [Act.put, List.setIfInBounds_toArray, List.set_cons_zero, List.set_cons_succ, List.getElem_toArray, List.getElem_cons_zero, List.getElem_cons_succ]
              refine reg_take 7 rfl (by kernel_rfl) (by kernel_rfl) (by kernel_rfl) (fun _ _ _ h => h) (by rfl) (fun w _ => by first | (go_simp; done) | (go_simp; with_reducible rfl)) hS ?_
              try simp only [Act.put, List.setIfInBounds_toArray, List.set_cons_zero, List.set_cons_succ, List.getElem_toArray, List.getElem_cons_zero, List.getElem_cons_succ]
              refine reg_take 9 rfl (by kernel_rfl) (by kernel_rfl) (by kernel_rfl) (fun _ _ _ h => h) (by rfl) (fun w _ => by first | (go_simp; done) | (go_simp; with_reducible rfl)) hS ?_
              try simp only [Act.put, List.setIfInBounds_toArray, List.set_cons_zero, List.set_cons_succ, List.getElem_toArray, List.getElem_cons_zero, List.getElem_cons_succ]
              have u0 := (HTv9.out.dst (r + u) hux).1
              have uf := (HTv9.out.dst (r + u) hux).2
              refine wpAnyH_ready (rs := [10]) (by kernel_rfl) (by simp) ?_
              refine AllReadyH.cons (i := 10) rfl (fun K hK => ?_) AllReadyH.nil
              go_simp
              refine hK.out _ _ ⟨farT n4 hS.1, farT n4 hS.2.1, farT n6 hS.2.2.1, farT n6 hS.2.2.2⟩ (fun hHx => ?_)
              clear hK K hHx
              try simp only [Act.put, List.setIfInBounds_toArray, List.set_cons_zero, List.set_cons_succ, List.getElem_toArray, List.getElem_cons_zero, List.getElem_cons_succ]
              refine wpAnyH_done (by kernel_rfl) ?_ _
              have HTp := (HTv9.out.put n4 n6 ng hw2 hux p).same (fun t _ => Hst3.out t)
              obtain ⟨vA, hvA⟩ : ∃ vA, vA = v9.setCell ⟨g2, r + u, none⟩ (.int .u8 p) := ⟨_, rfl⟩
              rw [← hvA] at HTp ⊢
              clear hvA u0 uf hS HTv9
              have HTq := Lib.hid HTp
              clear HTp
              go_wp2
              go_roundw
              case rel => exact ⟨x + 1, by omega, by go_num, HTq.out⟩
              case measure => simp [intOf]; omega
            · obtain rfl : x = W := by omega
              have HTe := Lib.hid (hT.same (fun t ht => Hrowt.out y t ht))
              clear hT
              go_wp2
              go_roundw
              case rel => exact ⟨y + 1, by omega, by go_num, HTe.out⟩
              case measure => simp [intOf]; omega
        · obtain rfl : y = H := by omega
          have q2 := hT.q0
          have q3 := hT.q1
          have conT := Lib.hid (Htext.out g2 wr hT.dst)
          have HL := Lib.hid hT.low
          clear hT HT5 HT0
          go_wp2_with (go_at_call 42; refine conT.out.mono ?_; rintro e w7 ⟨rfl, hb7⟩)
          go_ret2
          exact ⟨rfl, bstep HL.out hb7⟩

theorem c_implTurnTB (s : ByteArray) (m : Int) {w0 w : World} (hm : w0.cell? ⟨0, 0, none⟩ = some (.int .i64 m)) (hb : Below w0.heap.size w0 w) (hl : s.size ≤ 1048576) :
    Calls Tryd.prog 21 #[.string s] w fun e w' => e = .returned (.tuple #[.string (turS s), .bool (tabB s)]) ∧ Below w.heap.size w w' := c_implTurnT s m w (keepc hb hm) hl

end Go.Proofs.YtjbdflkbclhonabDoor

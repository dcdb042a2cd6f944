/- Layouts of a table: the program's pairsOf, the specification's taLayout; IsLayout of both. -/
import Derived.Test.YtnnkdnleencofaaDoorTabP
import Derived.Lib.AppendStr
namespace Go.Proofs.YtnnkdnleencofaaDoor
open Go.RowKit
set_option linter.unusedVariables false

/-- Whether a text is a layout of a grid of n cells, W in a row. -/
def layT (W n : Nat) (t : ByteArray) : Bool := gridB t && (decide (widK true t = W) && (decide ((cellsK true t).length = n) && layB W (cellsK true t)))
theorem layT_no {W n : Nat} {t : ByteArray} (h : gridB t = false) : layT W n t = false := by unfold layT; rw [h]; rfl
theorem layT_w {W n : Nat} {t : ByteArray} (h : widK true t ≠ W) : layT W n t = false := by unfold layT; rw [decide_eq_false h, Bool.false_and, Bool.and_false]
theorem layT_n {W n : Nat} {t : ByteArray} (h : (cellsK true t).length ≠ n) : layT W n t = false := by unfold layT; rw [decide_eq_false h, Bool.false_and, Bool.and_false, Bool.and_false]
theorem layT_lay {W n : Nat} {t : ByteArray} (h : gridB t = true) (hw : widK true t = W) (hn : (cellsK true t).length = n) : layT W n t = layB W (cellsK true t) := by unfold layT; rw [h, decide_eq_true hw, decide_eq_true hn]; simp

def RetPo (w : World) (W n : Nat) (t : ByteArray) (e : Ending) (w' : World) : Prop := RetPr w W (cellsK true t) (layT W n t) e w'
theorem pr_none (w : World) (W : Nat) (L : List UInt8) {w' : World} (hb : Below w.heap.size w w') : RetPr w W L false (.returned (.tuple #[.slice none 0 0, .bool false])) w' := ⟨none, 0, rfl, World.ownsRow_nil _ _ _ _, hb⟩

set_option maxRecDepth 100000 in
set_option maxHeartbeats 1000000 in
theorem c_pairsOf (A : Option Addr) (n c W : Nat) (t : ByteArray) (m : Int) (w : World) (hm : w.cell? ⟨0, 0, none⟩ = some (.int .i64 m)) (hl : t.size ≤ 1048576) (hW : 0 < W) (hn : n ≤ 60) :
    Calls Tryd.prog 66 #[.agg #[.slice A n c, .int .i64 W], .string t] w (RetPo w W n t) := by
  have hb0 : Below w.heap.size w (w.alloc (.cells #[.slice A n c, .int .i64 W] 67)) := by go_grown
  have r0 : (w.alloc (.cells #[.slice A n c, .int .i64 W] 67)).cell? ⟨w.heap.size, 0, none⟩ = some (.slice A n c) := by simp
  have r1 : (w.alloc (.cells #[.slice A n c, .int .i64 W] 67)).cell? ⟨w.heap.size, 1, none⟩ = some (.int .i64 W) := by simp
  have con := Lib.hid (c_gridOf t m (w.alloc (.cells #[.slice A n c, .int .i64 W] 67)) (keepc hb0 hm) hl)
  unfold RetG at con
  cases hg : gridB t
  · have hlt := layT_no (W := W) (n := n) hg
    unfold RetPo
    rw [hlt]
    rw [hg, cellsK_no, widK_no] at con
    clear hg hlt
    go_enter Tryd.func66, Tryd.ntmps66
    go_wp2_with (go_at_call 85; refine con.out.mono ?_; rintro e w1 ⟨A1, c1, rfl, hc, hOU, hb1⟩; have Hb := Lib.hid (bstep hb0 hb1); clear hb1 hOU hc)
    go_ret2
    exact pr_none w W _ (by first | exact Hb.out.alloc Hb.out.size _ | exact Hb.out)
  · have hgd := hgt_div hg
    have hgk := gridB_ok hg
    rw [hg] at con
    have Hlt := Lib.hid (fun h1 h2 => layT_lay (W := W) (n := n) hg h1 h2)
    have Hlw := Lib.hid (fun h => layT_w (W := W) (n := n) (t := t) h)
    have Hln := Lib.hid (fun h => layT_n (W := W) (n := n) (t := t) h)
    have h30 := hgd.2.2
    have hrow := hgk.rows
    have hrow2 : ∃ H, (cellsK true t).length = H * widK true t := by obtain ⟨H, _, h⟩ := hrow; exact ⟨H, h⟩
    have hW30 : widK true t ≤ 60 := by have := hgk.pos; have e : widK true t = widR (rowsOf t) := rfl; have e2 : (cellsK true t).length = (rowsOf t).flatten.length := rfl; omega
    have hpo : ∀ b, layT W n t = b → RetPo w W n t = RetPr w W (cellsK true t) b := fun b h => by unfold RetPo; rw [h]
    have Hpo := Lib.hid hpo
    generalize hL : cellsK true t = L at *
    generalize hWW : widK true t = W1 at *
    clear hg hgd hgk hrow hpo hL hWW
    have conP := Lib.hid (fun A1 c1 W0 h (hw : W1 = W) => c_pairs A1 c1 W1 L W0 h (by omega) hrow2 (by omega) hW30)
    by_cases hw : W1 = W
    · have q1 : ((W1 : Int) != (W : Int)) = false := by simp [hw]
      by_cases hnn : L.length = n
      · have q2 : ((L.length : Int) != (n : Int)) = false := by simp [hnn]
        have hT := Lib.hid (Hlt.out hw hnn)
        have ConP := Lib.hid (fun A1 c1 W0 h => conP A1 c1 W0 h hw)
        have Hw := Lib.hid hw
        clear hnn hw conP
        go_enter Tryd.func66, Tryd.ntmps66
        go_wp2_with (first | (go_at_call 85; refine con.out.mono ?_; rintro e w1 ⟨A1, c1, rfl, hc, hOU, hb1⟩; have s0 := keepc hb1 r0; have s1 := keepc hb1 r1; have hz1 : w.heap.size < w1.heap.size := (block_lt s0); have HR := Lib.hid (hOU.rd.below ((Below.refl w1.heap.size w1).alloc (Nat.le_refl _) (.cells #[.slice A1 L.length c1, .int .i64 (W1 : Int)] 67))); have Hb := Lib.hid ((bstep hb0 hb1).alloc (bstep hb0 hb1).size (.cells #[.slice A1 L.length c1, .int .i64 (W1 : Int)] 67)); clear hb1 hOU hc) | (go_at_call 92; refine (ConP.out A1 c1 _ HR.out).mono ?_; rintro e w3 ⟨A3, c3, rfl, ho3, hb3⟩))
        go_ret2
        rw [Hpo.out _ hT.out]
        obtain rfl := Hw.out
        exact ⟨A3, c3, rfl, own_base ho3 Hb.out.size, bstep Hb.out hb3⟩
      · have q2 : ((L.length : Int) != (n : Int)) = true := by simp; omega
        have hT := Lib.hid (Hln.out hnn)
        clear hnn hw
        go_enter Tryd.func66, Tryd.ntmps66
        go_wp2_with (go_at_call 85; refine con.out.mono ?_; rintro e w1 ⟨A1, c1, rfl, hc, hOU, hb1⟩; have s0 := keepc hb1 r0; have s1 := keepc hb1 r1; have hz1 : w.heap.size < w1.heap.size := (block_lt s0); have HR := Lib.hid (hOU.rd.below ((Below.refl w1.heap.size w1).alloc (Nat.le_refl _) (.cells #[.slice A1 L.length c1, .int .i64 (W1 : Int)] 67))); have Hb := Lib.hid ((bstep hb0 hb1).alloc (bstep hb0 hb1).size (.cells #[.slice A1 L.length c1, .int .i64 (W1 : Int)] 67)); clear hb1 hOU hc)
        go_ret2
        rw [Hpo.out false hT.out]
        exact pr_none w W _ Hb.out
    · have q1 : ((W1 : Int) != (W : Int)) = true := by simp; omega
      have hT := Lib.hid (Hlw.out hw)
      clear hw
      go_enter Tryd.func66, Tryd.ntmps66
      go_wp2_with (go_at_call 85; refine con.out.mono ?_; rintro e w1 ⟨A1, c1, rfl, hc, hOU, hb1⟩; have s0 := keepc hb1 r0; have s1 := keepc hb1 r1; have hz1 : w.heap.size < w1.heap.size := (block_lt s0); have HR := Lib.hid (hOU.rd.below ((Below.refl w1.heap.size w1).alloc (Nat.le_refl _) (.cells #[.slice A1 L.length c1, .int .i64 (W1 : Int)] 67))); have Hb := Lib.hid ((bstep hb0 hb1).alloc (bstep hb0 hb1).size (.cells #[.slice A1 L.length c1, .int .i64 (W1 : Int)] 67)); clear hb1 hOU hc)
      go_ret2
      rw [Hpo.out false hT.out]
      exact pr_none w W _ Hb.out

/-- The rows before k, one after another. -/
def rowTo (us : List ByteArray) (k : Nat) : List UInt8 := ((us.map (·.data.toList)).take k).flatten
theorem rowTo_zero (us : List ByteArray) : rowTo us 0 = [] := by simp [rowTo]
theorem rowTo_succ {us : List ByteArray} {k : Nat} (hk : k < us.length) : rowTo us (k + 1) = rowTo us k ++ us[k].data.toList := by
  unfold rowTo
  rw [List.take_succ_eq_append_getElem (by simpa using hk), List.flatten_append]
  simp
theorem rowTo_all {s : ByteArray} {us : List ByteArray} (h : us.map (·.data.toList) = rowsOf s) : rowTo us us.length = (rowsOf s).flatten := by
  unfold rowTo
  have e : (us.map (·.data.toList)).length = us.length := by simp
  rw [← e, List.take_length, h]
theorem rowTo_len {us : List ByteArray} {W : Nat} (h : ∀ k (hk : k < us.length), us[k].size ≤ W) : ∀ k, k ≤ us.length → (rowTo us k).length ≤ k * W
  | 0, _ => by simp [rowTo_zero]
  | k + 1, hk => by
    rw [rowTo_succ (by omega), List.length_append, Nat.succ_mul]
    have h1 := rowTo_len h k (by omega)
    have h2 := h k (by omega)
    have h3 : us[k].data.toList.length = us[k].size := by simp
    omega
def cellsU8 (L : List UInt8) : List Value := L.map fun b => Value.int .u8 (b.toNat : Int)
theorem cellsU8_append (a b : List UInt8) : cellsU8 (a ++ b) = cellsU8 a ++ cellsU8 b := by simp [cellsU8]
theorem cellsU8_len (a : List UInt8) : (cellsU8 a).length = a.length := by simp [cellsU8]
/-- A row of bytes of the call's own, read. -/
theorem ownU_at {w : World} {base : Nat} {A : Option Addr} {c : Nat} {L : List UInt8} (h : w.ownsRow base 5 1 (.slice A L.length c) L.length (cellsU8 L)) (h0 : 0 < L.length) :
    ∃ g, A = some ⟨g, 0, none⟩ ∧ base ≤ g ∧ g < w.heap.size ∧ ∀ k (hk : k < L.length), w.cell? ⟨g, k, none⟩ = some (.int .u8 (L[k].toNat : Int)) := by
  have h' := h
  obtain ⟨hl, ⟨hv, hn⟩ | ⟨g, cap, cur, hv, hb, hh, r⟩⟩ := h'
  · omega
  · cases hv
    refine ⟨g, rfl, hb, (Array.getElem?_eq_some_iff.1 hh).1, fun k hk => ?_⟩
    rw [h.cellAt k (by omega)]
    simp [cellsU8, hk]
def RetLt (w : World) (b : Bool) (t : ByteArray) (e : Ending) (w' : World) : Prop :=
  ∃ A c, e = .returned (.tuple #[.slice A (cellsK b t).length c, .bool b]) ∧ w'.ownsRow w.heap.size 5 1 (.slice A (cellsK b t).length c) (cellsK b t).length (cellsU8 (cellsK b t)) ∧ Below w.heap.size w w'
theorem lt_none (w : World) (t : ByteArray) {w' : World} (hb : Below w.heap.size w w') : RetLt w false t (.returned (.tuple #[.slice none 0 0, .bool false])) w' := ⟨none, 0, rfl, World.ownsRow_nil _ _ _ _, hb⟩
theorem Tryd.info_u8 : (Tryd.prog.info? 5).map (fun i => (i.zero, i.size, i.bytes)) = some (some (.int .u8 0), 1, 1) := by kernel_rfl
theorem hgt_rows {t : ByteArray} (h : gridB t = true) : (cellsK true t).length = (rowsOf t).length * widK true t := by
  obtain ⟨h1, h2, _⟩ := evenR_iff.1 h
  exact flat_len _ h1
/-- The letter of a cell and of the one that it tells, as the specification asks them. -/
theorem layAt_neg {W : Nat} {L : List UInt8} {i : Nat} (h : i < L.length) (ho : othU W L.length i L[i] = none) : layAt W L i = false := by
  unfold layAt
  rw [getD_at h, ho]
theorem layAt_some {W : Nat} {L : List UInt8} {i j : Nat} (h : i < L.length) (hj : j < L.length) (ho : othU W L.length i L[i] = some j) : layAt W L i = decide (L[j].toNat = backU L[i]) := by
  unfold layAt
  rw [getD_at h, ho]
  simp only
  rw [getD_at hj]

set_option maxRecDepth 100000 in
set_option maxHeartbeats 2000000 in
theorem c_taLayout (W H n : Nat) (A : Option Addr) (d c : Nat) (t : ByteArray) (w : World) (hl : t.size ≤ 1048576) (hW : 0 < W) (hH : n = H * W) (hn : n ≤ 60) (hH60 : H ≤ 60) (hW60 : W ≤ 60) :
    Calls Tryd.prog 65 #[.agg #[.int .i64 W, .int .i64 H, .slice A d c], .string t] w (RetLt w (layT W n t) t) := by
  have hb0 : Below w.heap.size w (w.alloc (.cells #[.int .i64 W, .int .i64 H, .slice A d c] 62)) := by go_grown
  have r0 : (w.alloc (.cells #[.int .i64 W, .int .i64 H, .slice A d c] 62)).cell? ⟨w.heap.size, 0, none⟩ = some (.int .i64 W) := by simp
  have r1 : (w.alloc (.cells #[.int .i64 W, .int .i64 H, .slice A d c] 62)).cell? ⟨w.heap.size, 1, none⟩ = some (.int .i64 H) := by simp
  have r2 : (w.alloc (.cells #[.int .i64 W, .int .i64 H, .slice A d c] 62)).cell? ⟨w.heap.size, 2, none⟩ = some (.slice A d c) := by simp
  have con := Lib.hid (c_taRows t (w.alloc (.cells #[.int .i64 W, .int .i64 H, .slice A d c] 62)) hl)
  unfold RetRows at con
  have hret := Lib.hid (show ∀ b, layT W n t = b → RetLt w (layT W n t) t = RetLt w b t from fun b h => by rw [h])
  cases hg : gridB t
  · have hlt := Lib.hid (layT_no (W := W) (n := n) hg)
    rw [hg] at con
    clear hg
    go_enter Tryd.func65, Tryd.ntmps65
    go_wp2_with (go_at_call 84; refine con.out.mono ?_; rintro e w1 ⟨us, A1, c1, rfl, hus, hb1⟩; clear hus; have Hb := Lib.hid (bstep hb0 hb1); have s0 := keepc hb1 r0; have s1 := keepc hb1 r1; clear hb1)
    go_quiet (fail)
    go_wp2
    go_ret2
    rw [hret.out false hlt.out]
    exact lt_none w t (by first | exact Hb.out | exact belowN Hb.out _)
  · rw [hg] at con
    have hrw := hgt_rows hg
    have Hlt := Lib.hid (fun h1 h2 => layT_lay (W := W) (n := n) hg h1 h2)
    have Hlw := Lib.hid (fun h => layT_w (W := W) (n := n) (t := t) h)
    have Hln := Lib.hid (fun h => layT_n (W := W) (n := n) (t := t) h)
    have Hg := Lib.hid hg
    have Hrw := Lib.hid hrw
    clear hg hrw
    go_enter Tryd.func65, Tryd.ntmps65
    go_wp2_with (go_at_call 84; refine con.out.mono ?_; rintro e w1 ⟨us, A1, c1, rfl, hus2, hb1⟩; have Hus := Lib.hid (hus2 trivial); clear hus2; have Hb := Lib.hid (bstep hb0 hb1); have s0 := keepc hb1 r0; have s1 := keepc hb1 r1; have s2 := keepc hb1 r2; clear hb1)
    have hus0 := (rows_us Hus.out.1).2
    have husl := (rows_us Hus.out.1).1
    have hwid := wid_us Hus.out.1 hus0
    have hsml := grid_small Hus.out.1 Hg.out
    obtain ⟨gr, rfl, hgb, hgl, hcell⟩ := ownW_at Hus.out.2 hus0
    have cr0 := hcell 0 hus0
    have Hcell := Lib.hid hcell
    have j0 : (0 : Int) ≤ (0 : Int) := by omega
    have j1 : (0 : Int) < (us.length : Int) := by omega
    have hwk : widK true t = us[0].size := hwid
    have h30 := hsml.1
    have hz1 : w.heap.size < w1.heap.size := block_lt s0
    have Hwk := Lib.hid hwk
    have Husl := Lib.hid husl
    clear hcell hwid husl hwk con
    by_cases hlen : us.length = H
    · have q1 : ((us.length : Int) != (H : Int)) = false := by simp [hlen]
      by_cases hww : us[0].size = W
      · have q2 : ((us[0].size : Int) != (W : Int)) = false := by simp [hww]
        have hT := Lib.hid (Hlt.out (Hwk.out.trans hww) (by rw [Hrw.out, Hwk.out, hww, ← Husl.out, hlen]; exact hH.symm))
        have hCL := Lib.hid (show (cellsK true t).length = n by rw [Hrw.out, Hwk.out, hww, ← Husl.out, hlen]; exact hH.symm)
        clear hlen hww
        obtain ⟨i0, hi, hz0, hz1', hz2⟩ := info_parts Tryd.info_u8
        have hsz30 := Lib.hid hsml.2
        have HnI := Lib.hid (show (W : Int) * (H : Int) = (n : Int) by rw [hH, Nat.mul_comm]; simp)
        have hrl := Lib.hid (rowTo_len (W := 30) hsml.2)
        have hall := rowTo_all Hus.out.1
        have Hall := Lib.hid hall
        have HH := Lib.hid hH
        clear hsml hall hH
        go_quiet (fail)
        go_wp2
        obtain ⟨v1, hv1⟩ : ∃ v1, v1 = w1.drewN nq := ⟨_, rfl⟩
        rw [← hv1]
        have hbq : Below w1.heap.size w1 v1 := by rw [hv1]; exact belowN (Below.refl _ _) _
        have hvs : v1.heap.size = w1.heap.size := by rw [hv1]; rfl
        have x0 := keepc hbq s0
        have x1 := keepc hbq s1
        have x2 := keepc hbq s2
        have Hbv := Lib.hid (bstep Hb.out hbq)
        have Hcell2 := Lib.hid (fun k (hk : k < us.length) => keepc hbq (Hcell.out k hk))
        clear hv1 hbq s0 s1 s2 cr0 Hcell
        go_loopw [8, 39] (fun v i wr => ∃ (k : Nat) (A2 : Option Addr) (c2 : Nat), k ≤ us.length ∧ i = .int .i64 k ∧ v = .slice A2 (rowTo us k).length c2 ∧ wr.ownsRow v1.heap.size 5 1 (.slice A2 (rowTo us k).length c2) (rowTo us k).length (cellsU8 (rowTo us k)) ∧ Below v1.heap.size v1 wr) (fun _ i _ => us.length - (intOf i).toNat)
        case atStart => exact ⟨0, none, 0, Nat.zero_le _, rfl, by rw [rowTo_zero]; rfl, by rw [rowTo_zero]; exact World.ownsRow_nil _ _ _ _, Below.refl _ _⟩
        case round =>
          obtain ⟨k, A2, c2, hk, rfl, rfl, ho, hb⟩ := hrel
          by_cases hlt : k < us.length
          · have ck := keepc hb (Hcell2.out k hlt)
            have hst := Lib.hid (rowTo_succ hlt)
            have hr30 := hsz30.out k hlt
            have hlk := hrl.out k hk
            have hk30 : (rowTo us k).length ≤ 900 := Nat.le_trans hlk (by omega)
            have i2 : (k : Int) < (us.length : Int) := by omega
            have i2b : (0 : Int) ≤ (k : Int) := by omega
            generalize us[k] = r at *
            have Ho := Lib.hid ho
            have Hbr := Lib.hid hb
            have hzz := hb.size
            clear ho hb hlk
            go_wp2_with (at_builtin; refine Lib.wpList_append_own_string _ rfl _ _ 65 9 rfl v1.heap.size 5 i0 Tryd.underlying65 Tryd.underlying9 hi hz0 hz1' hz2 _ (rowTo us k).length (cellsU8 (rowTo us k)) rfl Ho.out r rfl (by unfold maxLen; omega) (by omega) (by omega) ?_; intro v' w' ho' hg' hnil; obtain ⟨A5, c5, rfl⟩ : ∃ A5 c5, v' = .slice A5 ((rowTo us k).length + r.size) c5 := (by obtain ⟨_, ⟨hv, hn⟩ | ⟨g', cap, cur, hv, _⟩⟩ := ho'; exact ⟨none, 0, by rw [hv, hn]⟩; exact ⟨_, _, hv⟩); clear hnil)
            go_roundw
            case rel =>
              have e1 : (rowTo us (k + 1)).length = (rowTo us k).length + r.size := by rw [hst.out, List.length_append]; simp
              refine ⟨k + 1, A5, c5, by omega, by go_num, by rw [e1], ?_, Below.grown Hbr.out hg' Hbr.out.size (fun g hg => (Ho.out.lt g hg).1)⟩
              rw [e1, hst.out, cellsU8_append]
              exact ho'
            case measure => simp [intOf]; omega
          · have hke : k = us.length := by omega
            subst hke
            rw [Hall.out] at ho ⊢
            have hLL : (rowsOf t).flatten = cellsK true t := rfl
            rw [hLL] at ho ⊢
            have hCL' := hCL.out
            have hlno := Lib.hid (fun i (h : i < (cellsK true t).length) hl => layB_no (W := W) h hl)
            have hlyes := Lib.hid (fun h => layB_yes (W := W) (L := cellsK true t) h)
            have hneg := Lib.hid (fun i (h : i < (cellsK true t).length) ho => layAt_neg (W := W) h ho)
            have hsome := Lib.hid (fun i j (h : i < (cellsK true t).length) (hj : j < (cellsK true t).length) ho => layAt_some (W := W) h hj ho)
            have hrL := Lib.hid (show ∀ b, RetLt w b t = RetLt w b t from fun _ => rfl)
            have hcK := Lib.hid (show cellsK true t = cellsK true t from rfl)
            generalize hL : cellsK true t = L at *
            have HL := Lib.hid hL
            have Ho := Lib.hid ho
            have Hbr := Lib.hid hb
            have hHk := Lib.hid (show ∃ H', L.length = H' * W from ⟨H, hCL'.trans HH.out⟩)
            have y0 := keepc hb x0
            have y1 := keepc hb x1
            have y2 := keepc hb x2
            have HCLL := Lib.hid hCL'
            clear hL ho hb hcK hrL hk hlt hCL' hCL
            obtain ⟨wo, rfl⟩ : ∃ wo, wo = wr := ⟨_, rfl⟩
            go_wp2
            go_loopw [49] (fun i wr => ∃ k : Nat, k ≤ L.length ∧ i = .int .i64 k ∧ (∀ j, j < k → layAt W L j = true) ∧ Below wo.heap.size wo wr) (fun i _ => L.length - (intOf i).toNat)
            case atStart => exact ⟨0, Nat.zero_le _, rfl, by omega, Below.refl _ _⟩
            case round =>
              obtain ⟨k, hk, rfl, hal, hb⟩ := hrel
              have z0 := keepc hb y0
              have z1 := keepc hb y1
              have z2 := keepc hb y2
              have hzz : w.heap.size < wr.heap.size := block_lt z0
              have Hal := Lib.hid hal
              have Hbk := Lib.hid hb
              have ho := own_keep Ho.out hb
              by_cases hlt : k < L.length
              · have hCL' := HCLL.out
                have hL60 : L.length ≤ 60 := by omega
                obtain ⟨gl, rfl, hgb2, hgl2, hcl⟩ := ownU_at ho (by omega)
                have ck := hcl k hlt
                have Hcl := Lib.hid hcl
                have i2 : (k : Int) < (L.length : Int) := by omega
                have i2b : (0 : Int) ≤ (k : Int) := by omega
                have conO := Lib.hid (fun W0 => c_taOther W H n k L[k] A d c W0 hW HnI.out (by omega) hn hW60)
                have hng := Lib.hid (fun (ho : othU W n k L[k] = none) => hneg.out k hlt (by rw [hCL']; exact ho))
                have hsm := Lib.hid (fun (j : Nat) (hj : j < L.length) (ho : othU W n k L[k] = some j) => hsome.out k j hlt hj (by rw [hCL']; exact ho))
                have hbd := Lib.hid (fun h => hlno.out k hlt h)
                have hol := Lib.hid (fun (j : Nat) (h : othU W n k L[k] = some j) => (oth_lt (n := n) (i := k) (j := j) (b := L[k]) hW (by obtain ⟨H', h'⟩ := hHk.out; exact ⟨H', by omega⟩) (by omega) h).1)
                cases hoU : othU W n k L[k] with
                | none =>
                  clear hCL'
                  have e1 : othI W n k L[k] = -1 := by unfold othI; rw [hoU]
                  rw [e1] at conO
                  have hf := Lib.hid (hT.out.trans (hbd.out (hng.out hoU)))
                  clear hoU e1 hal hb ho hcl
                  generalize L[k] = x at *
                  go_wp2_with (go_at_call 90; refine (conO.out _).mono ?_; rintro e w5 ⟨rfl, hb5⟩; have Hb5 := Lib.hid (bstep (bstep (bstep Hbv.out Hbr.out) Hbk.out) hb5); clear hb5)
                  go_quiet (fail)
                  go_wp2
                  go_ret2
                  rw [hret.out false hf.out]
                  exact lt_none w t (by first | exact Hb5.out | exact belowN Hb5.out _)
                | some j =>
                  have e1 : othI W n k L[k] = (j : Int) := by unfold othI; rw [hoU]
                  rw [e1] at conO
                  have hj := hol.out j hoU
                  have hjL : j < L.length := by omega
                  clear hCL'
                  have cj := Hcl.out j hjL
                  have hs := Lib.hid (hsm.out j hjL hoU)
                  have j2 : (j : Int) < (L.length : Int) := by omega
                  have j2b : (0 : Int) ≤ (j : Int) := by omega
                  have j2c : ¬ (j : Int) < 0 := by omega
                  by_cases hbk : L[j].toNat = backU L[k]
                  · have q3 : ((L[j].toNat : Int) != (backU L[k] : Int)) = false := by simp [hbk]
                    have hla := Lib.hid (hs.out.trans (decide_eq_true hbk))
                    clear hoU e1 hal hb ho hcl hbk
                    generalize L[k] = x at *
                    generalize L[j] = y at *
                    go_wp2_with (go_at_call 90; refine (conO.out _).mono ?_; rintro e w5 ⟨rfl, hb5⟩; have aj := keepc hb5 cj; have Hb5 := Lib.hid (bstep Hbk.out hb5); clear hb5)
                    go_region_held3 (fun w' => w'.cell? ⟨gl, j, none⟩ = some (.int .u8 (y.toNat : Int))) (first | exact aj | go_keep) (first | (go_at_call 91; refine (c_taBack _ _).mono ?_; rintro e w6 ⟨rfl, rfl⟩))
                    go_wp2
                    go_roundw
                    case rel =>
                      refine ⟨k + 1, by omega, by go_num, fun i hi => ?_, by first | exact Hb5.out.drew | exact Hb5.out | exact belowN Hb5.out _⟩
                      rcases Nat.lt_succ_iff_lt_or_eq.1 hi with h | rfl
                      · exact Hal.out i h
                      · exact hla.out
                    case measure => simp [intOf]; omega
                  · have q3 : ((L[j].toNat : Int) != (backU L[k] : Int)) = true := by simp; omega
                    have hf := Lib.hid (hT.out.trans (hbd.out (hs.out.trans (decide_eq_false hbk))))
                    clear hoU e1 hal hb ho hcl hbk
                    generalize L[k] = x at *
                    generalize L[j] = y at *
                    go_wp2_with (go_at_call 90; refine (conO.out _).mono ?_; rintro e w5 ⟨rfl, hb5⟩; have aj := keepc hb5 cj; have Hb5 := Lib.hid (bstep (bstep (bstep Hbv.out Hbr.out) Hbk.out) hb5); clear hb5)
                    go_region_held3 (fun w' => w'.cell? ⟨gl, j, none⟩ = some (.int .u8 (y.toNat : Int))) (first | exact aj | go_keep) (first | (go_at_call 91; refine (c_taBack _ _).mono ?_; rintro e w6 ⟨rfl, rfl⟩))
                    all_goals
                      go_wp2
                      go_ret2
                      rw [hret.out false hf.out]
                      exact lt_none w t (by first | exact Hb5.out.drew | exact Hb5.out | exact belowN Hb5.out _)
              · have hke : k = L.length := by omega
                subst hke
                have hf := Lib.hid (hT.out.trans (hlyes.out hal))
                clear hal hb
                go_wp2
                go_ret2
                rw [hret.out true hf.out]
                unfold RetLt
                rw [HL.out]
                exact ⟨A2, c2, rfl, own_base ho (by have := Hbv.out.size; omega), bstep (bstep Hbv.out Hbr.out) Hbk.out⟩
      · have q2 : ((us[0].size : Int) != (W : Int)) = true := by simp; omega
        have hlt := Lib.hid (Hlw.out (fun h => hww (Hwk.out.symm.trans h)))
        clear hlen hww
        go_quiet (fail)
        go_wp2
        go_ret2
        rw [hret.out false hlt.out]
        exact lt_none w t (by first | exact Hb.out | exact belowN Hb.out _)
    · have q1 : ((us.length : Int) != (H : Int)) = true := by simp; omega
      have hlt := Lib.hid (show layT W n t = false from by
        by_cases hww : widK true t = W
        · refine Hln.out fun h => hlen ?_
          rw [Hrw.out, hww, hH, ← Husl.out] at h
          exact Nat.eq_of_mul_eq_mul_right hW h
        · exact Hlw.out hww)
      clear hlen
      go_quiet (fail)
      go_wp2
      go_ret2
      rw [hret.out false hlt.out]
      exact lt_none w t (by first | exact Hb.out | exact belowN Hb.out _)
end Go.Proofs.YtnnkdnleencofaaDoor

/- Tables: the program's tableOf, and what tells their size and their numbers on both sides. -/
import Derived.Test.YtjbdflkbclhonabDoorTabI
import Derived.RegionTactic
namespace Go.Proofs.YtjbdflkbclhonabDoor
open Go.RowKit
set_option linter.unusedVariables false

theorem numB_dig (b : UInt8) : numB ((b.toNat : Int) - 48) = digB b := by
  rw [Bool.eq_iff_iff]
  simp only [numB, digB, Bool.and_eq_true, decide_eq_true_eq]
  omega
theorem byteT (b : UInt8) : (b.toNat : Int) ≤ 255 ∧ 0 ≤ (b.toNat : Int) := by have := b.toNat_lt; omega
theorem Gok.of {s : ByteArray} (h : tabB s = true) : Gok (widK true s) (cellsK true s) := by
  unfold tabB at h
  rw [Bool.and_eq_true] at h
  exact gridB_ok h.1
theorem hgt_div {s : ByteArray} (h : gridB s = true) : (cellsK true s).length / widK true s = hgtK true s ∧ 0 < widK true s ∧ (cellsK true s).length ≤ 30 := by
  obtain ⟨h1, h2, h3, h4⟩ := evenR_iff.1 h
  have hl := flat_len _ h1
  have e1 : (cellsK true s).length = (rowsOf s).length * widR (rowsOf s) := hl
  refine ⟨?_, h2, by rw [e1]; exact h4⟩
  rw [e1]
  exact Nat.mul_div_cancel _ h2

set_option maxHeartbeats 800000 in
theorem c_numberAt (A : Option Addr) (c : Nat) (W : Int) (L : List UInt8) (k : Nat) (w : World) (hr : RdU w A L) (hk : k < L.length) :
    Calls Tryd.prog 50 #[.agg #[.slice A L.length c, .int .i64 W], .int .i64 k] w fun e w' => e = .returned (.int .i64 ((L[k].toNat : Int) - 48)) ∧ Below w.heap.size w w' := by
  obtain ⟨b, off, rfl, hb, hc⟩ := hr.at_ hk
  have g1 := hc k hk
  have hx := byteT L[k]
  have iw : IntKind.i64.wrap ((L[k].toNat : Int) - 48) = (L[k].toNat : Int) - 48 := IntWalk.i64_in _ (by omega)
  have iw2 : IntKind.i64.wrap (L[k].toNat : Int) = (L[k].toNat : Int) := IntWalk.i64_in _ (by omega)
  have j0 : (0 : Int) ≤ (k : Int) := by omega
  have j1 : (k : Int) < (L.length : Int) := by omega
  generalize L[k] = x at *
  clear hc hr hx
  go_enter Tryd.func50, Tryd.ntmps50
  go_wp2
  go_ret
  exact ⟨rfl, by go_grown⟩

set_option maxHeartbeats 800000 in
theorem c_height (A : Option Addr) (n c : Nat) (W : Nat) (w : World) (hW : 0 < W) (hn : n ≤ 1048576) :
    Calls Tryd.prog 40 #[.agg #[.slice A n c, .int .i64 W]] w fun e w' => e = .returned (.int .i64 ((n / W : Nat) : Int)) ∧ Below w.heap.size w w' := by
  have q0 : ((W : Int) == 0) = false := by simp; omega
  have q1 : ¬ (W : Int) = 0 := by omega
  have n0 : (0 : Int) ≤ (n : Int) := by omega
  have hd : (n : Int).tdiv (W : Int) = ((n / W : Nat) : Int) := by rw [Int.tdiv_eq_ediv_of_nonneg n0]; rfl
  have hd2 : (n : Int) / (W : Int) = ((n / W : Nat) : Int) := rfl
  have hle : n / W ≤ n := Nat.div_le_self _ _
  generalize n / W = h at *
  have iw : IntKind.i64.wrap (h : Int) = (h : Int) := IntWalk.i64_in _ (by omega)
  go_enter Tryd.func40, Tryd.ntmps40
  go_wp2
  go_ret
  exact ⟨rfl, by go_grown⟩

set_option maxRecDepth 100000 in
set_option maxHeartbeats 2000000 in
theorem c_tableOf (s : ByteArray) (m : Int) (w : World) (hm : w.cell? ⟨0, 0, none⟩ = some (.int .i64 m)) (hl : s.size ≤ 1048576) : Calls Tryd.prog 27 #[.string s] w (RetG w (tabB s) s) := by
  have hb0 : Below w.heap.size w (w.alloc (.cells #[.slice none 0 0, .int .i64 0] 53)) := by go_grown
  have r0 : (w.alloc (.cells #[.slice none 0 0, .int .i64 0] 53)).cell? ⟨w.heap.size, 0, none⟩ = some (.slice none 0 0) := by simp [go_sem]
  have r1 : (w.alloc (.cells #[.slice none 0 0, .int .i64 0] 53)).cell? ⟨w.heap.size, 1, none⟩ = some (.int .i64 0) := by simp [go_sem]
  have fr0 : (w.alloc (.cells #[.slice none 0 0, .int .i64 0] 53)).frozen? ⟨w.heap.size, 0, none⟩ = false := frozen_freshT _ _ _ _
  have fr1 : (w.alloc (.cells #[.slice none 0 0, .int .i64 0] 53)).frozen? ⟨w.heap.size, 1, none⟩ = false := frozen_freshT _ _ _ _
  have hz0 : w.heap.size < (w.alloc (.cells #[.slice none 0 0, .int .i64 0] 53)).heap.size := block_lt r0
  have con := Lib.hid (c_gridOf s m (w.alloc (.cells #[.slice none 0 0, .int .i64 0] 53)) (keepc hb0 hm) hl)
  unfold RetG at con
  cases hg : gridB s
  · have ht : tabB s = false := by unfold tabB; rw [hg]; rfl
    rw [ht]
    rw [hg, cellsK_no, widK_no] at con
    clear hg ht
    go_enter Tryd.func27, Tryd.ntmps27
    go_wp2_with (go_at_call 48; refine con.out.mono ?_; rintro e w1 ⟨A, c, rfl, hc, hOU, hb1⟩; have s0 := keepc hb1 r0; have s1 := keepc hb1 r1; have g0 := (hb1.frozen (p := ⟨w.heap.size, 0, none⟩) hz0).trans fr0; have g1 := (hb1.frozen (p := ⟨w.heap.size, 1, none⟩) hz0).trans fr1; have hz1 : w.heap.size < w1.heap.size := (block_lt s0); have Hb := Lib.hid (bstep hb0 hb1); clear hb1 hOU hc)
    refine bodyPost_ret (v := .tuple #[.agg #[.slice none 0 0, .int .i64 0], .bool false]) (by simp [results, Tryd.results27, go_sem, s0, s1, hz1]) rfl ?_
    have hy := fun u v => (Hb.out.setCell (p := ⟨w.heap.size, 0, none⟩) (Nat.le_refl _) u).setCell (p := ⟨w.heap.size, 1, none⟩) (Nat.le_refl _) v
    unfold RetG
    exact ⟨none, 0, rfl, Nat.le_refl _, .inl ⟨rfl, rfl⟩, by first | exact hy _ _ | exact (hy _ _).alloc (hy _ _).size _ | exact ((Hb.out.alloc Hb.out.size _).setCell (p := ⟨w.heap.size, 0, none⟩) (Nat.le_refl _) _).setCell (p := ⟨w.heap.size, 1, none⟩) (Nat.le_refl _) _⟩
  · rw [hg] at con
    have hgd := hgt_div hg
    have h30 := hgd.2.2
    have htab := Lib.hid (show ∀ (h : ∀ b ∈ cellsK true s, digB b = true), tabB s = true from fun h => tab_good hg h)
    have hbad := Lib.hid (show ∀ k (hk : k < (cellsK true s).length), digB (cellsK true s)[k] = false → tabB s = false from fun k hk h => by
      cases ht : tabB s
      · rfl
      · unfold tabB at ht
        rw [Bool.and_eq_true, List.all_eq_true] at ht
        have h2 : digB (cellsK true s)[k] = true := ht.2 _ (List.getElem_mem (l := (rowsOf s).flatten) hk)
        rw [h2] at h
        cases h)
    have eL := Lib.hid (show cellsK true s = cellsK true s from rfl)
    clear hg hgd
    have hret : ∀ c, tabB s = c → RetG w (tabB s) s = RetG w c s := fun c h => by rw [h]
    have Hret := Lib.hid hret
    have eC := Lib.hid (show ∀ c, c = true → cellsK c s = cellsK true s ∧ widK c s = widK true s from fun c h => by rw [h]; exact ⟨rfl, rfl⟩)
    clear hret
    go_enter Tryd.func27, Tryd.ntmps27
    go_wp2_with (go_at_call 48; refine con.out.mono ?_; rintro e w1 ⟨A, c, rfl, hc, hOU, hb1⟩; have s0 := keepc hb1 r0; have s1 := keepc hb1 r1; have g0 := (hb1.frozen (p := ⟨w.heap.size, 0, none⟩) hz0).trans fr0; have g1 := (hb1.frozen (p := ⟨w.heap.size, 1, none⟩) hz0).trans fr1; have hz1 : w.heap.size < w1.heap.size := (block_lt s0); have Hb := Lib.hid (bstep hb0 hb1); clear hb1)
    generalize hL : cellsK true s = L at *
    obtain ⟨w2, hw2⟩ : ∃ w2, w2 = w1.alloc (.cells #[.slice A L.length c, .int .i64 (widK true s : Int)] 53) := ⟨_, rfl⟩
    rw [← hw2]
    have hb12 : Below w1.heap.size w1 w2 := by rw [hw2]; exact (Below.refl _ _).alloc (Nat.le_refl _) _
    have q0 : w2.cell? ⟨w1.heap.size, 0, none⟩ = some (.slice A L.length c) := by rw [hw2]; simp
    have q1 : w2.cell? ⟨w1.heap.size, 1, none⟩ = some (.int .i64 (widK true s : Int)) := by rw [hw2]; simp
    have hRd := Lib.hid ((hOU.rd).below hb12)
    have HOU := Lib.hid (fun (h0 : 0 < L.length) => hOU.keep h0 hb12)
    have Hb2 := Lib.hid (bstep Hb.out hb12)
    have t0 := keepc hb12 s0
    have t1 := keepc hb12 s1
    have u0 := (hb12.frozen (p := ⟨w.heap.size, 0, none⟩) hz1).trans g0
    have u1 := (hb12.frozen (p := ⟨w.heap.size, 1, none⟩) hz1).trans g1
    have hzq : w1.heap.size < w2.heap.size := block_lt q0
    have Hcap := Lib.hid hc
    have HbW := Lib.hid (show Below w.heap.size w w1 from Hb.out)
    have HL := Lib.hid hL
    clear hw2 hb12 hOU s0 s1 g0 g1 hc hL con Hb
    go_loopw [18] (fun i wr => ∃ k : Nat, k ≤ L.length ∧ i = .int .i64 k ∧ (∀ j (hj : j < L.length), j < k → digB L[j] = true) ∧ Below w2.heap.size w2 wr) (fun i _ => L.length - (intOf i).toNat)
    case atStart => exact ⟨0, Nat.zero_le _, rfl, by omega, Below.refl _ _⟩
    case round =>
      obtain ⟨k, hk, rfl, hall, hb⟩ := hrel
      have v0 := keepc hb q0
      have v1 := keepc hb q1
      have x0 := keepc hb t0
      have x1 := keepc hb t1
      have y0 := (hb.frozen (p := ⟨w.heap.size, 0, none⟩) (block_lt t0)).trans u0
      have y1 := (hb.frozen (p := ⟨w.heap.size, 1, none⟩) (block_lt t1)).trans u1
      have hzr : w1.heap.size < wr.heap.size := block_lt v0
      have hzx : w.heap.size < wr.heap.size := block_lt x0
      have Hall := Lib.hid hall
      have Hbr := Lib.hid hb
      by_cases hlt : k < L.length
      · have conN := Lib.hid (fun W (hbW : Below w2.heap.size w2 W) => c_numberAt A c (widK true s : Int) L k W (hRd.out.below hbW) hlt)
        have i2 : (k : Int) < (L.length : Int) := by omega
        have bad := Lib.hid (hbad.out k hlt)
        have hnd := numB_dig L[k]
        cases hd : digB L[k]
        · have ht := Lib.hid (bad.out hd)
          rw [hd] at hnd
          have Hnd := Lib.hid hnd
          clear hall hb hd hnd
          generalize L[k] = x at *
          go_wp2_with (first | (go_at_call 50; refine (conN.out _ Hbr.out).mono ?_; rintro e w3 ⟨rfl, hb3⟩; have z0 := keepc hb3 x0; have z1 := keepc hb3 x1; have a0 := (hb3.frozen (p := ⟨w.heap.size, 0, none⟩) hzx).trans y0; have a1 := (hb3.frozen (p := ⟨w.heap.size, 1, none⟩) hzx).trans y1; have hz3 : w.heap.size < w3.heap.size := (block_lt z0); have Hb3 := Lib.hid (bstep (bstep Hb2.out Hbr.out) hb3); clear hb3) | (go_at_call 49; refine (c_isNumber _ _).mono ?_; rintro e w' ⟨rfl, rfl⟩; rw [Hnd.out]))
          refine bodyPost_ret (v := .tuple #[.agg #[.slice none 0 0, .int .i64 0], .bool false]) (by simp [results, Tryd.results27, go_sem, z0, z1]) rfl ?_
          have e1 := Hret.out false ht.out
          rw [e1]
          unfold RetG
          exact ⟨none, 0, rfl, Nat.le_refl _, .inl ⟨rfl, rfl⟩, (Hb3.out.setCell (p := ⟨w.heap.size, 0, none⟩) (Nat.le_refl _) _).setCell (p := ⟨w.heap.size, 1, none⟩) (Nat.le_refl _) _⟩
        · rw [hd] at hnd
          have Hnd := Lib.hid hnd
          have Hd := Lib.hid hd
          clear hall hb hd hnd
          go_wp2_with (first | (go_at_call 50; refine (conN.out _ Hbr.out).mono ?_; rintro e w3 ⟨rfl, hb3⟩; have Hb3 := Lib.hid (bstep Hbr.out hb3); clear hb3) | (go_at_call 49; refine (c_isNumber _ _).mono ?_; rintro e w' ⟨rfl, rfl⟩; rw [Hnd.out]))
          go_roundw
          case rel =>
            refine ⟨k + 1, by omega, by go_num, fun j hj hjk => ?_, Hb3.out⟩
            rcases Nat.lt_succ_iff_lt_or_eq.1 hjk with h | rfl
            · exact Hall.out j hj h
            · exact Hd.out
          case measure => simp [intOf]; omega
      · have hke : k = L.length := by omega
        subst hke
        have ht := Lib.hid (htab.out fun b hb' => by
          obtain ⟨j, hj, rfl⟩ := List.getElem_of_mem hb'
          exact hall j hj hj)
        clear hall hb
        go_wp2
        refine bodyPost_ret (v := .tuple #[.agg #[.slice A L.length c, .int .i64 (widK true s : Int)], .bool true]) (by simp [results, Tryd.results27, go_sem, x0, x1]) rfl ?_
        have e1 := Hret.out true ht.out
        rw [e1]
        unfold RetG
        rw [HL.out]
        refine ⟨A, c, rfl, Hcap.out, ?_, ((bstep Hb2.out Hbr.out).setCell (p := ⟨w.heap.size, 0, none⟩) (Nat.le_refl _) _).setCell (p := ⟨w.heap.size, 1, none⟩) (Nat.le_refl _) _⟩
        by_cases h0 : 0 < L.length
        · exact (((((HOU.out h0).keep h0 Hbr.out).low (Nat.le_refl _)).set (by simp)).set (by simp)).low (by simp)
        · have e0 : L = [] := List.length_eq_zero_iff.1 (by omega)
          have := (Gok.of ht.out).pos
          rw [HL.out, e0] at this
          simp at this
end Go.Proofs.YtjbdflkbclhonabDoor

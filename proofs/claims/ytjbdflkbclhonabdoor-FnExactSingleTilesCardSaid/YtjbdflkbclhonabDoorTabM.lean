/- The places of a tile in a table: the program's placesOf. -/
import Derived.Test.YtjbdflkbclhonabDoorTabMl
namespace Go.Proofs.YtjbdflkbclhonabDoor
open Go.RowKit
set_option linter.unusedVariables false

set_option maxRecDepth 100000 in
set_option maxHeartbeats 4000000 in
theorem c_placesOf (A : Option Addr) (c W n : Nat) (L : List UInt8) (t0 t1 : Int) (w : World) (hA : RdU w A L) (hL : L.length = n) (hdig : ∀ b ∈ L, digB b = true) (hW : 0 < W) (hrow : ∃ H, n = H * W) (k30 : n ≤ 60) (hW30 : W ≤ 60) :
    Calls Tryd.prog 30 #[.agg #[.slice A n c, .int .i64 W], .agg #[.int .i64 t0, .int .i64 t1]] w (RetPs w (plcTo (digL L) W n (t0, t1) n)) := by
  have hb0 : Below w.heap.size w ((w.alloc (.cells #[.slice A n c, .int .i64 W] 53)).alloc (.cells #[.int .i64 t0, .int .i64 t1] 27)) := by go_grown
  have r0 : ((w.alloc (.cells #[.slice A n c, .int .i64 W] 53)).alloc (.cells #[.int .i64 t0, .int .i64 t1] 27)).cell? ⟨w.heap.size, 0, none⟩ = some (.slice A n c) := by simp [go_sem]
  have r1 : ((w.alloc (.cells #[.slice A n c, .int .i64 W] 53)).alloc (.cells #[.int .i64 t0, .int .i64 t1] 27)).cell? ⟨w.heap.size, 1, none⟩ = some (.int .i64 W) := by simp [go_sem]
  have r2 : ((w.alloc (.cells #[.slice A n c, .int .i64 W] 53)).alloc (.cells #[.int .i64 t0, .int .i64 t1] 27)).cell? ⟨w.heap.size + 1, 0, none⟩ = some (.int .i64 t0) := by simp [go_sem]
  have r3 : ((w.alloc (.cells #[.slice A n c, .int .i64 W] 53)).alloc (.cells #[.int .i64 t0, .int .i64 t1] 27)).cell? ⟨w.heap.size + 1, 1, none⟩ = some (.int .i64 t1) := by simp [go_sem]
  have hA0 := hA.below hb0
  obtain ⟨v1, hv1⟩ : ∃ v1, v1 = (w.alloc (.cells #[.slice A n c, .int .i64 W] 53)).alloc (.cells #[.int .i64 t0, .int .i64 t1] 27) := ⟨_, rfl⟩
  rw [← hv1] at hb0 r0 r1 r2 r3 hA0
  have Hb0 := Lib.hid hb0
  have conP := Lib.hid (fun W0 k (hk : k < n) => c_pairsFrom W n k A c W0 hW hk k30 hW30)
  have conT := Lib.hid (fun W0 k (hk : k < n) B d (hb : Below v1.heap.size v1 W0) (hB : RdT W0 B (nearP W n k)) => (show Calls Tryd.prog 52 #[.agg #[.slice A n c, .int .i64 W], .slice B (nearP W n k).length d] W0 (RetTl W0 (tlP (digL L) (nearP W n k))) from by
    have h := c_tilesAt A c W L B d (nearP W n k) W0 (hA0.below hb) hB (fun p hp => by rw [hL]; exact nearP_in hW hrow hk p hp) hdig (by have := nearP_len W n k; omega)
    rwa [hL] at h))
  unfold RetPs at conP
  unfold RetTl at conT
  have Hyes := Lib.hid (fun k j h e => plcJ_yes (D := digL L) (W := W) (n := n) (t := (t0, t1)) (k := k) (j := j) h e)
  have Hno := Lib.hid (fun k j h e => plcJ_no (D := digL L) (W := W) (n := n) (t := (t0, t1)) (k := k) (j := j) h e)
  have Hz := Lib.hid (fun k => plcJ_zero (digL L) W n (t0, t1) k)
  have Hall := Lib.hid (fun k => plcJ_all (digL L) W n (t0, t1) k)
  have Hln := Lib.hid (fun k j => plcJ_len (digL L) W n (t0, t1) k j)
  have Hget := Lib.hid (fun k j (h : j < (nearP W n k).length) => (show (tlP (digL L) (nearP W n k))[j]? = some (prT (digL L) (nearP W n k)[j]) from by rw [tlP_eq]; simp [h]))
  have Hlt := Lib.hid (fun k => tlP_len (digL L) (nearP W n k))
  have Hz0 := Lib.hid (plcTo_zero (digL L) W n (t0, t1))
  clear hA hA0 hdig hW hrow hW30 hb0
  go_enter Tryd.func30, Tryd.ntmps30
  go_wp2_with fail
  rw [← hv1]
  have hg1 := block_lt r0
  clear hv1 hL
  generalize digL L = D at *
  go_loopw [5, 13] (fun v i wr => ∃ (k : Nat) (A2 : Option Addr) (c2 : Nat), k ≤ n ∧ i = .int .i64 k ∧ v = .slice A2 (plcTo D W n (t0, t1) k).length c2 ∧ wr.ownsRow v1.heap.size 81 2 (.slice A2 (plcTo D W n (t0, t1) k).length c2) (plcTo D W n (t0, t1) k).length (cellsT (plcTo D W n (t0, t1) k)) ∧ Below v1.heap.size v1 wr) (fun _ i _ => n - (intOf i).toNat)
  case atStart => exact ⟨0, none, 0, Nat.zero_le _, rfl, rfl, World.ownsRow_nil _ _ _ _, Below.refl _ _⟩
  case round =>
    obtain ⟨k, A2, c2, hk, rfl, rfl, ho, hb⟩ := hrel
    by_cases hlt : k < n
    · have q0 := keepc hb r0
      have q1 := keepc hb r1
      have hpl := Hln.out k 0
      rw [Hz.out] at hpl
      have Ho := Lib.hid ho
      have Hb := Lib.hid hb
      have conP2 := Lib.hid (fun W0 => conP.out W0 k hlt)
      have conT2 := Lib.hid (fun W0 => conT.out W0 k hlt)
      have hnl := nearP_len W n k
      have Hlt2 := Lib.hid (Hlt.out k)
      have Hget2 := Lib.hid (Hget.out k)
      have Hyes2 := Lib.hid (Hyes.out k)
      have Hno2 := Lib.hid (Hno.out k)
      have Hz2 := Lib.hid (Hz.out k)
      have Hall2 := Lib.hid (Hall.out k)
      have Hln2 := Lib.hid (Hln.out k)
      clear ho hb conP conT Hyes Hno Hz Hall Hln Hget Hlt
      generalize nearP W n k = P at *
      go_wp2_with (first | (go_at_call 51; refine (conP2.out _).mono ?_; rintro e w2 ⟨B, d, rfl, hoP, hb2⟩; have s0 := keepc hb2 q0; have s1 := keepc hb2 q1; have Hb2 := Lib.hid (bstep Hb.out hb2); have HoP := Lib.hid (RdT.of_own hoP); have HltP := Lib.hid hoP.lt; have Ho2 := Lib.hid (own_keep Ho.out hb2); have HltO := Lib.hid Ho.out.lt; have Hzr2 := Lib.hid hb2.size; clear hoP hb2) | (go_at_call 52; refine (conT2.out _ _ _ Hb2.out HoP.out).mono ?_; rintro e w3 ⟨B3, d3, rfl, hoT, hb3⟩; have Hb3 := Lib.hid (bstep Hb2.out hb3); have HoP3 := Lib.hid (HoP.out.below hb3); have HoT := Lib.hid (RdT.of_own hoT); have HltT := Lib.hid hoT.lt; have Ho3 := Lib.hid (own_keep Ho2.out hb3); have Hz23 := Lib.hid hb3.size; clear hoT hb3))
      rw [Hlt2.out]
      obtain ⟨wo, rfl⟩ : ∃ wo, wo = wr := ⟨_, rfl⟩
      go_loopw [5, 23] (fun v j wi => ∃ (i : Nat) (A4 : Option Addr) (c4 : Nat), i ≤ P.length ∧ j = .int .i64 i ∧ v = .slice A4 (plcJ D W n (t0, t1) k i).length c4 ∧ wi.ownsRow v1.heap.size 81 2 (.slice A4 (plcJ D W n (t0, t1) k i).length c4) (plcJ D W n (t0, t1) k i).length (cellsT (plcJ D W n (t0, t1) k i)) ∧ Below v1.heap.size v1 wi ∧ w3.heap.size ≤ wi.heap.size ∧ RdT wi B P ∧ RdT wi B3 (tlP D P) ∧ (∀ g, (Value.slice A4 (plcJ D W n (t0, t1) k i).length c4).ownBlock = some g → g < wo.heap.size ∨ w3.heap.size ≤ g)) (fun _ j _ => P.length - (intOf j).toNat)
      case atStart => exact ⟨0, A2, c2, Nat.zero_le _, rfl, by rw [Hz2.out], by rw [Hz2.out]; exact Ho3.out, Hb3.out, Nat.le_refl _, HoP3.out, HoT.out, fun g hg => .inl (by rw [Hz2.out] at hg; exact (HltO.out g hg).2)⟩
      case round =>
        have hz23 : w2.heap.size ≤ w3.heap.size := Hz23.out
        have hzr2 : wo.heap.size ≤ w2.heap.size := Hzr2.out
        clear Hb2 Hb3 HoP HoP3 HoT Ho2 Ho3 Ho q0 q1 s0 s1 conP2 conT2
        obtain ⟨i, A4, c4, hi, rfl, rfl, ho, hb, hsz, hP, hT, hap⟩ := hrel
        have hpl4 := Hln2.out i
        by_cases hil : i < P.length
        · have hPk := hP
          have hTk := hT
          obtain ⟨bp, op, rfl, hbp, hcp⟩ := hP.at_ hil
          obtain ⟨bt, ot, rfl, hbt, hct⟩ := hT.at_ (show i < (tlP D P).length by rw [Hlt2.out]; exact hil)
          have p0 := (hcp i hil).1
          have p1 := (hcp i hil).2
          have q0 := (hct i (by rw [Hlt2.out]; exact hil)).1
          have q1 := (hct i (by rw [Hlt2.out]; exact hil)).2
          have hgt := Hget2.out i hil
          rw [List.getElem?_eq_getElem (show i < (tlP D P).length by rw [Hlt2.out]; exact hil)] at hgt
          injection hgt with hgt
          rw [hgt] at q0 q1
          have Hy := Lib.hid (Hyes2.out i hil)
          have Hn := Lib.hid (Hno2.out i hil)
          have x0 := keepc hb r2
          have x1 := keepc hb r3
          have i0 : (0 : Int) ≤ (i : Int) := by omega
          have i1 : (i : Int) < (P.length : Int) := by omega
          have hbv := hb.size
          have HP := Lib.hid hPk
          have HT := Lib.hid hTk
          have Ho := Lib.hid ho
          have Hb := Lib.hid hb
          have Hap := Lib.hid hap
          clear hcp hct hPk hTk hP hT ho hb hap hgt Hget2 Hyes2 Hno2
          generalize prT D P[i] = u at *
          generalize P[i].1 = p at *
          generalize P[i].2 = q at *
          obtain ⟨u0, u1⟩ := u
          simp only at q0 q1
          have HoA := Lib.hid ((Ho.out.alloc (.cells #[.int .i64 u0, .int .i64 u1] 27)).alloc (.cells #[.int .i64 p, .int .i64 q] 81))
          have hba : Below wr.heap.size wr ((wr.alloc (.cells #[.int .i64 u0, .int .i64 u1] 27)).alloc (.cells #[.int .i64 p, .int .i64 q] 81)) := ((Below.refl _ wr).alloc (Nat.le_refl _) _).alloc (by simp) _
          have hba1 : Below wr.heap.size wr (wr.alloc (.cells #[.int .i64 u0, .int .i64 u1] 27)) := (Below.refl _ wr).alloc (Nat.le_refl _) _
          have y0 := keepc hba1 x0
          have y1 := keepc hba1 x1
          have y2 := keepc hba1 p0
          have y3 := keepc hba1 p1
          have y4 : (wr.alloc (.cells #[.int .i64 u0, .int .i64 u1] 27)).cell? ⟨wr.heap.size, 0, none⟩ = some (.int .i64 u0) := by simp [go_sem]
          have y5 : (wr.alloc (.cells #[.int .i64 u0, .int .i64 u1] 27)).cell? ⟨wr.heap.size, 1, none⟩ = some (.int .i64 u1) := by simp [go_sem]
          have HbA := Lib.hid hba
          have HbA1 := Lib.hid hba1
          clear hba hba1
          by_cases e0 : u0 = t0
          · have e0' := e0.symm
            subst e0'
            by_cases e1 : u1 = t1
            · have e1' := e1.symm
              subst e1'
              have Hst := Lib.hid (Hy.out rfl)
              clear Hn Hy e0 e1
              go_wp2_with (at_builtin; go_loud (refine wp_append_pair_at rfl (.tmp 31) (.tmp 36) rfl v1.heap.size (.slice A4 (plcJ D W n (t0, t1) k i).length c4) (plcJ D W n (t0, t1) k i) rfl HoA.out p q (wr.heap.size + 1) rfl (by simp [go_sem]) (by simp [go_sem]) (by omega) (by simp; omega) ?_); intro A5 c5 w5 ho5 hg5 hat5)
              go_roundw
              case rel =>
                have hsz2 : w3.heap.size ≤ w5.heap.size := Nat.le_trans hsz (Nat.le_trans HbA.out.size hg5.size)
                have hlp := fun g (hg : (Value.slice (some ⟨bp, op, none⟩) P.length d).ownBlock = some g) => HltP.out g hg
                have hlt' := fun g (hg : (Value.slice (some ⟨bt, ot, none⟩) (tlP D P).length d3).ownBlock = some g) => HltT.out g hg
                refine ⟨i + 1, A5, c5, by omega, by go_num, by rw [Hst.out, List.length_append]; rfl, by rw [Hst.out, List.length_append]; exact ho5, Below.grown (bstep Hb.out HbA.out) hg5 (by simp; omega) (fun g hg => (Ho.out.lt g hg).1), hsz2, (HP.out.below HbA.out).kept hg5 (fun g a hg ha e => ?_), (HT.out.below HbA.out).kept hg5 (fun g a hg ha e => ?_), fun g hg => ?_⟩
                · cases ha
                  have h1 := hlp bp rfl
                  have h2 := Hap.out g hg
                  simp only at e
                  omega
                · cases ha
                  have h1 := hlt' bt rfl
                  have h2 := Hap.out g hg
                  simp only at e
                  omega
                · rw [Hst.out, List.length_append] at hg
                  rcases hat5 with h | h
                  · exact Hap.out g (h.symm.trans hg)
                  · have := h.symm.trans hg
                    injection this with this
                    simp at this
                    omega
              case measure => simp [intOf]; omega
            · have Hst := Lib.hid (Hn.out (fun h => by injection h with _ h; exact e1 h))
              clear Hn Hy e0
              go_wp2_with fail
              go_roundw
              case rel => exact ⟨i + 1, A4, c4, by omega, by go_num, by rw [Hst.out], by rw [Hst.out]; exact Ho.out.alloc _, bstep Hb.out HbA1.out, Nat.le_trans hsz HbA1.out.size, HP.out.below HbA1.out, HT.out.below HbA1.out, by rw [Hst.out]; exact Hap.out⟩
              case measure => simp [intOf]; omega
          · have Hst := Lib.hid (Hn.out (fun h => by injection h with h _; exact e0 h))
            clear Hn Hy
            go_wp2_with fail
            go_roundw
            case rel => exact ⟨i + 1, A4, c4, by omega, by go_num, by rw [Hst.out], by rw [Hst.out]; exact Ho.out.alloc _, bstep Hb.out HbA1.out, Nat.le_trans hsz HbA1.out.size, HP.out.below HbA1.out, HT.out.below HbA1.out, by rw [Hst.out]; exact Hap.out⟩
            case measure => simp [intOf]; omega
        · obtain rfl : i = P.length := by omega
          rw [Hall2.out] at ho
          go_wp2
          go_roundw
          case rel => exact ⟨k + 1, A4, c4, by omega, by go_num, by rw [Hall2.out], ho, hb⟩
          case measure => simp [intOf]; omega
    · obtain rfl : k = n := by omega
      go_wp2
      go_ret
      exact ⟨A2, c2, rfl, own_base ho Hb0.out.size, bstep Hb0.out hb⟩

end Go.Proofs.YtjbdflkbclhonabDoor

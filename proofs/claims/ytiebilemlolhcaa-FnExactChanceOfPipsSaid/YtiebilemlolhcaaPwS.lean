/- Hands counted by their pips: the specification. -/
import Derived.Test.YtiebilemlolhcaaPwJ
import Derived.BigRegion
namespace Go.Proofs.Ytiebilemlolhcaa
open Go.RowKit Go.Maps Go.ChangeMaps
set_option linter.unusedVariables false

theorem Try.info_ints : (Try.prog.info? 31).map (fun i => (i.zero, i.size, i.bytes)) = some (some (.slice none 0 0), 1, 24) := by kernel_rfl

/-- Row t + 1 while it grows from its end down to p. -/
def mid (q : Nat → Int) (k t : Nat) (p : Int) (j : Nat) (r : Int) : Nat := if j = t + 1 then (if p < r then cw q (k + 1) j r else cw q k j r) else mix (t + 1) (cw q k) (cw q (k + 1)) j r
theorem mid_start {q : Nat → Int} {k t j : Nat} {M : Nat} {r : Nat} (hr : r ≤ M) : mix (t + 1) (cw q k) (cw q (k + 1)) j r = mid q k t M j r := by
  unfold mid
  by_cases e : j = t + 1
  · rw [if_pos e, if_neg (by omega), mix_top (by omega)]
  · rw [if_neg e]
theorem mid_step {q : Nat → Int} {k t j : Nat} {P r : Int} (h : ¬ (j = t + 1 ∧ r = P)) : mid q k t P j r = mid q k t (P - 1) j r := by
  unfold mid
  by_cases e : j = t + 1
  · rw [if_pos e, if_pos e]
    by_cases e2 : P < r
    · rw [if_pos e2, if_pos (by omega)]
    · rw [if_neg e2, if_neg (by omega)]
  · rw [if_neg e, if_neg e]
theorem mid_val {q : Nat → Int} {k t : Nat} {P : Int} : cw q k (t + 1) P + cw q k t (P - q k) = mid q k t (P - 1) (t + 1) P := by
  unfold mid
  rw [if_pos rfl, if_pos (by omega)]
  rfl
theorem mid_done {q : Nat → Int} {k t j : Nat} {p : Int} {r : Nat} (hq : ∀ j, j < k → 0 ≤ q j) (hp : p < q k) : mid q k t p j r = mix t (cw q k) (cw q (k + 1)) j r := by
  unfold mid
  by_cases e : j = t + 1
  · subst e
    rw [if_pos rfl, mix_at (Nat.lt_succ_self _)]
    by_cases e2 : p < r
    · rw [if_pos e2]
    · rw [if_neg e2]
      have h0 : cw q k t ((r : Int) - q k) = 0 := by
        rcases Nat.eq_zero_or_pos (cw q k t ((r : Int) - q k)) with h | h
        · exact h
        · have := cw_in k hq t _ h
          omega
      simp only [cw]
      rw [h0]
      rfl
  · rw [if_neg e, mix_ne t _ _ j e]
theorem mid_own {q : Nat → Int} {k t : Nat} {P : Int} : mid q k t P (t + 1) P = cw q k (t + 1) P := by
  unfold mid
  rw [if_pos rfl, if_neg (by omega)]
theorem mid_low {q : Nat → Int} {k t : Nat} {P r : Int} : mid q k t P t r = cw q k t r := by
  unfold mid
  rw [if_neg (by omega), mix_top (by omega)]

set_option maxRecDepth 100000 in
set_option maxHeartbeats 2000000 in
theorem c_dcPips (N K : Nat) (w : World) (hn : N ≤ 6) (hk : K ≤ tilesN N) :
    Calls Try.prog 12 #[.int .i64 N, .int .i64 K] w fun e w' => ∃ b M : Nat, e = .returned (.slice (some ⟨b, 0, none⟩) (M + 1) (M + 1)) ∧ (M : Int) = psum (pipsAt (setL N)) (setL N).length ∧ M ≤ 1000 ∧ (∀ p : Nat, p ≤ M → w'.cell? ⟨b, p, none⟩ = some (.int .i64 (withW N K p : Int))) ∧ Below w.heap.size w w' := by
  have hT := tilesN_bd hn
  obtain ⟨i0, hi, hz0, hz1, hz2⟩ := info_parts Try.info_int
  obtain ⟨iR, hi1, hy0, hy1, hy2⟩ := info_parts Try.info_ints
  have hl := setL_tiles hn
  have hs := setL_small hn
  have con := fun W => c_tiSet N (by omega) W
  unfold withW
  generalize hts : setL N = ts at *
  rw [← hl] at hT hk
  have hl28 := hT.2.1
  have Con := Lib.hid con
  have Hs := Lib.hid hs
  have Hq := Lib.hid (fun j => hs.pips j)
  obtain ⟨M, hM⟩ : ∃ M : Nat, psum (pipsAt ts) ts.length = (M : Int) := ⟨(psum (pipsAt ts) ts.length).toNat, by have := psum_bd ts.length (fun j _ => hs.pips j); omega⟩
  have hM1 : M ≤ 336 := by have := psum_bd ts.length (fun j _ => hs.pips j); omega
  have HM := Lib.hid hM
  clear con hs hl hT hM hts
  go_enter Try.func12, Try.ntmps12
  go_wp2_with (go_at_call 20; refine (Con.out _).mono ?_; rintro e w1 ⟨A1, c1, rfl, ho1, hb1⟩)
  have HR := Lib.hid (RdT.of_own ho1)
  have Hb1 := Lib.hid hb1
  clear ho1
  go_loopw [5, 18] (fun v i wr => ∃ k : Nat, k ≤ ts.length ∧ i = .int .i64 k ∧ v = .int .i64 (psum (pipsAt ts) k) ∧ Below w1.heap.size w1 wr) (fun _ i _ => ts.length - (intOf i).toNat)
  case atStart => exact ⟨0, Nat.zero_le _, rfl, rfl, Below.refl _ _⟩
  case round =>
    obtain ⟨k, hk1, rfl, rfl, hb⟩ := hrel
    have Hb := Lib.hid hb
    have hzb := hb.size
    by_cases hlt : k < ts.length
    · obtain ⟨bk, off, rfl, hbk, hc⟩ := HR.out.at_ hlt
      have g1 := (hb.cell (p := ⟨bk, _, none⟩) hbk).trans (hc k hlt).1
      have g2 := (hb.cell (p := ⟨bk, _, none⟩) hbk).trans (hc k hlt).2
      have hbk2 : bk < wr.heap.size := by omega
      have hz := Hs.out ts[k] (List.getElem_mem hlt)
      have hp := psum_bd k (fun j _ => Hq.out j)
      clear hb hc
      go_wp2
      go_roundw
      case rel =>
        refine ⟨k + 1, by omega, by go_num, ?_, bstep Hb.out ((Below.refl _ _).alloc (Nat.le_refl _) _)⟩
        rw [psum_step, pipsAt_get hlt]
      case measure => simp [intOf]; omega
    · have ek : k = ts.length := by omega
      subst ek
      rw [HM.out]
      obtain ⟨g, eg⟩ : ∃ g, g = wr.heap.size := ⟨_, rfl⟩
      have Eg := Lib.hid eg
      have HB := Lib.hid (bstep Hb1.out Hb.out)
      clear hb eg
      go_wp2_with (refine wp_make_one rfl _ _ _ rfl 31 iR _ (.slice none 0 0) Try.underlying47 hi1 hy0 hy1 rfl .i64 .i64 _ (K + 1) rfl rfl (by go_num) (by rw [hy2]; omega) (by omega) ?_; intro w2 hs2 hc2 hf2 hb2)
      rw [← Eg.out] at hs2 hc2 hf2 hb2 ⊢
      have M0 := IMk.start (m := M) hs2 hc2 hf2
      have B2 : Below w.heap.size w w2 := bstep HB.out (by rw [← Eg.out]; exact hb2)
      have hgw0 : w.heap.size ≤ g := by have := HB.out.size; have := Eg.out; omega
      clear hs2 hc2 hf2 hb2 hi1 hy0 hy1 hy2 HB
      have Kg : g + 1 ≤ w2.heap.size := by have := M0.size; omega
      go_loopw [35] (fun i wr => ∃ k : Nat, k ≤ K + 1 ∧ i = .int .i64 k ∧ IMk wr g K M k ∧ Below w.heap.size w wr) (fun i _ => K + 1 - (intOf i).toNat)
      case atStart => exact ⟨0, Nat.zero_le _, rfl, M0, B2⟩
      case round =>
        clear M0 B2
        obtain ⟨k, hk2, rfl, hm, hb⟩ := hrel
        have HI := Lib.hid hm
        have HB := Lib.hid hb
        have HSZ := Lib.hid hm.size
        by_cases hlt : k < K + 1
        · have x1 := hm.top k (by omega)
          rw [if_neg (Nat.lt_irrefl _)] at x1
          have f1 := hm.fz k
          have hgl := block_lt x1
          clear hm hb
          go_wp2_with (refine wp_make_one rfl _ _ _ rfl 3 i0 _ (.int .i64 0) Try.underlying31 hi hz0 hz1 rfl .i64 .i64 _ (M + 1) rfl rfl (by go_num) (by rw [hz2]; omega) (by omega) ?_; intro w4 hs4 hc4 hf4 hb4; have x4 := keepc hb4 x1; have f4 := (hb4.frozen (p := ⟨g, k, none⟩) hgl).trans f1; have HC4 := Lib.hid hc4; have HF4 := Lib.hid hf4; have HB4 := Lib.hid hb4; clear hc4 hf4 hb4 x1 f1)
          go_roundw
          case rel => exact ⟨k + 1, by omega, by go_num, HI.out.step (by omega) hs4 HC4.out HF4.out HB4.out, (bstep HB.out HB4.out).setCell hgw0 _⟩
          case measure => simp [intOf]; omega
        · have ek : k = K + 1 := by omega
          subst ek
          have irow := hm.done
          have e00 := irow.top 0 (Nat.zero_le _)
          have e01 := irow.at_ 0 (Nat.zero_le _) 0 (Nat.zero_le _)
          have e02 := irow.fz1 0 (Nat.zero_le _) 0
          rw [Nat.add_zero] at e00 e01 e02
          have HRow := Lib.hid irow
          clear hm hb irow
          go_wp2_with (go_at_call 20; refine (Con.out _).mono ?_; rintro e w5 ⟨A5, c5, rfl, ho5, hb5⟩)
          have hsz5 : (wr.setCell ⟨g + 1, 0, none⟩ (.int .i64 1)).heap.size = g + 2 + K := by have := HSZ.out; simp; omega
          have O5 : w5.ownsRow (g + 2 + K) 46 2 (.slice A5 ts.length c5) ts.length (cellsT ts) := by rw [← hsz5]; exact ho5
          have R5 : IRow w5 g K M (cw (pipsAt ts) 0) := by
            refine IRow.keep (IRow.set (s := 0) (p := 0) (v := 1) (f' := cw (pipsAt ts) 0) HRow.out (Nat.zero_le _) (Nat.zero_le _) (fun j r hj he => ?_) ?_) hb5
            · simp only [cw]
              rw [if_neg (show ¬ (j = 0 ∧ r = 0) from he)]
            · simp [cw]
          have B5 : Below w.heap.size w w5 := bstep (HB.out.setCell (by simp; omega) _) hb5
          have hg5 : g + 2 + K ≤ w5.heap.size := by rw [← hsz5]; exact hb5.size
          clear ho5 hb5 hsz5 e00 e01 e02 HI HB HRow HSZ
          go_loopw [52] (fun i wr => ∃ k : Nat, k ≤ ts.length ∧ i = .int .i64 k ∧ IRow wr g K M (cw (pipsAt ts) k) ∧ wr.ownsRow (g + 2 + K) 46 2 (.slice A5 ts.length c5) ts.length (cellsT ts) ∧ g + 2 + K ≤ wr.heap.size ∧ Below w.heap.size w wr) (fun i _ => ts.length - (intOf i).toNat)
          case atStart => exact ⟨0, Nat.zero_le _, rfl, R5, O5, hg5, B5⟩
          case round =>
            clear R5 O5 hg5 B5
            obtain ⟨wo, rfl⟩ : ∃ wo : World, wo = wr := ⟨_, rfl⟩
            obtain ⟨k, hk3, rfl, hm, ho, hgs, hb⟩ := hrel
            by_cases hlt : k < ts.length
            · obtain ⟨bk, off, rfl, hbk, hc⟩ := (RdT.of_own ho).at_ hlt
              have q1 := (hc k hlt).1
              have q2 := (hc k hlt).2
              have hz := Hs.out ts[k] (List.getElem_mem hlt)
              have al : Below wo.heap.size wo (wo.alloc (.cells #[.int .i64 ts[k].1, .int .i64 ts[k].2] 46)) := (Below.refl _ _).alloc (Nat.le_refl _) _
              have HM1 := Lib.hid (hm.keep al)
              have HO1 := Lib.hid (own_keep ho al)
              have HB1 := Lib.hid (bstep hb al)
              have hgs1 := Nat.le_trans hgs al.size
              clear hm ho hb hc al
              go_wp2
              obtain ⟨pn, epn⟩ : ∃ pn : Nat, pipsAt ts k = (pn : Int) := ⟨(pipsAt ts k).toNat, by have := Hq.out k; omega⟩
              have epn2 : ts[k].1 + ts[k].2 = (pn : Int) := by rw [← pipsAt_get hlt]; exact epn
              rw [epn2]
              have Epn := Lib.hid epn
              have Hlt := Lib.hid hlt
              clear epn epn2 q1 q2 hz
              go_loopw [13] (fun i wr => ∃ s : Nat, s ≤ K ∧ i = .int .i64 s ∧ IRow wr g K M (mix s (cw (pipsAt ts) k) (cw (pipsAt ts) (k + 1))) ∧ wr.ownsRow (g + 2 + K) 46 2 (.slice (some ⟨bk, off, none⟩) ts.length c5) ts.length (cellsT ts) ∧ g + 2 + K ≤ wr.heap.size ∧ Below w.heap.size w wr) (fun i _ => (intOf i).toNat)
              case atStart => exact ⟨K, Nat.le_refl _, rfl, HM1.out.to (fun j hj p hp => by rw [mix_top hj]), HO1.out, hgs1, HB1.out⟩
              case round =>
                clear HM1 HO1 HB1 hgs1
                obtain ⟨s, hsK, rfl, hm, ho, hgs, hb⟩ := hrel
                have HM2 := Lib.hid hm
                have HO2 := Lib.hid ho
                have HB2 := Lib.hid hb
                clear hm ho hb
                by_cases hs0 : s = 0
                · subst hs0
                  go_wp2
                  go_roundw
                  case rel =>
                    refine ⟨k + 1, by omega, by go_num, HM2.out.to (fun j hj p hp => ?_), HO2.out, hgs, HB2.out⟩
                    by_cases e : 0 < j
                    · rw [mix_at e]
                    · rw [mix_top (by omega), show j = 0 by omega]
                      rfl
                  case measure => have := Hlt.out; simp [intOf]; omega
                · obtain ⟨t, rfl⟩ : ∃ t, s = t + 1 := ⟨s - 1, by omega⟩
                  have k0 : (0 : Int) < (t : Int) + 1 := by omega
                  clear hs0
                  go_wp2
                  go_loopw [14] (fun i wr => ∃ p : Int, (pn : Int) - 1 ≤ p ∧ p ≤ (M : Int) ∧ i = .int .i64 p ∧ IRow wr g K M (mid (pipsAt ts) k t p) ∧ wr.ownsRow (g + 2 + K) 46 2 (.slice (some ⟨bk, off, none⟩) ts.length c5) ts.length (cellsT ts) ∧ g + 2 + K ≤ wr.heap.size ∧ Below w.heap.size w wr) (fun i _ => (intOf i + 1).toNat)
                  case atStart =>
                    refine ⟨(M : Int), ?_, Int.le_refl _, rfl, HM2.out.to (fun j hj p hp => mid_start hp), HO2.out, hgs, HB2.out⟩
                    have h1 := psum_mono (q := pipsAt ts) (N := ts.length) (fun j _ => (Hq.out j).1) (ts.length - (k + 1)) (k + 1) (by have := Hlt.out; omega)
                    have h2 := psum_bd k (fun j _ => Hq.out j)
                    rw [psum_step, HM.out, Epn.out] at h1
                    omega
                  case round =>
                    clear HM2 HO2 HB2 hgs
                    obtain ⟨p, hp1, hp2, rfl, hm, ho, hgs, hb⟩ := hrel
                    have HM2 := Lib.hid hm
                    have HO2 := Lib.hid ho
                    have HB2 := Lib.hid hb
                    by_cases hge : (pn : Int) ≤ p
                    · obtain ⟨P, rfl⟩ : ∃ P : Nat, p = (P : Int) := ⟨p.toNat, by omega⟩
                      obtain ⟨D, eD⟩ : ∃ D : Nat, (P : Int) - (pn : Int) = (D : Int) := ⟨((P : Int) - (pn : Int)).toNat, by omega⟩
                      have hP : P ≤ M := by omega
                      have hD : D ≤ M := by omega
                      have y0 := hm.top (t + 1) hsK
                      have y1 := hm.top t (by omega)
                      have y2 := hm.at_ (t + 1) hsK P hP
                      have y3 := hm.at_ t (by omega) D hD
                      have f2 := hm.fz1 (t + 1) hsK P
                      rw [mid_own] at y2
                      rw [mid_low] at y3
                      have v1 := cw_le (pipsAt ts) k (t + 1) (P : Int)
                      have v2 := cw_le (pipsAt ts) k t (D : Int)
                      have v3 := two_bd (i := k) (by omega)
                      have hv : cw (pipsAt ts) k (t + 1) (P : Int) + cw (pipsAt ts) k t (D : Int) = mid (pipsAt ts) k t ((P : Int) - 1) (t + 1) (P : Int) := by
                        rw [← mid_val, Epn.out, eD]
                      generalize cw (pipsAt ts) k (t + 1) (P : Int) = ca at *
                      generalize cw (pipsAt ts) k t (D : Int) = cb at *
                      have Hv := Lib.hid hv
                      have k3 : IntKind.i64.wrap (D : Int) = (D : Int) := IntWalk.i64_in _ (by omega)
                      have k4 : IntKind.i64.wrap (t : Int) = (t : Int) := IntWalk.i64_in _ (by omega)
                      have k5 : IntKind.i64.wrap ((ca : Int) + (cb : Int)) = (ca : Int) + (cb : Int) := IntWalk.i64_in _ (by omega)
                      have k6 : t < K := by omega
                      have k7 : (t : Int) < (K : Int) + 1 := by omega
                      have k8 : P < M + 1 := by omega
                      have k9 : D < M + 1 := by omega
                      clear hm ho hb hv v1 v2 v3
                      go_wp2_with fail
                      go_region
                      go_wp2
                      go_roundw
                      case rel =>
                        have r1 := IRow.set (f' := mid (pipsAt ts) k t ((P : Int) - 1)) HM2.out hsK hP (fun j r hj he => mid_step he) Hv.out
                        rw [Int.natCast_add] at r1
                        exact ⟨(P : Int) - 1, by omega, by omega, by go_num, r1.drew, own_off2 HO2.out (fun b hb => by have := (HO2.out.lt b hb).1; omega), by simpa using hgs, (HB2.out.setCell (by simp; omega) _).drew⟩
                      case measure => simp [intOf]
                    · clear hm ho hb
                      go_wp2
                      go_roundw
                      case rel =>
                        exact ⟨t, by omega, by go_num, HM2.out.to (fun j hj r hr => mid_done (fun j _ => (Hq.out j).1) (by rw [Epn.out]; omega)), HO2.out, hgs, HB2.out⟩
                      case measure => simp [intOf]
            · have ek : k = ts.length := by omega
              subst ek
              have e0 := hm.top K (Nat.le_refl _)
              have HM2 := Lib.hid hm
              have HB2 := Lib.hid hb
              clear hm ho hb
              go_wp2
              go_ret
              exact ⟨g + 1 + K, M, rfl, HM.out.symm, by omega, fun p hp => HM2.out.at_ K (Nat.le_refl _) p hp, HB2.out⟩

end Go.Proofs.Ytiebilemlolhcaa

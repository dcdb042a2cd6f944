/- All chains of a hand by the specification: the search, with the list of full chains. -/
import Derived.Test.YtjhedjokifnofaaLkV
import Derived.Deep.Cut
import Derived.BigQuiet
import Derived.Deep.RegionHeld3
import Derived.Deep.RegionHeldLaw
import Derived.Deep.RegionLaw
namespace Go.Proofs.Ytjhedjokifnofaa
open Go.RowKit
set_option linter.unusedVariables false

set_option maxRecDepth 100000 in
set_option maxHeartbeats 16000000 in
theorem c_lookV (H : List (Int × Int)) (lo pb gc gu cH M : Nat) (AH : Option Addr) (w0 : World) (hH : RdT w0 AH H) (hlo : lo = w0.heap.size) (hh : handB H = true) (h8 : H.length ≤ 8) (hM : M ≤ 1000000) :
    ∀ (n : Nat) (c : List Int) (s : S3) (ls : List (List Int)) (k : Nat) (Ac : Option Addr) (cc : Nat) (AL : Option Addr) (cL : Nat) (w : World), H.length + 1 - c.length < n → OkC H c → c.length ≠ 0 → Bnd s k → k + (enumS H (fuelC H c) c).length ≤ 4611686018427387904 →
      Lo2 H lo pb gc gu M AH cH c s ls AL cL w → Below lo w0 w → RdI w Ac c → (∀ a, Ac = some a → ¬ LkU pb gc gu AL a.block) → gu < w.heap.size →
    Calls Try.prog 54 #[.pointer (some ⟨pb, 0, none⟩), .slice Ac c.length cc, .slice (some ⟨gu, 0, none⟩) H.length H.length] w (LkP H lo pb gc gu M AH cH c (fold3 H.length s (enumS H (fuelC H c) c)) (foldV M H.length ls (enumS H (fuelC H c) c)) AL w)
  | 0, c, s, ls, k, Ac, cc, AL, cL, w, hz, ho, h0, hbn, hbk, hL, hb0, hc, hcn, hu => by omega
  | n + 1, c, s, ls, k, Ac, cc, AL, cL, w, hz, ho, h0, hbn, hbk, hL, hb0, hc, hcn, hu => by
    have hcl := ho.len
    have hen := enum_beh (H := H) (c := c) hcl
    rw [hen] at hbk ⊢
    have hfold : fold3 H.length s (c :: behC H c 0) = fold3 H.length (step3 H.length s c) (behC H c 0) := rfl
    have hfoldV : foldV M H.length ls (c :: behC H c 0) = foldV M H.length (stepV M H.length ls c) (behC H c 0) := rfl
    rw [hfold, hfoldV]
    obtain ⟨V1, hV1⟩ : ∃ V1, V1 = stepV M H.length ls c := ⟨_, rfl⟩
    rw [← hV1]
    have HV1 := Lib.hid hV1
    clear hV1 hfoldV
    have IH := Lib.hid (fun (c2 : List Int) (s2 : S3) (ls2 : List (List Int)) (k2 : Nat) (A2 : Option Addr) (cc2 : Nat) (AL2 : Option Addr) (cL2 : Nat) (w2 : World) (q1 : H.length + 1 - c2.length < n) => c_lookV H lo pb gc gu cH M AH w0 hH hlo hh h8 hM n c2 s2 ls2 k2 A2 cc2 AL2 cL2 w2 q1)
    have hb1 : Bnd (step3 H.length s c) (k + 1) := Bnd.fold H.length [c] s k hbn
    obtain ⟨N1, hN1⟩ : ∃ N1, N1 = (if c.length = H.length + 1 then s.n + 1 else s.n) := ⟨_, rfl⟩
    obtain ⟨C1, hC1⟩ : ∃ C1, C1 = cntStep s.C c := ⟨_, rfl⟩
    obtain ⟨L1, hL1⟩ : ∃ L1, L1 = lngStep s.L c := ⟨_, rfl⟩
    have hs1 : step3 H.length s c = ⟨N1, C1, L1⟩ := by rw [hN1, hC1, hL1]; rfl
    rw [hs1] at hb1 ⊢
    rw [List.length_cons] at hbk
    have hcc := fun w => c_l1Own Ac cc c w
    have ng := hL.lt
    have nc := hL.ltc
    clear hen hfold hs1
    have f5 := hL.fz 5
    have x0 := hL.c0
    have x1 := hL.c1
    have x2 := hL.c2
    have x3 := hL.c3
    obtain ⟨AG, cG, x5⟩ := hL.c5
    have x4 := hL.c4
    have HL := Lib.hid hL
    have HC := Lib.hid hc
    have HCN := Lib.hid hcn
    have HO := Lib.hid ho
    have HB0 := Lib.hid hb0
    have HB1 := Lib.hid hb1
    have HBK := Lib.hid hbk
    have HBN := Lib.hid hbn
    have HN1 := Lib.hid hN1
    have HC1 := Lib.hid hC1
    have HL1 := Lib.hid hL1
    have HH := Lib.hid hh
    have HHR := Lib.hid hH
    have HLO := Lib.hid hlo
    clear hlo hcc hb1 hbk hbn ho hc hcn hb0 hL hN1 hC1 hL1 hh hH ng nc f5 x1 x2 x3 x4
    go_enter Try.func54, Try.ntmps54
    go_upto_if 15 with (fail)
    go_cut [] from 15 (fun wr => Lo2 H lo pb gc gu M AH cH c ⟨s.n, s.C, L1⟩ ls AL cL wr ∧ Rl pb gc gu AL AL w wr)
    case first =>
      by_cases hlong : s.L.length < c.length
      · have hA : L1 = c := by rw [HL1.out]; unfold lngStep; rw [if_pos hlong]
        have j1 : (s.L.length : Int) < (c.length : Int) := by omega
        have Con := Lib.hid (c_l1Own Ac cc c w HC.out (by have := HO.out.len; omega))
        have HA := Lib.hid hA
        clear hlong hA
        go_wp2_with fail
        refine Con.out.mono ?_
        rintro e wa ⟨A5, c5, rfl, o5, h5⟩
        have La := HL.out.keep h5 hu
        have L2 := Lib.hid (La.longest c A5 c5)
        rw [← HA.out] at L2
        have T2 : Hid (Rl pb gc gu AL AL w (wa.setCell ⟨pb, 5, none⟩ (.slice A5 c.length c5))) := Lib.hid ((Rl.below h5).trans (Rl.setCell _ _ (.inl rfl)))
        obtain ⟨_, _, ya⟩ := La.c5
        have fa5 := La.fz 5
        have na := La.lt
        clear La o5 h5 x0 x5
        go_wp2
        go_meet
        exact ⟨by rw [HA.out]; exact HA.out ▸ L2.out, T2.out⟩
      · have hA : L1 = s.L := by rw [HL1.out]; unfold lngStep; rw [if_neg hlong]
        have j1 : ¬ (s.L.length : Int) < (c.length : Int) := by omega
        have HA := Lib.hid hA
        clear hlong hA
        go_wp2
        go_meet
        exact ⟨by rw [HA.out]; exact HL.out, Rl.refl _ _⟩
    case rest =>
      obtain ⟨la, ta⟩ := hcut
      rename World => wa
      clear x0 x5
      have LA := Lib.hid la
      have TA := Lib.hid ta
      have x3 := la.c3
      have na := la.lt
      have nca := la.ltc
      go_upto_if 23 with (fail)
      go_cut [] from 23 (fun wr => Lo2 H lo pb gc gu M AH cH c ⟨s.n, C1, L1⟩ ls AL cL wr ∧ Rl pb gc gu AL AL w wr)
      case first =>
        by_cases h1 : 1 < c.length
        · obtain ⟨q, hq⟩ : ∃ q, c.length = q + 2 := ⟨c.length - 2, by omega⟩
          have hC2 : C1 = s.C.set q (s.C.getD q 0 + 1) := by rw [HC1.out]; unfold cntStep; rw [if_pos h1, show c.length - 2 = q from by omega]
          have hqn : q < H.length := by have := HO.out.len; omega
          have hlen : s.C.length = H.length := LA.out.len
          have hcell : (cellsI s.C)[q]? = some (.int .i64 (s.C.getD q 0)) := by
            unfold cellsI
            rw [List.getElem?_map, List.getD_eq_getElem?_getD, List.getElem?_eq_getElem (by omega)]
            rfl
          have c1 := (LA.out.cnt.cellAt q (by omega)).trans hcell
          have fr1 := LA.out.cnt.frozenAt q
          have hv0 := HBN.out.2 q
          have hbk := HBK.out
          have L3 := Lib.hid (LA.out.counts hqn (s.C.getD q 0 + 1))
          have T3 : Hid (Rl pb gc gu AL AL w (wa.setCell ⟨gc, q, none⟩ (.int .i64 (s.C.getD q 0 + 1)))) := Lib.hid (TA.out.trans (Rl.setCell _ _ (.inr (.inl rfl))))
          have HC2 := Lib.hid hC2
          generalize s.C.getD q 0 = v0 at *
          have j2 : (1 : Int) < (c.length : Int) := by omega
          have j3 : IntKind.i64.wrap ((c.length : Int) - 2) = (q : Int) := by rw [IntWalk.i64_in _ (by omega)]; omega
          have j5 : (0 : Int) ≤ (q : Int) := by omega
          have j6 : (q : Int) < (H.length : Int) := by omega
          have j7 : IntKind.i64.wrap (v0 + 1) = v0 + 1 := IntWalk.i64_in _ (by omega)
          clear h1 hq hC2 hlen hcell hbk la ta
          go_wp2
          go_meet
          exact ⟨by rw [HC2.out]; exact L3.out, T3.out⟩
        · have hC2 : C1 = s.C := by rw [HC1.out]; unfold cntStep; rw [if_neg h1]
          have j2 : ¬ (1 : Int) < (c.length : Int) := by omega
          have HC2 := Lib.hid hC2
          clear h1 hC2 la ta
          go_wp2
          go_meet
          exact ⟨by rw [HC2.out]; exact LA.out, TA.out⟩
      case rest =>
        obtain ⟨lb, tb⟩ := hcut
        rename World => wb
        clear la ta x3 na nca
        have LB := Lib.hid lb
        have TB := Lib.hid tb
        have x0 := lb.c0
        have x1 := lb.c1
        have x2 := lb.c2
        have nb := lb.lt
        have f2 := lb.fz 2
        have f4 := lb.fz 4
        have x4 := lb.c4
        have j8 : IntKind.i64.wrap ((H.length : Int) + 1) = (H.length : Int) + 1 := IntWalk.i64_in _ (by omega)
        go_upto_if 43 with (fail)
        by_cases hfull : c.length = H.length + 1
        · have hbe : behC H c 0 = [] := full_end HO.out hfull
          have hN : N1 = s.n + 1 := by rw [HN1.out, if_pos hfull]
          have j9 : ((c.length : Int) == (H.length : Int) + 1) = true := by rw [beq_iff_eq]; omega
          have hbk := HBK.out
          have hbn := HBN.out.1
          have j10 : IntKind.i64.wrap ((s.n : Int) + 1) = (s.n : Int) + 1 := IntWalk.i64_in _ (by omega)
          have LD := Lib.hid (lb.count (s.n + 1))
          have TD : Hid (Rl pb gc gu AL AL w (wb.setCell ⟨pb, 2, none⟩ (.int .i64 ((s.n + 1 : Nat) : Int)))) := Lib.hid (tb.trans (Rl.setCell _ _ (.inl rfl)))
          have HBE := Lib.hid hbe
          have HNN := Lib.hid hN
          have con := fun (W : World) (h : RdI W Ac c) => c_l1Own Ac cc c W h (by have := HO.out.len; omega)
          have Con := Lib.hid con
          have tbs := tb.tu.size
          have HFU := Lib.hid hfull
          clear hbe hN hbk hbn lb tb hfull con
          go_upto_region 6 with (fail)
          obtain ⟨wd, hwd⟩ : ∃ wd, wd = wb.setCell ⟨pb, 2, none⟩ (.int .i64 ((s.n : Int) + 1)) := ⟨_, rfl⟩
          rw [show (((s.n + 1 : Nat) : Int)) = (s.n : Int) + 1 from by omega, ← hwd] at LD TD
          rw [← hwd]
          have z4 : wd.cell? ⟨pb, 4, none⟩ = some (.slice AL ls.length cL) := by rw [hwd]; exact (World.cell?_setCell_other _ _ _ _ (by simp)).trans x4
          have z1 : wd.cell? ⟨pb, 1, none⟩ = some (.int .i64 (M : Int)) := by rw [hwd]; exact (World.cell?_setCell_other _ _ _ _ (by simp)).trans x1
          have fz4 : wd.frozen? ⟨pb, 4, none⟩ = false := by rw [hwd]; simpa using f4
          have nd : pb < wd.heap.size := block_lt z4
          have HU : Hid (gu < wd.heap.size) := Lib.hid (by rw [hwd]; simp [World.setCell]; omega)
          have HRd : Hid (RdI wd Ac c) := Lib.hid (rdI_turn HC.out TD.out.tu HCN.out)
          clear hwd x0 x1 x2 x4 f2 f4 nb
          have LW : lo ≤ wd.heap.size := by have h7 := LD.out.h1; omega
          by_cases hn0 : ls.length ≤ M
          · have hV : V1 = ls ++ [c] := by rw [HV1.out]; unfold stepV; rw [if_pos HFU.out, if_pos hn0]
            have HVV := Lib.hid hV
            have j12 : (ls.length : Int) ≤ (M : Int) := by omega
            obtain ⟨B, d, q1, _⟩ := LD.out.lst
            have hno : ¬ (Value.slice AL ls.length cL).ownBlock = some pb := fun e => LD.out.lst.has pb e (.inl rfl)
            have HNO := Lib.hid hno
            have Q1 := Lib.hid q1
            clear hV hno q1
            go_quiet (fail)
            go_upto_region 7 with (fail)
            have d4 : (wd.drewN nq).drew.cell? ⟨pb, 4, none⟩ = some (.slice AL ls.length cL) := z4
            have d5 : (wd.drewN nq).drew.frozen? ⟨pb, 4, none⟩ = false := fz4
            have nd2 : pb < (wd.drewN nq).drew.heap.size := nd
            have hbq : Below wd.heap.size wd (wd.drewN nq).drew := belowN (Below.refl _ _) (nq + 1)
            have Q2 := Lib.hid (own_keep Q1.out hbq)
            go_region_law (first | (refine step_append_rowG rfl _ _ rfl lo (.slice AL ls.length cL) ls.length _ rfl Q4.out A7 c.length c7 w7.heap.size rfl (by simp) (by omega) lz ?_; intro A9 c9 w9 h9 hg9 hat9; have t9 := Turn.of_grown hg9 (T := fun k => (Value.slice AL ls.length cL).ownBlock = some k) (fun k e => e); have r4 := t9.cell HNO.out m4; have r5 := (frozen_of_blk (m := 4) (t9.block pb (block_lt m4) HNO.out)).trans m5) | (go_simp; go_at_call 72; refine (Con.out _ (by exact HRd.out)).mono ?_; rintro e w7 ⟨A7, c7, rfl, o7, h7⟩; have p4 := keepc h7 d4; have p5 := (h7.frozen (p := ⟨pb, 4, none⟩) nd2).trans d5; have al := (Below.refl w7.heap.size w7).alloc (Nat.le_refl _) (.cells #[.slice A7 c.length c7] 34); have m4 := keepc al p4; have m5 := (al.frozen (p := ⟨pb, 4, none⟩) (block_lt p4)).trans p5; have Q4 := Lib.hid (own_keep (own_keep Q2.out h7) al); have lz := Nat.le_trans (Nat.le_trans LW h7.size) al.size))
            all_goals
              have hk0 : Below wd.heap.size wd (wd.drewN (nq + 1)) := belowN (Below.refl _ _) _
              have hk1 := hk0.trans (h7.mono hk0.size)
              have hk := hk1.trans (al.mono hk1.size)
              have e1 : (ls ++ [c]).length = ls.length + 1 := by simp
              have pp : OwnPP 34 3 1 cellsI w9 lo (fun g => ¬ LkT pb gc gu g) (.slice A9 (ls.length + 1) c9) (ls ++ [c]) := OwnPP.push LD.out.lst hk (o7.alloc _) LW (fun g hg hT => by have q1 := LD.out.lt; have q2 := LD.out.ltc; have q3 := HU.out; rcases hT with e | e | e <;> omega) (fun ys hys => by rw [← own_unique Q4.out hys]; exact h9) hg9 hat9
              rw [← e1] at pp
              have L9 := (LD.out.keep hk HU.out).list (Nat.lt_of_lt_of_le HU.out hk.size) hg9 pp
              rw [e1] at L9
              have L9 := Lib.hid L9
              have T9 : Hid (Rl pb gc gu AL A9 w (w9.setCell ⟨pb, 4, none⟩ (.slice A9 (ls.length + 1) c9))) := Lib.hid (((TD.out.trans (Rl.below hk)).trans (Rl.append hg9 hat9)).trans (Rl.setCell _ _ (.inl rfl)))
              clear hk hk0 hk1 pp e1
              go_wp2
              refine bodyPost_ret (results_none rfl _ _ _) rfl ?_
              rw [HBE.out]
              refine ⟨rfl, A9, c9, ?_, T9.out⟩
              show Lo2 H lo pb gc gu M AH cH c ⟨N1, C1, L1⟩ V1 A9 c9 _
              rw [HNN.out, HVV.out]
              exact L9.out
          · have j11 : ¬ (ls.length : Int) ≤ (M : Int) := by omega
            have hV : V1 = ls := by rw [HV1.out]; unfold stepV; rw [if_pos HFU.out, if_neg hn0]
            have HVV := Lib.hid hV
            clear hV
            go_quiet (fail)
            go_wp2
            refine bodyPost_ret (results_none rfl _ _ _) rfl ?_
            rw [HBE.out]
            have hk : Below wd.heap.size wd (wd.drewN nq) := belowN (Below.refl _ _) _
            refine ⟨rfl, AL, cL, ?_, TD.out.trans (Rl.below hk)⟩
            show Lo2 H lo pb gc gu M AH cH c ⟨N1, C1, L1⟩ V1 AL cL _
            rw [HNN.out, HVV.out]
            exact LD.out.keep hk HU.out

        · have j9 : ((c.length : Int) == (H.length : Int) + 1) = false := by rw [beq_eq_false_iff_ne]; omega
          have hN : N1 = s.n := by rw [HN1.out, if_neg hfull]
          have hV : V1 = ls := by rw [HV1.out]; unfold stepV; rw [if_neg hfull]
          have LD := Lib.hid (show Lo2 H lo pb gc gu M AH cH c ⟨N1, C1, L1⟩ V1 AL cL wb by rw [hN, hV]; exact lb)
          obtain ⟨aim, haim⟩ : ∃ aim, aim = fold3 H.length ⟨N1, C1, L1⟩ (behC H c 0) := ⟨_, rfl⟩
          have HAIM := Lib.hid haim
          obtain ⟨aimV, haimV⟩ : ∃ aimV, aimV = foldV M H.length V1 (behC H c 0) := ⟨_, rfl⟩
          have HAIMV := Lib.hid haimV
          clear hV haimV
          have hlen := HO.out.len
          have con := fun (W : World) (h : RdI W Ac c) => c_l1Own Ac cc c W h (by omega)
          have Con := Lib.hid con
          clear hN lb tb x0 x1 x2 x4 f2 f4 nb con haim
          go_wp2
          rw [j9]
          go_loopw [6] (fun i wr => ∃ (q : Nat) (s2 : S3) (ls2 : List (List Int)) (k2 : Nat) (AL2 : Option Addr) (cL2 : Nat), q ≤ 10 ∧ i = .int .i64 q ∧ fold3 H.length s2 (behC H c q) = aim ∧ foldV M H.length ls2 (behC H c q) = aimV ∧ Bnd s2 k2 ∧ k2 + (behC H c q).length ≤ 4611686018427387904 ∧ Lo2 H lo pb gc gu M AH cH c s2 ls2 AL2 cL2 wr ∧ Rl pb gc gu AL AL2 w wr) (fun i _ => 10 - (intOf i).toNat)
          case atStart => exact ⟨0, ⟨N1, C1, L1⟩, V1, k + 1, AL, cL, Nat.zero_le _, rfl, HAIM.out.symm, HAIMV.out.symm, HB1.out, by have := HBK.out; omega, LD.out, TB.out⟩
          case round =>
            obtain ⟨q, s2, ls2, k2, AL2, cL2, hq, rfl, hf2, hv2, hb2, hk2, l2, t2⟩ := hrel
            by_cases hlt : q ≤ 9
            · rw [behC_step H c hlt, fold3_app] at hf2
              rw [behC_step H c hlt, foldV_app] at hv2
              rw [behC_step H c hlt, List.length_append] at hk2
              obtain ⟨l, hl9, hlc⟩ := lastC_num HO.out
              obtain ⟨m, hm⟩ : ∃ m, c.length = m + 1 := ⟨c.length - 1, by omega⟩
              obtain ⟨bk, off, hA, hbk, hcell⟩ := (rdI_turn HC.out t2.tu HCN.out).at_ (k := m) (by omega)
              have hRT := rdT_turn HHR.out HLO.out HB0.out t2.tu HL.out.low
              have gl : wr.cell? ⟨bk, off + m, none⟩ = some (.int .i64 (l : Int)) := by
                rw [hcell m (by omega)]
                have e : c[m]'(by omega) = (l : Int) := by rw [← hlc]; unfold lastC; rw [show c.length - 1 = m from by omega, List.getD_eq_getElem?_getD, List.getElem?_eq_getElem (by omega)]; rfl
                rw [e]
              have g0 := l2.c0
              have HRT := Lib.hid hRT
              have L2 := Lib.hid l2
              have T2 := Lib.hid t2
              have F2 := Lib.hid hf2
              have V2 := Lib.hid hv2
              have B2 := Lib.hid hb2
              have K2 := Lib.hid hk2
              have LC := Lib.hid hlc
              have j21 : IntKind.i64.wrap ((c.length : Int) - 1) = (m : Int) := by rw [IntWalk.i64_in _ (by omega)]; omega
              have j22 : (0 : Int) ≤ (m : Int) := by omega
              have j23 : (m : Int) < (c.length : Int) := by omega
              obtain ⟨P, hP⟩ : ∃ P, placeI H (min (l : Int) q, max (l : Int) q) = P := ⟨_, rfl⟩
              have hP2 : placeI H (tile2 (lastC c) (q : Int)) = P := by rw [hlc]; exact hP
              have conP : ∀ W, RdT W AH H → Calls Try.prog 62 #[.slice AH H.length cH, .agg #[.int .i64 (min (l : Int) q), .int .i64 (max (l : Int) q)]] W fun e w' => e = .returned (.int .i64 P) ∧ Below W.heap.size W w' := fun W h => hP ▸ c_tiPlace AH cH H (min (l : Int) q) (max (l : Int) q) W h (by omega)
              have ConP := Lib.hid conP
              have HP2 := Lib.hid hP2
              have gur : gu < wr.heap.size := by have := t2.tu.size; omega
              subst hA
              have HM := Lib.hid hm
              have jm : m ≤ 8 := by omega
              clear hm hRT l2 t2 hf2 hv2 hb2 hk2 hlc hcell hP hP2 conP
              go_wp2
              go_region_held3 (fun w' => w'.cell? ⟨bk, off + m, none⟩ = some (.int .i64 (l : Int)) ∧ w'.cell? ⟨pb, 0, none⟩ = some (.slice AH H.length cH)) (first | exact ⟨keepc hb6 y1, keepc hb6 y0⟩ | exact ⟨y1, y0⟩ | go_keep) (first | (go_at_call 66; refine (c_tiOf _ _ _).mono ?_; rintro e w5 ⟨rfl, hb5⟩; have y1 := keepc hb5 gl; have y0 := keepc hb5 g0) | (go_at_call 62; refine (ConP.out _ ((HRT.out.below (by go_grown)).below hb5)).mono ?_; rintro e w6 ⟨rfl, hb6⟩))
              have hk6 : Below wr.heap.size wr w6 := bstep (bstep (by go_grown) hb5) hb6
              have L6 := Lib.hid (L2.out.keep hk6 gur)
              have T6 := Lib.hid (T2.out.trans (Rl.below hk6))
              have gu6 : gu < w6.heap.size := by have := hk6.size; omega
              by_cases hin : tile2 (lastC c) (q : Int) ∈ H
              · obtain ⟨i, hi, hti⟩ : ∃ (i : Nat) (hi : i < H.length), H[i] = tile2 (lastC c) (q : Int) := List.getElem_of_mem hin
                have hP : P = (i : Int) := by
                  rw [← HP2.out]
                  exact placeI_found hi hti (fun j hj hji e => by have := (List.getElem_inj (of_decide_eq_true HH.out : handP H).2.2).1 (e.trans hti.symm); omega)
                subst hP
                have hu1 := L6.out.usd i hi
                have hf1 := L6.out.fu i
                have j31 : ¬ (i : Int) < 0 := by omega
                have j32 : (0 : Int) ≤ (i : Int) := by omega
                have j33 : (i : Int) < (H.length : Int) := by omega
                by_cases hus : tile2 (lastC c) (q : Int) ∈ tilesC c
                · have hsub : subC H c q = [] := by unfold subC; rw [if_neg]; exact fun h => ((fit_iff h0 _).1 h).2 hus
                  rw [hti, decide_eq_true hus] at hu1
                  have HS := Lib.hid hsub
                  have HI := Lib.hid hi
                  clear hsub hin hus hti hi
                  go_wp2
                  go_roundw
                  case rel => exact ⟨q + 1, s2, ls2, k2, AL2, cL2, by omega, by go_num, by have h7 := F2.out; rw [HS.out] at h7; exact h7, by have h7 := V2.out; rw [HS.out] at h7; exact h7, B2.out, by have h7 := K2.out; omega, L6.out, T6.out⟩
                  case measure => simp [intOf]; omega
                · have hf : fitC H c (q : Int) = true := (fit_iff h0 _).2 ⟨hin, hus⟩
                  have ho2 : OkC H (c ++ [(q : Int)]) := HO.out.snoc (by simp [numB]; omega) hf
                  have hfu2 : fuelC H (c ++ [(q : Int)]) = fuelC H c - 1 := by unfold fuelC; rw [List.length_append, List.length_singleton]; omega
                  have hsub : subC H c q = enumS H (fuelC H (c ++ [(q : Int)])) (c ++ [(q : Int)]) := by unfold subC; rw [if_pos hf, hfu2]
                  have hnd := (of_decide_eq_true HH.out : handP H).2.2
                  have L7 := Lib.hid (L6.out.mark (v := true) hi (mark_on hnd h0 hi hti))
                  have OFF := Lib.hid (mark_off hnd h0 hi hti hus)
                  have T7 : Hid (Rl pb gc gu AL AL2 w (w6.setCell ⟨gu, i, none⟩ (.bool true))) := Lib.hid (T6.out.trans (Rl.setCell _ _ (.inr (.inr rfl))))
                  rw [hti, decide_eq_false hus] at hu1
                  have hz2 : H.length + 1 - (c ++ [(q : Int)]).length < n := by rw [List.length_append, List.length_singleton]; omega
                  have hk7 : k2 + (enumS H (fuelC H (c ++ [(q : Int)])) (c ++ [(q : Int)])).length ≤ 4611686018427387904 := by have h7 := K2.out; rw [hsub] at h7; omega
                  have ih := fun A2 cc2 w2 => IH.out (c ++ [(q : Int)]) s2 ls2 k2 A2 cc2 AL2 cL2 w2 hz2 ho2 (by simp) B2.out hk7
                  simp only [List.length_append, List.length_singleton] at ih
                  have Ih := Lib.hid ih
                  have HS := Lib.hid hsub
                  have HI := Lib.hid hi
                  have g7 : gu < (w6.setCell ⟨gu, i, none⟩ (.bool true)).heap.size := by simp [World.setCell]; omega
                  have LW : lo ≤ w.heap.size := by have h7 := L6.out.h3; omega
                  have jc : c.length ≤ 9 := by have := HO.out.len; omega
                  clear hsub hin hus hti hf ho2 hfu2 hnd hz2 hk7 ih hi
                  go_wp2_with (first | (go_at_call 72; refine (Con.out _ (rdI_turn HC.out T7.out.tu HCN.out)).mono ?_; rintro e w8 ⟨A8, c8, rfl, o8, h8⟩; have Ho9 := Lib.hid (o8.alloc (.cells #[.int .i64 (q : Int)] 3)); have hz8 : (w6.setCell ⟨gu, i, none⟩ (.bool true)).heap.size ≤ (w8.alloc (.cells #[.int .i64 (q : Int)] 3)).heap.size := Nat.le_trans h8.size ((Below.refl w8.heap.size w8).alloc (Nat.le_refl _) _).size) | (at_builtin; refine wp_append_int rfl _ _ rfl (w6.setCell ⟨gu, i, none⟩ (.bool true)).heap.size _ _ rfl Ho9.out (q : Int) w8.heap.size rfl (by simp) (by omega) hz8 ?_; intro A2 c2 w10 hown10 hg10) | (go_at_call 54; have B10 : Below (w6.setCell ⟨gu, i, none⟩ (.bool true)).heap.size (w6.setCell ⟨gu, i, none⟩ (.bool true)) w10 := (h8.alloc h8.size _).trans (below_of_grown hg10 hz8 (fun g hg => (o8.lt g hg).1)); have L10 := L7.out.keep B10 g7; have T10 : Hid (Rl pb gc gu AL AL2 w w10) := Lib.hid (T7.out.trans (Rl.below B10)); refine (Ih.out A2 c2 w10 L10 (HB0.out.trans (T10.out.tu.below LW HL.out.low)) (RdI.of_own (by simpa using hown10)) (fun a ha hT => by subst ha; have q1 := (hown10.lt a.block rfl).1; have q2 := L7.out.lt; have q3 := L7.out.ltc; rcases hT with (e | e | e) | ⟨a3, e, e2⟩ <;> first | omega | (subst e; have q4 := (L7.out.lst.lt a3.block rfl).2; omega)) (by have := B10.size; omega)).mono ?_; rintro e w11 ⟨rfl, AL3, cL3, l11, t11⟩; have u11 := l11.usd i HI.out; have f11 := l11.fu i; have L12 := Lib.hid (l11.mark (v := false) HI.out OFF.out); have T12 : Hid (Rl pb gc gu AL AL3 w (w11.setCell ⟨gu, i, none⟩ (.bool false))) := Lib.hid ((T10.out.trans t11).trans (Rl.setCell _ _ (.inr (.inr rfl))))))
                  go_roundw
                  case rel => exact ⟨q + 1, fold3 H.length s2 (subC H c q), foldV M H.length ls2 (subC H c q), k2 + (subC H c q).length, AL3, cL3, by omega, by go_num, F2.out, V2.out, Bnd.fold _ _ _ _ B2.out, by have h7 := K2.out; omega, by have h7 := L12.out; rw [← HS.out] at h7; exact h7, T12.out⟩
                  case measure => simp [intOf]; omega
              · have hsub : subC H c q = [] := by unfold subC; rw [if_neg]; exact fun h => hin ((fit_iff h0 _).1 h).1
                have hP : P = -1 := by have h7 := HP2.out; unfold placeI at h7; rw [if_neg hin] at h7; exact h7.symm
                subst hP
                have HS := Lib.hid hsub
                clear hsub hin
                go_wp2
                go_roundw
                case rel => exact ⟨q + 1, s2, ls2, k2, AL2, cL2, by omega, by go_num, by have h7 := F2.out; rw [HS.out] at h7; exact h7, by have h7 := V2.out; rw [HS.out] at h7; exact h7, B2.out, by have h7 := K2.out; omega, L6.out, T6.out⟩
                case measure => simp [intOf]; omega
            · have : q = 10 := by omega
              subst this
              rw [behC_end] at hf2 hv2
              have h9 : Lo2 H lo pb gc gu M AH cH c aim aimV AL2 cL2 wr := by rw [← hf2, ← hv2]; exact l2
              rw [HAIM.out, HAIMV.out] at h9
              go_wp2
              refine bodyPost_end (results_none rfl _ _ _) rfl ?_
              exact ⟨rfl, AL2, cL2, h9, t2⟩

end Go.Proofs.Ytjhedjokifnofaa

/- Whole chains counted: a hand with its doubles, both sides. -/
import Derived.Test.YtjhedjokifnofaaWcH
import Derived.Test.YtjhedjokifnofaaWcP
namespace Go.Proofs.Ytjhedjokifnofaa
open Go.RowKit
set_option linter.unusedVariables false

/-- How many whole chains has a list, if they may be counted? -/
def cvV (H : List (Int × Int)) : Int := if cwB H then (allN H : Int) else 0

set_option maxRecDepth 100000 in
set_option maxHeartbeats 2000000 in
theorem c_implCWhole (A : Option Addr) (c : Nat) (H : List (Int × Int)) (w : World) (hr : RdT w A H) (hl : H.length ≤ 1048576) :
    Calls Try.prog 26 #[.slice A H.length c] w fun e w' => e = .returned (.tuple #[.int .i64 (cvV H), .bool (cwB H)]) ∧ Below w.heap.size w w' := by
  have con := c_isCounted A c H w hr hl
  unfold cvV
  cases hc : cwB H
  · rw [hc] at con
    have Con := Lib.hid con
    clear con hc hr
    go_enter Try.func26, Try.ntmps26
    go_wp2_with fail
    refine Con.out.mono ?_
    rintro e w1 ⟨rfl, h1⟩
    go_wp2
    go_ret2
    exact ⟨rfl, h1⟩
  · rw [hc] at con
    have Con := Lib.hid con
    have hc2 := hc
    unfold cwB at hc2
    rw [Bool.and_eq_true, decide_eq_true_eq] at hc2
    obtain ⟨hh, h12⟩ := hc2
    rw [if_pos rfl]
    have conC := fun (W : World) (h : Below w.heap.size w W) => c_countEvery A c H W (hr.below h) hh h12
    have ConC := Lib.hid conC
    clear con hc hr conC hh
    go_enter Try.func26, Try.ntmps26
    go_wp2_with (first | (go_at_call 43; refine Con.out.mono ?_; rintro e w1 ⟨rfl, h1⟩) | (go_at_call 44; refine (ConC.out _ h1).mono ?_; rintro e w3 ⟨rfl, h3⟩))
    go_ret2
    exact ⟨rfl, h1.trans (h3.mono h1.size)⟩

set_option maxRecDepth 100000 in
set_option maxHeartbeats 2000000 in
theorem c_whDoubles (A : Option Addr) (c : Nat) (us : List (Int × Int)) (w : World) (hr : RdT w A us) (hl : us.length ≤ 1048576) :
    Calls Try.prog 42 #[.slice A us.length c] w (RetN w (ddL us)) := by
  have hru := hr
  clear hr
  go_enter Try.func42, Try.ntmps42
  go_wp2
  go_loopw [3, 8] (fun v i wr => ∃ (k : Nat) (A' : Option Addr) (c' : Nat), k ≤ us.length ∧ i = .int .i64 k ∧ v = .slice A' (ddTo us k).length c' ∧ wr.ownsRow w.heap.size 3 1 (.slice A' (ddTo us k).length c') (ddTo us k).length (cellsI (ddTo us k)) ∧ Below w.heap.size w wr) (fun _ i _ => us.length - (intOf i).toNat)
  case atStart => exact ⟨0, none, 0, Nat.zero_le _, rfl, rfl, World.ownsRow_nil _ _ _ _, Below.refl _ _⟩
  case round =>
    obtain ⟨k, A', c', hk, rfl, rfl, hown, hb⟩ := hrel
    have hpl := ddTo_len us k
    by_cases hlt : k < us.length
    · obtain ⟨bk, off, rfl, hbk, hc⟩ := hru.at_ hlt
      have g1 := (hb.cell (p := ⟨bk, _, none⟩) hbk).trans (hc k hlt).1
      have g2 := (hb.cell (p := ⟨bk, _, none⟩) hbk).trans (hc k hlt).2
      have Hb := Lib.hid hb
      have Ho := Lib.hid hown
      have hsz := hb.size
      have x0 : (wr.alloc (.cells #[.int .i64 us[k].1, .int .i64 us[k].2] 49)).cell? ⟨wr.heap.size, 0, none⟩ = some (.int .i64 us[k].1) := by simp
      have x1 : (wr.alloc (.cells #[.int .i64 us[k].1, .int .i64 us[k].2] 49)).cell? ⟨wr.heap.size, 1, none⟩ = some (.int .i64 us[k].2) := by simp
      have Ho2 := Lib.hid ((Ho.out.alloc (.cells #[.int .i64 us[k].1, .int .i64 us[k].2] 49)).alloc (.cells #[.int .i64 us[k].1] 3))
      clear hc hb hown hru
      by_cases hin : ddB us[k] = true
      · have hst := Lib.hid (ddTo_yes hlt hin)
        have j1 : (us[k].1 == us[k].2) = true := by have h := of_decide_eq_true hin; simpa using h
        clear hin
        go_wp2_with (at_builtin; refine wp_append_int rfl _ _ rfl w.heap.size _ _ rfl Ho2.out us[k].1 (wr.heap.size + 1) rfl (by simp) (by omega) (by simp; omega) ?_; intro A2 c2 w3 hown3 hg3)
        go_roundw
        case rel =>
          refine ⟨k + 1, A2, c2, by omega, by go_num, by rw [hst.out, List.length_append]; rfl, ?_, ?_⟩
          · rw [hst.out, List.length_append]; exact hown3
          · exact Below.grown (by have hb0 := Hb.out; have hz0 := hb0.size; go_grown) hg3 (by simp; omega) (fun g hg => (Ho2.out.lt g hg).1)
        case measure => simp [intOf]; omega
      · have hst := Lib.hid (ddTo_no hlt hin)
        have j1 : (us[k].1 == us[k].2) = false := by have h : ¬ us[k].1 = us[k].2 := fun h => hin (decide_eq_true h); simpa using h
        clear hin
        go_wp2_with (at_builtin; refine wp_append_int rfl _ _ rfl w.heap.size _ _ rfl Ho2.out us[k].1 (wr.heap.size + 1) rfl (by simp) (by omega) (by simp; omega) ?_; intro A2 c2 w3 hown3 hg3)
        go_roundw
        case rel => exact ⟨k + 1, A', c', by omega, by go_num, by rw [hst.out], by rw [hst.out]; exact Ho.out.alloc _, by have hb0 := Hb.out; have hz0 := hb0.size; go_grown⟩
        case measure => simp [intOf]; omega
    · have : k = us.length := by omega
      subst this
      go_wp2
      go_ret
      rw [← ddTo_all]
      exact ⟨A', c', rfl, hown, hb⟩

set_option maxRecDepth 100000 in
set_option maxHeartbeats 8000000 in
theorem c_whAllD (A : Option Addr) (c : Nat) (P : List (Int × Int)) (Ad : Option Addr) (cd : Nat) (D : List Int) (w : World) (hr : RdT w A P) (hd : RdI w Ad D) (hh : handB P = true) (h12 : P.length + D.length ≤ 12) (hdn : ∀ d ∈ D, numB d = true) :
    Calls Try.prog 40 #[.slice A P.length c, .slice Ad D.length cd] w fun e w' => e = .returned (.tuple #[.int .i64 (allS P 10 : Int), .int .i64 (whS P D 10 : Int)]) ∧ Below w.heap.size w w' := by
  have conF := fun (W : World) (q : Nat) (hq : q < 10) (hb : Below w.heap.size w W) => c_whFrom A c P (q : Int) W (hr.below hb) hh (by unfold numB; simp; omega)
  have conC := fun (W : World) (q : Nat) (hq : q < 10) (hb : Below w.heap.size w W) => c_whCount P.length P q A c W (Nat.le_refl _) (by omega) hh hq (hr.below hb)
  have conT := fun (W : World) (d : Int) (hb : Below w.heap.size w W) => c_tiTimes A c P d W (hr.below hb) (by omega)
  have conO := fun (W : World) (hb : Below w.heap.size w W) => c_whOdd A c P W (hr.below hb) (by omega)
  have ConC := Lib.hid conC
  have ConT := Lib.hid conT
  have HH := Lib.hid hh
  have HD := Lib.hid hd
  have HDN := Lib.hid hdn
  have HLE := Lib.hid (fun q => allS_le (P := P) (by omega) q)
  have HTL := Lib.hid (fun q : Nat => Nat.le_trans (trl_le P.length P (q : Int)) (ten_pow (by omega)))
  have HWS := Lib.hid (fun q => whS_le h12 q)
  have HWT := Lib.hid (fun x => whT_le h12 x)
  have HPL := Lib.hid (fun x k => plN_le h12 x k)
  have HTT := Lib.hid (fun d => timesI_top P d)
  have HTN := Lib.hid (fun d => timesI_nonneg P d)
  have HOC := Lib.hid (oc_len P)
  obtain ⟨os, hos⟩ : ∃ os, os = oddTo P 10 := ⟨_, rfl⟩
  rw [← hos] at HOC
  simp only [← hos] at conO
  have ConO := Lib.hid conO
  clear conC conT conO hr hd hh hos
  go_enter Try.func40, Try.ntmps40
  go_wp2
  go_loopw [6, 7, 8] (fun v u i wr => ∃ q : Nat, q ≤ 10 ∧ i = .int .i64 q ∧ v = .int .i64 (allS P q : Int) ∧ u = .int .i64 (whS P D q : Int) ∧ Below w.heap.size w wr) (fun _ _ i _ => 10 - (intOf i).toNat)
  case atStart => exact ⟨0, Nat.zero_le _, rfl, rfl, rfl, Below.refl _ _⟩
  case round =>
    obtain ⟨q, hq, rfl, rfl, rfl, hb⟩ := hrel
    have HB := Lib.hid hb
    have hsz := hb.size
    by_cases hlt : q ≤ 9
    · have ST := Lib.hid (allS_step P q)
      have SW := Lib.hid (whS_step P D q)
      have conF1 := conF wr q (by omega) hb
      clear hb conF
      cases hfr : fromB P (q : Int)
      · have hz : trl P.length P (q : Int) = 0 := by
          refine Classical.byContradiction fun hne => ?_
          have := trl_from P.length HH.out (by omega : q < 10) hne
          rw [hfr] at this
          cases this
        have hwz : whN P D (q : Int) = 0 := by unfold whN; rw [hfr]; rfl
        rw [hfr] at conF1
        have ConF := Lib.hid conF1
        have HZ := Lib.hid hz
        have HWZ := Lib.hid hwz
        clear conF1 hz hwz hfr
        go_wp2_with (go_at_call 63; refine ConF.out.mono ?_; rintro e w1 ⟨rfl, h1⟩)
        go_roundw
        case rel => exact ⟨q + 1, by omega, by go_num, by rw [ST.out, HZ.out, Nat.add_zero], by rw [SW.out, HWZ.out, Nat.add_zero], HB.out.trans (h1.mono hsz)⟩
        case measure => simp [intOf]; omega
      · have hwn : whN P D (q : Int) = trl P.length P (q : Int) * plN P (q : Int) D := by unfold whN; rw [if_pos hfr]
        rw [hfr] at conF1
        have ConF := Lib.hid conF1
        have b1 := HLE.out q
        have b2 := HTL.out q
        have b4 := HWS.out q
        have b5 := HWT.out (q : Int)
        obtain ⟨t, ht⟩ : ∃ t, t = trl P.length P (q : Int) := ⟨_, rfl⟩
        rw [← ht] at b2 b5 hwn
        have HWN := Lib.hid hwn
        have HT := Lib.hid ht
        have b3 : allS P q ≤ 10000000000000 := Nat.le_trans b1 (by omega)
        have b6 : whS P D q ≤ 232980851224810 := Nat.le_trans b4 (by omega)
        have jw : IntKind.i64.wrap ((allS P q : Int) + (t : Int)) = (allS P q : Int) + (t : Int) := IntWalk.i64_in _ (by omega)
        have conC1 := fun (W : World) (hb : Below w.heap.size w W) => ConC.out W q (by omega) hb
        rw [← ht] at conC1
        have ConC1 := Lib.hid conC1
        have B5 := Lib.hid b5
        clear conF1 hfr b1 b4 b5 conC1 ht hwn
        go_wp2_with (first | (go_at_call 63; refine ConF.out.mono ?_; rintro e w1 ⟨rfl, h1⟩; have B1 := Lib.hid (HB.out.trans (h1.mono hsz))) | (go_at_call 47; refine (ConC1.out _ B1.out).mono ?_; rintro e w2 ⟨rfl, h2⟩; have B2 := Lib.hid (B1.out.trans (h2.mono B1.out.size))))
        rename World => wo
        go_loopw [10, 30] (fun p i wr => ∃ k : Nat, k ≤ D.length ∧ i = .int .i64 k ∧ p = .int .i64 (plN P (q : Int) (D.take k) : Int) ∧ Below w.heap.size w wr) (fun _ i _ => D.length - (intOf i).toNat)
        case atStart => exact ⟨0, Nat.zero_le _, rfl, rfl, B2.out⟩
        case round =>
          obtain ⟨k, hk, rfl, rfl, hb3⟩ := hrel
          have B3 := Lib.hid hb3
          have sz3 := hb3.size
          by_cases hkl : k < D.length
          · obtain ⟨bk, off, hA, hbk, hcell⟩ := HD.out.at_ hkl
            have g1 := (hb3.cell (p := ⟨bk, _, none⟩) hbk).trans (hcell k hkl)
            obtain ⟨m, hm9, hm⟩ := numB_nat (HDN.out D[k] (List.getElem_mem hkl))
            rw [hm] at g1
            have hst := plN_step (P := P) (x := (q : Int)) hkl
            rw [hm] at hst
            have PST := Lib.hid hst
            have p1 := HPL.out (q : Int) (k + 1)
            have p2 : 13 ^ D.length ≤ 23298085122481 := Nat.le_trans (Nat.pow_le_pow_right (by omega) (show D.length ≤ 12 by omega)) (by decide)
            rw [hst] at p1
            have t1 := HTT.out (m : Int)
            have t2 := HTN.out (m : Int)
            have P1 := Lib.hid (Nat.le_trans p1 p2)
            obtain ⟨T, hT⟩ : ∃ T : Nat, timesI P (m : Int) = (T : Int) := ⟨(timesI P (m : Int)).toNat, by omega⟩
            have conT1 := fun (W : World) (hb : Below w.heap.size w W) => ConT.out W (m : Int) hb
            rw [hT] at conT1 t1
            have ConT1 := Lib.hid conT1
            have j5 : IntKind.i64.wrap ((T : Int) + 1) = (T : Int) + 1 := IntWalk.i64_in _ (by omega)
            have j6 : ((T : Int) + 1).tdiv 2 = (((T + 1) / 2 : Nat) : Int) := by rw [Int.tdiv_eq_ediv_of_nonneg (by omega)]; omega
            have j7 : IntKind.i64.wrap (((T + 1) / 2 : Nat) : Int) = (((T + 1) / 2 : Nat) : Int) := IntWalk.i64_in _ (by omega)
            have hat : atN P (q : Int) (m : Int) = (T + 1) / 2 + (if oc P = 0 ∧ (m : Int) = (q : Int) then 1 else 0) := by unfold atN; rw [hT]; congr 1 <;> omega
            subst hA
            clear hb3 hcell hm hst p1 t2 conT1 hT
            by_cases ho : oc P = 0
            · have jo : ((os.length : Int) == 0) = true := by rw [HOC.out, ho]; rfl
              by_cases hmq : (m : Int) = (q : Int)
              · have jm : ((m : Int) == (q : Int)) = true := by rw [beq_iff_eq]; exact hmq
                rw [if_pos ⟨ho, hmq⟩] at hat
                have jp : IntKind.i64.wrap ((plN P (q : Int) (D.take k) : Int) * (((T : Int) + 1) / 2 + 1)) = (plN P (q : Int) (D.take (k + 1)) : Int) := by
                  have e : (plN P (q : Int) (D.take k) : Int) * (((T : Int) + 1) / 2 + 1) = ((plN P (q : Int) (D.take k) * ((T + 1) / 2 + 1) : Nat) : Int) := by push_cast; rfl
                  have h7 := P1.out
                  rw [hat] at h7
                  rw [e, PST.out, hat, IntWalk.i64_in _ (by omega)]
                have JP := Lib.hid jp
                have j8 : IntKind.i64.wrap (((T : Int) + 1) / 2 + 1) = ((T : Int) + 1) / 2 + 1 := IntWalk.i64_in _ (by omega)
                clear jp
                clear hat ho hmq
                go_wp2_with (first | (go_at_call 53; refine (ConT1.out _ B3.out).mono ?_; rintro e w4 ⟨rfl, h4⟩; have B4 := Lib.hid (B3.out.trans (h4.mono sz3))) | (go_at_call 64; refine (ConO.out _ B4.out).mono ?_; rintro e w5 ⟨A5, c5, rfl, o5, h5⟩; have BB := Lib.hid (B4.out.trans (h5.mono B4.out.size))))
                go_roundw
                case rel => exact ⟨k + 1, by omega, by go_num, (by have h7 := JP.out; rw [IntWalk.i64_left] at h7; exact congrArg (Value.int .i64) h7), BB.out⟩
                case measure => simp [intOf]; omega
              · have jm : ((m : Int) == (q : Int)) = false := by rw [beq_eq_false_iff_ne]; exact hmq
                rw [if_neg (fun h => hmq h.2), Nat.add_zero] at hat
                have jp : IntKind.i64.wrap ((plN P (q : Int) (D.take k) : Int) * (((T : Int) + 1) / 2)) = (plN P (q : Int) (D.take (k + 1)) : Int) := by
                  have e : (plN P (q : Int) (D.take k) : Int) * (((T : Int) + 1) / 2) = ((plN P (q : Int) (D.take k) * ((T + 1) / 2) : Nat) : Int) := by push_cast; rfl
                  have h7 := P1.out
                  rw [hat] at h7
                  rw [e, PST.out, hat, IntWalk.i64_in _ (by omega)]
                have JP := Lib.hid jp
                clear jp
                clear hat ho hmq
                go_wp2_with (first | (go_at_call 53; refine (ConT1.out _ B3.out).mono ?_; rintro e w4 ⟨rfl, h4⟩; have B4 := Lib.hid (B3.out.trans (h4.mono sz3))) | (go_at_call 64; refine (ConO.out _ B4.out).mono ?_; rintro e w5 ⟨A5, c5, rfl, o5, h5⟩; have BB := Lib.hid (B4.out.trans (h5.mono B4.out.size))))
                go_roundw
                case rel => exact ⟨k + 1, by omega, by go_num, (by have h7 := JP.out; rw [IntWalk.i64_left] at h7; exact congrArg (Value.int .i64) h7), BB.out⟩
                case measure => simp [intOf]; omega
            · have jo : ((os.length : Int) == 0) = false := by rw [beq_eq_false_iff_ne, HOC.out]; omega
              rw [if_neg (fun h => ho h.1), Nat.add_zero] at hat
              have jp : IntKind.i64.wrap ((plN P (q : Int) (D.take k) : Int) * (((T : Int) + 1) / 2)) = (plN P (q : Int) (D.take (k + 1)) : Int) := by
                have e : (plN P (q : Int) (D.take k) : Int) * (((T : Int) + 1) / 2) = ((plN P (q : Int) (D.take k) * ((T + 1) / 2) : Nat) : Int) := by push_cast; rfl
                have h7 := P1.out
                rw [hat] at h7
                rw [e, PST.out, hat, IntWalk.i64_in _ (by omega)]
              have JP := Lib.hid jp
              clear jp
              clear hat ho
              go_wp2_with (first | (go_at_call 53; refine (ConT1.out _ B3.out).mono ?_; rintro e w4 ⟨rfl, h4⟩; have B4 := Lib.hid (B3.out.trans (h4.mono sz3))) | (go_at_call 64; refine (ConO.out _ B4.out).mono ?_; rintro e w5 ⟨A5, c5, rfl, o5, h5⟩; have BB := Lib.hid (B4.out.trans (h5.mono B4.out.size))))
              go_roundw
              case rel => exact ⟨k + 1, by omega, by go_num, (by have h7 := JP.out; rw [IntWalk.i64_left] at h7; exact congrArg (Value.int .i64) h7), BB.out⟩
              case measure => simp [intOf]; omega
          · have e : k = D.length := by omega
            subst e
            have hpl : plN P (q : Int) (D.take D.length) = plN P (q : Int) D := by rw [List.take_length]
            rw [hpl]
            have h5 := B5.out
            have j5 : IntKind.i64.wrap ((t : Int) * (plN P (q : Int) D : Int)) = (t : Int) * (plN P (q : Int) D : Int) := by rw [← Int.natCast_mul, IntWalk.i64_in _ (by omega)]
            have j6 : IntKind.i64.wrap ((whS P D q : Int) + (t : Int) * (plN P (q : Int) D : Int)) = (whS P D q : Int) + (t : Int) * (plN P (q : Int) D : Int) := by rw [← Int.natCast_mul, IntWalk.i64_in _ (by omega)]
            clear hpl hb3 h5
            go_wp2
            go_roundw
            case rel => exact ⟨q + 1, by omega, by go_num, by rw [ST.out, ← HT.out]; push_cast; rfl, by rw [SW.out, HWN.out]; push_cast; rfl, B3.out⟩
            case measure => simp [intOf]; omega
    · have : q = 10 := by omega
      subst this
      go_wp2
      go_ret2
      exact ⟨rfl, HB.out⟩

set_option maxRecDepth 100000 in
set_option maxHeartbeats 2000000 in
theorem c_specCWhole (A : Option Addr) (c : Nat) (H : List (Int × Int)) (w : World) (hr : RdT w A H) (hl : H.length ≤ 1048576) (hcap : H.length ≤ c) :
    Calls Try.prog 25 #[.slice A H.length c] w fun e w' => e = .returned (.tuple #[.int .i64 (cvV H), .bool (cwB H)]) ∧ Below w.heap.size w w' := by
  have con := c_tiHand A c H w hr (by omega) hcap
  unfold cvV cwB
  cases hh : handB H
  · rw [hh] at con
    have Con := Lib.hid con
    clear con hh hr
    go_enter Try.func25, Try.ntmps25
    go_wp2_with fail
    refine Con.out.mono ?_
    rintro e w1 ⟨rfl, h1⟩
    go_wp2
    go_ret2
    exact ⟨rfl, h1⟩
  · rw [hh] at con
    have Con := Lib.hid con
    by_cases h12 : H.length ≤ 12
    · have j1 : ¬ (12 : Int) < (H.length : Int) := by omega
      rw [decide_eq_true h12]
      have hpm : (pnL (sortL H)).Perm (wdL H) := by
        have e : pnL (sortL H) = (sortL H).filter wdB := by
          unfold pnL
          refine List.filter_congr fun t ht => ?_
          have hg := hand_gd hh t ((sortP_perm hh).mem_iff.1 ht)
          simp only [goodB, numB, Bool.and_eq_true, decide_eq_true_eq] at hg
          unfold pnB wdB
          rw [decide_eq_decide]
          omega
        rw [e]
        exact (sortP_perm hh).filter _
      have hph := hand_perm hpm.symm (hand_wd hh)
      have hal := whS_all hh hpm hph
      have hsum : (pnL (sortL H)).length + (ddL H).length ≤ 12 := by rw [hpm.length_eq, dd_len]; exact h12
      have hdn : ∀ d ∈ ddL H, numB d = true := fun d hd => by
        obtain ⟨t, ht, rfl⟩ := List.mem_map.1 hd
        have hg := hand_gd hh t (List.mem_filter.1 ht).1
        simp only [goodB, Bool.and_eq_true] at hg
        exact hg.1
      rw [← hal]
      obtain ⟨Q, hQ⟩ : ∃ Q, Q = pnL (sortL H) := ⟨_, rfl⟩
      obtain ⟨D, hD⟩ : ∃ D, D = ddL H := ⟨_, rfl⟩
      have conP := fun (W : World) (hb : Below w.heap.size w W) => c_whPlain A c H W (hr.below hb) (by omega)
      have conD := fun (W : World) (hb : Below w.heap.size w W) => c_whDoubles A c H W (hr.below hb) (by omega)
      rw [← hQ] at conP hph hsum ⊢
      rw [← hD] at conD hsum hdn ⊢
      have conA := fun (W : World) (A2 : Option Addr) (c2 : Nat) (A3 : Option Addr) (c3 : Nat) (h : RdT W A2 Q) (h3 : RdI W A3 D) => c_whAllD A2 c2 Q A3 c3 D W h h3 hph hsum hdn
      have ConP := Lib.hid conP
      have ConA := Lib.hid conA
      have ConD := Lib.hid conD
      clear con hh hr conP conA conD hpm hph hal hsum hdn hQ hD h12
      go_enter Try.func25, Try.ntmps25
      go_wp2_with (first | (go_at_call 39; refine Con.out.mono ?_; rintro e w1 ⟨rfl, h1⟩) | (go_at_call 41; refine (ConP.out _ h1).mono ?_; rintro e w2 ⟨A2, c2, rfl, o2, h2⟩) | (go_at_call 42; refine (ConD.out _ (h1.trans (h2.mono h1.size))).mono ?_; rintro e w3 ⟨A3, c3, rfl, o3, h3⟩) | (go_at_call 40; refine (ConA.out _ _ _ _ _ ((RdT.of_own o2).below h3) (RdI.of_own o3)).mono ?_; rintro e w4 ⟨rfl, h4⟩))
      go_ret2
      exact ⟨rfl, ((h1.trans (h2.mono h1.size)).trans (h3.mono (Nat.le_trans h1.size h2.size))).trans (h4.mono (Nat.le_trans (Nat.le_trans h1.size h2.size) h3.size))⟩
    · have j1 : (12 : Int) < (H.length : Int) := by omega
      rw [decide_eq_false h12]
      clear con hh hr h12
      go_enter Try.func25, Try.ntmps25
      go_wp2_with fail
      refine Con.out.mono ?_
      rintro e w1 ⟨rfl, h1⟩
      go_wp2
      go_ret2
      exact ⟨rfl, h1⟩

end Go.Proofs.Ytjhedjokifnofaa

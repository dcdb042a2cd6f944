/- What is told of a list of plays: the specification's. -/
import Derived.Test.YtllfjffcogpaiaaLyR
import Derived.Test.YtllfjffcogpaiaaBrdA
namespace Go.Proofs.Ytllfjffcogpaiaa
open Go.RowKit
set_option linter.unusedVariables false

set_option maxRecDepth 100000 in
set_option maxHeartbeats 1000000 in
theorem c_specIsSpread (A : Option Addr) (c : Nat) (ps : List (Int × Int × Int)) (w : World) (hr : RdP w A ps) (hl : ps.length ≤ 1048576) :
    Calls Try.prog 16 #[.slice A ps.length c] w fun e w' => e = .returned (.bool (okL ps)) ∧ Below w.heap.size w w' := by
  have con := Lib.hid (c_lyRead A c ps w hr hl)
  clear hr
  go_enter Try.func16, Try.ntmps16
  go_wp2_with (go_at_call 56; refine con.out.mono ?_; rintro e w1 ⟨g, S, rfl, hs, hb1⟩; clear hs)
  go_ret
  exact ⟨rfl, hb1⟩

set_option maxRecDepth 100000 in
set_option maxHeartbeats 1000000 in
theorem c_specArmsOf (A : Option Addr) (c : Nat) (ps : List (Int × Int × Int)) (w : World) (hr : RdP w A ps) (hl : ps.length ≤ 1048576) :
    Calls Try.prog 20 #[.slice A ps.length c] w (RetA w (brdD ps).arms (okL ps)) := by
  have con := Lib.hid (c_lyRead A c ps w hr hl)
  cases hok : okL ps
  · have e1 : (brdD ps).arms = [] := by rw [brdD_no hok]; rfl
    rw [hok] at con
    rw [e1]
    clear e1 hok hr
    go_enter Try.func20, Try.ntmps20
    go_wp2_with (go_at_call 56; refine con.out.mono ?_; rintro e w1 ⟨g, S, rfl, hs, hb1⟩; clear hs)
    go_ret2
    exact ⟨none, 0, rfl, World.ownsRow_nil _ _ _ _, hb1⟩
  · rw [hok] at con
    clear hok hr
    go_enter Try.func20, Try.ntmps20
    go_wp2_with (go_at_call 56; refine con.out.mono ?_; rintro e w1 ⟨g, S, rfl, hs, hb1⟩; obtain ⟨⟨A1, c1, B1, d1, hv⟩, hR⟩ := hs rfl; clear hs; have k0 := hv.c0; have ho := hv.ao; rw [hR.arms] at k0 ho; have Ho := Lib.hid ho; clear hv ho hR)
    go_ret2
    exact ⟨A1, c1, rfl, Ho.out, hb1⟩

set_option maxRecDepth 100000 in
set_option maxHeartbeats 1000000 in
theorem c_specLaid (A : Option Addr) (c : Nat) (ps : List (Int × Int × Int)) (w : World) (hr : RdP w A ps) (hl : ps.length ≤ 1048576) :
    Calls Try.prog 26 #[.slice A ps.length c] w (RetT w ((brdD ps).ps.map tileOf) (okL ps)) := by
  have con := Lib.hid (c_lyRead A c ps w hr hl)
  obtain ⟨ts, hts⟩ : ∃ ts, ts = (brdD ps).ps.map tileOf := ⟨_, rfl⟩
  rw [← hts]
  cases hok : okL ps
  · have e1 : ts = [] := by rw [hts, brdD_no hok]; rfl
    rw [hok] at con
    rw [e1]
    clear e1 hok hr hts
    go_enter Try.func26, Try.ntmps26
    go_wp2_with (go_at_call 56; refine con.out.mono ?_; rintro e w1 ⟨g, S, rfl, hs, hb1⟩; clear hs)
    go_ret2
    exact ⟨none, 0, rfl, World.ownsRow_nil _ _ _ _, hb1⟩
  · rw [hok] at con
    have Hts := Lib.hid hts
    clear hok hr hts
    go_enter Try.func26, Try.ntmps26
    go_wp2_with (go_at_call 56; refine con.out.mono ?_; rintro e w1 ⟨g, S, rfl, hs, hb1⟩; obtain ⟨⟨A1, c1, B1, d1, hv⟩, hR⟩ := hs rfl; clear hs; have k1 := hv.c1; have ho := hv.bo; rw [hR.tiles, ← Hts.out] at k1 ho; have Ho := Lib.hid ho; clear hv ho hR)
    go_ret2
    exact ⟨B1, d1, rfl, Ho.out, hb1⟩

set_option maxRecDepth 100000 in
set_option maxHeartbeats 1000000 in
theorem c_specSpinnerOf (A : Option Addr) (c : Nat) (ps : List (Int × Int × Int)) (w : World) (hr : RdP w A ps) (hl : ps.length ≤ 1048576) :
    Calls Try.prog 31 #[.slice A ps.length c] w fun e w' => e = .returned (.tuple #[.int .i64 (spinV (brdD ps).ps), .bool (spinD ps)]) ∧ Below w.heap.size w w' := by
  have con := Lib.hid (c_lyRead A c ps w hr hl)
  cases hok : okL ps
  · have e1 : spinV (brdD ps).ps = 0 := by rw [brdD_no hok]; rfl
    have e2 : spinD ps = false := by unfold spinD; rw [brdD_no hok]; rfl
    rw [hok] at con
    rw [e1, e2]
    clear e1 e2 hok hr
    go_enter Try.func31, Try.ntmps31
    go_wp2_with (go_at_call 56; refine con.out.mono ?_; rintro e w1 ⟨g, S, rfl, hs, hb1⟩; clear hs)
    go_ret2
    exact ⟨rfl, hb1⟩
  · rw [hok] at con
    by_cases h0 : 0 ≤ spinL (brdD ps).ps
    · have e1 : spinV (brdD ps).ps = spinL (brdD ps).ps := if_pos h0
      have e2 : spinD ps = true := decide_eq_true h0
      rw [e1, e2]
      obtain ⟨s, hsp⟩ : ∃ s, s = spinL (brdD ps).ps := ⟨_, rfl⟩
      rw [← hsp] at h0 ⊢
      have Hsp := Lib.hid hsp
      have i0 : ¬ s < 0 := by omega
      clear e1 e2 hok hr hsp
      go_enter Try.func31, Try.ntmps31
      go_wp2_with (go_at_call 56; refine con.out.mono ?_; rintro e w1 ⟨g, S, rfl, hs, hb1⟩; obtain ⟨⟨A1, c1, B1, d1, hv⟩, hR⟩ := hs rfl; clear hs; have k2 := hv.c2; rw [hR.spin, ← Hsp.out] at k2; clear hv hR)
      go_ret2
      exact ⟨rfl, hb1⟩
    · have e1 : spinV (brdD ps).ps = 0 := if_neg h0
      have e2 : spinD ps = false := decide_eq_false h0
      rw [e1, e2]
      obtain ⟨s, hsp⟩ : ∃ s, s = spinL (brdD ps).ps := ⟨_, rfl⟩
      rw [← hsp] at h0
      have Hsp := Lib.hid hsp
      have i0 : s < 0 := by omega
      clear e1 e2 hok hr hsp h0
      go_enter Try.func31, Try.ntmps31
      go_wp2_with (go_at_call 56; refine con.out.mono ?_; rintro e w1 ⟨g, S, rfl, hs, hb1⟩; obtain ⟨⟨A1, c1, B1, d1, hv⟩, hR⟩ := hs rfl; clear hs; have k2 := hv.c2; rw [hR.spin, ← Hsp.out] at k2; clear hv hR)
      go_ret2
      exact ⟨rfl, hb1⟩

set_option maxRecDepth 100000 in
set_option maxHeartbeats 1000000 in
theorem c_specSumOfEnds (A : Option Addr) (c : Nat) (ps : List (Int × Int × Int)) (w : World) (hr : RdP w A ps) (hl : ps.length ≤ 1048576) :
    Calls Try.prog 38 #[.slice A ps.length c] w fun e w' => e = .returned (.tuple #[.int .i64 (sumL (brdD ps).ps.length (brdD ps).arms), .bool (okL ps)]) ∧ Below w.heap.size w w' := by
  have con := Lib.hid (c_lyRead A c ps w hr hl)
  have hz := brd_zero (ps := ps)
  cases hok : okL ps
  · rw [hok] at con
    rw [(hz hok).1]
    clear hz hok hr
    go_enter Try.func38, Try.ntmps38
    go_wp2_with (go_at_call 56; refine con.out.mono ?_; rintro e w1 ⟨g, S, rfl, hs, hb1⟩; clear hs)
    go_ret2
    exact ⟨rfl, hb1⟩
  · rw [hok] at con
    clear hz hok hr
    go_enter Try.func38, Try.ntmps38
    go_wp2_with (first | (go_at_call 56; refine con.out.mono ?_; rintro e w1 ⟨g, S, rfl, hs, hb1⟩; have Hs := Lib.hid (hs rfl); clear hs) | (go_at_call 67; refine (c_lySum _ g S (brdD ps) _ Hs.out.1 Hs.out.2).mono ?_; rintro e w2 ⟨rfl, hb2⟩))
    go_ret2
    exact ⟨rfl, bstep hb1 hb2⟩

set_option maxRecDepth 100000 in
set_option maxHeartbeats 1000000 in
theorem c_specFivesOf (A : Option Addr) (c : Nat) (ps : List (Int × Int × Int)) (w : World) (hr : RdP w A ps) (hl : ps.length ≤ 1048576) :
    Calls Try.prog 40 #[.slice A ps.length c] w fun e w' => e = .returned (.tuple #[.int .i64 (ptsL (brdD ps).ps.length (brdD ps).arms), .bool (okL ps)]) ∧ Below w.heap.size w w' := by
  have con := Lib.hid (c_lyRead A c ps w hr hl)
  have hz := brd_zero (ps := ps)
  cases hok : okL ps
  · rw [hok] at con
    rw [(hz hok).2.1]
    clear hz hok hr
    go_enter Try.func40, Try.ntmps40
    go_wp2_with (go_at_call 56; refine con.out.mono ?_; rintro e w1 ⟨g, S, rfl, hs, hb1⟩; clear hs)
    go_ret2
    exact ⟨rfl, hb1⟩
  · rw [hok] at con
    clear hz hok hr
    go_enter Try.func40, Try.ntmps40
    go_wp2_with (first | (go_at_call 56; refine con.out.mono ?_; rintro e w1 ⟨g, S, rfl, hs, hb1⟩; have Hs := Lib.hid (hs rfl); clear hs) | (go_at_call 70; refine (c_lyPoints _ g S (brdD ps) _ Hs.out.1 Hs.out.2).mono ?_; rintro e w2 ⟨rfl, hb2⟩))
    go_ret2
    exact ⟨rfl, bstep hb1 hb2⟩

set_option maxRecDepth 100000 in
set_option maxHeartbeats 1000000 in
theorem c_specAllFives (A : Option Addr) (c : Nat) (ps : List (Int × Int × Int)) (w : World) (hr : RdP w A ps) (hl : ps.length ≤ 1048576) :
    Calls Try.prog 42 #[.slice A ps.length c] w fun e w' => e = .returned (.tuple #[.int .i64 (brdD ps).fives, .bool (okL ps)]) ∧ Below w.heap.size w w' := by
  have con := Lib.hid (c_lyRead A c ps w hr hl)
  have hz := brd_zero (ps := ps)
  cases hok : okL ps
  · rw [hok] at con
    rw [(hz hok).2.2]
    clear hz hok hr
    go_enter Try.func42, Try.ntmps42
    go_wp2_with (go_at_call 56; refine con.out.mono ?_; rintro e w1 ⟨g, S, rfl, hs, hb1⟩; clear hs)
    go_ret2
    exact ⟨rfl, hb1⟩
  · rw [hok] at con
    have hend := Lib.hid (fun B (h : brdL ps = some B) => brdD_some h)
    have htl := Lib.hid (List.take_length (l := ps))
    have hfit := Lib.hid (fun (k : Nat) (hk : k < ps.length) (B : Brd) (h : brdL (ps.take k) = some B) => show fitsL B ps[k] = true from by
      cases hf : fitsL B ps[k]
      · have := (brdD_none (brdL_out hk h hf)).2; rw [hok] at this; cases this
      · rfl)
    clear hz hok
    go_enter Try.func42, Try.ntmps42
    go_wp2_with (first | (go_at_call 56; refine con.out.mono ?_; rintro e w1 ⟨g, S, rfl, hs, hb1⟩; clear hs) | (go_at_call 72; refine (c_lyNew _).mono ?_; rintro e w2 ⟨rfl, hs2, hb2⟩))
    have hbw2 := bstep hb1 hb2
    go_loopw [7, 20] (fun s i wr => ∃ (k : Nat) (B : Brd) (S : SSt), k ≤ ps.length ∧ i = .int .i64 k ∧ s = .int .i64 B.fives ∧ brdL (ps.take k) = some B ∧ Rel B S ∧ StAt w1.heap.size wr w1.heap.size S ∧ Below w.heap.size w wr ∧ w1.heap.size ≤ wr.heap.size) (fun _ i _ => ps.length - (intOf i).toNat)
    case atStart => exact ⟨0, Brd.none, SSt.new, Nat.zero_le _, rfl, rfl, by simp [brdL], rel_new, hs2, hbw2, hb2.size⟩
    case round =>
      have hz1 := hb1.size
      clear hs2 hb2 hbw2 hb1
      obtain ⟨k, B, S, hk, rfl, rfl, hB, hR, hs, hb, hzr⟩ := hrel
      have HB := Lib.hid hB
      have HR := Lib.hid hR
      have Hs := Lib.hid hs
      have Hb := Lib.hid hb
      clear hB hR hs
      by_cases hlt : k < ps.length
      · obtain ⟨bk, off, rfl, hbk, hc⟩ := hr.at_ hlt
        have g0 := (hb.cell (p := ⟨bk, _, none⟩) hbk).trans (hc k hlt).1
        have g1 := (hb.cell (p := ⟨bk, _, none⟩) hbk).trans (hc k hlt).2.1
        have g2 := (hb.cell (p := ⟨bk, _, none⟩) hbk).trans (hc k hlt).2.2
        have hyes := Lib.hid (fun h => brdL_yes hlt HB.out h)
        have hf := hfit.out k hlt B HB.out
        clear hc hr hb
        obtain ⟨x, hx⟩ : ∃ x, ps[k].1 = x := ⟨_, rfl⟩
        obtain ⟨y, hy⟩ : ∃ y, ps[k].2.1 = y := ⟨_, rfl⟩
        obtain ⟨z, hz⟩ : ∃ z, ps[k].2.2 = z := ⟨_, rfl⟩
        have hp : ps[k] = (x, y, z) := Prod.ext hx (Prod.ext hy hz)
        rw [hp] at hyes hf
        rw [hx] at g0
        rw [hy] at g1
        rw [hz] at g2
        clear hx hy hz hp
        have conA := fun W (hb : Below wr.heap.size wr W) => c_add w1.heap.size w1.heap.size S B x y z W (Hs.out.keep hb) HR.out
        have ok := rel_ok HR.out (x, y, z)
        rw [hf] at ok
        rw [ok] at conA
        have ConA := Lib.hid conA
        have hbp : Below wr.heap.size wr (wr.alloc (.cells #[.int .i64 x, .int .i64 y, .int .i64 z] 62)) := (Below.refl _ _).alloc (Nat.le_refl _) _
        have HR2 := Lib.hid (rel_add HR.out (x, y, z) hf)
        have Hy := Lib.hid (hyes.out hf)
        have hv0 := HR.out.fives
        have hv1 := HR2.out.fives
        have hl0 := HR.out.len
        have hl1 := HR2.out.len
        have ef : (withL B (x, y, z)).fives = B.fives + ptsL (withL B (x, y, z)).ps.length (withL B (x, y, z)).arms := by simp only [withL, List.length_append, List.length_singleton]
        obtain ⟨pt, hpt⟩ : ∃ pt, pt = ptsL (withL B (x, y, z)).ps.length (withL B (x, y, z)).arms := ⟨_, rfl⟩
        have conP := Lib.hid (fun W (h : StAt w1.heap.size W w1.heap.size (addS S (x, y, z))) => hpt ▸ c_lyPoints w1.heap.size w1.heap.size (addS S (x, y, z)) (withL B (x, y, z)) W h HR2.out)
        rw [← hpt] at ef
        have iw : IntKind.i64.wrap (B.fives + pt) = B.fives + pt := IntWalk.i64_in _ (by omega)
        have Ef := Lib.hid ef
        clear hf ok hyes conA hpt ef
        go_wp2_with (first | (go_at_call 73; refine (ConA.out _ hbp).mono ?_; rintro e w3 ⟨rfl, hs3, hb3⟩; have Hs3 := Lib.hid hs3; clear hs3) | (go_at_call 70; refine (conP.out _ Hs3.out).mono ?_; rintro e w4 ⟨rfl, hb4⟩))
        go_roundw
        case rel =>
          have hb3w : Below w.heap.size w w3 := Hb.out.trans ((hbp.mono Hb.out.size).trans (hb3.mono hz1))
          exact ⟨k + 1, withL B (x, y, z), addS S (x, y, z), by omega, by go_num, by rw [Ef.out], Hy.out, HR2.out, Hs3.out.keep hb4, bstep hb3w hb4, Nat.le_trans (Nat.le_trans (Nat.le_trans hzr hbp.size) hb3.size) hb4.size⟩
        case measure => simp [intOf]; omega
      · have hke : k = ps.length := by omega
        subst hke
        have hB1 := HB.out
        rw [htl.out] at hB1
        have HE := Lib.hid (hend.out B hB1)
        clear hB1 hr hlt hk
        go_wp2
        go_ret2
        rw [HE.out.1]
        exact ⟨rfl, hb⟩

set_option maxRecDepth 100000 in
set_option maxHeartbeats 1000000 in
theorem c_specBack (A : Option Addr) (c : Nat) (ps : List (Int × Int × Int)) (n : Int) (w : World) (hr : RdP w A ps) (hl : ps.length ≤ 1048576) (hcap : ps.length ≤ c) :
    Calls Try.prog 54 #[.slice A ps.length c, .int .i64 n] w (RetP w (backHL ps n) (backB ps n)) := by
  have con := Lib.hid (c_lyRead A c ps w hr hl)
  cases hok : okL ps
  · have e1 : backB ps n = false := by unfold backB; rw [hok]; rfl
    have e2 : backHL ps n = [] := by unfold backHL; rw [e1]; rfl
    rw [e1, e2]
    rw [hok] at con
    clear e1 e2 hok hr
    go_enter Try.func54, Try.ntmps54
    go_wp2_with (go_at_call 56; refine con.out.mono ?_; rintro e w1 ⟨g, S, rfl, hs, hb1⟩; clear hs)
    go_ret2
    exact ⟨none, 0, rfl, World.ownsRow_nil _ _ _ _, hb1⟩
  · rw [hok] at con
    cases hn : (decide (0 ≤ n) && decide (n ≤ (ps.length : Int)))
    · have e1 : backB ps n = false := by unfold backB; rw [hok, hn]; rfl
      have e2 : backHL ps n = [] := by unfold backHL; rw [e1]; rfl
      rw [e1, e2]
      have conI := Lib.hid (fun W => (c_l1In n 0 (ps.length : Int) W).mono (R' := fun e w' => e = .returned (.bool false) ∧ W = w') (fun e w' hh => by rw [hn] at hh; exact hh))
      clear e1 e2 hok hr hn
      go_enter Try.func54, Try.ntmps54
      go_wp2_with (first | (go_at_call 56; refine con.out.mono ?_; rintro e w1 ⟨g, S, rfl, hs, hb1⟩; clear hs) | (go_at_call 81; refine (conI.out _).mono ?_; rintro e w2 ⟨rfl, rfl⟩))
      go_ret2
      exact ⟨none, 0, rfl, World.ownsRow_nil _ _ _ _, hb1⟩
    · have e1 : backB ps n = true := by unfold backB; rw [hok, hn]; rfl
      have e2 : backHL ps n = ps.take (ps.length - n.toNat) := by unfold backHL; rw [e1]; rfl
      rw [e1, e2]
      have conI := Lib.hid (fun W => (c_l1In n 0 (ps.length : Int) W).mono (R' := fun e w' => e = .returned (.bool true) ∧ W = w') (fun e w' hh => by rw [hn] at hh; exact hh))
      simp only [Bool.and_eq_true, decide_eq_true_eq] at hn
      obtain ⟨m, rfl⟩ : ∃ m : Nat, n = m := ⟨n.toNat, by omega⟩
      rw [Int.toNat_natCast]
      have i2 : (0 : Int) ≤ (ps.length : Int) - (m : Int) := by omega
      have i3 : (ps.length : Int) - (m : Int) ≤ (c : Int) := by omega
      have i4 : ((ps.length : Int) - (m : Int)).toNat = ps.length - m := by omega
      have iw : IntKind.i64.wrap ((ps.length : Int) - (m : Int)) = (ps.length : Int) - (m : Int) := IntWalk.i64_in _ (by omega)
      have hlen : (ps.take (ps.length - m)).length = ps.length - m := by simp
      have Hr := Lib.hid (hr.take (ps.length - m))
      obtain ⟨us, hus⟩ : ∃ us, us = ps.take (ps.length - m) := ⟨_, rfl⟩
      rw [← hus] at Hr hlen ⊢
      have Hlen := Lib.hid hlen
      have hl2 : ps.length - m ≤ 1048576 := by omega
      clear e1 e2 hok hr hn hus hlen
      go_enter Try.func54, Try.ntmps54
      go_wp2_with (first | (go_at_call 56; refine con.out.mono ?_; rintro e w1 ⟨g, S, rfl, hs, hb1⟩; clear hs; have ho0 : (w1.alloc (.cells #[] 62)).ownsRow w1.heap.size 62 3 (.slice (some ⟨w1.heap.size, 0, none⟩) 0 0) 0 (cellsP []) := World.ownsRow_lit w1 #[] 0 (Nat.le_refl _) (by unfold maxLen; omega) rfl; have hb0 : Below w.heap.size w (w1.alloc (.cells #[] 62)) := hb1.alloc hb1.size _; have Ho0 := Lib.hid ho0; clear ho0) | (go_at_call 81; refine (conI.out _).mono ?_; rintro e w2 ⟨rfl, rfl⟩) | (at_builtin; refine wp_append_Ps rfl _ _ rfl w1.heap.size _ [] rfl Ho0.out _ _ us (by rw [Hlen.out]; rfl) (Hr.out.below hb0) (by simp) (by rw [Hlen.out]; omega) (by simp) ⟨_, _, rfl⟩ ?_; intro A4 c4 w4 ho4 hg4; have hb4 : Below w.heap.size w w4 := Below.grown hb0 hg4 hb0.size (fun gx hgx => by cases hgx; exact hb1.size); simp only [List.nil_append] at ho4))
      go_ret2
      exact ⟨A4, c4, by simp, own_base ho4 hb1.size, hb4⟩
end Go.Proofs.Ytllfjffcogpaiaa

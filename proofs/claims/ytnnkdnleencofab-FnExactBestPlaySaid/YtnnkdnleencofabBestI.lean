/- The best play: the program's. -/
import Derived.Test.YtnnkdnleencofabBestM
namespace Go.Proofs.Ytnnkdnleencofab
open Go.RowKit
set_option linter.unusedVariables false

def RetBst (w : World) (b : Bst) (e : Ending) (w' : World) : Prop :=
  e = .returned (.tuple #[.agg #[.int .i64 b.pl.1, .int .i64 b.pl.2.1, .int .i64 b.pl.2.2], .int .i64 b.mo, .bool b.fd]) ∧ Below w.heap.size w w'

set_option maxRecDepth 100000 in
set_option maxHeartbeats 2000000 in
theorem c_implBest (A : Option Addr) (c : Nat) (ps : List (Int × Int × Int)) (T : Option Addr) (m : Nat) (ts : List (Int × Int)) (w : World) (hr : RdP w A ps) (hl : ps.length ≤ 1048576) (ht : RdT w T ts) (hl2 : ts.length ≤ 1048576) :
    Calls Try.prog 20 #[.slice A ps.length c, .slice T ts.length m] w (RetBst w (bestHL ps ts)) := by
  have con := Lib.hid (fun W (hb : Below w.heap.size w W) => c_boardAndHand A c ps T m ts W (hr.below hb) hl (ht.below hb) hl2)
  have hB := brdD_ok ps
  have hb0 : Below w.heap.size w (w.alloc (.cells #[.int .i64 0, .int .i64 0, .int .i64 0] 32)) := by go_grown
  have r0 : (w.alloc (.cells #[.int .i64 0, .int .i64 0, .int .i64 0] 32)).cell? ⟨w.heap.size, 0, none⟩ = some (.int .i64 0) := by simp [go_sem]
  have fr0 : (w.alloc (.cells #[.int .i64 0, .int .i64 0, .int .i64 0] 32)).frozen? ⟨w.heap.size, 0, none⟩ = false := frozen_freshB _ _ _ _
  have r1 : (w.alloc (.cells #[.int .i64 0, .int .i64 0, .int .i64 0] 32)).cell? ⟨w.heap.size, 1, none⟩ = some (.int .i64 0) := by simp [go_sem]
  have fr1 : (w.alloc (.cells #[.int .i64 0, .int .i64 0, .int .i64 0] 32)).frozen? ⟨w.heap.size, 1, none⟩ = false := frozen_freshB _ _ _ _
  have r2 : (w.alloc (.cells #[.int .i64 0, .int .i64 0, .int .i64 0] 32)).cell? ⟨w.heap.size, 2, none⟩ = some (.int .i64 0) := by simp [go_sem]
  have fr2 : (w.alloc (.cells #[.int .i64 0, .int .i64 0, .int .i64 0] 32)).frozen? ⟨w.heap.size, 2, none⟩ = false := frozen_freshB _ _ _ _
  have hz0 : w.heap.size < (w.alloc (.cells #[.int .i64 0, .int .i64 0, .int .i64 0] 32)).heap.size := block_lt r0
  cases hok : (okL ps && handB ts)
  · have e : bestHL ps ts = Bst.none := by unfold bestHL; rw [hok]; rfl
    rw [e]
    rw [hok] at con
    clear e hok hr ht hB
    go_enter Try.func20, Try.ntmps20
    go_wp2_with (go_at_call 61; refine (con.out _ hb0).mono ?_; rintro e w1 ⟨A1, c1, D1, d1, T1, t1, rfl, ho1, ha1, ht1, hb1⟩; have s0 := keepc hb1 r0; have g0 := (hb1.frozen (p := ⟨w.heap.size, 0, none⟩) (block_lt r0)).trans fr0; have s1 := keepc hb1 r1; have g1 := (hb1.frozen (p := ⟨w.heap.size, 1, none⟩) (block_lt r1)).trans fr1; have s2 := keepc hb1 r2; have g2 := (hb1.frozen (p := ⟨w.heap.size, 2, none⟩) (block_lt r2)).trans fr2; have hs1 := hb1.size; have hz1 : w.heap.size < w1.heap.size := (block_lt s0); have Hbw := Lib.hid (bstep hb0 hb1); clear hb1)
    refine bodyPost_ret (v := .tuple #[.agg #[.int .i64 0, .int .i64 0, .int .i64 0], .int .i64 0, .bool false]) (by simp [results, Try.results20, go_sem, s0, s1, s2, hz1]) rfl ?_
    refine ⟨rfl, ?_⟩
    have hbw := Hbw.out
    have hx := hbw.size
    have hy := fun u v z => ((hbw.setCell (p := ⟨w.heap.size, 0, none⟩) (Nat.le_refl _) u).setCell (p := ⟨w.heap.size, 1, none⟩) (Nat.le_refl _) v).setCell (p := ⟨w.heap.size, 2, none⟩) (Nat.le_refl _) z
    exact (hy _ _ _).alloc (hy _ _ _).size _
  · have hh : sortHL ts = sortHL ts := rfl
    have e : bestHL ps ts = bestTo (brdD ps) (playsL (brdD ps) (sortHL ts)) (playsL (brdD ps) (sortHL ts)).length := by unfold bestHL; rw [hok]; rfl
    rw [e]
    rw [hok] at con
    have hs := sortHL_len ts
    generalize brdD ps = B at con hB ⊢
    generalize sortHL ts = us at con hs ⊢
    have conP := Lib.hid (fun A1 c1 D1 d1 T1 t1 W h1 h2 h3 => c_bPlaysFor A1 c1 D1 d1 B T1 t1 us W h1 h2 hB h3 hs)
    have hok2 := Lib.hid (bestTo_ok hB us)
    have hfit := Lib.hid (fun k (h : k < (playsL B us).length) => plays_fit (B := B) (ts := us) h)
    have hlen := playsL_len hB.four hs
    have HB := Lib.hid hB
    generalize hL : playsL B us = L at conP hok2 hfit hlen ⊢
    clear hL e hh hok hr ht hB hs
    go_enter Try.func20, Try.ntmps20
    go_wp2_with (go_at_call 61; refine (con.out _ hb0).mono ?_; rintro e w1 ⟨A1, c1, D1, d1, T1, t1, rfl, ho1, ha1, ht1, hb1⟩; have s0 := keepc hb1 r0; have g0 := (hb1.frozen (p := ⟨w.heap.size, 0, none⟩) (block_lt r0)).trans fr0; have s1 := keepc hb1 r1; have g1 := (hb1.frozen (p := ⟨w.heap.size, 1, none⟩) (block_lt r1)).trans fr1; have s2 := keepc hb1 r2; have g2 := (hb1.frozen (p := ⟨w.heap.size, 2, none⟩) (block_lt r2)).trans fr2; have hs1 := hb1.size; have hz1 : w.heap.size < w1.heap.size := (block_lt s0); have Hbw := Lib.hid (bstep hb0 hb1); clear hb1)
    (go_at_call 62; obtain ⟨w2, hw2⟩ : ∃ w2, w2 = w1.alloc (.cells #[.slice A1 B.ps.length c1, .slice D1 B.arms.length d1, .int .i64 B.fives] 94) := ⟨_, rfl⟩; obtain ⟨w3, hw3⟩ : ∃ w3, w3 = w2.alloc (.cells #[.int .i64 0, .int .i64 0, .int .i64 0] 32) := ⟨_, rfl⟩; rw [← hw2, ← hw3]; have hb12 : Below w1.heap.size w1 w2 := (by rw [hw2]; exact (Below.refl _ _).alloc (Nat.le_refl _) _); have hb23 : Below w2.heap.size w2 w3 := (by rw [hw3]; exact (Below.refl _ _).alloc (Nat.le_refl _) _); have hb13 := bstep hb12 hb23; have R1 := Lib.hid ((RdP.of_own ho1).below hb12); have R2 := Lib.hid ((RdA.of_own ha1).below hb12); have R3 := Lib.hid ((RdT.of_own ht1).below hb13); have n0 : w2.cell? ⟨w1.heap.size, 0, none⟩ = some (.slice A1 B.ps.length c1) := (by rw [hw2]; simp); have n1 : w2.cell? ⟨w1.heap.size, 1, none⟩ = some (.slice D1 B.arms.length d1) := (by rw [hw2]; simp); have n2 : w2.cell? ⟨w1.heap.size, 2, none⟩ = some (.int .i64 B.fives) := (by rw [hw2]; simp); have p0 : w3.cell? ⟨w2.heap.size, 0, none⟩ = some (.int .i64 0) := (by rw [hw3]; simp); have q0 : w3.frozen? ⟨w2.heap.size, 0, none⟩ = false := (by rw [hw3]; exact frozen_freshB _ _ _ _); have p1 : w3.cell? ⟨w2.heap.size, 1, none⟩ = some (.int .i64 0) := (by rw [hw3]; simp); have q1 : w3.frozen? ⟨w2.heap.size, 1, none⟩ = false := (by rw [hw3]; exact frozen_freshB _ _ _ _); have p2 : w3.cell? ⟨w2.heap.size, 2, none⟩ = some (.int .i64 0) := (by rw [hw3]; simp); have q2 : w3.frozen? ⟨w2.heap.size, 2, none⟩ = false := (by rw [hw3]; exact frozen_freshB _ _ _ _); have a0 := keepc hb12 s0; have b0 := (hb12.frozen (p := ⟨w.heap.size, 0, none⟩) hz1).trans g0; have a1 := keepc hb12 s1; have b1 := (hb12.frozen (p := ⟨w.heap.size, 1, none⟩) hz1).trans g1; have a2 := keepc hb12 s2; have b2 := (hb12.frozen (p := ⟨w.heap.size, 2, none⟩) hz1).trans g2; have hz2 : w1.heap.size + 1 = w2.heap.size := (by simp [hw2]); clear hw2 hw3; refine (conP.out A1 c1 D1 d1 T1 t1 w3 (R1.out.below hb23) (R2.out.below hb23) R3.out).mono ?_; rintro e w4 ⟨A2, c2, rfl, ho2, hb4⟩)
    have hb24 := bstep hb23 hb4
    have hz24 := hb24.size
    have hzg : w2.heap.size < w4.heap.size := Nat.lt_of_lt_of_le (block_lt p0) hb4.size
    have hgw3 : w2.heap.size < w3.heap.size := block_lt p0
    have P0 := keepc hb4 p0
    have Q0 := (hb4.frozen (p := ⟨w2.heap.size, 0, none⟩) hgw3).trans q0
    have P1 := keepc hb4 p1
    have Q1 := (hb4.frozen (p := ⟨w2.heap.size, 1, none⟩) hgw3).trans q1
    have P2 := keepc hb4 p2
    have Q2 := (hb4.frozen (p := ⟨w2.heap.size, 2, none⟩) hgw3).trans q2
    have Hb24 := Lib.hid hb24
    have Ho2 := Lib.hid ho2
    have HbW2 := Lib.hid (bstep Hbw.out hb12)
    clear hb24 ho2 hb4 hb23 hb12 hb13 p0 p1 p2 q0 q1 q2 ho1 ha1 ht1 R3 s0 s1 s2 g0 g1 g2 con conP
    go_wp2
    go_loopw [11, 12, 31] (fun mo fd i wr => ∃ (k : Nat) (b : Bst), k ≤ L.length ∧ i = .int .i64 k ∧ b = bestTo B L k ∧ mo = .int .i64 b.mo ∧ fd = .bool b.fd ∧ wr.cell? ⟨w2.heap.size, 0, none⟩ = some (.int .i64 b.pl.1) ∧ wr.cell? ⟨w2.heap.size, 1, none⟩ = some (.int .i64 b.pl.2.1) ∧ wr.cell? ⟨w2.heap.size, 2, none⟩ = some (.int .i64 b.pl.2.2) ∧
        wr.frozen? ⟨w2.heap.size, 0, none⟩ = false ∧ wr.frozen? ⟨w2.heap.size, 1, none⟩ = false ∧ wr.frozen? ⟨w2.heap.size, 2, none⟩ = false ∧ wr.ownsRow w3.heap.size 32 3 (.slice A2 L.length c2) L.length (cellsP L) ∧ Below w2.heap.size w2 wr) (fun _ _ i _ => L.length - (intOf i).toNat)
    case atStart => exact ⟨0, Bst.none, Nat.zero_le _, rfl, (bestTo_zero B L).symm, rfl, rfl, P0, P1, P2, Q0, Q1, Q2, Ho2.out, Hb24.out⟩
    case round =>
      clear P0 P1 P2 Q0 Q1 Q2 Ho2 Hb24
      obtain ⟨k, b, hk, rfl, hbe, rfl, rfl, e0, e1, e2, f0, f1, f2, ho, hb⟩ := hrel
      have hzr : w2.heap.size < wr.heap.size := block_lt e0
      have hbok := hok2.out k hk
      rw [← hbe] at hbok
      have dd0 := keepc hb n0
      have dd1 := keepc hb n1
      have dd2 := keepc hb n2
      have hzd : w1.heap.size < wr.heap.size := block_lt dd0
      by_cases hlt : k < L.length
      · obtain ⟨bk, off, hA2, hbk, hc⟩ := (RdP.of_own ho).at_ hlt
        have g0 := (hc k hlt).1
        have g1 := (hc k hlt).2.1
        have g2 := (hc k hlt).2.2
        have hf := hfit.out k hlt
        have hst := Lib.hid (bestTo_succ (B := B) hlt)
        obtain ⟨p, hp⟩ : ∃ p, L[k] = p := ⟨_, rfl⟩
        rw [hp] at g0 g1 g2 hf hst
        obtain ⟨x, y, z⟩ := p
        simp only at g0 g1 g2
        rw [← hbe] at hst
        have hbn := HB.out.with_ hf
        have conW := Lib.hid (fun W (hW : Below w2.heap.size w2 W) => c_with A1 c1 D1 d1 B x y z W (R1.out.below hW) (R2.out.below hW) HB.out hf)
        have hpt : ptsL (withL B (x, y, z)).ps.length (withL B (x, y, z)).arms = ptsW B (x, y, z) := rfl
        have conP := Lib.hid (fun A c D d f W h => hpt ▸ c_points A (withL B (x, y, z)).ps.length c D d f (withL B (x, y, z)).arms W h hbn.four hbn.ends hbn.len)
        have hle := ptsW_le HB.out hf
        have hy := Lib.hid (fun h => bestF_yes (B := B) (b := b) (p := (x, y, z)) h)
        have hn := Lib.hid (fun h1 h2 => bestF_no (B := B) (b := b) (p := (x, y, z)) h1 h2)
        subst hA2
        generalize ptsW B (x, y, z) = P at *
        clear hp hpt hbn hc hf
        have Hb := Lib.hid hb
        have Ho := Lib.hid ho
        have Hk := Lib.hid hbe
        clear hb ho hbe
        have c0 : (0 : Int) ≤ (k : Int) := by omega
        have c1' : (k : Int) < (L.length : Int) := by omega
        cases hfd : b.fd
        · have Hy := Lib.hid (hy.out (.inl hfd))
          clear hy hn
          go_wp2_with (first | (go_at_call 63; obtain ⟨w5, hw5⟩ : ∃ w5, w5 = (wr.alloc (.cells #[.int .i64 x, .int .i64 y, .int .i64 z] 32)) := ⟨_, rfl⟩; rw [← hw5]; have h5 : Below wr.heap.size wr w5 := (by rw [hw5]; exact (Below.refl _ _).alloc (Nat.le_refl _) _); have x0 : w5.cell? ⟨wr.heap.size, 0, none⟩ = some (.int .i64 x) := (by rw [hw5]; simp); have x1 : w5.cell? ⟨wr.heap.size, 1, none⟩ = some (.int .i64 y) := (by rw [hw5]; simp); have x2 : w5.cell? ⟨wr.heap.size, 2, none⟩ = some (.int .i64 z) := (by rw [hw5]; simp); clear hw5; refine (conW.out _ (bstep Hb.out h5)).mono ?_; rintro e w6 ⟨A6, c6, D6, d6, rfl, ho6, ha6, hb6⟩; have h56 := bstep h5 hb6; have HA6 := Lib.hid (RdA.of_own ha6); have H6 := Lib.hid h56; have X0 := keepc hb6 x0; have X1 := keepc hb6 x1; have X2 := keepc hb6 x2; clear ho6 ha6 hb6 h5 h56 x0 x1 x2) | (go_at_call 64; refine (conP.out A6 c6 D6 d6 _ _ HA6.out).mono ?_; rintro e w7 ⟨rfl, hb7⟩; have h7 := bstep H6.out hb7; have Y0 := keepc hb7 X0; have E0 := keepc h7 e0; have F0 := (h7.frozen (p := ⟨w2.heap.size, 0, none⟩) hzr).trans f0; have Y1 := keepc hb7 X1; have E1 := keepc h7 e1; have F1 := (h7.frozen (p := ⟨w2.heap.size, 1, none⟩) hzr).trans f1; have Y2 := keepc hb7 X2; have E2 := keepc h7 e2; have F2 := (h7.frozen (p := ⟨w2.heap.size, 2, none⟩) hzr).trans f2; have H7 := Lib.hid h7; have hz7 : wr.heap.size < w7.heap.size := (block_lt Y0); have hz72 : w2.heap.size < w7.heap.size := (block_lt E0); clear hb7 h7 X0 X1 X2))
          go_roundw
          case rel =>
            refine ⟨k + 1, ⟨true, (x, y, z), P⟩, by omega, by go_num, by rw [hst.out, Hy.out], rfl, rfl, ?_, ?_, ?_, by simp [F0], by simp [F1], by simp [F2], ?_, ?_⟩
            · exact same_ne (by omega) (same_ne (by omega) (World.cell?_setCell_same _ _ _ E0))
            · exact same_ne (by omega) (World.cell?_setCell_same _ _ _ (same_ne (by omega) E1))
            · exact World.cell?_setCell_same _ _ _ (same_ne (by omega) (same_ne (by omega) E2))
            · exact ownsRow_setCell_below (ownsRow_setCell_below (ownsRow_setCell_below (own_keep Ho.out H7.out) hgw3 _) hgw3 _) hgw3 _
            · exact (((bstep Hb.out H7.out).setCell (p := ⟨w2.heap.size, 0, none⟩) (Nat.le_refl _) _).setCell (p := ⟨w2.heap.size, 1, none⟩) (Nat.le_refl _) _).setCell (p := ⟨w2.heap.size, 2, none⟩) (Nat.le_refl _) _
          case measure => simp [intOf]; omega
        · have hbm := hbok.1 hfd
          by_cases hm : b.mo < P
          · have Hy := Lib.hid (hy.out (.inr hm))
            clear hy hn
            go_wp2_with (first | (go_at_call 63; obtain ⟨w5, hw5⟩ : ∃ w5, w5 = (wr.alloc (.cells #[.int .i64 x, .int .i64 y, .int .i64 z] 32)) := ⟨_, rfl⟩; rw [← hw5]; have h5 : Below wr.heap.size wr w5 := (by rw [hw5]; exact (Below.refl _ _).alloc (Nat.le_refl _) _); have x0 : w5.cell? ⟨wr.heap.size, 0, none⟩ = some (.int .i64 x) := (by rw [hw5]; simp); have x1 : w5.cell? ⟨wr.heap.size, 1, none⟩ = some (.int .i64 y) := (by rw [hw5]; simp); have x2 : w5.cell? ⟨wr.heap.size, 2, none⟩ = some (.int .i64 z) := (by rw [hw5]; simp); clear hw5; refine (conW.out _ (bstep Hb.out h5)).mono ?_; rintro e w6 ⟨A6, c6, D6, d6, rfl, ho6, ha6, hb6⟩; have h56 := bstep h5 hb6; have HA6 := Lib.hid (RdA.of_own ha6); have H6 := Lib.hid h56; have X0 := keepc hb6 x0; have X1 := keepc hb6 x1; have X2 := keepc hb6 x2; clear ho6 ha6 hb6 h5 h56 x0 x1 x2) | (go_at_call 64; refine (conP.out A6 c6 D6 d6 _ _ HA6.out).mono ?_; rintro e w7 ⟨rfl, hb7⟩; have h7 := bstep H6.out hb7; have Y0 := keepc hb7 X0; have E0 := keepc h7 e0; have F0 := (h7.frozen (p := ⟨w2.heap.size, 0, none⟩) hzr).trans f0; have Y1 := keepc hb7 X1; have E1 := keepc h7 e1; have F1 := (h7.frozen (p := ⟨w2.heap.size, 1, none⟩) hzr).trans f1; have Y2 := keepc hb7 X2; have E2 := keepc h7 e2; have F2 := (h7.frozen (p := ⟨w2.heap.size, 2, none⟩) hzr).trans f2; have H7 := Lib.hid h7; have hz7 : wr.heap.size < w7.heap.size := (block_lt Y0); have hz72 : w2.heap.size < w7.heap.size := (block_lt E0); clear hb7 h7 X0 X1 X2))
            go_roundw
            case rel =>
              refine ⟨k + 1, ⟨true, (x, y, z), P⟩, by omega, by go_num, by rw [hst.out, Hy.out], rfl, rfl, ?_, ?_, ?_, by simp [F0], by simp [F1], by simp [F2], ?_, ?_⟩
              · exact same_ne (by omega) (same_ne (by omega) (World.cell?_setCell_same _ _ _ E0))
              · exact same_ne (by omega) (World.cell?_setCell_same _ _ _ (same_ne (by omega) E1))
              · exact World.cell?_setCell_same _ _ _ (same_ne (by omega) (same_ne (by omega) E2))
              · exact ownsRow_setCell_below (ownsRow_setCell_below (ownsRow_setCell_below (own_keep Ho.out H7.out) hgw3 _) hgw3 _) hgw3 _
              · exact (((bstep Hb.out H7.out).setCell (p := ⟨w2.heap.size, 0, none⟩) (Nat.le_refl _) _).setCell (p := ⟨w2.heap.size, 1, none⟩) (Nat.le_refl _) _).setCell (p := ⟨w2.heap.size, 2, none⟩) (Nat.le_refl _) _
            case measure => simp [intOf]; omega
          · have Hn := Lib.hid (hn.out hfd hm)
            clear hy hn
            go_wp2_with (first | (go_at_call 63; obtain ⟨w5, hw5⟩ : ∃ w5, w5 = (wr.alloc (.cells #[.int .i64 x, .int .i64 y, .int .i64 z] 32)) := ⟨_, rfl⟩; rw [← hw5]; have h5 : Below wr.heap.size wr w5 := (by rw [hw5]; exact (Below.refl _ _).alloc (Nat.le_refl _) _); have x0 : w5.cell? ⟨wr.heap.size, 0, none⟩ = some (.int .i64 x) := (by rw [hw5]; simp); have x1 : w5.cell? ⟨wr.heap.size, 1, none⟩ = some (.int .i64 y) := (by rw [hw5]; simp); have x2 : w5.cell? ⟨wr.heap.size, 2, none⟩ = some (.int .i64 z) := (by rw [hw5]; simp); clear hw5; refine (conW.out _ (bstep Hb.out h5)).mono ?_; rintro e w6 ⟨A6, c6, D6, d6, rfl, ho6, ha6, hb6⟩; have h56 := bstep h5 hb6; have HA6 := Lib.hid (RdA.of_own ha6); have H6 := Lib.hid h56; have X0 := keepc hb6 x0; have X1 := keepc hb6 x1; have X2 := keepc hb6 x2; clear ho6 ha6 hb6 h5 h56 x0 x1 x2) | (go_at_call 64; refine (conP.out A6 c6 D6 d6 _ _ HA6.out).mono ?_; rintro e w7 ⟨rfl, hb7⟩; have h7 := bstep H6.out hb7; have Y0 := keepc hb7 X0; have E0 := keepc h7 e0; have F0 := (h7.frozen (p := ⟨w2.heap.size, 0, none⟩) hzr).trans f0; have Y1 := keepc hb7 X1; have E1 := keepc h7 e1; have F1 := (h7.frozen (p := ⟨w2.heap.size, 1, none⟩) hzr).trans f1; have Y2 := keepc hb7 X2; have E2 := keepc h7 e2; have F2 := (h7.frozen (p := ⟨w2.heap.size, 2, none⟩) hzr).trans f2; have H7 := Lib.hid h7; have hz7 : wr.heap.size < w7.heap.size := (block_lt Y0); have hz72 : w2.heap.size < w7.heap.size := (block_lt E0); clear hb7 h7 X0 X1 X2))
            go_roundw
            case rel => exact ⟨k + 1, b, by omega, by go_num, by rw [hst.out, Hn.out], rfl, by rw [hfd], E0, E1, E2, F0, F1, F2, own_keep Ho.out H7.out, bstep Hb.out H7.out⟩
            case measure => simp [intOf]; omega
      · have hke : k = L.length := by omega
        subst hke
        have hzb : w1.heap.size + 1 ≤ wr.heap.size := by omega
        have hbw : Below w1.heap.size w2 wr := hb.mono (by omega)
        have hz1w : w.heap.size < w2.heap.size := by omega
        have t0 := keepc hb a0
        have u0 := (hb.frozen (p := ⟨w.heap.size, 0, none⟩) hz1w).trans b0
        have t1 := keepc hb a1
        have u1 := (hb.frozen (p := ⟨w.heap.size, 1, none⟩) hz1w).trans b1
        have t2 := keepc hb a2
        have u2 := (hb.frozen (p := ⟨w.heap.size, 2, none⟩) hz1w).trans b2
        have hzt : w.heap.size < wr.heap.size := block_lt t0
        have HbF := Lib.hid (bstep HbW2.out hb)
        have Hbe := Lib.hid hbe
        clear hb ho hbe hbok hbw
        go_wp2
        refine bodyPost_ret (v := .tuple #[.agg #[.int .i64 b.pl.1, .int .i64 b.pl.2.1, .int .i64 b.pl.2.2], .int .i64 b.mo, .bool b.fd]) (by simp [results, Try.results20, go_sem, t0, t1, t2]) rfl ?_
        rw [← Hbe.out]
        exact ⟨rfl, ((HbF.out.setCell (p := ⟨w.heap.size, 0, none⟩) (Nat.le_refl _) _).setCell (p := ⟨w.heap.size, 1, none⟩) (Nat.le_refl _) _).setCell (p := ⟨w.heap.size, 2, none⟩) (Nat.le_refl _) _⟩
end Go.Proofs.Ytnnkdnleencofab

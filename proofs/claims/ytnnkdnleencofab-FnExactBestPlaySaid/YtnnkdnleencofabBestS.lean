/- The best play: the specification's. -/
import Derived.Test.YtnnkdnleencofabBestI
namespace Go.Proofs.Ytnnkdnleencofab
open Go.RowKit
set_option linter.unusedVariables false

set_option maxRecDepth 100000 in
set_option maxHeartbeats 2000000 in
theorem c_specBest (A : Option Addr) (c : Nat) (ps : List (Int × Int × Int)) (T : Option Addr) (m : Nat) (ts : List (Int × Int)) (w : World) (hr : RdP w A ps) (hl : ps.length ≤ 1048576) (ht : RdT w T ts) (hl2 : ts.length ≤ 1048576) (hcap : ts.length ≤ m) :
    Calls Try.prog 17 #[.slice A ps.length c, .slice T ts.length m] w (RetBst w (bestHL ps ts)) := by
  have con := Lib.hid (fun W (hb : Below w.heap.size w W) => c_lyAsked A c ps T m ts W (hr.below hb) hl (ht.below hb) hl2 hcap)
  have hB := brdD_ok ps
  have hb0 : Below w.heap.size w (w.alloc (.cells #[.int .i64 0, .int .i64 0, .int .i64 0] 32)) := by go_grown
  have r0 : (w.alloc (.cells #[.int .i64 0, .int .i64 0, .int .i64 0] 32)).cell? ⟨w.heap.size, 0, none⟩ = some (.int .i64 0) := by simp [go_sem]
  have fr0 : (w.alloc (.cells #[.int .i64 0, .int .i64 0, .int .i64 0] 32)).frozen? ⟨w.heap.size, 0, none⟩ = false := frozen_freshB _ _ _ _
  have r1 : (w.alloc (.cells #[.int .i64 0, .int .i64 0, .int .i64 0] 32)).cell? ⟨w.heap.size, 1, none⟩ = some (.int .i64 0) := by simp [go_sem]
  have fr1 : (w.alloc (.cells #[.int .i64 0, .int .i64 0, .int .i64 0] 32)).frozen? ⟨w.heap.size, 1, none⟩ = false := frozen_freshB _ _ _ _
  have r2 : (w.alloc (.cells #[.int .i64 0, .int .i64 0, .int .i64 0] 32)).cell? ⟨w.heap.size, 2, none⟩ = some (.int .i64 0) := by simp [go_sem]
  have fr2 : (w.alloc (.cells #[.int .i64 0, .int .i64 0, .int .i64 0] 32)).frozen? ⟨w.heap.size, 2, none⟩ = false := frozen_freshB _ _ _ _
  have hz0 : w.heap.size < (w.alloc (.cells #[.int .i64 0, .int .i64 0, .int .i64 0] 32)).heap.size := block_lt r0
  cases hok : (okL ps && handB ts)
  · have e : bestHL ps ts = Bst.none := by unfold bestHL; rw [hok]; rfl
    rw [e]
    rw [hok] at con
    clear e hok hr ht hB
    go_enter Try.func17, Try.ntmps17
    go_wp2_with (go_at_call 54; refine (con.out _ hb0).mono ?_; rintro e w1 ⟨g, S, rfl, hs, hb1⟩; clear hs; have s0 := keepc hb1 r0; have g0 := (hb1.frozen (p := ⟨w.heap.size, 0, none⟩) (block_lt r0)).trans fr0; have s1 := keepc hb1 r1; have g1 := (hb1.frozen (p := ⟨w.heap.size, 1, none⟩) (block_lt r1)).trans fr1; have s2 := keepc hb1 r2; have g2 := (hb1.frozen (p := ⟨w.heap.size, 2, none⟩) (block_lt r2)).trans fr2; have hz1 : w.heap.size < w1.heap.size := (block_lt s0); have G0 := g0; have G1 := g1; have G2 := g2; have Hbw := Lib.hid (bstep hb0 hb1); clear hb1)
    refine bodyPost_ret (v := .tuple #[.agg #[.int .i64 0, .int .i64 0, .int .i64 0], .int .i64 0, .bool false]) (by simp [results, Try.results17, go_sem, s0, s1, s2]) rfl ?_
    exact ⟨rfl, ((Hbw.out.setCell (p := ⟨w.heap.size, 0, none⟩) (Nat.le_refl _) _).setCell (p := ⟨w.heap.size, 1, none⟩) (Nat.le_refl _) _).setCell (p := ⟨w.heap.size, 2, none⟩) (Nat.le_refl _) _⟩
  · have hh : handB ts = true := by simp only [Bool.and_eq_true] at hok; exact hok.2
    have e : bestHL ps ts = bestTo (brdD ps) (playsL (brdD ps) (sortL ts)) (playsL (brdD ps) (sortL ts)).length := by unfold bestHL; rw [hok, sortHL_hand hh]; rfl
    rw [e]
    rw [hok] at con
    have hs := sortHL_len ts
    rw [sortHL_hand hh] at hs
    generalize brdD ps = B at con hB ⊢
    have hok2 := Lib.hid (bestTo_ok hB (sortL ts))
    have hfit := Lib.hid (fun k (h : k < (playsL B (sortL ts)).length) => plays_fit (B := B) (ts := sortL ts) h)
    have hlen := playsL_len hB.four hs
    have HB := Lib.hid hB
    have conF := Lib.hid (fun base g S W (hb : Below w.heap.size w W) (hs : StAt base W g S) (hR : Rel B S) => c_lyFor base g S B T m ts W hs hR (ht.below hb) hl2)
    generalize hL : playsL B (sortL ts) = L at conF hok2 hfit hlen ⊢
    clear hL e hh hok hr hB hs
    go_enter Try.func17, Try.ntmps17
    go_wp2_with (go_at_call 54; refine (con.out _ hb0).mono ?_; rintro e w1 ⟨g, S, rfl, hs, hb1⟩; have Hs := Lib.hid (hs rfl); clear hs; have s0 := keepc hb1 r0; have g0 := (hb1.frozen (p := ⟨w.heap.size, 0, none⟩) (block_lt r0)).trans fr0; have s1 := keepc hb1 r1; have g1 := (hb1.frozen (p := ⟨w.heap.size, 1, none⟩) (block_lt r1)).trans fr1; have s2 := keepc hb1 r2; have g2 := (hb1.frozen (p := ⟨w.heap.size, 2, none⟩) (block_lt r2)).trans fr2; have hz1 : w.heap.size < w1.heap.size := (block_lt s0); have G0 := g0; have G1 := g1; have G2 := g2; have Hbw := Lib.hid (bstep hb0 hb1); clear hb1)
    (go_at_call 55; obtain ⟨w2, hw2⟩ : ∃ w2, w2 = w1.alloc (.cells #[.int .i64 0, .int .i64 0, .int .i64 0] 32) := ⟨_, rfl⟩; rw [← hw2]; have hb12 : Below w1.heap.size w1 w2 := (by rw [hw2]; exact (Below.refl _ _).alloc (Nat.le_refl _) _); have Hs2 := Lib.hid (Hs.out.1.keep hb12); have p0 : w2.cell? ⟨w1.heap.size, 0, none⟩ = some (.int .i64 0) := (by rw [hw2]; simp); have q0 : w2.frozen? ⟨w1.heap.size, 0, none⟩ = false := (by rw [hw2]; exact frozen_freshB _ _ _ _); have p1 : w2.cell? ⟨w1.heap.size, 1, none⟩ = some (.int .i64 0) := (by rw [hw2]; simp); have q1 : w2.frozen? ⟨w1.heap.size, 1, none⟩ = false := (by rw [hw2]; exact frozen_freshB _ _ _ _); have p2 : w2.cell? ⟨w1.heap.size, 2, none⟩ = some (.int .i64 0) := (by rw [hw2]; simp); have q2 : w2.frozen? ⟨w1.heap.size, 2, none⟩ = false := (by rw [hw2]; exact frozen_freshB _ _ _ _); have a0 := keepc hb12 s0; have b0 := (hb12.frozen (p := ⟨w.heap.size, 0, none⟩) hz1).trans g0; have a1 := keepc hb12 s1; have b1 := (hb12.frozen (p := ⟨w.heap.size, 1, none⟩) hz1).trans g1; have a2 := keepc hb12 s2; have b2 := (hb12.frozen (p := ⟨w.heap.size, 2, none⟩) hz1).trans g2; clear hw2; refine (conF.out _ g S w2 (bstep Hbw.out hb12) Hs2.out Hs.out.2).mono ?_; rintro e w4 ⟨A2, c2, rfl, ho2, hb4⟩)
    have hgw : w1.heap.size < w2.heap.size := block_lt p0
    have HR := Lib.hid Hs.out.2
    have Hs1 := Lib.hid Hs.out.1
    have P0 := keepc hb4 p0
    have Q0 := (hb4.frozen (p := ⟨w1.heap.size, 0, none⟩) hgw).trans q0
    have P1 := keepc hb4 p1
    have Q1 := (hb4.frozen (p := ⟨w1.heap.size, 1, none⟩) hgw).trans q1
    have P2 := keepc hb4 p2
    have Q2 := (hb4.frozen (p := ⟨w1.heap.size, 2, none⟩) hgw).trans q2
    have Hb14 := Lib.hid (bstep hb12 hb4)
    have Ho2 := Lib.hid ho2
    clear ho2 hb4 hb12 p0 p1 p2 q0 q1 q2 g0 g1 g2 con conF Hs Hs2 a0 a1 a2 b0 b1 b2 r0 r1 r2 fr0 fr1 fr2
    go_wp2
    go_loopw [10, 29] (fun mo i wr => ∃ (k : Nat) (b : Bst), k ≤ L.length ∧ i = .int .i64 k ∧ b = bestTo B L k ∧ mo = .int .i64 b.sm ∧ wr.cell? ⟨w1.heap.size, 0, none⟩ = some (.int .i64 b.pl.1) ∧ wr.cell? ⟨w1.heap.size, 1, none⟩ = some (.int .i64 b.pl.2.1) ∧ wr.cell? ⟨w1.heap.size, 2, none⟩ = some (.int .i64 b.pl.2.2) ∧
        wr.frozen? ⟨w1.heap.size, 0, none⟩ = false ∧ wr.frozen? ⟨w1.heap.size, 1, none⟩ = false ∧ wr.frozen? ⟨w1.heap.size, 2, none⟩ = false ∧ wr.ownsRow w2.heap.size 32 3 (.slice A2 L.length c2) L.length (cellsP L) ∧ Below w1.heap.size w1 wr) (fun _ i _ => L.length - (intOf i).toNat)
    case atStart => exact ⟨0, Bst.none, Nat.zero_le _, rfl, (bestTo_zero B L).symm, rfl, P0, P1, P2, Q0, Q1, Q2, Ho2.out, Hb14.out⟩
    case round =>
      clear P0 P1 P2 Q0 Q1 Q2 Ho2 Hb14
      obtain ⟨k, b, hk, rfl, hbe, rfl, e0, e1, e2, f0, f1, f2, ho, hb⟩ := hrel
      have hzr : w1.heap.size < wr.heap.size := block_lt e0
      have hbok := hok2.out k hk
      rw [← hbe] at hbok
      by_cases hlt : k < L.length
      · obtain ⟨bk, off, hA2, hbk, hc⟩ := (RdP.of_own ho).at_ hlt
        have g0 := (hc k hlt).1
        have g1 := (hc k hlt).2.1
        have g2 := (hc k hlt).2.2
        have hf := hfit.out k hlt
        have hst := Lib.hid (bestTo_succ (B := B) hlt)
        obtain ⟨p, hp⟩ : ∃ p, L[k] = p := ⟨_, rfl⟩
        rw [hp] at g0 g1 g2 hf hst
        obtain ⟨x, y, z⟩ := p
        simp only at g0 g1 g2
        rw [← hbe] at hst
        have hl4 : S.arms.length ≤ 4 := by rw [HR.out.arms]; exact HR.out.four.1
        have hl28 : S.tiles.length ≤ 28 := by rw [HR.out.tiles, List.length_map]; exact HR.out.len
        have conC := Lib.hid (fun W (hW : Below wr.heap.size wr W) => c_lyCopy _ g S W ((Hs1.out.keep hb).keep hW) hl4 hl28)
        have hR2 := rel_add HR.out (x, y, z) hf
        have hpt : ptsL (withL B (x, y, z)).ps.length (withL B (x, y, z)).arms = ptsW B (x, y, z) := rfl
        have conA := Lib.hid (fun base g' W h => c_add base g' S B x y z W h HR.out)
        have conP := Lib.hid (fun base g' W h => hpt ▸ c_lyPoints base g' (addS S (x, y, z)) (withL B (x, y, z)) W h hR2)
        have hle := ptsW_le HB.out hf
        have hsm := sm_yes HB.out hbok hf
        have hy := Lib.hid (fun h => bestF_yes (B := B) (b := b) (p := (x, y, z)) h)
        have hn := Lib.hid (fun h1 h2 => bestF_no (B := B) (b := b) (p := (x, y, z)) h1 h2)
        subst hA2
        generalize ptsW B (x, y, z) = P at *
        clear hp hpt hc hf hR2 hl4 hl28
        have Hb := Lib.hid hb
        have Ho := Lib.hid ho
        have Hk := Lib.hid hbe
        have Hsm := Lib.hid hsm
        clear hb ho hbe hsm
        have c0 : (0 : Int) ≤ (k : Int) := by omega
        have c1' : (k : Int) < (L.length : Int) := by omega
        by_cases hm : b.sm < P
        · have Hy := Lib.hid (hy.out (Hsm.out.1 hm))
          clear hy hn
          go_wp2_with (first | (go_at_call 56; obtain ⟨w5, hw5⟩ : ∃ w5, w5 = (wr.alloc (.cells #[.int .i64 x, .int .i64 y, .int .i64 z] 32)) := ⟨_, rfl⟩; rw [← hw5]; have h5 : Below wr.heap.size wr w5 := (by rw [hw5]; exact (Below.refl _ _).alloc (Nat.le_refl _) _); have x0 : w5.cell? ⟨wr.heap.size, 0, none⟩ = some (.int .i64 x) := (by rw [hw5]; simp); have x1 : w5.cell? ⟨wr.heap.size, 1, none⟩ = some (.int .i64 y) := (by rw [hw5]; simp); have x2 : w5.cell? ⟨wr.heap.size, 2, none⟩ = some (.int .i64 z) := (by rw [hw5]; simp); have hz5 : wr.heap.size < w5.heap.size := (block_lt x0); clear hw5; refine (conC.out _ h5).mono ?_; rintro e w6 ⟨g6, rfl, hs6, hb6⟩; have Hs6 := Lib.hid hs6; have X0 := keepc hb6 x0; have X1 := keepc hb6 x1; have X2 := keepc hb6 x2; have H6 := Lib.hid hb6; have H5 := Lib.hid h5; clear hs6 hb6 h5 x0 x1 x2) | (go_at_call 57; refine (conA.out w5.heap.size g6 _ Hs6.out).mono ?_; rintro e w7 ⟨rfl, hs7, hb7⟩; have Hs7 := Lib.hid hs7; have h57 : Below w5.heap.size w5 w7 := H6.out.trans hb7; have Y0 := (hb7.cell (p := ⟨wr.heap.size, 0, none⟩) hz5).trans X0; have Y1 := (hb7.cell (p := ⟨wr.heap.size, 1, none⟩) hz5).trans X1; have Y2 := (hb7.cell (p := ⟨wr.heap.size, 2, none⟩) hz5).trans X2; have H7 := Lib.hid (bstep H5.out h57); clear hs7 hb7 h57 X0 X1 X2) | (go_at_call 58; refine (conP.out w5.heap.size g6 _ Hs7.out).mono ?_; rintro e w8 ⟨rfl, hb8⟩; have h8 := bstep H7.out hb8; have Z0 := keepc hb8 Y0; have E0 := keepc h8 e0; have F0 := (h8.frozen (p := ⟨w1.heap.size, 0, none⟩) hzr).trans f0; have Z1 := keepc hb8 Y1; have E1 := keepc h8 e1; have F1 := (h8.frozen (p := ⟨w1.heap.size, 1, none⟩) hzr).trans f1; have Z2 := keepc hb8 Y2; have E2 := keepc h8 e2; have F2 := (h8.frozen (p := ⟨w1.heap.size, 2, none⟩) hzr).trans f2; have H8 := Lib.hid h8; have hz8 : wr.heap.size < w8.heap.size := (block_lt Z0); have hz82 : w1.heap.size < w8.heap.size := (block_lt E0); clear hb8 h8 Y0 Y1 Y2))
          go_roundw
          case rel =>
            refine ⟨k + 1, ⟨true, (x, y, z), P⟩, by omega, by go_num, by rw [hst.out, Hy.out], rfl, ?_, ?_, ?_, by simp [F0], by simp [F1], by simp [F2], ?_, ?_⟩
            · exact same_ne (by omega) (same_ne (by omega) (World.cell?_setCell_same _ _ _ E0))
            · exact same_ne (by omega) (World.cell?_setCell_same _ _ _ (same_ne (by omega) E1))
            · exact World.cell?_setCell_same _ _ _ (same_ne (by omega) (same_ne (by omega) E2))
            · exact ownsRow_setCell_below (ownsRow_setCell_below (ownsRow_setCell_below (own_keep Ho.out H8.out) hgw _) hgw _) hgw _
            · exact (((bstep Hb.out H8.out).setCell (p := ⟨w1.heap.size, 0, none⟩) (Nat.le_refl _) _).setCell (p := ⟨w1.heap.size, 1, none⟩) (Nat.le_refl _) _).setCell (p := ⟨w1.heap.size, 2, none⟩) (Nat.le_refl _) _
          case measure => simp [intOf]; omega
        · have hfd : b.fd = true := by
            cases h : b.fd
            · exact absurd (Hsm.out.2 (.inl h)) hm
            · rfl
          have Hn := Lib.hid (hn.out hfd fun h => hm (Hsm.out.2 (.inr h)))
          clear hy hn hfd
          go_wp2_with (first | (go_at_call 56; obtain ⟨w5, hw5⟩ : ∃ w5, w5 = (wr.alloc (.cells #[.int .i64 x, .int .i64 y, .int .i64 z] 32)) := ⟨_, rfl⟩; rw [← hw5]; have h5 : Below wr.heap.size wr w5 := (by rw [hw5]; exact (Below.refl _ _).alloc (Nat.le_refl _) _); have x0 : w5.cell? ⟨wr.heap.size, 0, none⟩ = some (.int .i64 x) := (by rw [hw5]; simp); have x1 : w5.cell? ⟨wr.heap.size, 1, none⟩ = some (.int .i64 y) := (by rw [hw5]; simp); have x2 : w5.cell? ⟨wr.heap.size, 2, none⟩ = some (.int .i64 z) := (by rw [hw5]; simp); have hz5 : wr.heap.size < w5.heap.size := (block_lt x0); clear hw5; refine (conC.out _ h5).mono ?_; rintro e w6 ⟨g6, rfl, hs6, hb6⟩; have Hs6 := Lib.hid hs6; have X0 := keepc hb6 x0; have X1 := keepc hb6 x1; have X2 := keepc hb6 x2; have H6 := Lib.hid hb6; have H5 := Lib.hid h5; clear hs6 hb6 h5 x0 x1 x2) | (go_at_call 57; refine (conA.out w5.heap.size g6 _ Hs6.out).mono ?_; rintro e w7 ⟨rfl, hs7, hb7⟩; have Hs7 := Lib.hid hs7; have h57 : Below w5.heap.size w5 w7 := H6.out.trans hb7; have Y0 := (hb7.cell (p := ⟨wr.heap.size, 0, none⟩) hz5).trans X0; have Y1 := (hb7.cell (p := ⟨wr.heap.size, 1, none⟩) hz5).trans X1; have Y2 := (hb7.cell (p := ⟨wr.heap.size, 2, none⟩) hz5).trans X2; have H7 := Lib.hid (bstep H5.out h57); clear hs7 hb7 h57 X0 X1 X2) | (go_at_call 58; refine (conP.out w5.heap.size g6 _ Hs7.out).mono ?_; rintro e w8 ⟨rfl, hb8⟩; have h8 := bstep H7.out hb8; have Z0 := keepc hb8 Y0; have E0 := keepc h8 e0; have F0 := (h8.frozen (p := ⟨w1.heap.size, 0, none⟩) hzr).trans f0; have Z1 := keepc hb8 Y1; have E1 := keepc h8 e1; have F1 := (h8.frozen (p := ⟨w1.heap.size, 1, none⟩) hzr).trans f1; have Z2 := keepc hb8 Y2; have E2 := keepc h8 e2; have F2 := (h8.frozen (p := ⟨w1.heap.size, 2, none⟩) hzr).trans f2; have H8 := Lib.hid h8; have hz8 : wr.heap.size < w8.heap.size := (block_lt Z0); have hz82 : w1.heap.size < w8.heap.size := (block_lt E0); clear hb8 h8 Y0 Y1 Y2))
          go_roundw
          case rel => exact ⟨k + 1, b, by omega, by go_num, by rw [hst.out, Hn.out], rfl, E0, E1, E2, F0, F1, F2, own_keep Ho.out H8.out, bstep Hb.out H8.out⟩
          case measure => simp [intOf]; omega
      · have hke : k = L.length := by omega
        subst hke
        have t0 := keepc hb s0
        have t1 := keepc hb s1
        have t2 := keepc hb s2
        have hzt : w.heap.size < wr.heap.size := block_lt t0
        have HbF := Lib.hid (bstep Hbw.out hb)
        have Hbe := Lib.hid hbe
        have hbx := hb
        have u0 : wr.frozen? ⟨w.heap.size, 0, none⟩ = false := (hb.frozen (p := ⟨w.heap.size, 0, none⟩) hz1).trans G0
        have u1 : wr.frozen? ⟨w.heap.size, 1, none⟩ = false := (hb.frozen (p := ⟨w.heap.size, 1, none⟩) hz1).trans G1
        have u2 : wr.frozen? ⟨w.heap.size, 2, none⟩ = false := (hb.frozen (p := ⟨w.heap.size, 2, none⟩) hz1).trans G2
        clear hb ho hbe hbx
        cases hfd : b.fd
        · have hbn := hbok.2 hfd
          have hq : b.sm < 0 := by rw [hbn]; decide
          have Hbn := Lib.hid hbn
          clear hbok hfd hbn
          go_wp2
          refine bodyPost_ret (v := .tuple #[.agg #[.int .i64 0, .int .i64 0, .int .i64 0], .int .i64 0, .bool false]) (by simp [results, Try.results17, go_sem, t0, t1, t2]) rfl ?_
          rw [← Hbe.out, Hbn.out]
          exact ⟨rfl, ((HbF.out.setCell (p := ⟨w.heap.size, 0, none⟩) (Nat.le_refl _) _).setCell (p := ⟨w.heap.size, 1, none⟩) (Nat.le_refl _) _).setCell (p := ⟨w.heap.size, 2, none⟩) (Nat.le_refl _) _⟩
        · have hbm := hbok.1 hfd
          have hsm : b.sm = b.mo := by unfold Bst.sm; rw [hfd]; rfl
          have hq : ¬ b.mo < 0 := by omega
          have Hfd := Lib.hid hfd
          rw [hsm]
          clear hbok hfd hsm
          go_wp2
          refine bodyPost_ret (v := .tuple #[.agg #[.int .i64 b.pl.1, .int .i64 b.pl.2.1, .int .i64 b.pl.2.2], .int .i64 b.mo, .bool true]) (by simp [results, Try.results17, go_sem, t0, t1, t2]) rfl ?_
          rw [← Hbe.out]
          refine ⟨by rw [Hfd.out], ((HbF.out.setCell (p := ⟨w.heap.size, 0, none⟩) (Nat.le_refl _) _).setCell (p := ⟨w.heap.size, 1, none⟩) (Nat.le_refl _) _).setCell (p := ⟨w.heap.size, 2, none⟩) (Nat.le_refl _) _⟩
end Go.Proofs.Ytnnkdnleencofab

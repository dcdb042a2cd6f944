/- Hands dealt: the specification. -/
import Derived.Test.YtjdnkcdnppcbhaaDlW
import Derived.Test.YtjdnkcdnppcbhaaChain
import Derived.Test.YtjdnkcdnppcbhaaRegK
import Derived.Deep.Cut
import Derived.BigQuiet
import Derived.Deep.RegionHeld3
namespace Go.Proofs.Ytjdnkcdnppcbhaa
open Go.RowKit
set_option linter.unusedVariables false

set_option maxRecDepth 100000 in
set_option maxHeartbeats 8000000 in
theorem c_specDeal (h e z : Int) (w : World) :
    Calls Try.prog 39 #[.int .i64 h, .int .i64 e, .int .i64 z] w (RetTT w (dealT0 h e z) (dealT1 h e z) (dealB h e z)) := by
  have hbad : dealB h e z = false → (dealT0 h e z = [] ∧ dealT1 h e z = [] ∧ dealB h e z = false) := fun hb => ⟨by unfold dealT0; rw [hb]; rfl, by unfold dealT1; rw [hb]; rfl, hb⟩
  have con1 := fun W => c_tiNumber h W
  have con3 := fun W => c_l1In z 0 9999 W
  cases h1 : numB h
  · obtain ⟨e1, e2, e3⟩ := hbad (by unfold dealB; rw [h1]; rfl)
    rw [e1, e2, e3]
    clear hbad e1 e2 e3
    simp only [h1] at con1
    have Con1 := Lib.hid con1
    have Con3 := Lib.hid con3
    clear con1 con3 h1
    go_enter Try.func39, Try.ntmps39
    go_wp2_with (first | (go_at_call 74; refine (Con1.out _).mono ?_; rintro e' w' ⟨rfl, rfl⟩) | (go_at_call 79; refine (Con3.out _).mono ?_; rintro e' w' ⟨rfl, rfl⟩))
    go_ret3
    exact ⟨none, 0, none, 0, rfl, World.ownsRow_nil _ _ _ _, World.ownsRow_nil _ _ _ _, ApG.nil_, Below.refl _ _⟩
  simp only [h1] at con1
  obtain ⟨n, hn9, rfl⟩ := numB_nat h1
  have Con1 := Lib.hid con1
  clear con1
  have tf : ((n : Int) + 1) * ((n : Int) + 2) ≤ 110 ∧ 2 ≤ ((n : Int) + 1) * ((n : Int) + 2) ∧ (((n : Int) + 1) * ((n : Int) + 2)).tdiv 2 = ((setL n).length : Int) ∧ (setL n).length ≤ 55 ∧ 3 ≤ (setL n).length + 2 := tri_facts ⟨n, by omega⟩
  obtain ⟨t1, t2, t3, t4, t5⟩ := tf
  obtain ⟨M, hM⟩ : ∃ M, M = (setL n).length := ⟨_, rfl⟩
  rw [← hM] at t3 t4 t5
  have v1 : IntKind.i64.wrap ((n : Int) + 1) = (n : Int) + 1 := IntWalk.i64_in _ (by omega)
  have v2 : IntKind.i64.wrap ((n : Int) + 2) = (n : Int) + 2 := IntWalk.i64_in _ (by omega)
  have v3 : IntKind.i64.wrap (((n : Int) + 1) * ((n : Int) + 2)) = ((n : Int) + 1) * ((n : Int) + 2) := IntWalk.i64_in _ (by omega)
  have v4 : IntKind.i64.wrap (M : Int) = (M : Int) := IntWalk.i64_in _ (by omega)
  by_cases h2 : e < 0
  · obtain ⟨e1, e2, e3⟩ := hbad (by unfold dealB dlEach; rw [decide_eq_false (show ¬ 0 ≤ e by omega)]; simp)
    rw [e1, e2, e3]
    clear hbad e1 e2 e3
    have Con3 := Lib.hid con3
    clear con3 h1 hM
    go_enter Try.func39, Try.ntmps39
    go_wp2_with (first | (go_at_call 74; refine (Con1.out _).mono ?_; rintro e' w' ⟨rfl, rfl⟩) | (go_at_call 79; refine (Con3.out _).mono ?_; rintro e' w' ⟨rfl, rfl⟩))
    go_ret3
    exact ⟨none, 0, none, 0, rfl, World.ownsRow_nil _ _ _ _, World.ownsRow_nil _ _ _ _, ApG.nil_, Below.refl _ _⟩
  by_cases h3 : 55 < e
  · obtain ⟨e1, e2, e3⟩ := hbad (by unfold dealB dlEach; rw [decide_eq_false (show ¬ 2 * e ≤ ((setL (n : Int).toNat).length : Int) by rw [show (n : Int).toNat = n from rfl, ← hM]; omega)]; simp)
    rw [e1, e2, e3]
    clear hbad e1 e2 e3
    have Con3 := Lib.hid con3
    clear con3 h1 hM
    go_enter Try.func39, Try.ntmps39
    go_wp2_with (first | (go_at_call 74; refine (Con1.out _).mono ?_; rintro e' w' ⟨rfl, rfl⟩) | (go_at_call 79; refine (Con3.out _).mono ?_; rintro e' w' ⟨rfl, rfl⟩))
    go_ret3
    exact ⟨none, 0, none, 0, rfl, World.ownsRow_nil _ _ _ _, World.ownsRow_nil _ _ _ _, ApG.nil_, Below.refl _ _⟩
  have v5 : IntKind.i64.wrap (2 * e) = 2 * e := IntWalk.i64_in _ (by omega)
  by_cases h4 : (M : Int) < 2 * e
  · obtain ⟨e1, e2, e3⟩ := hbad (by unfold dealB dlEach; rw [decide_eq_false (show ¬ 2 * e ≤ ((setL (n : Int).toNat).length : Int) by rw [show (n : Int).toNat = n from rfl, ← hM]; omega)]; simp)
    rw [e1, e2, e3]
    clear hbad e1 e2 e3
    have Con3 := Lib.hid con3
    clear con3 h1 hM
    go_enter Try.func39, Try.ntmps39
    go_wp2_with (first | (go_at_call 74; refine (Con1.out _).mono ?_; rintro e' w' ⟨rfl, rfl⟩) | (go_at_call 79; refine (Con3.out _).mono ?_; rintro e' w' ⟨rfl, rfl⟩))
    go_ret3
    exact ⟨none, 0, none, 0, rfl, World.ownsRow_nil _ _ _ _, World.ownsRow_nil _ _ _ _, ApG.nil_, Below.refl _ _⟩
  cases h5 : (decide (0 ≤ z) && decide (z ≤ 9999))
  · obtain ⟨e1, e2, e3⟩ := hbad (by unfold dealB; rw [h5]; simp)
    rw [e1, e2, e3]
    clear hbad e1 e2 e3
    simp only [h5] at con3
    have Con3 := Lib.hid con3
    clear con3 h1 hM h5
    go_enter Try.func39, Try.ntmps39
    go_wp2_with (first | (go_at_call 74; refine (Con1.out _).mono ?_; rintro e' w' ⟨rfl, rfl⟩) | (go_at_call 79; refine (Con3.out _).mono ?_; rintro e' w' ⟨rfl, rfl⟩))
    go_ret3
    exact ⟨none, 0, none, 0, rfl, World.ownsRow_nil _ _ _ _, World.ownsRow_nil _ _ _ _, ApG.nil_, Below.refl _ _⟩
  simp only [h5] at con3
  have Con3 := Lib.hid con3
  have conS := Lib.hid (fun W => c_tiSet n (by omega) W)
  obtain ⟨E, rfl⟩ : ∃ E : Nat, e = E := ⟨e.toNat, by omega⟩
  have hB : dealB n E z = true := by
    unfold dealB dlEach
    rw [h1, decide_eq_true (show 0 ≤ (E : Int) by omega), decide_eq_true (show 2 * (E : Int) ≤ ((setL (n : Int).toNat).length : Int) by rw [show (n : Int).toNat = n from rfl, ← hM]; omega), h5]
    rfl
  have eT0 : dealT0 n E z = sortL (dlS n z (2 * E)).h0 := by
    unfold dealT0
    rw [hB, show (2 * (E : Int)).toNat = 2 * E by omega]
    rfl
  have eT1 : dealT1 n E z = sortL (dlS n z (2 * E)).h1 := by
    unfold dealT1
    rw [hB, show (2 * (E : Int)).toNat = 2 * E by omega]
    rfl
  rw [hB, eT0, eT1]
  obtain ⟨hz0, hz1⟩ : 0 ≤ z ∧ z ≤ 9999 := by simpa [Bool.and_eq_true] using h5
  have h2E : 2 * E ≤ M := by omega
  obtain ⟨S, hS⟩ : ∃ S : Nat → Dl, S = dlS n z := ⟨_, rfl⟩
  have SN := Lib.hid (fun k => (show (S k).left.Nodup by rw [hS]; exact dlS_nodup hn9 z k))
  have SL := Lib.hid (fun k (hk : k ≤ 2 * E) => (show (S k).left.length = M - k by rw [hS, dlS_len (by omega), ← hM]))
  have SZ := Lib.hid (fun k => (show 0 ≤ (S k).z ∧ (S k).z ≤ 10006 by rw [hS]; exact dlN_z _ ⟨by show 0 ≤ z; omega, by show z ≤ 10006; omega⟩ k))
  have SH := Lib.hid (fun k (hk : k ≤ 2 * E) => (show handB (S k).h0 = true ∧ handB (S k).h1 = true by rw [hS]; exact ⟨dlS_hand0 hn9 (by omega), dlS_hand1 hn9 (by omega)⟩))
  have SS := Lib.hid (fun k => (show S (k + 1) = dlStep k (S k) by rw [hS]; rfl))
  have S0 := Lib.hid (show S 0 = { left := setL n, z := z, h0 := [], h1 := [] } by rw [hS]; rfl)
  have hMs := Lib.hid hM
  rw [← hS]
  have HT3 := Lib.hid t3
  clear con3 h5 hB eT0 eT1 hbad hS hM h1
  go_enter Try.func39, Try.ntmps39
  go_wp2_with (first | (go_at_call 74; refine (Con1.out _).mono ?_; rintro e' w' ⟨rfl, rfl⟩) | (go_at_call 79; refine (Con3.out _).mono ?_; rintro e' w' ⟨rfl, rfl⟩) | (go_at_call 92; fail))
  refine (conS.out _).mono ?_
  rintro e' w1 ⟨A9, c9, rfl, o9, h1⟩
  clear t3 v1 v2 v3 v4 v5 t1 t2
  go_wp2_with fail
  obtain ⟨nb, hnb⟩ : ∃ nb, nb = w1.heap.size := ⟨_, rfl⟩
  obtain ⟨w2, hw2⟩ : ∃ w2, w2 = w1.alloc (.cells #[.slice none 0 0, .slice none 0 0] 102) := ⟨_, rfl⟩
  rw [← hw2]
  have b2 : Below w1.heap.size w1 w2 := by rw [hw2]; exact (Below.refl _ _).alloc (Nat.le_refl _) _
  have bx : Bx2 w2 nb (.slice none 0 0) (.slice none 0 0) := by rw [hw2, hnb]; exact Bx2.fresh w1 _ _ _
  have hb2 := bstep h1 b2
  have d2 : DlW w.heap.size nb w2 A9 c9 (setL n) none 0 [] none 0 [] :=
    { bx := bx, o9 := own_keep o9 b2, o0 := World.ownsRow_nil _ _ _ _, o1 := World.ownsRow_nil _ _ _ _, a01 := ApG.nil_, a90 := ApG.nil', a91 := ApG.nil', n9 := fun g hg e => by have := (o9.lt g hg).2; omega }
  rw [← hnb]
  have hwn : w.heap.size ≤ nb := by have := h1.size; omega
  clear hw2 hnb b2 bx o9 h1
  go_wp2
  go_loopw [9, 11, 12] (fun l zv kv wr => ∃ (k : Nat) (A9 : Option Addr) (c9 : Nat) (A0 : Option Addr) (c0 : Nat) (A1 : Option Addr) (c1 : Nat), k ≤ 2 * E ∧ kv = .int .i64 k ∧ l = .slice A9 (S k).left.length c9 ∧ zv = .int .i64 (S k).z ∧ DlW w.heap.size nb wr A9 c9 (S k).left A0 c0 (S k).h0 A1 c1 (S k).h1 ∧ Below w.heap.size w wr) (fun _ _ i _ => 2 * E - (intOf i).toNat)
  case atStart => exact ⟨0, A9, c9, none, 0, none, 0, Nat.zero_le _, rfl, by rw [S0.out], by rw [S0.out], by rw [S0.out]; exact d2, hb2⟩
  case round =>
    clear hb2 d2
    obtain ⟨k, A9, c9, A0, c0, A1, c1, hk, rfl, rfl, rfl, d, hb⟩ := hrel
    have hh := SH.out k hk
    have hl0 := (of_decide_eq_true hh.1 : handP _).1
    have hl1 := (of_decide_eq_true hh.2 : handP _).1
    have hL := SL.out k hk
    have hzk := SZ.out k
    have hnd := SN.out k
    have st := SS.out k
    generalize hsk : S k = s at *
    obtain ⟨L, zz, H0, H1⟩ := s
    simp only at hh hl0 hl1 hL hzk hnd d ⊢
    have Hsk := Lib.hid hsk
    have hLa : L.length ≤ M - k := by omega
    have hLb : M - k ≤ L.length := by omega
    clear hsk hL
    by_cases hlt : k < 2 * E
    · have hpos : 0 < L.length := by omega
      have hL55 : L.length ≤ 55 := by omega
      have hi := dlAt_lt (d := ⟨L, zz, H0, H1⟩) hpos
      have hat : dlZ zz % (L.length : Int) = (dlAt ⟨L, zz, H0, H1⟩ : Int) := by
        unfold dlAt
        have h1 := Int.emod_nonneg (dlZ zz) (show (L.length : Int) ≠ 0 by omega)
        exact (Int.toNat_of_nonneg h1).symm
      have hy := dlZ_bd zz
      have e1 : IntKind.i64.wrap (zz * 163) = zz * 163 := IntWalk.i64_in _ (by omega)
      have e2 : IntKind.i64.wrap (zz * 163 + 229) = zz * 163 + 229 := IntWalk.i64_in _ (by omega)
      have e3 : (zz * 163 + 229).tmod 10007 = dlZ zz := by unfold dlZ; exact Int.tmod_eq_emod_of_nonneg (by omega)
      have e5 : IntKind.i64.wrap (dlZ zz) = dlZ zz := IntWalk.i64_in _ (by omega)
      have e6 : (dlZ zz).tmod (L.length : Int) = (dlAt ⟨L, zz, H0, H1⟩ : Int) := (Int.tmod_eq_emod_of_nonneg hy.1).trans hat
      have q1 : (S (k + 1)).left = L.eraseIdx (dlAt ⟨L, zz, H0, H1⟩) := by rw [st]; rfl
      have q2 : (S (k + 1)).z = dlZ zz := by rw [st]; rfl
      have q3 := dlStep_ev0 (k := k) (d := ⟨L, zz, H0, H1⟩)
      have q4 := dlStep_ev1 (k := k) (d := ⟨L, zz, H0, H1⟩)
      have q5 := dlStep_od0 (k := k) (d := ⟨L, zz, H0, H1⟩)
      have q6 := dlStep_od1 (k := k) (d := ⟨L, zz, H0, H1⟩)
      rw [← st] at q3 q4 q5 q6
      have hwo := wo_erase hnd hi
      simp only at q3 q4 q5 q6 hi hat hwo
      generalize dlAt ⟨L, zz, H0, H1⟩ = i at *
      generalize dlZ zz = y at *
      obtain ⟨p, q, hpq⟩ : ∃ p q, L[i] = (p, q) := ⟨L[i].1, L[i].2, rfl⟩
      have e7 : IntKind.i64.wrap (i : Int) = (i : Int) := IntWalk.i64_in _ (by omega)
      have ez : ((L.length : Int) == 0) = false := by rw [beq_eq_false_iff_ne]; omega
      have ez2 : ¬ (L.length : Int) = 0 := by omega
      have j0 : (0 : Int) ≤ (i : Int) := by omega
      have j1 : (i : Int) < (L.length : Int) := by omega
      have ekk : IntKind.i64.wrap (2 * (E : Int)) = 2 * (E : Int) := IntWalk.i64_in _ (by omega)
      rw [hpq] at hwo
      clear hat
      by_cases hpar : k % 2 = 0
      · skip
        have hmod : (k : Int).tmod 2 = 0 := by rw [Int.tmod_eq_emod_of_nonneg (by omega)]; omega
        have Q1 := Lib.hid q1
        have Q2 := Lib.hid q2
        have Q3 := Lib.hid ((q3 hpar hi).trans (by rw [hpq]))
        have Q4 := Lib.hid (q4 hpar)
        obtain ⟨bk, off, hA9, hbk, hc⟩ := (RdT.of_own d.o9).at_ hi
        have g1 := (hc i hi).1
        have g2 := (hc i hi).2
        rw [hpq] at g1 g2
        have Hwo := Lib.hid hwo
        have Hnd := Lib.hid hnd
        have D := Lib.hid d
        have hbx := d.bx.lt
        clear hc hwo hnd q1 q2 q3 q4 q5 q6 st hpq d
        subst hA9
        go_wp2_with fail
        obtain ⟨gt, hgt⟩ : ∃ gt, gt = wr.heap.size := ⟨_, rfl⟩
        obtain ⟨w1, hw1⟩ : ∃ w1, w1 = wr.alloc (.cells #[.int .i64 p, .int .i64 q] 82) := ⟨_, rfl⟩
        rw [← hw1]
        have b1 : Below wr.heap.size wr w1 := by rw [hw1]; exact (Below.refl _ _).alloc (Nat.le_refl _) _
        have t0 : w1.cell? ⟨gt, 0, none⟩ = some (.int .i64 p) := by rw [hw1, hgt]; simp
        have t1 : w1.cell? ⟨gt, 1, none⟩ = some (.int .i64 q) := by rw [hw1, hgt]; simp
        have z1 : gt < w1.heap.size := by rw [hw1, World.size_alloc]; omega
        rw [← hgt]
        have d1 := (D.out.keep b1).drew
        have ogt : ∀ g, (Value.slice A0 H0.length c0).ownBlock = some g → g < gt := fun g hg => by have := (D.out.o0.lt g hg).2; omega
        have hb1 := (bstep hb b1).drew
        have hnb : nb < gt := by omega
        clear hw1 b1 hb g1 g2
        have b2 : Below w1.drew.heap.size w1.drew (w1.drew.alloc (.cells #[.int .i64 p, .int .i64 q] 82)) := (Below.refl _ _).alloc (Nat.le_refl _) _
        have d2 := d1.keep b2
        have hb2 := bstep hb1 b2
        have T0 := keepc b2 (gdG _ t0)
        have T1 := keepc b2 (gdG _ t1)
        have z2 : gt < (w1.drew.alloc (.cells #[.int .i64 p, .int .i64 q] 82)).heap.size := block_lt T0
        have hx0 : (w1.drew.alloc (.cells #[.int .i64 p, .int .i64 q] 82)).cell? ⟨w1.drew.heap.size, 0, none⟩ = some (.int .i64 p) := (show (w1.alloc (.cells #[.int .i64 p, .int .i64 q] 82)).cell? ⟨w1.heap.size, 0, none⟩ = _ by simp)
        have hx1 : (w1.drew.alloc (.cells #[.int .i64 p, .int .i64 q] 82)).cell? ⟨w1.drew.heap.size, 1, none⟩ = some (.int .i64 q) := (show (w1.alloc (.cells #[.int .i64 p, .int .i64 q] 82)).cell? ⟨w1.heap.size, 1, none⟩ = _ by simp)
        have hcd : nb + 1 ≤ (w1.drew.alloc (.cells #[.int .i64 p, .int .i64 q] 82)).heap.size := by omega
        clear b2 hgt
        refine wp_regK (k0 := 10) (S := fun w' => w'.cell? ⟨nb, 0, none⟩ = some (.slice A0 H0.length c0) ∧ w'.cell? ⟨gt, 0, none⟩ = some (.int .i64 p) ∧ w'.cell? ⟨gt, 1, none⟩ = some (.int .i64 q)) (by kernel_rfl) ⟨d1.bx.c0, gdG _ t0, gdG _ t1⟩ (fun hH0 => ?_)
        refine regK_take 0 rfl (by kernel_rfl) (by kernel_rfl) (by kernel_rfl) (by kernel_rfl) (by kernel_rfl) (fun _ _ _ h => h) (by rfl) (fun w _ => by first | (go_simp; done) | (go_simp; with_reducible rfl)) (by assumption) ?_
        try simp only [Act.put, List.setIfInBounds_toArray, List.set_cons_zero, List.set_cons_succ, List.getElem_toArray, List.getElem_cons_zero]
        refine regK_take 1 rfl (by kernel_rfl) (by kernel_rfl) (by kernel_rfl) (by kernel_rfl) (by kernel_rfl) (fun _ _ _ h => h) (by rfl) (fun w _ => by first | (go_simp; done) | (go_simp; with_reducible rfl)) (by assumption) ?_
        try simp only [Act.put, List.setIfInBounds_toArray, List.set_cons_zero, List.set_cons_succ, List.getElem_toArray, List.getElem_cons_zero, List.getElem_cons_succ]
        refine regK_take 2 rfl (by kernel_rfl) (by kernel_rfl) (by kernel_rfl) (by kernel_rfl) (by kernel_rfl) (fun _ _ _ h => h) (by rfl) (fun w _ => by first | (go_simp; done) | (go_simp; with_reducible rfl)) (by assumption) ?_
        try simp only [Act.put, List.setIfInBounds_toArray, List.set_cons_zero, List.set_cons_succ, List.getElem_toArray, List.getElem_cons_zero, List.getElem_cons_succ]
        refine regK_take 3 rfl (by kernel_rfl) (by kernel_rfl) (by kernel_rfl) (by kernel_rfl) (by kernel_rfl) (fun _ _ _ h => h) (by rfl) (fun w _ => by first | (go_simp; done) | (go_simp; with_reducible rfl)) (by assumption) ?_
        try simp only [Act.put, List.setIfInBounds_toArray, List.set_cons_zero, List.set_cons_succ, List.getElem_toArray, List.getElem_cons_zero, List.getElem_cons_succ]
        refine regK_take 4 rfl (by kernel_rfl) (by kernel_rfl) (by kernel_rfl) (by kernel_rfl) (by kernel_rfl) (fun _ _ _ h => h) (by rfl) (fun w _ => by first | (go_simp; done) | (go_simp; with_reducible rfl)) (by assumption) ?_
        try simp only [Act.put, List.setIfInBounds_toArray, List.set_cons_zero, List.set_cons_succ, List.getElem_toArray, List.getElem_cons_zero, List.getElem_cons_succ]
        refine regK_take 5 rfl (by kernel_rfl) (by kernel_rfl) (by kernel_rfl) (by kernel_rfl) (by kernel_rfl) (fun _ _ _ h => h) (by rfl) (fun w hSw => by (try dsimp only at hSw); first | (go_simp; done) | (go_simp; with_reducible rfl)) (by assumption) ?_
        try simp only [Act.put, List.setIfInBounds_toArray, List.set_cons_zero, List.set_cons_succ, List.getElem_toArray, List.getElem_cons_zero, List.getElem_cons_succ]
        refine regK_take 6 rfl (by kernel_rfl) (by kernel_rfl) (by kernel_rfl) (by kernel_rfl) (by kernel_rfl) (fun _ _ _ h => h) (by rfl) (fun w hSw => by (try dsimp only at hSw); first | (go_simp; done) | (go_simp; with_reducible rfl)) (by assumption) ?_
        try simp only [Act.put, List.setIfInBounds_toArray, List.set_cons_zero, List.set_cons_succ, List.getElem_toArray, List.getElem_cons_zero, List.getElem_cons_succ]
        refine regK_one 7 rfl (by kernel_rfl) (fun K hK => ?_)
        go_simp
        skip
        refine regK_go hK ⟨d2.bx.c0, T0, T1⟩ (fun hH7 => ?_)
        clear hK K
        try simp only [Act.put, List.setIfInBounds_toArray, List.set_cons_zero, List.set_cons_succ, List.getElem_toArray, List.getElem_cons_zero, List.getElem_cons_succ]
        refine regK_one 8 rfl (by kernel_rfl) (fun K hK => ?_)
        refine step_append_tile_at rfl (.tmp 66) (.tmp 68) rfl (nb + 1) (.slice A0 H0.length c0) H0 rfl d2.o0 p q w1.heap.size rfl hx0 hx1 (by omega) hcd ?_
        intro A5 c5 w5 own5 hg5 hat5
        have bx5 := d2.bx.of_block (hg5.block nb d2.bx.lt (fun e => absurd (d2.o0.lt _ e.symm).1 (by omega)))
        have T0b := (World.cell?_of_block (a := ⟨gt, 0, none⟩) (hg5.block gt z2 (fun e => absurd (ogt _ e.symm) (by omega)))).trans T0
        have T1b := (World.cell?_of_block (a := ⟨gt, 1, none⟩) (hg5.block gt z2 (fun e => absurd (ogt _ e.symm) (by omega)))).trans T1
        have y0 := bx5.c0
        have fz0 := bx5.fz 0
        refine regK_go hK ⟨bx5.c0, T0b, T1b⟩ (fun hH8 => ?_)
        clear hK K
        try simp only [Act.put, List.setIfInBounds_toArray, List.set_cons_zero, List.set_cons_succ, List.getElem_toArray, List.getElem_cons_zero, List.getElem_cons_succ]
        refine regK_take 9 rfl (by kernel_rfl) (by kernel_rfl) (by kernel_rfl) (by kernel_rfl) (by kernel_rfl) (fun _ _ _ h => h) (by rfl) (fun w _ => by first | (go_simp; done) | (go_simp; with_reducible rfl)) (by assumption) ?_
        try simp only [Act.put, List.setIfInBounds_toArray, List.set_cons_zero, List.set_cons_succ, List.getElem_toArray, List.getElem_cons_zero, List.getElem_cons_succ]
        refine regK_one 10 rfl (by kernel_rfl) (fun K hK => ?_)
        go_simp
        refine regK_on hK (by kernel_rfl) ?_
        clear hK K
        try simp only [Act.put, List.setIfInBounds_toArray, List.set_cons_zero, List.set_cons_succ, List.getElem_toArray, List.getElem_cons_zero, List.getElem_cons_succ]
        refine regK_done (by kernel_rfl) ?_ _
        have hl : (H0 ++ [(p, q)]).length = H0.length + 1 := by simp
        have d6 := d2.push0 (H := H0 ++ [(p, q)]) (by rw [hl]; exact own5) hg5 (by rw [hl]; exact hat5)
        rw [hl] at d6
        have hb6 : Below w.heap.size w (w5.setCell ⟨nb, 0, none⟩ (.slice A5 (H0.length + 1) c5)) := below_box (hb2.trans (below_of_grown hg5 (by have := hb2.size; omega) (fun g hg => by have := (d2.o0.lt g hg).1; omega))) (by omega)
        have T0c : (w5.setCell ⟨nb, 0, none⟩ (.slice A5 (H0.length + 1) c5)).cell? ⟨gt, 0, none⟩ = some (.int .i64 p) := (World.cell?_setCell_other _ _ _ _ (by simp <;> omega)).trans T0b
        have T1c : (w5.setCell ⟨nb, 0, none⟩ (.slice A5 (H0.length + 1) c5)).cell? ⟨gt, 1, none⟩ = some (.int .i64 q) := (World.cell?_setCell_other _ _ _ _ (by simp <;> omega)).trans T1b
        obtain ⟨w6, hw6⟩ : ∃ w6, w6 = w5.setCell ⟨nb, 0, none⟩ (.slice A5 (H0.length + 1) c5) := ⟨_, rfl⟩
        rw [← hw6] at d6 hb6 T0c T1c ⊢
        have conW : Calls Try.prog 93 #[.slice (some ⟨bk, off, none⟩) L.length c9, .agg #[.int .i64 p, .int .i64 q]] w6 (RetL w6 (L.eraseIdx i)) := by
          rw [← Hwo.out]
          exact c_plWithout _ c9 L p q w6 (RdT.of_own d6.o9) (by omega)
        have ConW := Lib.hid conW
        clear conW hw6 hat5 hg5 own5 bx5 T0b T1b y0 fz0 d2 d1 T0 T1 hx0 hx1 hb2 hb1 t0 t1 hl D
        go_wp2_with fail
        refine ConW.out.mono ?_
        rintro e' w7 ⟨A7, c7, rfl, o7, h7⟩
        have D7 := Lib.hid (d6.anew h7 (by have := hb6.size; omega) o7)
        have HB7 := Lib.hid (bstep hb6 h7)
        clear d6 o7 h7 hb6 T0c T1c
        go_wp2
        go_roundw
        case rel =>
          refine ⟨k + 1, A7, c7, A5, c5, A1, c1, by omega, by go_num, by rw [Q1.out], by rw [Q2.out], ?_, HB7.out⟩
          rw [Q1.out, Q3.out, Q4.out]
          exact D7.out
        case measure => simp [intOf]; omega
      · skip
        have hmod : (k : Int).tmod 2 = 1 := by rw [Int.tmod_eq_emod_of_nonneg (by omega)]; omega
        have Q1 := Lib.hid q1
        have Q2 := Lib.hid q2
        have Q3 := Lib.hid (q5 hpar)
        have Q4 := Lib.hid ((q6 hpar hi).trans (by rw [hpq]))
        obtain ⟨bk, off, hA9, hbk, hc⟩ := (RdT.of_own d.o9).at_ hi
        have g1 := (hc i hi).1
        have g2 := (hc i hi).2
        rw [hpq] at g1 g2
        have Hwo := Lib.hid hwo
        have Hnd := Lib.hid hnd
        have D := Lib.hid d
        have hbx := d.bx.lt
        clear hc hwo hnd q1 q2 q3 q4 q5 q6 st hpq d
        subst hA9
        go_wp2_with fail
        obtain ⟨gt, hgt⟩ : ∃ gt, gt = wr.heap.size := ⟨_, rfl⟩
        obtain ⟨w1, hw1⟩ : ∃ w1, w1 = wr.alloc (.cells #[.int .i64 p, .int .i64 q] 82) := ⟨_, rfl⟩
        rw [← hw1]
        have b1 : Below wr.heap.size wr w1 := by rw [hw1]; exact (Below.refl _ _).alloc (Nat.le_refl _) _
        have t0 : w1.cell? ⟨gt, 0, none⟩ = some (.int .i64 p) := by rw [hw1, hgt]; simp
        have t1 : w1.cell? ⟨gt, 1, none⟩ = some (.int .i64 q) := by rw [hw1, hgt]; simp
        have z1 : gt < w1.heap.size := by rw [hw1, World.size_alloc]; omega
        rw [← hgt]
        have d1 := (D.out.keep b1).drew
        have ogt : ∀ g, (Value.slice A1 H1.length c1).ownBlock = some g → g < gt := fun g hg => by have := (D.out.o1.lt g hg).2; omega
        have hb1 := (bstep hb b1).drew
        have hnb : nb < gt := by omega
        clear hw1 b1 hb g1 g2
        have b2 : Below w1.drew.heap.size w1.drew (w1.drew.alloc (.cells #[.int .i64 p, .int .i64 q] 82)) := (Below.refl _ _).alloc (Nat.le_refl _) _
        have d2 := d1.keep b2
        have hb2 := bstep hb1 b2
        have T0 := keepc b2 (gdG _ t0)
        have T1 := keepc b2 (gdG _ t1)
        have z2 : gt < (w1.drew.alloc (.cells #[.int .i64 p, .int .i64 q] 82)).heap.size := block_lt T0
        have hx0 : (w1.drew.alloc (.cells #[.int .i64 p, .int .i64 q] 82)).cell? ⟨w1.drew.heap.size, 0, none⟩ = some (.int .i64 p) := (show (w1.alloc (.cells #[.int .i64 p, .int .i64 q] 82)).cell? ⟨w1.heap.size, 0, none⟩ = _ by simp)
        have hx1 : (w1.drew.alloc (.cells #[.int .i64 p, .int .i64 q] 82)).cell? ⟨w1.drew.heap.size, 1, none⟩ = some (.int .i64 q) := (show (w1.alloc (.cells #[.int .i64 p, .int .i64 q] 82)).cell? ⟨w1.heap.size, 1, none⟩ = _ by simp)
        have hcd : nb + 1 ≤ (w1.drew.alloc (.cells #[.int .i64 p, .int .i64 q] 82)).heap.size := by omega
        clear b2 hgt
        refine wp_regK (k0 := 10) (S := fun w' => w'.cell? ⟨nb, 1, none⟩ = some (.slice A1 H1.length c1) ∧ w'.cell? ⟨gt, 0, none⟩ = some (.int .i64 p) ∧ w'.cell? ⟨gt, 1, none⟩ = some (.int .i64 q)) (by kernel_rfl) ⟨d1.bx.c1, gdG _ t0, gdG _ t1⟩ (fun hH0 => ?_)
        refine regK_take 0 rfl (by kernel_rfl) (by kernel_rfl) (by kernel_rfl) (by kernel_rfl) (by kernel_rfl) (fun _ _ _ h => h) (by rfl) (fun w _ => by first | (go_simp; done) | (go_simp; with_reducible rfl)) (by assumption) ?_
        try simp only [Act.put, List.setIfInBounds_toArray, List.set_cons_zero, List.set_cons_succ, List.getElem_toArray, List.getElem_cons_zero]
        refine regK_take 1 rfl (by kernel_rfl) (by kernel_rfl) (by kernel_rfl) (by kernel_rfl) (by kernel_rfl) (fun _ _ _ h => h) (by rfl) (fun w _ => by first | (go_simp; done) | (go_simp; with_reducible rfl)) (by assumption) ?_
        try simp only [Act.put, List.setIfInBounds_toArray, List.set_cons_zero, List.set_cons_succ, List.getElem_toArray, List.getElem_cons_zero, List.getElem_cons_succ]
        refine regK_take 2 rfl (by kernel_rfl) (by kernel_rfl) (by kernel_rfl) (by kernel_rfl) (by kernel_rfl) (fun _ _ _ h => h) (by rfl) (fun w _ => by first | (go_simp; done) | (go_simp; with_reducible rfl)) (by assumption) ?_
        try simp only [Act.put, List.setIfInBounds_toArray, List.set_cons_zero, List.set_cons_succ, List.getElem_toArray, List.getElem_cons_zero, List.getElem_cons_succ]
        refine regK_take 3 rfl (by kernel_rfl) (by kernel_rfl) (by kernel_rfl) (by kernel_rfl) (by kernel_rfl) (fun _ _ _ h => h) (by rfl) (fun w _ => by first | (go_simp; done) | (go_simp; with_reducible rfl)) (by assumption) ?_
        try simp only [Act.put, List.setIfInBounds_toArray, List.set_cons_zero, List.set_cons_succ, List.getElem_toArray, List.getElem_cons_zero, List.getElem_cons_succ]
        refine regK_take 4 rfl (by kernel_rfl) (by kernel_rfl) (by kernel_rfl) (by kernel_rfl) (by kernel_rfl) (fun _ _ _ h => h) (by rfl) (fun w _ => by first | (go_simp; done) | (go_simp; with_reducible rfl)) (by assumption) ?_
        try simp only [Act.put, List.setIfInBounds_toArray, List.set_cons_zero, List.set_cons_succ, List.getElem_toArray, List.getElem_cons_zero, List.getElem_cons_succ]
        refine regK_take 5 rfl (by kernel_rfl) (by kernel_rfl) (by kernel_rfl) (by kernel_rfl) (by kernel_rfl) (fun _ _ _ h => h) (by rfl) (fun w hSw => by (try dsimp only at hSw); first | (go_simp; done) | (go_simp; with_reducible rfl)) (by assumption) ?_
        try simp only [Act.put, List.setIfInBounds_toArray, List.set_cons_zero, List.set_cons_succ, List.getElem_toArray, List.getElem_cons_zero, List.getElem_cons_succ]
        refine regK_take 6 rfl (by kernel_rfl) (by kernel_rfl) (by kernel_rfl) (by kernel_rfl) (by kernel_rfl) (fun _ _ _ h => h) (by rfl) (fun w hSw => by (try dsimp only at hSw); first | (go_simp; done) | (go_simp; with_reducible rfl)) (by assumption) ?_
        try simp only [Act.put, List.setIfInBounds_toArray, List.set_cons_zero, List.set_cons_succ, List.getElem_toArray, List.getElem_cons_zero, List.getElem_cons_succ]
        refine regK_one 7 rfl (by kernel_rfl) (fun K hK => ?_)
        go_simp
        skip
        refine regK_go hK ⟨d2.bx.c1, T0, T1⟩ (fun hH7 => ?_)
        clear hK K
        try simp only [Act.put, List.setIfInBounds_toArray, List.set_cons_zero, List.set_cons_succ, List.getElem_toArray, List.getElem_cons_zero, List.getElem_cons_succ]
        refine regK_one 8 rfl (by kernel_rfl) (fun K hK => ?_)
        refine step_append_tile_at rfl (.tmp 66) (.tmp 68) rfl (nb + 1) (.slice A1 H1.length c1) H1 rfl d2.o1 p q w1.heap.size rfl hx0 hx1 (by omega) hcd ?_
        intro A5 c5 w5 own5 hg5 hat5
        have bx5 := d2.bx.of_block (hg5.block nb d2.bx.lt (fun e => absurd (d2.o1.lt _ e.symm).1 (by omega)))
        have T0b := (World.cell?_of_block (a := ⟨gt, 0, none⟩) (hg5.block gt z2 (fun e => absurd (ogt _ e.symm) (by omega)))).trans T0
        have T1b := (World.cell?_of_block (a := ⟨gt, 1, none⟩) (hg5.block gt z2 (fun e => absurd (ogt _ e.symm) (by omega)))).trans T1
        have y0 := bx5.c1
        have fz0 := bx5.fz 1
        refine regK_go hK ⟨bx5.c1, T0b, T1b⟩ (fun hH8 => ?_)
        clear hK K
        try simp only [Act.put, List.setIfInBounds_toArray, List.set_cons_zero, List.set_cons_succ, List.getElem_toArray, List.getElem_cons_zero, List.getElem_cons_succ]
        refine regK_take 9 rfl (by kernel_rfl) (by kernel_rfl) (by kernel_rfl) (by kernel_rfl) (by kernel_rfl) (fun _ _ _ h => h) (by rfl) (fun w _ => by first | (go_simp; done) | (go_simp; with_reducible rfl)) (by assumption) ?_
        try simp only [Act.put, List.setIfInBounds_toArray, List.set_cons_zero, List.set_cons_succ, List.getElem_toArray, List.getElem_cons_zero, List.getElem_cons_succ]
        refine regK_one 10 rfl (by kernel_rfl) (fun K hK => ?_)
        go_simp
        refine regK_on hK (by kernel_rfl) ?_
        clear hK K
        try simp only [Act.put, List.setIfInBounds_toArray, List.set_cons_zero, List.set_cons_succ, List.getElem_toArray, List.getElem_cons_zero, List.getElem_cons_succ]
        refine regK_done (by kernel_rfl) ?_ _
        have hl : (H1 ++ [(p, q)]).length = H1.length + 1 := by simp
        have d6 := d2.push1 (H := H1 ++ [(p, q)]) (by rw [hl]; exact own5) hg5 (by rw [hl]; exact hat5)
        rw [hl] at d6
        have hb6 : Below w.heap.size w (w5.setCell ⟨nb, 1, none⟩ (.slice A5 (H1.length + 1) c5)) := below_box (hb2.trans (below_of_grown hg5 (by have := hb2.size; omega) (fun g hg => by have := (d2.o1.lt g hg).1; omega))) (by omega)
        have T0c : (w5.setCell ⟨nb, 1, none⟩ (.slice A5 (H1.length + 1) c5)).cell? ⟨gt, 0, none⟩ = some (.int .i64 p) := (World.cell?_setCell_other _ _ _ _ (by simp <;> omega)).trans T0b
        have T1c : (w5.setCell ⟨nb, 1, none⟩ (.slice A5 (H1.length + 1) c5)).cell? ⟨gt, 1, none⟩ = some (.int .i64 q) := (World.cell?_setCell_other _ _ _ _ (by simp <;> omega)).trans T1b
        obtain ⟨w6, hw6⟩ : ∃ w6, w6 = w5.setCell ⟨nb, 1, none⟩ (.slice A5 (H1.length + 1) c5) := ⟨_, rfl⟩
        rw [← hw6] at d6 hb6 T0c T1c ⊢
        have conW : Calls Try.prog 93 #[.slice (some ⟨bk, off, none⟩) L.length c9, .agg #[.int .i64 p, .int .i64 q]] w6 (RetL w6 (L.eraseIdx i)) := by
          rw [← Hwo.out]
          exact c_plWithout _ c9 L p q w6 (RdT.of_own d6.o9) (by omega)
        have ConW := Lib.hid conW
        clear conW hw6 hat5 hg5 own5 bx5 T0b T1b y0 fz0 d2 d1 T0 T1 hx0 hx1 hb2 hb1 t0 t1 hl D
        go_wp2_with fail
        refine ConW.out.mono ?_
        rintro e' w7 ⟨A7, c7, rfl, o7, h7⟩
        have D7 := Lib.hid (d6.anew h7 (by have := hb6.size; omega) o7)
        have HB7 := Lib.hid (bstep hb6 h7)
        clear d6 o7 h7 hb6 T0c T1c
        go_wp2
        go_roundw
        case rel =>
          refine ⟨k + 1, A7, c7, A0, c0, A5, c5, by omega, by go_num, by rw [Q1.out], by rw [Q2.out], ?_, HB7.out⟩
          rw [Q1.out, Q3.out, Q4.out]
          exact D7.out
        case measure => simp [intOf]; omega
    · obtain rfl : k = 2 * E := by omega
      have x0 := d.bx.c0
      have x1 := d.bx.c1
      have hbd := hb.drew
      have con0 := Lib.hid (fun W (hb2 : Below wr.drew.heap.size wr.drew W) => c_tiSort A0 c0 H0 W (RdT.of_own (own_keep (own_drew d.o0) hb2)) (by omega))
      have con9 := Lib.hid (fun W (hb2 : Below wr.drew.heap.size wr.drew W) => c_tiSort A1 c1 H1 W (RdT.of_own (own_keep (own_drew d.o1) hb2)) (by omega))
      clear hnd hh st d
      go_wp2_with fail
      go_region_held3 (fun w' => w'.cell? ⟨nb, 0, none⟩ = some (.slice A0 H0.length c0) ∧ w'.cell? ⟨nb, 1, none⟩ = some (.slice A1 H1.length c1)) (first | exact ⟨z0, z1⟩ | exact ⟨y0, y1⟩ | go_keep) (first | (go_at_call_of 80 (Value.slice A0 H0.length c0); refine (con0.out _ (Below.refl _ _)).mono ?_; rintro e w1 ⟨B0, k0, rfl, o1, h1⟩; have y0 := keepc h1 (gdG _ x0); have y1 := keepc h1 (gdG _ x1)) | (go_at_call_of 80 (Value.slice A1 H1.length c1); refine (con9.out _ h1).mono ?_; rintro e w2 ⟨B1, k1, rfl, o2, h2⟩; have z0 := keepc h2 y0; have z1 := keepc h2 y1))
      have HB := Lib.hid (bstep (bstep hbd h1) h2)
      have O1 := Lib.hid (own_base (b' := w.heap.size) (own_keep o1 h2) (by have := hbd.size; omega))
      have O2 := Lib.hid (own_base (b' := w.heap.size) o2 (by have := (bstep hbd h1).size; omega))
      have apx := ApG.of_lt (m := w1.heap.size) (fun g hg => (o1.lt g hg).2) (fun g hg => (o2.lt g hg).1)
      clear hb hbd h1 h2 o1 o2 x0 x1 y0 y1 z0 z1 con0 con9
      go_wp2
      go_ret3
      rw [Hsk.out]
      exact ⟨B0, k0, B1, k1, rfl, O1.out, O2.out, apx, HB.out⟩

end Go.Proofs.Ytjdnkcdnppcbhaa

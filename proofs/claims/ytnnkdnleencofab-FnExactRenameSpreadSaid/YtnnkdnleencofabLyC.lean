/- A play added to the state of the specification: all ways together. -/
import Derived.Test.YtnnkdnleencofabLyA
import Derived.Test.YtnnkdnleencofabLyA3
import Derived.Test.YtnnkdnleencofabLyA0
import Derived.Test.YtnnkdnleencofabLyA1
import Derived.Test.YtnnkdnleencofabLyX
import Derived.Test.YtnnkdnleencofabLyF
namespace Go.Proofs.Ytnnkdnleencofab
open Go.RowKit
set_option linter.unusedVariables false

theorem endL_at {arms : List (Int × Bool × Bool)} {kn : Nat} (h : kn < arms.length) : endL arms (kn : Int) = arms[kn].1 := by unfold endL; simp [h]
theorem dbl_beq (x y k : Int) : dblB (x, y, k) = (x == y) := rfl

theorem c_add (base g : Nat) (S : SSt) (Bd : Brd) (x y k : Int) (w : World) (h : StAt base w g S) (hR : Rel Bd S) :
    Calls Try.prog 57 #[.pointer (some ⟨g, 0, none⟩), .agg #[.int .i64 x, .int .i64 y, .int .i64 k]] w fun e w' => e = .returned (.bool (okS S (x, y, k))) ∧ StAt base w' g (addS S (x, y, k)) ∧ Below base w w' := by
  obtain ⟨A, c, B, d, h⟩ := h
  have hbase : base ≤ w.heap.size := Nat.le_trans h.lo (Nat.le_of_lt h.lt)
  have hl : S.tiles.length = Bd.ps.length := by rw [hR.tiles, List.length_map]
  have h28 : S.tiles.length ≤ 28 := by rw [hl]; exact hR.len
  have h4 : S.arms.length ≤ 4 := by rw [hR.arms]; exact hR.four.1
  have hst := hR.st
  rw [← hR.arms] at hst
  have hps : Bd.ps = [] ↔ S.tiles.length = 0 := by rw [hl]; exact List.length_eq_zero_iff.symm
  have hnr : dblB (x, y, k) = true → hasL Bd.ps x y = false → 0 ≤ S.spin → x ≠ S.spin := fun hd hh hs => not_again hR hh hs hd
  have hin' : (x, y) ∉ S.tiles → hasL Bd.ps x y = false := fun hn => by
    cases hh : hasL Bd.ps x y
    · rfl
    · exact absurd (by rw [hR.tiles]; exact hasL_iff.1 hh) hn
  clear hl
  obtain ⟨arms, tiles, spin, waits, first, l0, l1⟩ := S
  simp only at h28 h4 hst hps hnr hin'
  have fin : ∀ (he : okS ⟨arms, tiles, spin, waits, first, l0, l1⟩ (x, y, k) = false) (e : Ending) (w' : World), (e = .returned (.bool false) ∧ Below w.heap.size w w') →
      (e = .returned (.bool (okS ⟨arms, tiles, spin, waits, first, l0, l1⟩ (x, y, k))) ∧ StAt base w' g (addS ⟨arms, tiles, spin, waits, first, l0, l1⟩ (x, y, k)) ∧ Below base w w') := fun he e w' hh => by
    rw [he, addS_no he]
    exact ⟨hh.1, ⟨A, c, B, d, h.keep hh.2⟩, hh.2.mono hbase⟩
  by_cases hg : goodB x y = true
  rotate_left
  · have hg' : goodB x y = false := by simpa using hg
    exact (c_add_X1 base g c d A B arms tiles spin waits first l0 l1 x y k w h h28 h4 hg').mono (fin (by simp [okS, badS, hg']))
  by_cases hin : 0 ≤ placeI tiles (x, y)
  · have hm := placeI_nonneg.1 hin
    exact (c_add_X2 base g c d A B arms tiles spin waits first l0 l1 x y k w h h28 h4 hg hin).mono (fin (by simp [okS, badS, hm]))
  have hm : (x, y) ∉ tiles := fun hm => hin (placeI_nonneg.2 hm)
  have hin2 : placeI tiles (x, y) < 0 := by omega
  by_cases hf : tiles.length = 28
  · exact (c_add_X3 base g c d A B arms tiles spin waits first l0 l1 x y k w h h28 h4 hg hin2 hf).mono (fin (by simp [okS, badS, hf]))
  have h27 : tiles.length < 28 := by omega
  have hbad : badS ⟨arms, tiles, spin, waits, first, l0, l1⟩ (x, y, k) = false := by
    unfold badS
    simp only [hg, hm, Bool.not_true, decide_false, Bool.false_or]
    exact decide_eq_false (by omega)
  by_cases h0 : tiles.length = 0
  · by_cases hk : k = 0
    · subst hk
      have ht : tiles = [] := List.eq_nil_of_length_eq_zero h0
      have hok : okS ⟨arms, tiles, spin, waits, first, l0, l1⟩ (x, y, 0) = true := by unfold okS; rw [hbad]; simp [h0]
      rcases hst with ⟨_, ha, hs, hw, hf', hl0, hl1⟩ | ⟨hne, _⟩
      rotate_left
      · exact absurd (hps.2 h0) hne
      cases hq : (x == y)
      · refine (c_add_FF base g c d A B arms tiles spin waits first l0 l1 x y w h h28 h4 hg hq ht).mono (fun e w' hh => ⟨by rw [hh.1, hok], ?_, hh.2.2⟩)
        have e1 : addS ⟨arms, tiles, spin, waits, first, l0, l1⟩ (x, y, 0) = ⟨[(x, false, false), (y, false, false)], tiles ++ [(x, y)], spin, waits, first, l0, l1⟩ := by
          unfold addS; rw [if_pos hok, if_pos h0]; unfold firstS; rw [dbl_beq, hq, ht]; simp
        rw [e1]; exact hh.2.1
      · refine (c_add_FT base g c d A B arms tiles spin waits first l0 l1 x y w h h28 h4 hg hq ht).mono (fun e w' hh => ⟨by rw [hh.1, hok], ?_, hh.2.2⟩)
        have e1 : addS ⟨arms, tiles, spin, waits, first, l0, l1⟩ (x, y, 0) = ⟨[(x, true, false), (y, true, false)], tiles ++ [(x, y)], x, waits, true, l0, l1⟩ := by
          unfold addS; rw [if_pos hok, if_pos h0]; unfold firstS; rw [dbl_beq, hq, ht]; simp
        rw [e1]; exact hh.2.1
    · exact (c_add_X4 base g c d A B arms tiles spin waits first l0 l1 x y k w h h28 h4 hg hin2 h0 (by simpa using hk)).mono (fin (by unfold okS; rw [hbad]; simp [h0, hk]))
  by_cases hr : (decide (0 ≤ k) && decide (k ≤ (arms.length : Int) - 1)) = true
  rotate_left
  · have hr' : (decide (0 ≤ k) && decide (k ≤ (arms.length : Int) - 1)) = false := by simpa using hr
    exact (c_add_X5 base g c d A B arms tiles spin waits first l0 l1 x y k w h h28 h4 hg hin2 h27 h0 hr').mono (fin (by unfold okS; simp only [if_neg h0, hr', Bool.false_and, Bool.and_false]))
  obtain ⟨kn, rfl⟩ : ∃ kn : Nat, k = kn := ⟨k.toNat, by simp only [Bool.and_eq_true, decide_eq_true_eq] at hr; omega⟩
  have hk : kn < arms.length := by simp only [Bool.and_eq_true, decide_eq_true_eq] at hr; omega
  have hend := endL_at hk
  by_cases ho : othS (x, y, (kn : Int)) arms[kn].1 < 0
  · exact (c_add_X6 base g c d A B arms tiles spin waits first l0 l1 x y kn w h h28 h4 hg hin2 h27 h0 hk ho).mono (fin (by unfold okS; rw [hbad]; simp only [if_neg h0, hend]; rw [decide_eq_false (by omega : ¬ 0 ≤ othS (x, y, (kn : Int)) arms[kn].1)]; simp))
  have hok : okS ⟨arms, tiles, spin, waits, first, l0, l1⟩ (x, y, (kn : Int)) = true := by
    unfold okS; rw [hbad]; simp only [if_neg h0, hend, hr]; rw [decide_eq_true (by omega : 0 ≤ othS (x, y, (kn : Int)) arms[kn].1)]; rfl
  obtain ⟨r, hro⟩ : ∃ r, othS (x, y, (kn : Int)) arms[kn].1 = r := ⟨_, rfl⟩
  have hr0 : 0 ≤ r := by omega
  obtain ⟨a, rfl⟩ : ∃ a, A = some ⟨a, 0, none⟩ := by
    rcases h.ao.2 with ⟨hv, hn⟩ | ⟨g', cap, cur, hv, _⟩
    · simp only at hn; omega
    · injection hv with e1 _ _; exact ⟨g', e1⟩
  have en : addS ⟨arms, tiles, spin, waits, first, l0, l1⟩ (x, y, (kn : Int)) = nextS ⟨arms, tiles, spin, waits, first, l0, l1⟩ (x, y, (kn : Int)) := by unfold addS; rw [if_pos hok, if_neg h0]
  have er : nextS ⟨arms, tiles, spin, waits, first, l0, l1⟩ (x, y, (kn : Int)) = ⟨arms.set kn (r, x == y, false) ++ (if sidesS ⟨arms, tiles, spin, waits, first, l0, l1⟩ (x, y, (kn : Int)) then [(spin, false, true), (spin, false, true)] else []), tiles ++ [(x, y)],
      if (x == y) && decide (spin < 0) then x else spin, if (x == y) && decide (spin < 0) then (kn : Int) else if waits = (kn : Int) then -1 else waits, first, l0S ⟨arms, tiles, spin, waits, first, l0, l1⟩ (x, y, (kn : Int)), l1S ⟨arms, tiles, spin, waits, first, l0, l1⟩ (x, y, (kn : Int))⟩ := by
    unfold nextS
    simp only [dbl_beq, hend, hro, Int.toNat_natCast]
    rfl
  rw [hok, en, er]
  clear en er hok hend hr hbad fin hps hnr hin' hm ho
  rcases hst with ⟨_, ha, _⟩ | ⟨_, hN⟩
  · exfalso; rw [ha] at hk; simp at hk
  have done_ : ∀ {S1 S2 : SSt}, S1 = S2 → ∀ (e : Ending) (w' : World), (e = .returned (.bool true) ∧ StAt base w' g S1 ∧ Below base w w') → (e = .returned (.bool true) ∧ StAt base w' g S2 ∧ Below base w w') := fun hS e w' hh => by subst hS; exact hh
  have p2 : first = false → waits ≠ (kn : Int) → 0 ≤ spin → Calls Try.prog 57 #[.pointer (some ⟨g, 0, none⟩), .agg #[.int .i64 x, .int .i64 y, .int .i64 (kn : Int)]] w fun e w' => e = .returned (.bool true) ∧ StAt base w' g ⟨arms.set kn (r, x == y, false) ++ (if sidesS ⟨arms, tiles, spin, waits, first, l0, l1⟩ (x, y, (kn : Int)) then [(spin, false, true), (spin, false, true)] else []), tiles ++ [(x, y)],
      if (x == y) && decide (spin < 0) then x else spin, if (x == y) && decide (spin < 0) then (kn : Int) else if waits = (kn : Int) then -1 else waits, first, l0S ⟨arms, tiles, spin, waits, first, l0, l1⟩ (x, y, (kn : Int)), l1S ⟨arms, tiles, spin, waits, first, l0, l1⟩ (x, y, (kn : Int))⟩ ∧ Below base w w' := fun hfi hw hs => by
    subst hfi
    refine (c_add_P2 base g a c d kn B arms tiles spin waits l0 l1 x y r w h hg hin2 h27 h0 hk h4 hro hr0 (beq_eq_false_iff_ne.2 hw) hs).mono (done_ ?_)
    have : ¬ spin < 0 := by omega
    simp [sidesS, laysS, l0S, l1S, hw, this]
  unfold StN at hN
  dsimp only at hN
  rcases hN with ⟨h1, hw, hf', u, v, rfl⟩ | ⟨h1, hw, hf', hl, u, du, v, dv, rfl, i0, i1⟩ | ⟨h1, hw, hf', v, dv, rfl, hb⟩ | ⟨h1, hw, hf', u, du, rfl, hb⟩ | ⟨h1, hw, h4', hfl⟩
  · -- no double yet
    have hwn : waits ≠ (kn : Int) := by omega
    cases hq : (x == y)
    · refine (c_add_P1F base g a c d kn B _ tiles spin waits l0 l1 x y r w (hf' ▸ h) hg hin2 h27 h0 hk h4 hro hr0 (beq_eq_false_iff_ne.2 hwn) hq).mono (done_ ?_)
      simp [sidesS, laysS, l0S, l1S, hwn, hf']
    · refine (c_add_P1T base g a c d kn B _ tiles spin waits l0 l1 x y r w (hf' ▸ h) hg hin2 h27 h0 hk h4 hro hr0 (beq_eq_false_iff_ne.2 hwn) (by omega) hq).mono (done_ ?_)
      have : spin < 0 := by omega
      simp [sidesS, laysS, l0S, l1S, hwn, hf', this]
  · -- a first double, not both arms laid to
    have hsn : ¬ spin < 0 := by omega
    have hwn : ∀ j : Int, 0 ≤ j → (waits == j) = false := fun j hj => beq_eq_false_iff_ne.2 (by omega)
    have hwe : ¬ waits = (kn : Int) := by omega
    subst hf'
    have hk2 : kn = 0 ∨ kn = 1 := by simp at hk; omega
    rcases hk2 with rfl | rfl
    · cases l0
      · cases l1
        · refine (c_add_L0n base g a c d B _ tiles spin waits x y r w h hg hin2 h27 h0 hk h4 hro hr0 (hwn 0 (by omega)) h1).mono (done_ ?_)
          simp [sidesS, laysS, l0S, l1S, hsn] at *; try omega
        · refine (c_add_L0y base g a c d B _ tiles spin waits x y r w h hg hin2 h27 h0 hk h4 hro hr0 (hwn 0 (by omega)) h1).mono (done_ ?_)
          simp [sidesS, laysS, l0S, l1S, hsn] at *; try omega
      · refine (c_add_N0 base g a c d B _ tiles spin waits l1 x y r w h hg hin2 h27 h0 hk h4 hro hr0 (hwn 0 (by omega)) h1).mono (done_ ?_)
        simp [sidesS, laysS, l0S, l1S, hsn] at *; try omega
    · cases l1
      · cases l0
        · refine (c_add_L1n base g a c d B _ tiles spin waits x y r w h hg hin2 h27 h0 hk h4 hro hr0 (hwn 1 (by omega)) h1).mono (done_ ?_)
          simp [sidesS, laysS, l0S, l1S, hsn] at *; try omega
        · refine (c_add_L1y base g a c d B _ tiles spin waits x y r w h hg hin2 h27 h0 hk h4 hro hr0 (hwn 1 (by omega)) h1).mono (done_ ?_)
          simp [sidesS, laysS, l0S, l1S, hsn] at *; try omega
      · refine (c_add_N1 base g a c d B _ tiles spin waits l0 x y r w h hg hin2 h27 h0 hk h4 hro hr0 (hwn 1 (by omega)) h1).mono (done_ ?_)
        simp [sidesS, laysS, l0S, l1S, hsn] at *; try omega
  · by_cases hkn : kn = 0
    · subst hkn
      have hsn : ¬ spin < 0 := by omega
      subst hf'
      refine (c_add_P3 base g a c d 0 B _ tiles spin waits l0 l1 x y r w h hg hin2 h27 h0 hk h4 hro hr0 (beq_iff_eq.2 hw) h1).mono (done_ ?_)
      simp [sidesS, laysS, l0S, l1S, hw, hsn]
    · exact p2 hf' (by omega) h1
  · by_cases hkn : kn = 1
    · subst hkn
      have hsn : ¬ spin < 0 := by omega
      subst hf'
      refine (c_add_P3 base g a c d 1 B _ tiles spin waits l0 l1 x y r w h hg hin2 h27 h0 hk h4 hro hr0 (beq_iff_eq.2 hw) h1).mono (done_ ?_)
      simp [sidesS, laysS, l0S, l1S, hw, hsn]
    · exact p2 hf' (by omega) h1
  · cases first
    · exact p2 rfl (by omega) h1
    · obtain ⟨rfl, rfl⟩ := hfl rfl
      have hsn : ¬ spin < 0 := by omega
      have hwe : ¬ waits = (kn : Int) := by omega
      by_cases hk0 : kn = 0
      · subst hk0
        refine (c_add_N0 base g a c d B _ tiles spin waits true x y r w h hg hin2 h27 h0 hk h4 hro hr0 (beq_eq_false_iff_ne.2 (by omega)) h1).mono (done_ ?_)
        simp [sidesS, laysS, l0S, l1S, hsn] at *; try omega
      · by_cases hk1 : kn = 1
        · subst hk1
          refine (c_add_N1 base g a c d B _ tiles spin waits true x y r w h hg hin2 h27 h0 hk h4 hro hr0 (beq_eq_false_iff_ne.2 (by omega)) h1).mono (done_ ?_)
          simp [sidesS, laysS, l0S, l1S, hsn] at *; try omega
        · refine (c_add_N2 base g a c d kn B _ tiles spin waits true true x y r w h hg hin2 h27 h0 hk h4 hro hr0 (beq_eq_false_iff_ne.2 (by omega)) h1 (by omega)).mono (done_ ?_)
          simp [sidesS, laysS, l0S, l1S, hsn, hwe]
end Go.Proofs.Ytnnkdnleencofab

/- Desks: which ones there are, and the specification's IsDesk. -/
import Derived.Test.YtlnfialfkipdjaaSrtA
import Derived.Test.YtlnfialfkipdjaaPzA
import Derived.Deep.Cut
import Derived.BigQuiet
namespace Go.Proofs.Ytlnfialfkipdjaa
open Go.RowKit
set_option linter.unusedVariables false

/-- No number of a hand is greater. -/
def topB (ts : List (Int × Int)) (n : Int) : Bool := decide (∀ t ∈ ts, t.2 ≤ n)
theorem top_bad {ts : List (Int × Int)} {n : Int} {k : Nat} (h : k < ts.length) (h1 : ¬ ts[k].2 ≤ n) : topB ts n = false := decide_eq_false fun hp => h1 (hp _ (List.getElem_mem h))
theorem top_all {ts : List (Int × Int)} {n : Int} (h : ∀ j (hj : j < ts.length), ts[j].2 ≤ n) : topB ts n = true := decide_eq_true fun t ht => by
  obtain ⟨j, hj, rfl⟩ := List.getElem_of_mem ht
  exact h j hj
/-- Which desks there are. -/
def dkB (T : List (Int × Int)) (top : Int) : Bool := handB T && (numB top && (topB T top && decide (sortL T = T)))

set_option maxRecDepth 100000 in
set_option maxHeartbeats 1000000 in
theorem c_tiWithinD (A : Option Addr) (c : Nat) (ts : List (Int × Int)) (n : Int) (w : World) (hr : RdT w A ts) (hl : ts.length ≤ 9223372036854775807) :
    Calls Try.prog 155 #[.slice A ts.length c, .int .i64 n] w fun e w' => e = .returned (.bool (topB ts n)) ∧ Below w.heap.size w w' := by
  go_enter Try.func155, Try.ntmps155
  go_wp2
  go_loopw [9] (fun i wr => ∃ k : Nat, k ≤ ts.length ∧ i = .int .i64 k ∧ (∀ j (hj : j < ts.length), j < k → ts[j].2 ≤ n) ∧ Below w.heap.size w wr) (fun i _ => ts.length - (intOf i).toNat)
  case atStart => exact ⟨0, Nat.zero_le _, rfl, by omega, Below.refl _ _⟩
  case round =>
    obtain ⟨k, hk, rfl, hn, hb⟩ := hrel
    by_cases hlt : k < ts.length
    · obtain ⟨bk, off, rfl, hbk, hc⟩ := hr.at_ hlt
      have g1 := (hb.cell (p := ⟨bk, _, none⟩) hbk).trans (hc k hlt).1
      have g2 := (hb.cell (p := ⟨bk, _, none⟩) hbk).trans (hc k hlt).2
      have Hn := Lib.hid hn
      have Hb := Lib.hid hb
      have hz := hb.size
      clear hc hr hn hb
      by_cases hgt : n < ts[k].2
      all_goals
        go_wp2
      · go_ret
        exact ⟨ret_b (top_bad hlt (by omega)).symm, by have hb := Hb.out; go_grown⟩
      · go_roundw
        case rel =>
          refine ⟨k + 1, by omega, by go_num, fun j hj hjk => ?_, by have hb := Hb.out; go_grown⟩
          rcases Nat.lt_succ_iff_lt_or_eq.1 hjk with h | rfl
          · exact Hn.out j hj h
          · omega
        case measure => simp [intOf]; omega
    · go_wp2
      go_ret
      exact ⟨ret_b (top_all fun j hj => hn j hj (by omega)).symm, hb⟩

set_option maxRecDepth 100000 in
set_option maxHeartbeats 2000000 in
theorem c_coGood (AT : Option Addr) (cT : Nat) (T : List (Int × Int)) (top : Int) (w : World) (hT : RdT w AT T) (lT : T.length ≤ 1048576) (kT : T.length ≤ cT) :
    Calls Try.prog 89 #[.agg #[.slice AT T.length cT, .int .i64 top]] w fun e w' => e = .returned (.bool (dkB T top)) ∧ Below w.heap.size w w' := by
  have con2 := fun W (hb : Below w.heap.size w W) => c_tiHand AT cT T W (hT.below hb) (by omega) kT
  have con3 := fun W => c_tiNumber top W
  have con4 := fun W (hb : Below w.heap.size w W) => c_tiWithinD AT cT T top W (hT.below hb) (by omega)
  have con5 := fun W (hb : Below w.heap.size w W) => c_tiSort AT cT T W (hT.below hb) (by omega)
  have hpz : dkB T top = (handB T && (numB top && (topB T top && decide (sortL T = T)))) := rfl
  rw [hpz]
  clear hpz
  cases h2 : handB T
  · simp only [h2] at con2
    simp only [Bool.false_and]
    have Con2 := Lib.hid con2
    clear h2 hT con3 con4 con5 con2
    go_enter Try.func89, Try.ntmps89
    go_wp2_with fail
    obtain ⟨w0, hw0⟩ : ∃ w0, w0 = w.alloc (.cells #[.slice AT T.length cT, .int .i64 top] 24) := ⟨_, rfl⟩
    rw [← hw0]
    have hb0 : Below w.heap.size w w0 := by rw [hw0]; go_grown
    clear hw0
    refine (Con2.out _ hb0).mono ?_
    rintro e w2 ⟨rfl, q2⟩
    have hb2 := bstep hb0 q2
    go_wp2
    go_ret
    exact ⟨rfl, hb2⟩
  have hsl := sortP_len h2
  simp only [h2] at con2
  have Con2 := Lib.hid con2
  clear con2
  cases h3 : numB top
  · simp only [h3] at con3
    simp only [Bool.false_and, Bool.and_false]
    clear h2 h3 hsl hT con4 con5
    go_enter Try.func89, Try.ntmps89
    go_wp2_with fail
    obtain ⟨w0, hw0⟩ : ∃ w0, w0 = w.alloc (.cells #[.slice AT T.length cT, .int .i64 top] 24) := ⟨_, rfl⟩
    rw [← hw0]
    have ba0 : Bx2 w0 w.heap.size (.slice AT T.length cT) (.int .i64 top) := by rw [hw0]; exact Bx2.fresh w _ _ _
    have hb0 : Below w.heap.size w w0 := by rw [hw0]; go_grown
    clear hw0
    refine (Con2.out _ hb0).mono ?_
    rintro e w2 ⟨rfl, q2⟩
    have hb2 := bstep hb0 q2
    have ba2 := ba0.keep q2
    clear ba0
    have x0 := ba2.c0
    have x1 := ba2.c1
    go_wp2_with fail
    refine (con3 _).mono ?_
    rintro e w3 ⟨rfl, rfl⟩
    go_wp2
    go_ret
    exact ⟨rfl, hb2⟩
  simp only [h3] at con3
  cases h4 : topB T top
  · simp only [h4] at con4
    simp only [Bool.false_and, Bool.and_false]
    have Con4 := Lib.hid con4
    clear h2 h3 h4 hsl hT con4 con5
    go_enter Try.func89, Try.ntmps89
    go_wp2_with fail
    obtain ⟨w0, hw0⟩ : ∃ w0, w0 = w.alloc (.cells #[.slice AT T.length cT, .int .i64 top] 24) := ⟨_, rfl⟩
    rw [← hw0]
    have ba0 : Bx2 w0 w.heap.size (.slice AT T.length cT) (.int .i64 top) := by rw [hw0]; exact Bx2.fresh w _ _ _
    have hb0 : Below w.heap.size w w0 := by rw [hw0]; go_grown
    clear hw0
    refine (Con2.out _ hb0).mono ?_
    rintro e w2 ⟨rfl, q2⟩
    have hb2 := bstep hb0 q2
    have ba2 := ba0.keep q2
    clear ba0
    have x0 := ba2.c0
    have x1 := ba2.c1
    go_wp2_with fail
    refine (con3 _).mono ?_
    rintro e w3 ⟨rfl, rfl⟩
    go_wp2_with fail
    refine (Con4.out _ hb2).mono ?_
    rintro e w3 ⟨rfl, q3⟩
    have hb3 := bstep hb2 q3
    go_wp2
    go_ret
    exact ⟨rfl, hb3⟩
  simp only [h4] at con4
  simp only [Bool.true_and]
  have Con4 := Lib.hid con4
  obtain ⟨us, hus⟩ : ∃ us, us = sortL T := ⟨_, rfl⟩
  rw [← hus] at con5 hsl ⊢
  have hsl1 : us.length ≤ T.length := by omega
  have hsl2 : T.length ≤ us.length := by omega
  have Con5 := Lib.hid con5
  clear h2 h3 h4 hsl con4 con5 hus
  go_enter Try.func89, Try.ntmps89
  go_wp2_with fail
  obtain ⟨w0, hw0⟩ : ∃ w0, w0 = w.alloc (.cells #[.slice AT T.length cT, .int .i64 top] 24) := ⟨_, rfl⟩
  rw [← hw0]
  have ba0 : Bx2 w0 w.heap.size (.slice AT T.length cT) (.int .i64 top) := by rw [hw0]; exact Bx2.fresh w _ _ _
  have hb0 : Below w.heap.size w w0 := by rw [hw0]; go_grown
  clear hw0
  refine (Con2.out _ hb0).mono ?_
  rintro e w2 ⟨rfl, q2⟩
  have hb2 := bstep hb0 q2
  have ba2 := ba0.keep q2
  clear ba0
  have x0 := ba2.c0
  have x1 := ba2.c1
  go_wp2_with fail
  refine (con3 _).mono ?_
  rintro e w3 ⟨rfl, rfl⟩
  go_wp2_with fail
  refine (Con4.out _ hb2).mono ?_
  rintro e w3 ⟨rfl, q3⟩
  have hb3 := bstep hb2 q3
  have ba3 := ba2.keep q3
  clear x0 x1 ba2
  have x0 := ba3.c0
  have x1 := ba3.c1
  go_wp2_with fail
  refine (Con5.out _ hb3).mono ?_
  rintro e w4 ⟨U, cU, rfl, oU, q4⟩
  have hb4 := bstep hb3 q4
  have ba4 := ba3.keep q4
  have hru := RdT.of_own oU
  clear x0 x1 ba3 oU q4 q3 q2 hb0 hb2 hb3
  have hTw := hT.below hb4
  clear hT
  go_wp2
  go_loopw [27] (fun i wr => ∃ k : Nat, k ≤ us.length ∧ i = .int .i64 k ∧ (∀ j (hj : j < us.length), j < k → us[j] = T[j]'(by omega)) ∧ Below w4.heap.size w4 wr) (fun i _ => us.length - (intOf i).toNat)
  case atStart => exact ⟨0, Nat.zero_le _, rfl, by omega, Below.refl _ _⟩
  case round =>
    obtain ⟨k, hk, rfl, hn, hb⟩ := hrel
    have ba5 := ba4.keep hb
    by_cases hlt : k < us.length
    · obtain ⟨bk, off, rfl, hbk, hc⟩ := hru.at_ hlt
      obtain ⟨bt, oft, rfl, hbt, hct⟩ := hTw.at_ (k := k) (by omega)
      have g1 := keepc hb (hc k hlt).1
      have g2 := keepc hb (hc k hlt).2
      have e1 := keepc hb (hct k (by omega)).1
      have e2 := keepc hb (hct k (by omega)).2
      have Hn := Lib.hid hn
      have Hb := Lib.hid hb
      have hz := hb.size
      have x0 := ba5.c0
      have nb := ba5.lt
      have nt : bt < wr.heap.size := block_lt e1
      obtain ⟨p, hp⟩ : ∃ p, us[k].1 = p := ⟨_, rfl⟩
      obtain ⟨q, hq⟩ : ∃ q, us[k].2 = q := ⟨_, rfl⟩
      obtain ⟨r, hr⟩ : ∃ r, (T[k]'(by omega)).1 = r := ⟨_, rfl⟩
      obtain ⟨s, hs⟩ : ∃ s, (T[k]'(by omega)).2 = s := ⟨_, rfl⟩
      rw [hp] at g1
      rw [hq] at g2
      rw [hr] at e1
      rw [hs] at e2
      have i0 : (0 : Int) ≤ (k : Int) := by omega
      have i1 : (k : Int) < (T.length : Int) := by omega
      have Hpq : Hid (us[k] = (p, q)) := Lib.hid (by rw [← hp, ← hq])
      have Hrs : Hid (T[k]'(by omega) = (r, s)) := Lib.hid (by rw [← hr, ← hs])
      have Hd : Hid (¬ (r = p ∧ s = q) → decide (us = T) = false) := Lib.hid (fun hne => decide_eq_false fun h => by
        have h1 := Hpq.out
        have h2 := Hrs.out
        have h3 : us[k] = T[k]'(by omega) := by simp only [h]
        rw [h1, h2] at h3
        simp only [Prod.mk.injEq] at h3
        exact hne ⟨h3.1.symm, h3.2.symm⟩)
      clear hc hct hru hTw hn hb hp hq hr hs con3
      by_cases e1 : r = p
      · have f1 : (r == p) = true := by simp [e1]
        have E1 := Lib.hid e1
        clear e1
        by_cases e2 : s = q
        · have f2 : (s == q) = true := by simp [e2]
          have E2 := Lib.hid e2
          clear e2
          go_wp2
          go_quiet (fail)
          go_wp2
          go_roundw
          case rel =>
            refine ⟨k + 1, by omega, by go_num, fun j hj hjk => ?_, belowN (Hb.out.alloc hz _) _⟩
            rcases Nat.lt_succ_iff_lt_or_eq.1 hjk with h | rfl
            · exact Hn.out j hj h
            · rw [Hpq.out, Hrs.out, E1.out, E2.out]
          case measure => simp [intOf]; omega
        · have f2 : (s == q) = false := by simp [e2]
          have HF := Lib.hid (Hd.out (fun h => e2 h.2))
          clear e2
          go_wp2
          go_quiet (fail)
          go_wp2
          go_ret
          exact ⟨ret_b HF.out.symm, belowN ((bstep hb4 Hb.out).alloc (bstep hb4 Hb.out).size _) _⟩
      · have f1 : (r == p) = false := by simp [e1]
        have HF := Lib.hid (Hd.out (fun h => e1 h.1))
        clear e1
        go_wp2
        go_quiet (fail)
        go_wp2
        go_ret
        exact ⟨ret_b HF.out.symm, belowN ((bstep hb4 Hb.out).alloc (bstep hb4 Hb.out).size _) _⟩
    · go_wp2
      go_ret
      refine ⟨ret_b ?_, bstep hb4 hb⟩
      symm
      exact decide_eq_true (List.ext_getElem (by omega) fun j h1 h2 => hn j h1 (by omega))

set_option maxRecDepth 100000 in
set_option maxHeartbeats 1000000 in
theorem c_specIsDesk (AT : Option Addr) (cT : Nat) (T : List (Int × Int)) (top : Int) (w : World) (hT : RdT w AT T) (lT : T.length ≤ 1048576) (kT : T.length ≤ cT) :
    Calls Try.prog 20 #[.agg #[.slice AT T.length cT, .int .i64 top]] w fun e w' => e = .returned (.bool (dkB T top)) ∧ Below w.heap.size w w' := by
  have con := Lib.hid (fun W (hb : Below w.heap.size w W) => c_coGood AT cT T top W (hT.below hb) lT kT)
  clear hT
  go_enter Try.func20, Try.ntmps20
  go_wp2_with fail
  refine (con.out _ (by go_grown)).mono ?_
  rintro e w1 ⟨rfl, q1⟩
  go_wp2
  go_ret
  exact ⟨rfl, bstep (by go_grown) q1⟩

end Go.Proofs.Ytlnfialfkipdjaa

/- The program's least window. -/
import Derived.Test.YtjbdflkbclhonaaWinJ
import Derived.RegionTactic
namespace Go.Proofs.Ytjbdflkbclhonaa
open Go.RowKit
set_option linter.unusedVariables false

def cmpV (x y : Int) : Int := if x < y then -1 else if y < x then 1 else 0

set_option maxRecDepth 100000 in
set_option maxHeartbeats 1000000 in
theorem c_isNaN (x : Int) (w : World) : Calls Try.prog 101 #[.int .i64 x] w fun e w' => e = .returned (.bool false) ∧ w = w' := by
  go_enter Try.func101, Try.ntmps101
  go_wp2
  go_ret
  exact ⟨by simp, rfl⟩

set_option maxRecDepth 100000 in
set_option maxHeartbeats 1000000 in
theorem c_cmp (x y : Int) (w : World) : Calls Try.prog 99 #[.int .i64 x, .int .i64 y] w fun e w' => e = .returned (.int .i64 (cmpV x y)) ∧ w = w' := by
  rcases Int.lt_trichotomy x y with h | h | h
  · have e1 : cmpV x y = -1 := by simp [cmpV, h]
    rw [e1]
    clear e1
    go_enter Try.func99, Try.ntmps99
    go_wp2_with (go_at_call 101; refine (c_isNaN _ _).mono ?_; rintro e w' ⟨rfl, rfl⟩)
    go_ret
    exact ⟨rfl, rfl⟩
  · have e1 : cmpV x y = 0 := by simp [cmpV, h]
    rw [e1]
    subst h
    clear e1
    go_enter Try.func99, Try.ntmps99
    go_wp2_with (go_at_call 101; refine (c_isNaN _ _).mono ?_; rintro e w' ⟨rfl, rfl⟩)
    go_ret
    exact ⟨rfl, rfl⟩
  · have h2 : ¬ x < y := by omega
    have e1 : cmpV x y = 1 := by simp [cmpV, h, h2]
    rw [e1]
    clear e1
    go_enter Try.func99, Try.ntmps99
    go_wp2_with (go_at_call 101; refine (c_isNaN _ _).mono ?_; rintro e w' ⟨rfl, rfl⟩)
    go_ret
    exact ⟨rfl, rfl⟩

theorem cmpV_less (x y : Int) : decide (cmpV x y < 0) = decide (x < y) := by
  unfold cmpV
  split
  · rename_i h; simp [h]
  · rename_i h
    split <;> simp [h]

set_option maxRecDepth 100000 in
set_option maxHeartbeats 2000000 in
theorem c_compare (A B : Option Addr) (c d : Nat) (xs ys : List Int) (w : World) (hx : RdI w A xs) (hy : RdI w B ys) (lx : xs.length = 8) (ly : ys.length = 8) :
    Calls Try.prog 87 #[.slice A 8 c, .slice B 8 d] w fun e w' => (∃ r : Int, e = .returned (.int .i64 r) ∧ decide (r < 0) = lessL xs ys) ∧ Below w.heap.size w w' := by
  obtain ⟨bk, off, rfl, hbk, hc⟩ := hx.cellD lx (by omega)
  obtain ⟨bj, oj, rfl, hbj, hd⟩ := hy.cellD ly (by omega)
  have HA := Lib.hid (fun k (hk : k < 8) hs hne => lessL_at k xs ys (by omega) (by omega) hs hne)
  have HS := Lib.hid (fun (hs : ∀ j, j < xs.length → xs.getD j 0 = ys.getD j 0) => (show lessL xs ys = false from by rw [same_getD (lx.trans ly.symm) hs]; exact lessL_same _))
  have Lx := Lib.hid lx
  clear hx hy lx ly
  go_enter Try.func87, Try.ntmps87
  go_wp2
  go_loopw [11] (fun i wr => ∃ k : Nat, k ≤ 8 ∧ i = .int .i64 k ∧ (∀ j, j < k → xs.getD j 0 = ys.getD j 0) ∧ Below w.heap.size w wr) (fun i _ => 8 - (intOf i).toNat)
  case atStart => exact ⟨0, by omega, rfl, by omega, Below.refl _ _⟩
  case round =>
    obtain ⟨k, hk, rfl, hs, hb⟩ := hrel
    by_cases hlt : k < 8
    · have g1 := (hb.cell (p := ⟨bk, _, none⟩) hbk).trans (hc k hlt)
      have g2 := (hb.cell (p := ⟨bj, _, none⟩) hbj).trans (hd k hlt)
      have i0 : (0 : Int) ≤ (k : Int) := by omega
      have i1 : (k : Int) < 8 := by omega
      have Hb := Lib.hid hb
      have Hs := Lib.hid hs
      have Hat := Lib.hid (HA.out k hlt hs)
      clear hc hd hb hs
      by_cases he : xs.getD k 0 = ys.getD k 0
      · have Hs2 := Lib.hid (show ∀ j, j < k + 1 → xs.getD j 0 = ys.getD j 0 from fun j hj => by
          rcases Nat.lt_succ_iff_lt_or_eq.1 hj with h | rfl
          · exact Hs.out j h
          · exact he)
        have hcv : cmpV (xs.getD k 0) (ys.getD k 0) = 0 := by rw [he]; simp [cmpV]
        have con := Lib.hid (fun W => (c_cmp (xs.getD k 0) (ys.getD k 0) W).mono (R' := fun e w' => e = .returned (.int .i64 0) ∧ W = w') (fun e w' h => by rw [hcv] at h; exact h))
        clear he hcv
        generalize xs.getD k 0 = p at *
        generalize ys.getD k 0 = q at *
        go_wp2_with (go_at_call 99; refine (con.out _).mono ?_; rintro e w' ⟨rfl, rfl⟩)
        go_roundw
        case rel => exact ⟨k + 1, by omega, by go_num, Hs2.out, Hb.out⟩
        case measure => simp [intOf]; omega
      · have hcv : cmpV (xs.getD k 0) (ys.getD k 0) = -1 ∨ cmpV (xs.getD k 0) (ys.getD k 0) = 1 := by
          unfold cmpV
          rcases Int.lt_trichotomy (xs.getD k 0) (ys.getD k 0) with h | h | h
          · left; rw [if_pos h]
          · exact absurd h he
          · right; rw [if_neg (by omega), if_pos h]
        have Hat2 := Lib.hid (Hat.out he)
        have hcl := cmpV_less (xs.getD k 0) (ys.getD k 0)
        rcases hcv with hcv | hcv
        all_goals
          have con := Lib.hid (fun W => (c_cmp (xs.getD k 0) (ys.getD k 0) W).mono (R' := fun e w' => e = .returned (.int .i64 (cmpV (xs.getD k 0) (ys.getD k 0))) ∧ W = w') (fun e w' h => h))
          rw [hcv] at con hcl
          have Hcl := Lib.hid hcl
          clear he Hat hcv hcl
          generalize xs.getD k 0 = p at *
          generalize ys.getD k 0 = q at *
          go_wp2_with (go_at_call 99; refine (con.out _).mono ?_; rintro e w' ⟨rfl, rfl⟩)
          go_ret
          exact ⟨⟨_, rfl, by rw [Hat2.out]; exact Hcl.out⟩, Hb.out⟩
    · obtain rfl : k = 8 := by omega
      have Hf := Lib.hid (HS.out (fun j hj => hs j (by have := Lx.out; omega)))
      clear hs hc hd
      go_wp2
      go_ret
      exact ⟨⟨0, rfl, by rw [Hf.out]; rfl⟩, hb⟩

/-- The least of f itself and of its first k spun ones. -/
def bestF (f : Nat → Int) : Nat → Nat → Int
  | 0 => f
  | k + 1 => if lessL (l8 (spinF f k)) (l8 (bestF f k)) then spinF f k else bestF f k

theorem bestF_l8 {f : Nat → Int} {xs : List Int} (h8 : xs.length = 8) (hf : ∀ i, f i = xs.getD i 0) : ∀ k, k ≤ 4 → l8 (bestF f k) = bestL xs k
  | 0, _ => l8_of h8 (fun i _ => hf i)
  | k + 1, h => by
    have e1 : l8 (spinF f k) = spinL xs k := l8_of (by rw [spinL_len, h8]) (fun i hi => by rw [spinL_get h8 (by omega) hi]; unfold spinF; exact hf _)
    have e2 := bestF_l8 h8 hf k (by omega)
    unfold bestF bestL
    rw [e1, e2]
    split
    · exact e1
    · exact e2

theorem Eight.otherAll {w : World} {g g' : Nat} {f : Nat → Int} (h : Eight w g f) (hne : g ≠ g') (F : Nat → Int) : Eight ((((((((w.setCell ⟨g', 0, none⟩ (.int .i64 (F 0))).setCell ⟨g', 1, none⟩ (.int .i64 (F 1))).setCell ⟨g', 2, none⟩ (.int .i64 (F 2))).setCell ⟨g', 3, none⟩ (.int .i64 (F 3))).setCell ⟨g', 4, none⟩ (.int .i64 (F 4))).setCell ⟨g', 5, none⟩ (.int .i64 (F 5))).setCell ⟨g', 6, none⟩ (.int .i64 (F 6))).setCell ⟨g', 7, none⟩ (.int .i64 (F 7))) g f :=
  (((((((h.other hne _).other hne _).other hne _).other hne _).other hne _).other hne _).other hne _).other hne _

set_option maxRecDepth 100000 in
set_option maxHeartbeats 4000000 in
theorem c_least (f : Nat → Int) (w : World) : Calls Try.prog 65 #[.agg #[.int .i64 (f 0), .int .i64 (f 1), .int .i64 (f 2), .int .i64 (f 3), .int .i64 (f 4), .int .i64 (f 5), .int .i64 (f 6), .int .i64 (f 7)]] w fun e w' => e = .returned (.agg #[.int .i64 ((bestF f 4) 0), .int .i64 ((bestF f 4) 1), .int .i64 ((bestF f 4) 2), .int .i64 ((bestF f 4) 3), .int .i64 ((bestF f 4) 4), .int .i64 ((bestF f 4) 5), .int .i64 ((bestF f 4) 6), .int .i64 ((bestF f 4) 7)]) ∧ Below w.heap.size w w' := by
  have hEa := ((eight_box w 46 f).alloc (.cells #[.int .i64 0, .int .i64 0, .int .i64 0, .int .i64 0, .int .i64 0, .int .i64 0, .int .i64 0, .int .i64 0] 46)).alloc (.cells #[.int .i64 (f 0), .int .i64 (f 1), .int .i64 (f 2), .int .i64 (f 3), .int .i64 (f 4), .int .i64 (f 5), .int .i64 (f 6), .int .i64 (f 7)] 46)
  have hEb := (eight_new (w.alloc (.cells #[.int .i64 (f 0), .int .i64 (f 1), .int .i64 (f 2), .int .i64 (f 3), .int .i64 (f 4), .int .i64 (f 5), .int .i64 (f 6), .int .i64 (f 7)] 46)) 46).alloc (.cells #[.int .i64 (f 0), .int .i64 (f 1), .int .i64 (f 2), .int .i64 (f 3), .int .i64 (f 4), .int .i64 (f 5), .int .i64 (f 6), .int .i64 (f 7)] 46)
  have hEc := eight_box ((w.alloc (.cells #[.int .i64 (f 0), .int .i64 (f 1), .int .i64 (f 2), .int .i64 (f 3), .int .i64 (f 4), .int .i64 (f 5), .int .i64 (f 6), .int .i64 (f 7)] 46)).alloc (.cells #[.int .i64 0, .int .i64 0, .int .i64 0, .int .i64 0, .int .i64 0, .int .i64 0, .int .i64 0, .int .i64 0] 46)) 46 f
  rw [World.size_alloc] at hEb
  rw [World.size_alloc, World.size_alloc] at hEc
  have hb0 : Below w.heap.size w (((w.alloc (.cells #[.int .i64 (f 0), .int .i64 (f 1), .int .i64 (f 2), .int .i64 (f 3), .int .i64 (f 4), .int .i64 (f 5), .int .i64 (f 6), .int .i64 (f 7)] 46)).alloc (.cells #[.int .i64 0, .int .i64 0, .int .i64 0, .int .i64 0, .int .i64 0, .int .i64 0, .int .i64 0, .int .i64 0] 46)).alloc (.cells #[.int .i64 (f 0), .int .i64 (f 1), .int .i64 (f 2), .int .i64 (f 3), .int .i64 (f 4), .int .i64 (f 5), .int .i64 (f 6), .int .i64 (f 7)] 46)) := by go_grown
  have HEa := Lib.hid hEa
  have HEb := Lib.hid hEb
  have HEc := Lib.hid hEc
  have Hb0 := Lib.hid hb0
  have Hyes := Lib.hid (fun k (h : lessL (l8 (spinF f k)) (l8 (bestF f k)) = true) => (show bestF f (k + 1) = spinF f k from by rw [bestF, if_pos h]))
  have Hno := Lib.hid (fun k (h : lessL (l8 (spinF f k)) (l8 (bestF f k)) = false) => (show bestF f (k + 1) = bestF f k from by rw [bestF, if_neg (by rw [h]; simp)]))
  have H0 := Lib.hid (show bestF f 0 = f from rfl)
  obtain ⟨F, hF⟩ : ∃ F, F = bestF f 4 := ⟨_, rfl⟩
  rw [← hF]
  have HF := Lib.hid hF
  clear hF hEa hEb hEc hb0
  go_enter Try.func65, Try.ntmps65
  go_wp2
  go_loopw [7] (fun i wr => ∃ k : Nat, k ≤ 4 ∧ i = .int .i64 k ∧ Eight wr w.heap.size f ∧ Eight wr (w.heap.size + 1) (fun _ => 0) ∧ Eight wr (w.heap.size + 2) (bestF f k) ∧ Below w.heap.size w wr) (fun i _ => 4 - (intOf i).toNat)
  case atStart => exact ⟨0, by omega, rfl, HEa.out, HEb.out, by rw [H0.out]; exact HEc.out, Hb0.out⟩
  case round =>
    clear HEa HEb HEc Hb0
    obtain ⟨k, hk, rfl, hE, hR, hT, hb⟩ := hrel
    by_cases hlt : k < 4
    · have con := Lib.hid (fun W => c_spun f k W hlt)
      have hyes := Lib.hid (Hyes.out k)
      have hno := Lib.hid (Hno.out k)
      generalize hB : bestF f k = B at *
      generalize hS : spinF f k = S at *
      have conC := Lib.hid (fun W g1 g2 (h1 : Eight W g1 S) (h2 : Eight W g2 B) => c_compare (some ⟨g1, 0, none⟩) (some ⟨g2, 0, none⟩) 8 8 (l8 S) (l8 B) W (eight_reads h1) (eight_reads h2) (l8_len _) (l8_len _))
      have a0 := hE.1 0 (by omega)
      have a1 := hE.1 1 (by omega)
      have a2 := hE.1 2 (by omega)
      have a3 := hE.1 3 (by omega)
      have a4 := hE.1 4 (by omega)
      have a5 := hE.1 5 (by omega)
      have a6 := hE.1 6 (by omega)
      have a7 := hE.1 7 (by omega)
      have HE := Lib.hid hE
      have HR := Lib.hid hR
      have HT := Lib.hid hT
      have Hb := Lib.hid hb
      clear hE hR hT hb hB hS Hyes Hno
      cases hl : lessL (l8 S) (l8 B)
      all_goals
        rw [hl] at conC
        have Hl := Lib.hid hl
        clear hl
        go_wp2_with (go_at_call 61; refine (con.out _).mono ?_; rintro e w2 ⟨rfl, hb2⟩)
        have hE2 := (HE.out.keep hb2).alloc (.cells #[.int .i64 (S 0), .int .i64 (S 1), .int .i64 (S 2), .int .i64 (S 3), .int .i64 (S 4), .int .i64 (S 5), .int .i64 (S 6), .int .i64 (S 7)] 46)
        have hR2 := (HR.out.keep hb2).alloc (.cells #[.int .i64 (S 0), .int .i64 (S 1), .int .i64 (S 2), .int .i64 (S 3), .int .i64 (S 4), .int .i64 (S 5), .int .i64 (S 6), .int .i64 (S 7)] 46)
        have hT2 := (HT.out.keep hb2).alloc (.cells #[.int .i64 (S 0), .int .i64 (S 1), .int .i64 (S 2), .int .i64 (S 3), .int .i64 (S 4), .int .i64 (S 5), .int .i64 (S 6), .int .i64 (S 7)] 46)
        have hS2 := eight_box w2 46 S
        have hbw := (bstep Hb.out hb2).alloc (bstep Hb.out hb2).size (.cells #[.int .i64 (S 0), .int .i64 (S 1), .int .i64 (S 2), .int .i64 (S 3), .int .i64 (S 4), .int .i64 (S 5), .int .i64 (S 6), .int .i64 (S 7)] 46)
        obtain ⟨v, hv⟩ : ∃ v, v = w2.alloc (.cells #[.int .i64 (S 0), .int .i64 (S 1), .int .i64 (S 2), .int .i64 (S 3), .int .i64 (S 4), .int .i64 (S 5), .int .i64 (S 6), .int .i64 (S 7)] 46) := ⟨_, rfl⟩
        rw [← hv] at hE2 hR2 hT2 hS2 hbw ⊢
        clear hv hb2 a0 a1 a2 a3 a4 a5 a6 a7
        have HE2 := Lib.hid hE2
        have HR2 := Lib.hid hR2
        have Hbw := Lib.hid hbw
        clear hE2 hR2 hbw HE HR HT
        go_region_held3 (fun w' => True) (exact trivial) ((go_at_call 87; refine (conC.out _ _ _ hS2.drew hT2.drew).mono ?_; rintro e wr ⟨⟨r, rfl, hr⟩, hb3⟩; have hE3 := Lib.hid (HE2.out.drew.keep hb3); have hR3 := Lib.hid (HR2.out.drew.keep hb3); have hT3 := hT2.drew.keep hb3; have hS3 := hS2.drew.keep hb3; have hb := Lib.hid (bstep Hbw.out.drew hb3); clear hb3; have s0 := hS3.1 0 (by omega); have s1 := hS3.1 1 (by omega); have s2 := hS3.1 2 (by omega); have s3 := hS3.1 3 (by omega); have s4 := hS3.1 4 (by omega); have s5 := hS3.1 5 (by omega); have s6 := hS3.1 6 (by omega); have s7 := hS3.1 7 (by omega); have t0 := hT3.1 0 (by omega); have t1 := hT3.1 1 (by omega); have t2 := hT3.1 2 (by omega); have t3 := hT3.1 3 (by omega); have t4 := hT3.1 4 (by omega); have t5 := hT3.1 5 (by omega); have t6 := hT3.1 6 (by omega); have t7 := hT3.1 7 (by omega); have tf := hT3.2; have HT3 := Lib.hid hT3; clear hS3 hT3))
        go_wp2
        go_roundw
      · exact ⟨k + 1, by omega, by go_num, hE3.out, hR3.out, by rw [hno.out Hl.out]; exact HT3.out, hb.out⟩
      · simp [intOf]; omega
      · exact ⟨k + 1, by omega, by go_num, hE3.out.otherAll (by omega) S, hR3.out.otherAll (by omega) S, by rw [hyes.out Hl.out]; exact HT3.out.setAll S, setAll8_below hb.out (by omega) S⟩
      · simp [intOf]; omega
    · obtain rfl : k = 4 := by omega
      rw [← HF.out] at hT
      clear hE
      have d0 := hT.1 0 (by omega)
      have d1 := hT.1 1 (by omega)
      have d2 := hT.1 2 (by omega)
      have d3 := hT.1 3 (by omega)
      have d4 := hT.1 4 (by omega)
      have d5 := hT.1 5 (by omega)
      have d6 := hT.1 6 (by omega)
      have d7 := hT.1 7 (by omega)
      have r0 := hR.1 0 (by omega)
      have r1 := hR.1 1 (by omega)
      have r2 := hR.1 2 (by omega)
      have r3 := hR.1 3 (by omega)
      have r4 := hR.1 4 (by omega)
      have r5 := hR.1 5 (by omega)
      have r6 := hR.1 6 (by omega)
      have r7 := hR.1 7 (by omega)
      have rf := hR.2
      have Hall := Lib.hid (hR.setAll F)
      have Hb := Lib.hid (setAll8_below hb (show w.heap.size ≤ w.heap.size + 1 from Nat.le_succ _) F)
      clear hT hR hb
      go_wp2
      have e0 := Hall.out.1 0 (by omega)
      have e1 := Hall.out.1 1 (by omega)
      have e2 := Hall.out.1 2 (by omega)
      have e3 := Hall.out.1 3 (by omega)
      have e4 := Hall.out.1 4 (by omega)
      have e5 := Hall.out.1 5 (by omega)
      have e6 := Hall.out.1 6 (by omega)
      have e7 := Hall.out.1 7 (by omega)
      have hb := Hb.out
      obtain ⟨W, hW⟩ : ∃ W, W = ((((((((wr.setCell ⟨w.heap.size + 1, 0, none⟩ (.int .i64 (F 0))).setCell ⟨w.heap.size + 1, 1, none⟩ (.int .i64 (F 1))).setCell ⟨w.heap.size + 1, 2, none⟩ (.int .i64 (F 2))).setCell ⟨w.heap.size + 1, 3, none⟩ (.int .i64 (F 3))).setCell ⟨w.heap.size + 1, 4, none⟩ (.int .i64 (F 4))).setCell ⟨w.heap.size + 1, 5, none⟩ (.int .i64 (F 5))).setCell ⟨w.heap.size + 1, 6, none⟩ (.int .i64 (F 6))).setCell ⟨w.heap.size + 1, 7, none⟩ (.int .i64 (F 7))) := ⟨_, rfl⟩
      rw [← hW] at e0 e1 e2 e3 e4 e5 e6 e7 hb ⊢
      clear hW Hall Hb d0 d1 d2 d3 d4 d5 d6 d7 r0 r1 r2 r3 r4 r5 r6 r7 rf
      refine bodyPost_ret (v := .agg #[.int .i64 (F 0), .int .i64 (F 1), .int .i64 (F 2), .int .i64 (F 3), .int .i64 (F 4), .int .i64 (F 5), .int .i64 (F 6), .int .i64 (F 7)]) (by simp [results, Try.results65, go_sem, e0, e1, e2, e3, e4, e5, e6, e7]) rfl ⟨rfl, hb⟩

end Go.Proofs.Ytjbdflkbclhonaa

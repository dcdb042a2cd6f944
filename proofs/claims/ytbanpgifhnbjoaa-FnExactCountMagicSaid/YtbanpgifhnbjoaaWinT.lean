/- Windows: sides, spun ones, the least one: the specification's. -/
import Derived.Test.YtbanpgifhnbjoaaWinS
namespace Go.Proofs.Ytbanpgifhnbjoaa
open Go.RowKit
set_option linter.unusedVariables false

/-- A new list of eight numbers comes back. -/
def Ret8 (w : World) (xs : List Int) (e : Ending) (w' : World) : Prop :=
  ∃ A c, e = .returned (.slice A 8 c) ∧ w'.ownsRow w.heap.size 3 1 (.slice A 8 c) 8 (cellsI xs) ∧ Below w.heap.size w w'

theorem ret8 {w w' : World} {xs : List Int} {e : Ending} (h : xs.length = 8) (hr : RetN w xs e w') : Ret8 w xs e w' := by
  obtain ⟨A, c, h1, h2, h3⟩ := hr
  rw [h] at h1 h2
  exact ⟨A, c, h1, h2, h3⟩

theorem rd8 {w : World} {base : Nat} {A : Option Addr} {c : Nat} {xs : List Int} (h : xs.length = 8) (ho : w.ownsRow base 3 1 (.slice A 8 c) 8 (cellsI xs)) : RdI w A xs := by
  rw [← h] at ho
  exact RdI.of_own ho

set_option maxRecDepth 100000 in
set_option maxHeartbeats 2000000 in
theorem c_wiSides (A : Option Addr) (c : Nat) (xs : List Int) (w : World) (hr : RdI w A xs) (h8 : xs.length = 8) (hbd : ∀ i, 0 ≤ xs.getD i 0 ∧ xs.getD i 0 ≤ 9) :
    Calls Try.prog 39 #[.slice A 8 c] w (RetN w (sidesTo xs 4)) := by
  obtain ⟨bk, off, rfl, hbk, hc⟩ := hr.cellD h8 (by omega)
  have Hc := Lib.hid hc
  have Hbd := Lib.hid hbd
  clear hr h8 hc hbd
  go_enter Try.func39, Try.ntmps39
  go_wp2
  go_loopw [3, 4] (fun v i wr => ∃ (k m : Nat) (A' : Option Addr) (c' : Nat), m = 2 * k ∧ k ≤ 4 ∧ i = .int .i64 m ∧ v = .slice A' (sidesTo xs k).length c' ∧ wr.ownsRow w.heap.size 3 1 (.slice A' (sidesTo xs k).length c') (sidesTo xs k).length (cellsI (sidesTo xs k)) ∧ Below w.heap.size w wr) (fun _ i _ => 8 - (intOf i).toNat)
  case atStart => exact ⟨0, 0, none, 0, rfl, by omega, rfl, rfl, World.ownsRow_nil _ _ _ _, Below.refl _ _⟩
  case round =>
    obtain ⟨k, m, A', c', hm, hk, rfl, rfl, hown, hb⟩ := hrel
    have hpl : (sidesTo xs k).length ≤ 4 := by rw [sidesTo_len]; omega
    have hm8 : m ≤ 8 := by omega
    by_cases hlt : m < 8
    · obtain ⟨r, hr⟩ : ∃ r : Nat, r = (m + 2) % 8 := ⟨_, rfl⟩
      have hrt : ((m : Int) + 2).tmod 8 = (r : Int) := by rw [Int.tmod_eq_emod_of_nonneg (by omega)]; omega
      have g1 := (hb.cell (p := ⟨bk, _, none⟩) hbk).trans (Hc.out m (by omega))
      have g2 := (hb.cell (p := ⟨bk, _, none⟩) hbk).trans (Hc.out (m + 1) (by omega))
      have g3 := (hb.cell (p := ⟨bk, _, none⟩) hbk).trans (Hc.out r (by omega))
      have d1 := Hbd.out m
      have d2 := Hbd.out (m + 1)
      have d3 := Hbd.out r
      have hst : sidesTo xs (k + 1) = sidesTo xs k ++ [xs.getD m 0 + xs.getD (m + 1) 0 + xs.getD r 0] := by rw [sidesTo_step, hr, hm]; rfl
      have Hst := Lib.hid hst
      have Hm := Lib.hid hm
      have Hb := Lib.hid hb
      have Ho := Lib.hid hown
      have hsz := hb.size
      have i0 : (0 : Int) ≤ (m : Int) := by omega
      have i1 : (m : Int) < 8 := by omega
      have i2 : (0 : Int) ≤ (m : Int) + 1 := by omega
      have i3 : (m : Int) + 1 < 8 := by omega
      have i4 : (0 : Int) ≤ (r : Int) := by omega
      have i5 : (r : Int) < 8 := by omega
      have w1 : IntKind.i64.wrap ((m : Int) + 1) = (m : Int) + 1 := IntWalk.i64_in _ (by omega)
      have w2 : IntKind.i64.wrap ((m : Int) + 2) = (m : Int) + 2 := IntWalk.i64_in _ (by omega)
      have w3 : IntKind.i64.wrap (r : Int) = (r : Int) := IntWalk.i64_in _ (by omega)
      clear hst hm hb hown hr
      generalize xs.getD m 0 = p at *
      generalize xs.getD (m + 1) 0 = q at *
      generalize xs.getD r 0 = s at *
      generalize hT : sidesTo xs k = T at *
      clear hT
      have w4 : IntKind.i64.wrap (p + q) = p + q := IntWalk.i64_in _ (by omega)
      have w5 : IntKind.i64.wrap (p + q + s) = p + q + s := IntWalk.i64_in _ (by omega)
      have Ho2 := Lib.hid ((own_drew Ho.out).alloc (.cells #[.int .i64 (p + q + s)] 3))
      have hba := (Below.refl wr.heap.size wr.drew).alloc (Nat.le_refl wr.drew.heap.size) (.cells #[.int .i64 (p + q + s)] 3)
      have y1 := keepc hba (g1d _ g1)
      have y2 := keepc hba (g1d _ g2)
      have y3 := keepc hba (g1d _ g3)
      have Hba := Lib.hid hba
      clear hba
      go_wp2
      go_region_held3 (fun w' => w'.cell? ⟨bk, off + m, none⟩ = some (.int .i64 p) ∧ w'.cell? ⟨bk, off + (m + 1), none⟩ = some (.int .i64 q) ∧ w'.cell? ⟨bk, off + r, none⟩ = some (.int .i64 s)) (first | exact ⟨z1, z2, z3⟩ | exact ⟨y1, y2, y3⟩ | go_keep) (first | (refine step_append_int rfl (.tmp 9) (.tmp 27) rfl w.heap.size (.slice A' T.length c') T rfl Ho2.out (p + q + s) wr.heap.size rfl (by simp) (by omega) (by simp; omega) ?_; intro A2 c2 w3 hown3 hg3; have hbz := below_of_grown hg3 (B := w.heap.size) (by simp; omega) (fun g hg => (Ho2.out.lt g hg).1); have z1 := (hbz.cell (p := ⟨bk, off + m, none⟩) hbk).trans y1; have z2 := (hbz.cell (p := ⟨bk, off + (m + 1), none⟩) hbk).trans y2; have z3 := (hbz.cell (p := ⟨bk, off + r, none⟩) hbk).trans y3))
      go_wp2
      go_roundw
      case rel =>
        refine ⟨k + 1, m + 2, A2, c2, by have := Hm.out; omega, by have := Hm.out; omega, by go_num, by rw [Hst.out, List.length_append]; rfl, ?_, ?_⟩
        · rw [Hst.out, List.length_append]; exact hown3
        · exact Below.grown (Hb.out.drew.trans (Hba.out.mono hsz)) hg3 (by simp; omega) (fun g hg => (Ho2.out.lt g hg).1)
      case measure => simp [intOf]; omega
    · obtain rfl : k = 4 := by omega
      obtain rfl : m = 8 := by omega
      go_wp2
      go_ret
      exact ⟨A', c', rfl, hown, hb⟩

/-- .. told with four. -/
theorem c_wiSides4 (A : Option Addr) (c : Nat) (xs : List Int) (w : World) (hr : RdI w A xs) (h8 : xs.length = 8) (hbd : ∀ i, 0 ≤ xs.getD i 0 ∧ xs.getD i 0 ≤ 9) :
    Calls Try.prog 39 #[.slice A 8 c] w fun e w' => ∃ b o c, e = .returned (.slice (some ⟨b, o, none⟩) 4 c) ∧ w'.cell? ⟨b, o, none⟩ = some (.int .i64 (sideV xs 0)) ∧ w'.cell? ⟨b, o + 1, none⟩ = some (.int .i64 (sideV xs 1)) ∧ w'.cell? ⟨b, o + 2, none⟩ = some (.int .i64 (sideV xs 2)) ∧ w'.cell? ⟨b, o + 3, none⟩ = some (.int .i64 (sideV xs 3)) ∧ Below w.heap.size w w' :=
  (c_wiSides A c xs w hr h8 hbd).mono fun e w' ⟨A, c, h1, h2, h3⟩ => by
    obtain ⟨b, o, hA, _, hc⟩ := (RdI.of_own h2).cellD (n := 4) rfl (by decide)
    subst hA
    exact ⟨b, o, c, h1, hc 0 (by omega), hc 1 (by omega), hc 2 (by omega), hc 3 (by omega), h3⟩

theorem fair_4 (xs : List Int) : fairB xs = ((sideV xs 0 == sideV xs 1) && ((sideV xs 1 == sideV xs 2) && (sideV xs 2 == sideV xs 3))) := by
  unfold fairB sameL sidesL
  generalize sideV xs 0 = a
  generalize sideV xs 1 = b
  generalize sideV xs 2 = c
  generalize sideV xs 3 = d
  rw [Bool.eq_iff_iff]
  simp only [List.all_cons, List.all_nil, List.getD_cons_zero, Bool.and_eq_true, decide_eq_true_eq, beq_iff_eq, Bool.and_true]
  constructor
  · rintro ⟨_, h1, h2, h3⟩
    exact ⟨h1.symm, h1.trans h2.symm, h2.trans h3.symm⟩
  · rintro ⟨h1, h2, h3⟩
    exact ⟨trivial, h1.symm, (h1.trans h2).symm, ((h1.trans h2).trans h3).symm⟩

set_option maxRecDepth 100000 in
set_option maxHeartbeats 2000000 in
theorem c_wiFair (A : Option Addr) (c : Nat) (xs : List Int) (w : World) (hr : RdI w A xs) (h8 : xs.length = 8) (hbd : ∀ i, 0 ≤ xs.getD i 0 ∧ xs.getD i 0 ≤ 9) :
    Calls Try.prog 80 #[.slice A 8 c] w fun e w' => e = .returned (.bool (fairB xs)) ∧ Below w.heap.size w w' := by
  have con := Lib.hid (c_wiSides4 A c xs w hr h8 hbd)
  rw [fair_4]
  generalize sideV xs 0 = s0 at *
  generalize sideV xs 1 = s1 at *
  generalize sideV xs 2 = s2 at *
  generalize sideV xs 3 = s3 at *
  clear hr h8 hbd
  cases h1 : (s0 == s1) <;> cases h2 : (s1 == s2) <;> cases h3 : (s2 == s3)
  all_goals
    go_enter Try.func80, Try.ntmps80
    go_wp2_with (go_at_call 39; refine con.out.mono ?_; rintro e w1 ⟨b, o, c1, rfl, x0, x1, x2, x3, hb1⟩)
    go_quiet (fail)
    go_wp2
    go_ret
    exact ⟨rfl, (by first | exact hb1.drew | exact belowN hb1 _)⟩

set_option maxRecDepth 100000 in
set_option maxHeartbeats 2000000 in
theorem c_wiSpin (A : Option Addr) (c : Nat) (xs : List Int) (k : Nat) (w : World) (hr : RdI w A xs) (h8 : xs.length = 8) (hk : k < 4) (hcap : 8 ≤ c) :
    Calls Try.prog 103 #[.slice A 8 c, .int .i64 k] w (Ret8 w (spinL xs k)) := by
  obtain ⟨m, hm⟩ : ∃ m, m = 2 * k := ⟨_, rfl⟩
  obtain ⟨b, off, rfl, _, _⟩ := hr.cellD h8 (by omega)
  have hp1 := Lib.hid (show ∀ W, Below w.heap.size w W → RdI W (some ⟨b, off + m, none⟩) (xs.drop m) ∧ RdI W (some ⟨b, off, none⟩) (xs.take m) from fun W hb => by
    obtain ⟨b', off', hA, hc⟩ := hr.below hb
    have e := hA (by rintro rfl; simp at h8)
    injection e with e
    injection e with e3 e4
    subst e3 e4
    refine ⟨⟨b, off + m, fun _ => rfl, fun j hj => ?_⟩, ⟨b, off, fun _ => rfl, fun j hj => ?_⟩⟩
    · simp only [List.length_drop] at hj
      rw [List.getElem_drop, Nat.add_assoc]
      exact hc (m + j) (by omega)
    · simp only [List.length_take] at hj
      rw [List.getElem_take]
      exact hc j (by omega))
  have conO := Lib.hid (fun W (hb : Below w.heap.size w W) => (show Calls Try.prog 65 #[.slice (some ⟨b, off + m, none⟩) (8 - m) (c - m)] W (RetN W (xs.drop m)) from by
    have := c_l1Own (some ⟨b, off + m, none⟩) (c - m) (xs.drop m) W (hp1.out W hb).1 (by simp; omega)
    rwa [List.length_drop, h8] at this))
  have Hsp := Lib.hid (show spinL xs k = xs.drop m ++ xs.take m from by rw [hm]; rfl)
  have hul : (xs.take m).length = m := by simp; omega
  have hvl : (xs.drop m).length = 8 - m := by simp; omega
  have Hlen := Lib.hid (show (spinL xs k).length = 8 from by rw [spinL_len, h8])
  have iw : IntKind.i64.wrap (2 * (k : Int)) = (m : Int) := by rw [IntWalk.i64_in _ (by omega)]; omega
  have iw2 : (2 * (k : Int)) = (m : Int) := by omega
  have hm8 : m ≤ 6 := by omega
  have i0 : (0 : Int) ≤ (m : Int) := by omega
  have i1 : (m : Int) ≤ 8 := by omega
  have i2 : (m : Int) ≤ (c : Int) := by omega
  have i3 : (m : Int) < (c : Int) := by omega
  have n1 : ¬ c = m := by omega
  have Hw := Lib.hid iw2
  obtain ⟨us, hus⟩ : ∃ us, us = xs.take m := ⟨_, rfl⟩
  obtain ⟨vs, hvs⟩ : ∃ vs, vs = xs.drop m := ⟨_, rfl⟩
  rw [← hus] at hp1 Hsp hul
  rw [← hvs] at hp1 conO Hsp hvl
  clear hus hvs hr h8 iw2 hm
  have Hvl := Lib.hid hvl
  clear hvl
  subst hul
  go_enter Try.func103, Try.ntmps103
  go_wp2_with fail
  go_region_held3 (fun w' => True) (exact trivial) (first | (go_at_call 65; refine (conO.out _ (Below.refl _ w).drew).mono ?_; rintro e w4 ⟨A4, c4, rfl, ho4, hb4⟩; have hb04 := bstep (Below.refl _ w).drew hb4; have Hx := Lib.hid (hp1.out _ hb04).2) | (refine step_append_ints rfl (.tmp 9) (.tmp 13) rfl w.heap.size (.slice A4 vs.length c4) vs rfl ho4 (some ⟨b, off, none⟩) c us rfl Hx.out (by have := Hvl.out; omega) (by omega) hb04.size ⟨_, _, rfl⟩ ?_; intro A5 c5 w5 ho5 hg5))
  go_wp2
  go_ret
  rw [Hsp.out]
  exact ret8 (by rw [← Hsp.out]; exact Hlen.out) ⟨A5, c5, (by rw [List.length_append]; rfl), ho5, hb04.trans (below_of_grown hg5 hb04.size (fun g hg => (ho4.lt g hg).1))⟩
end Go.Proofs.Ytbanpgifhnbjoaa

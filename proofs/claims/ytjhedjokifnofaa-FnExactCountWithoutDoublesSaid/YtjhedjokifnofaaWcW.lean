/- Whole chains counted by the specification: from a number on, only where there is one; a hand without its doubles. -/
import Derived.Test.YtjhedjokifnofaaWcN
import Derived.Test.YtjhedjokifnofaaWcS
namespace Go.Proofs.Ytjhedjokifnofaa
open Go.RowKit
set_option linter.unusedVariables false

/-- May all whole chains of a list be counted, and how many are they without the doubles? -/
def cwB (H : List (Int × Int)) : Bool := handB H && decide (H.length ≤ 12)
def cwV (H : List (Int × Int)) : Int := if cwB H then (allN (wdL H) : Int) else 0
theorem hand_wd {H : List (Int × Int)} (h : handB H = true) : handB (wdL H) = true := by
  have hp : handP H := of_decide_eq_true h
  exact decide_eq_true ⟨Nat.le_trans (List.length_filter_le _ _) hp.1, fun t ht => hp.2.1 t (List.mem_filter.1 ht).1, hp.2.2.filter _⟩
theorem those_woT {P : List (Int × Int)} (h : handB P = true) (t : Int × Int) : (thoseL P [t] false).Perm (woT P t) := by
  have e : woT P t = P.filter (pickB [t] false) := by
    unfold woT
    refine List.filter_congr fun u _ => ?_
    unfold pickB
    by_cases hu : u = t <;> simp [hu]
  rw [e]
  exact (sortP_perm h).filter _
theorem hand_perm {P Q : List (Int × Int)} (h : P.Perm Q) (hp : handB P = true) : handB Q = true := by
  have hq : handP P := of_decide_eq_true hp
  exact decide_eq_true ⟨by rw [← h.length_eq]; exact hq.1, fun t ht => hq.2.1 t (h.mem_iff.2 ht), h.nodup_iff.1 hq.2.2⟩
theorem rdT_one {w : World} {g : Nat} {x y : Int} (h0 : w.cell? ⟨g, 0, none⟩ = some (.int .i64 x)) (h1 : w.cell? ⟨g, 1, none⟩ = some (.int .i64 y)) : RdT w (some ⟨g, 0, none⟩) [(x, y)] :=
  ⟨g, 0, fun _ => rfl, fun j hj => by
    have : j = 0 := by simp at hj; omega
    subst this
    exact ⟨h0, h1⟩⟩

set_option maxHeartbeats 1000000 in
theorem c_whWithout (A : Option Addr) (c : Nat) (P : List (Int × Int)) (a b : Int) (w : World) (hr : RdT w A P) (hl : P.length ≤ 1048576) :
    Calls Try.prog 67 #[.slice A P.length c, .int .i64 a, .int .i64 b] w (RetL w (thoseL P [tile2 a b] false)) := by
  have con := fun (W : World) (A2 : Option Addr) (h : RdT W A P) (h2 : RdT W A2 [tile2 a b]) => c_tiThose A c P A2 1 [tile2 a b] false W h hl h2 (by simp)
  have Con := Lib.hid con
  have HR := Lib.hid hr
  clear con hr
  go_enter Try.func67, Try.ntmps67
  go_wp2_with (first | (go_at_call 66; refine (c_tiOf _ _ _).mono ?_; rintro e w1 ⟨rfl, h1⟩) | (go_at_call 81; have al : Below w1.heap.size w1 (w1.alloc (.cells #[.int .i64 (min a b), .int .i64 (max a b)] 49)) := (Below.refl _ _).alloc (Nat.le_refl _) _; refine (Con.out _ _ ((HR.out.below h1).below al) (rdT_one (by simp) (by simp))).mono ?_; rintro e w2 ⟨A2, c2, rfl, o2, h2⟩))
  go_ret
  exact ⟨A2, c2, rfl, own_base o2 (Nat.le_trans h1.size al.size), (h1.trans (al.mono h1.size)).trans (h2.mono (Nat.le_trans h1.size al.size))⟩

set_option maxRecDepth 100000 in
set_option maxHeartbeats 2000000 in
theorem c_whFrom (A : Option Addr) (c : Nat) (P : List (Int × Int)) (x : Int) (w : World) (hr : RdT w A P) (hh : handB P = true) (hx : numB x = true) :
    Calls Try.prog 63 #[.slice A P.length c, .int .i64 x] w fun e w' => e = .returned (.bool (fromB P x)) ∧ Below w.heap.size w w' := by
  have hl : P.length ≤ 55 := (of_decide_eq_true hh : handP P).1
  by_cases h0 : P.length = 0
  · have e : fromB P x = true := by unfold fromB; rw [decide_eq_true h0]; rfl
    have j0 : ((P.length : Int) == 0) = true := by rw [h0]; rfl
    rw [e]
    clear e h0 hr hh
    go_enter Try.func63, Try.ntmps63
    go_wp2
    go_ret
    exact ⟨rfl, Below.refl _ _⟩
  · have j0 : ((P.length : Int) == 0) = false := by rw [beq_eq_false_iff_ne]; omega
    have conO := c_whOdd A c P w hr (by omega)
    have conP := fun (W : World) (hb : Below w.heap.size w W) => c_whPart A c P x W (hr.below hb) (by omega) (hand_gd hh) hx
    have hol := oddTo_len P 10
    have hpl : (partL P x).length ≤ 110 := Nat.le_trans (List.length_filter_le _ _) (sortL_len P)
    have e : fromB P x = (decide ((partL P x).length = P.length) && (decide ((oddTo P 10).length = 0) || (decide ((oddTo P 10).length = 2) && decide (x ∈ oddTo P 10)))) := by unfold fromB; rw [decide_eq_false h0, Bool.false_or]
    rw [e]
    clear e
    obtain ⟨os, hos⟩ : ∃ os, os = oddTo P 10 := ⟨_, rfl⟩
    obtain ⟨ps, hps⟩ : ∃ ps, ps = partL P x := ⟨_, rfl⟩
    rw [← hos] at conO hol ⊢
    simp only [← hps] at conP
    rw [← hps] at hpl ⊢
    have ConO := Lib.hid conO
    have ConP := Lib.hid conP
    clear conO conP hr hh hos hps
    by_cases h1 : ps.length = P.length
    · have j1 : ((ps.length : Int) == (P.length : Int)) = true := by rw [beq_iff_eq]; omega
      rw [decide_eq_true h1, Bool.true_and]
      by_cases h2 : os.length = 0
      · have j2 : ((os.length : Int) == 0) = true := by rw [h2]; rfl
        rw [decide_eq_true h2, Bool.true_or]
        clear h1 h2
        go_enter Try.func63, Try.ntmps63
        go_wp2_with (first | (go_at_call 64; refine ConO.out.mono ?_; rintro e w1 ⟨A1, c1, rfl, o1, h1⟩) | (go_at_call 76; refine (ConP.out _ h1).mono ?_; rintro e w2 ⟨A2, c2, rfl, o2, h2⟩))
        go_ret
        exact ⟨rfl, h1.trans (h2.mono h1.size)⟩
      · have j2 : ((os.length : Int) == 0) = false := by rw [beq_eq_false_iff_ne]; omega
        rw [decide_eq_false h2, Bool.false_or]
        by_cases h3 : os.length = 2
        · have j3 : ((os.length : Int) == 2) = true := by rw [h3]; rfl
          rw [decide_eq_true h3, Bool.true_and]
          clear h1 h2 h3
          go_enter Try.func63, Try.ntmps63
          go_wp2_with (first | (go_at_call 64; refine ConO.out.mono ?_; rintro e w1 ⟨A1, c1, rfl, o1, h1⟩) | (go_at_call 76; refine (ConP.out _ h1).mono ?_; rintro e w2 ⟨A2, c2, rfl, o2, h2⟩) | (go_at_call 77; refine (c_l1Has _ _ os x _ ((RdI.of_own o1).below h2) (by omega)).mono ?_; rintro e w3 ⟨rfl, h3⟩))
          go_ret
          exact ⟨rfl, (h1.trans (h2.mono h1.size)).trans (h3.mono (Nat.le_trans h1.size h2.size))⟩
        · have j3 : ((os.length : Int) == 2) = false := by rw [beq_eq_false_iff_ne]; omega
          rw [decide_eq_false h3, Bool.false_and]
          clear h1 h2 h3
          go_enter Try.func63, Try.ntmps63
          go_wp2_with (first | (go_at_call 64; refine ConO.out.mono ?_; rintro e w1 ⟨A1, c1, rfl, o1, h1⟩) | (go_at_call 76; refine (ConP.out _ h1).mono ?_; rintro e w2 ⟨A2, c2, rfl, o2, h2⟩))
          go_ret
          exact ⟨rfl, h1.trans (h2.mono h1.size)⟩
    · have j1 : ((ps.length : Int) == (P.length : Int)) = false := by rw [beq_eq_false_iff_ne]; omega
      rw [decide_eq_false h1, Bool.false_and]
      clear h1
      go_enter Try.func63, Try.ntmps63
      go_wp2_with (first | (go_at_call 64; refine ConO.out.mono ?_; rintro e w1 ⟨A1, c1, rfl, o1, h1⟩) | (go_at_call 76; refine (ConP.out _ h1).mono ?_; rintro e w2 ⟨A2, c2, rfl, o2, h2⟩))
      go_ret
      exact ⟨rfl, h1.trans (h2.mono h1.size)⟩

/-- The ways with one tile laid, and the sum over the numbers below q. -/
def trlA (f : Nat) (P : List (Int × Int)) (x : Int) (y : Nat) : Nat := if tile2 x (y : Int) ∈ P then trl f (woT P (tile2 x (y : Int))) (y : Int) else 0
def trlS (f : Nat) (P : List (Int × Int)) (x : Int) (q : Nat) : Nat := ((List.range q).map (trlA f P x)).sum
theorem trlS_step (f : Nat) (P : List (Int × Int)) (x : Int) (q : Nat) : trlS f P x (q + 1) = trlS f P x q + trlA f P x q := by
  unfold trlS
  rw [List.range_succ, List.map_append, List.sum_append]
  simp
theorem trlS_all {f : Nat} {P : List (Int × Int)} {x : Int} (h : P.length = f + 1) : trlS f P x 10 = trl P.length P x := by
  rw [h]
  show _ = if P.length = 0 then 1 else _
  rw [if_neg (by omega)]
  rfl
theorem trlA_le (f : Nat) (P : List (Int × Int)) (x : Int) (y : Nat) : trlA f P x y ≤ 10 ^ f := by
  unfold trlA
  split
  · exact trl_le _ _ _
  · exact Nat.zero_le _
theorem trlS_le (f : Nat) (P : List (Int × Int)) (x : Int) (q : Nat) : trlS f P x q ≤ q * 10 ^ f := by
  have := sum_le_mul (m := 10 ^ f) (List.range q) (trlA f P x) (fun y _ => trlA_le f P x y)
  rw [List.length_range] at this
  exact this
theorem ten_pow {f : Nat} (h : f ≤ 12) : 10 ^ f ≤ 1000000000000 := Nat.le_trans (Nat.pow_le_pow_right (by omega) h) (by decide)

set_option maxRecDepth 100000 in
set_option maxHeartbeats 4000000 in
theorem c_whCount : ∀ (n : Nat) (P : List (Int × Int)) (x : Nat) (A : Option Addr) (c : Nat) (w : World), P.length ≤ n → P.length ≤ 12 → handB P = true → x < 10 → RdT w A P →
    Calls Try.prog 47 #[.slice A P.length c, .int .i64 (x : Int)] w fun e w' => e = .returned (.int .i64 (trl P.length P (x : Int) : Int)) ∧ Below w.heap.size w w'
  | 0, P, x, A, c, w, hn, h12, hh, hx, hr => by
    have h0 : P.length = 0 := by omega
    have e : trl P.length P (x : Int) = 1 := by rw [h0]; unfold trl; rw [if_pos h0]
    have j0 : ((P.length : Int) == 0) = true := by rw [h0]; rfl
    rw [e]
    clear e h0 hr hh
    go_enter Try.func47, Try.ntmps47
    go_wp2
    go_ret
    exact ⟨rfl, Below.refl _ _⟩
  | n + 1, P, x, A, c, w, hn, h12, hh, hx, hr => by
    by_cases h0 : P.length = 0
    · have e : trl P.length P (x : Int) = 1 := by rw [h0]; unfold trl; rw [if_pos h0]
      have j0 : ((P.length : Int) == 0) = true := by rw [h0]; rfl
      rw [e]
      clear e h0 hr hh
      go_enter Try.func47, Try.ntmps47
      go_wp2
      go_ret
      exact ⟨rfl, Below.refl _ _⟩
    · have j0 : ((P.length : Int) == 0) = false := by rw [beq_eq_false_iff_ne]; omega
      obtain ⟨f, hf⟩ : ∃ f, P.length = f + 1 := ⟨P.length - 1, by omega⟩
      rw [← trlS_all hf]
      have HR := Lib.hid hr
      have HH := Lib.hid hh
      have IH := Lib.hid (fun (P : List (Int × Int)) (x : Nat) (A : Option Addr) (c : Nat) (w : World) => c_whCount n P x A c w)
      have h10 := ten_pow (f := f) (by omega)
      have HF := Lib.hid hf
      have hle := trlS_le f P (x : Int)
      have hla := trlA_le f P (x : Int)
      have HLE := Lib.hid hle
      have HLA := Lib.hid hla
      clear hr hh h0 hf hle hla
      go_enter Try.func47, Try.ntmps47
      go_wp2
      go_loopw [5, 6] (fun v i wr => ∃ q : Nat, q ≤ 10 ∧ i = .int .i64 q ∧ v = .int .i64 (trlS f P (x : Int) q : Int) ∧ Below w.heap.size w wr) (fun _ i _ => 10 - (intOf i).toNat)
      case atStart => exact ⟨0, Nat.zero_le _, rfl, rfl, Below.refl _ _⟩
      case round =>
        obtain ⟨q, hq, rfl, rfl, hb⟩ := hrel
        have HB := Lib.hid hb
        have hsz := hb.size
        clear hb
        by_cases hlt : q ≤ 9
        · have ST := Lib.hid (trlS_step f P (x : Int) q)
          have b1 : trlS f P (x : Int) q ≤ 10 * 1000000000000 := Nat.le_trans (HLE.out q) (Nat.mul_le_mul (by omega) h10)
          have b2 : trlA f P (x : Int) q ≤ 1000000000000 := Nat.le_trans (HLA.out q) h10
          by_cases hin : tile2 (x : Int) (q : Int) ∈ P
          · have hA : trlA f P (x : Int) q = trl f (woT P (tile2 (x : Int) (q : Int))) (q : Int) := by unfold trlA; rw [if_pos hin]
            have hpl : ¬ placeI P (min (x : Int) (q : Int), max (x : Int) (q : Int)) < 0 := by have := placeI_nonneg.2 hin; unfold tile2 at this; omega
            obtain ⟨R, hR⟩ : ∃ R, R = thoseL P [tile2 (x : Int) (q : Int)] false := ⟨_, rfl⟩
            have hperm : R.Perm (woT P (tile2 (x : Int) (q : Int))) := by rw [hR]; exact those_woT HH.out _
            have hRl : R.length = f := by have h7 := woT_len (hand_nd HH.out) hin; have h8 := HF.out; rw [hperm.length_eq]; omega
            have hRh : handB R = true := hand_perm hperm.symm (hand_woT HH.out _)
            rw [← trl_perm f (q : Int) hperm] at hA
            have conW := fun (W : World) (hb : Below w.heap.size w W) => c_whWithout A c P (x : Int) (q : Int) W (HR.out.below hb) (by omega)
            rw [← hR] at conW
            have ConW := Lib.hid conW
            have conF := fun (W : World) (A2 : Option Addr) (c2 : Nat) (h : RdT W A2 R) => c_whFrom A2 c2 R (q : Int) W h hRh (by unfold numB; simp; omega)
            have HRL := Lib.hid hRl
            have HRH := Lib.hid hRh
            clear conW hin hR hperm hRl hRh
            cases hfr : fromB R (q : Int)
            · have hz : trlA f P (x : Int) q = 0 := by
                rw [hA]
                refine Classical.byContradiction fun hne => ?_
                have := trl_from f HRH.out (by omega : q < 10) hne
                rw [hfr] at this
                cases this
              rw [hfr] at conF
              have ConF := Lib.hid conF
              have HZ := Lib.hid hz
              clear conF hA hz hfr
              go_wp2_with (first | (go_at_call 66; refine (c_tiOf _ _ _).mono ?_; rintro e w1 ⟨rfl, h1⟩) | (go_at_call 62; refine (c_tiPlace A c P _ _ _ (HR.out.below (HB.out.trans (h1.mono hsz))) (by omega)).mono ?_; rintro e w2 ⟨rfl, h2⟩; have B2 := Lib.hid ((HB.out.trans (h1.mono hsz)).trans (h2.mono (Nat.le_trans hsz h1.size)))) | (go_at_call 67; refine (ConW.out _ B2.out).mono ?_; rintro e w3 ⟨A3, c3, rfl, o3, h3⟩) | (go_at_call 63; refine (ConF.out _ _ _ (RdT.of_own o3)).mono ?_; rintro e w4 ⟨rfl, h4⟩))
              go_roundw
              case rel => exact ⟨q + 1, by omega, by go_num, by rw [ST.out, HZ.out, Nat.add_zero], (B2.out.trans (h3.mono B2.out.size)).trans (h4.mono (Nat.le_trans B2.out.size h3.size))⟩
              case measure => simp [intOf]; omega
            · rw [hfr] at conF
              have ConF := Lib.hid conF
              have HA := Lib.hid hA
              have jw : IntKind.i64.wrap ((trlS f P (x : Int) q : Int) + (trl R.length R (q : Int) : Int)) = (trlS f P (x : Int) q : Int) + (trl R.length R (q : Int) : Int) := IntWalk.i64_in _ (by rw [HRL.out, ← HA.out]; omega)
              clear conF hA hfr
              go_wp2_with (first | (go_at_call 66; refine (c_tiOf _ _ _).mono ?_; rintro e w1 ⟨rfl, h1⟩) | (go_at_call 62; refine (c_tiPlace A c P _ _ _ (HR.out.below (HB.out.trans (h1.mono hsz))) (by omega)).mono ?_; rintro e w2 ⟨rfl, h2⟩; have B2 := Lib.hid ((HB.out.trans (h1.mono hsz)).trans (h2.mono (Nat.le_trans hsz h1.size)))) | (go_at_call 67; refine (ConW.out _ B2.out).mono ?_; rintro e w3 ⟨A3, c3, rfl, o3, h3⟩) | (go_at_call 63; refine (ConF.out _ _ _ (RdT.of_own o3)).mono ?_; rintro e w4 ⟨rfl, h4⟩) | (go_at_call 47; refine (IH.out R q A3 c3 _ (by have := HRL.out; have := HF.out; omega) (by have := HRL.out; have := HF.out; omega) HRH.out (by omega) ((RdT.of_own o3).below h4)).mono ?_; rintro e w5 ⟨rfl, h5⟩))
              go_roundw
              case rel =>
                have B4 := (B2.out.trans (h3.mono B2.out.size)).trans (h4.mono (Nat.le_trans B2.out.size h3.size))
                exact ⟨q + 1, by omega, by go_num, by rw [ST.out, HA.out, HRL.out]; push_cast; rfl, B4.trans (h5.mono B4.size)⟩
              case measure => simp [intOf]; omega
          · have hz : trlA f P (x : Int) q = 0 := by unfold trlA; rw [if_neg hin]
            have hpl : placeI P (min (x : Int) (q : Int), max (x : Int) (q : Int)) < 0 := by
              have : ¬ 0 ≤ placeI P (tile2 (x : Int) (q : Int)) := fun h => hin (placeI_nonneg.1 h)
              unfold tile2 at this
              omega
            have HZ := Lib.hid hz
            clear hin hz
            go_wp2_with (first | (go_at_call 66; refine (c_tiOf _ _ _).mono ?_; rintro e w1 ⟨rfl, h1⟩) | (go_at_call 62; refine (c_tiPlace A c P _ _ _ (HR.out.below (HB.out.trans (h1.mono hsz))) (by omega)).mono ?_; rintro e w2 ⟨rfl, h2⟩))
            go_roundw
            case rel => exact ⟨q + 1, by omega, by go_num, by rw [ST.out, HZ.out, Nat.add_zero], (HB.out.trans (h1.mono hsz)).trans (h2.mono (Nat.le_trans hsz h1.size))⟩
            case measure => simp [intOf]; omega
        · have : q = 10 := by omega
          subst this
          go_wp2
          go_ret
          exact ⟨rfl, HB.out⟩

/-- All whole chains that begin with a number below q. -/
def allS (P : List (Int × Int)) (q : Nat) : Nat := ((List.range q).map fun x : Nat => trl P.length P (x : Int)).sum
theorem allS_step (P : List (Int × Int)) (q : Nat) : allS P (q + 1) = allS P q + trl P.length P (q : Int) := by
  unfold allS
  rw [List.range_succ, List.map_append, List.sum_append]
  simp
theorem allS_le {P : List (Int × Int)} (h : P.length ≤ 12) (q : Nat) : allS P q ≤ q * 1000000000000 := by
  unfold allS
  have h1 := sum_le_mul (m := 1000000000000) (List.range q) (fun x : Nat => trl P.length P (x : Int)) (fun x _ => Nat.le_trans (trl_le _ _ _) (ten_pow h))
  rw [List.length_range] at h1
  exact h1

set_option maxRecDepth 100000 in
set_option maxHeartbeats 4000000 in
theorem c_whAll0 (A : Option Addr) (c : Nat) (P : List (Int × Int)) (w : World) (hr : RdT w A P) (hh : handB P = true) (h12 : P.length ≤ 12) :
    Calls Try.prog 40 #[.slice A P.length c, .slice none 0 0] w fun e w' => e = .returned (.tuple #[.int .i64 (allN P : Int), .int .i64 (allN P : Int)]) ∧ Below w.heap.size w w' := by
  have hal : allN P = allS P 10 := rfl
  rw [hal]
  have conF := fun (W : World) (q : Nat) (hq : q < 10) (hb : Below w.heap.size w W) => c_whFrom A c P (q : Int) W (hr.below hb) hh (by unfold numB; simp; omega)
  have conC := fun (W : World) (q : Nat) (hq : q < 10) (hb : Below w.heap.size w W) => c_whCount P.length P q A c W (Nat.le_refl _) h12 hh hq (hr.below hb)
  have ConC := Lib.hid conC
  have HH := Lib.hid hh
  have HLE := Lib.hid (fun q => allS_le h12 q)
  have HTL := Lib.hid (fun q : Nat => Nat.le_trans (trl_le P.length P (q : Int)) (ten_pow h12))
  clear hal conC hr hh
  go_enter Try.func40, Try.ntmps40
  go_wp2
  go_loopw [6, 7, 8] (fun v u i wr => ∃ q : Nat, q ≤ 10 ∧ i = .int .i64 q ∧ v = .int .i64 (allS P q : Int) ∧ u = .int .i64 (allS P q : Int) ∧ Below w.heap.size w wr) (fun _ _ i _ => 10 - (intOf i).toNat)
  case atStart => exact ⟨0, Nat.zero_le _, rfl, rfl, rfl, Below.refl _ _⟩
  case round =>
    obtain ⟨q, hq, rfl, rfl, rfl, hb⟩ := hrel
    have HB := Lib.hid hb
    have hsz := hb.size
    by_cases hlt : q ≤ 9
    · have ST := Lib.hid (allS_step P q)
      have conF1 := conF wr q (by omega) hb
      clear hb conF
      cases hfr : fromB P (q : Int)
      · have hz : trl P.length P (q : Int) = 0 := by
          refine Classical.byContradiction fun hne => ?_
          have := trl_from P.length HH.out (by omega : q < 10) hne
          rw [hfr] at this
          cases this
        rw [hfr] at conF1
        have ConF := Lib.hid conF1
        have HZ := Lib.hid hz
        clear conF1 hz hfr
        go_wp2_with (go_at_call 63; refine ConF.out.mono ?_; rintro e w1 ⟨rfl, h1⟩)
        go_roundw
        case rel => exact ⟨q + 1, by omega, by go_num, by rw [ST.out, HZ.out, Nat.add_zero], by rw [ST.out, HZ.out, Nat.add_zero], HB.out.trans (h1.mono hsz)⟩
        case measure => simp [intOf]; omega
      · rw [hfr] at conF1
        have ConF := Lib.hid conF1
        have b1 := HLE.out q
        have b2 := HTL.out q
        obtain ⟨t, ht⟩ : ∃ t, t = trl P.length P (q : Int) := ⟨_, rfl⟩
        rw [← ht] at b2
        have HT := Lib.hid ht
        have b3 : allS P q ≤ 10000000000000 := Nat.le_trans b1 (by omega)
        have jw : IntKind.i64.wrap ((allS P q : Int) + (t : Int)) = (allS P q : Int) + (t : Int) := IntWalk.i64_in _ (by omega)
        have jt : IntKind.i64.wrap ((t : Int) * 1) = (t : Int) := IntWalk.i64_in _ (by omega) |>.trans (by omega)
        have conC1 := fun (W : World) (hb : Below w.heap.size w W) => ConC.out W q (by omega) hb
        rw [← ht] at conC1
        have ConC1 := Lib.hid conC1
        clear conF1 hfr b1 conC1 ht
        go_wp2_with (first | (go_at_call 63; refine ConF.out.mono ?_; rintro e w1 ⟨rfl, h1⟩; have B1 := Lib.hid (HB.out.trans (h1.mono hsz))) | (go_at_call 47; refine (ConC1.out _ B1.out).mono ?_; rintro e w2 ⟨rfl, h2⟩; have B2 := Lib.hid (B1.out.trans (h2.mono B1.out.size))))
        rename World => wo
        go_loopw [10, 30] (fun p i wr => p = .int .i64 1 ∧ i = .int .i64 0 ∧ Below w.heap.size w wr) (fun _ _ _ => 0)
        case atStart => exact ⟨rfl, rfl, B2.out⟩
        case round =>
          obtain ⟨rfl, rfl, hb3⟩ := hrel
          have B3 := Lib.hid hb3
          clear hb3
          go_wp2
          go_roundw
          case rel => exact ⟨q + 1, by omega, by go_num, by rw [ST.out, ← HT.out]; push_cast; rfl, by rw [ST.out, ← HT.out]; push_cast; rfl, B3.out⟩
          case measure => simp [intOf]; omega
    · have : q = 10 := by omega
      subst this
      go_wp2
      go_ret2
      exact ⟨rfl, HB.out⟩

set_option maxRecDepth 100000 in
set_option maxHeartbeats 2000000 in
theorem c_specWithout (A : Option Addr) (c : Nat) (H : List (Int × Int)) (w : World) (hr : RdT w A H) (hl : H.length ≤ 1048576) (hcap : H.length ≤ c) :
    Calls Try.prog 27 #[.slice A H.length c] w fun e w' => e = .returned (.tuple #[.int .i64 (cwV H), .bool (cwB H)]) ∧ Below w.heap.size w w' := by
  have con := c_tiHand A c H w hr (by omega) hcap
  unfold cwV cwB
  cases hh : handB H
  · rw [hh] at con
    have Con := Lib.hid con
    clear con hh hr
    go_enter Try.func27, Try.ntmps27
    go_wp2_with fail
    refine Con.out.mono ?_
    rintro e w1 ⟨rfl, h1⟩
    go_wp2
    go_ret2
    exact ⟨rfl, h1⟩
  · rw [hh] at con
    have Con := Lib.hid con
    by_cases h12 : H.length ≤ 12
    · have j1 : ¬ (12 : Int) < (H.length : Int) := by omega
      rw [decide_eq_true h12]
      have hpm : (pnL (sortL H)).Perm (wdL H) := by
        have e : pnL (sortL H) = (sortL H).filter wdB := by
          unfold pnL
          refine List.filter_congr fun t ht => ?_
          have hg := hand_gd hh t ((sortP_perm hh).mem_iff.1 ht)
          simp only [goodB, numB, Bool.and_eq_true, decide_eq_true_eq] at hg
          unfold pnB wdB
          rw [decide_eq_decide]
          omega
        rw [e]
        exact (sortP_perm hh).filter _
      have hwh := hand_wd hh
      have hwl : (wdL H).length ≤ 12 := Nat.le_trans (List.length_filter_le _ _) h12
      rw [← allN_perm hpm]
      have hph := hand_perm hpm.symm hwh
      have hpl : (pnL (sortL H)).length ≤ 12 := by rw [hpm.length_eq]; exact hwl
      obtain ⟨Q, hQ⟩ : ∃ Q, Q = pnL (sortL H) := ⟨_, rfl⟩
      have conP := fun (W : World) (hb : Below w.heap.size w W) => c_whPlain A c H W (hr.below hb) (by omega)
      rw [← hQ] at conP hph hpl ⊢
      have conA := fun (W : World) (A2 : Option Addr) (c2 : Nat) (h : RdT W A2 Q) => c_whAll0 A2 c2 Q W h hph hpl
      have ConP := Lib.hid conP
      have ConA := Lib.hid conA
      clear con hh hr conP conA hpm hwh hwl hph hpl hQ h12
      go_enter Try.func27, Try.ntmps27
      go_wp2_with (first | (go_at_call 39; refine Con.out.mono ?_; rintro e w1 ⟨rfl, h1⟩) | (go_at_call 41; refine (ConP.out _ h1).mono ?_; rintro e w2 ⟨A2, c2, rfl, o2, h2⟩) | (go_at_call 40; refine (ConA.out _ _ _ (RdT.of_own o2)).mono ?_; rintro e w3 ⟨rfl, h3⟩))
      go_ret2
      exact ⟨rfl, (h1.trans (h2.mono h1.size)).trans (h3.mono (Nat.le_trans h1.size h2.size))⟩
    · have j1 : (12 : Int) < (H.length : Int) := by omega
      rw [decide_eq_false h12]
      clear con hh hr h12
      go_enter Try.func27, Try.ntmps27
      go_wp2_with fail
      refine Con.out.mono ?_
      rintro e w1 ⟨rfl, h1⟩
      go_wp2
      go_ret2
      exact ⟨rfl, h1⟩

end Go.Proofs.Ytjhedjokifnofaa

/- Whole chains counted by the specification: from a number on, only where there is one; a hand without its doubles. -/
import Derived.Test.YtcofambcicnonaaWcN
import Derived.Test.YtcofambcicnonaaWcS
namespace Go.Proofs.Ytcofambcicnonaa
open Go.RowKit
set_option linter.unusedVariables false

/-- May all whole chains of a list be counted, and how many are they without the doubles? -/
def cwB (H : List (Int × Int)) : Bool := handB H && decide (H.length ≤ 12)
def cwV (H : List (Int × Int)) : Int := if cwB H then (allN (wdL H) : Int) else 0
theorem hand_wd {H : List (Int × Int)} (h : handB H = true) : handB (wdL H) = true := by
  have hp : handP H := of_decide_eq_true h
  exact decide_eq_true ⟨Nat.le_trans (List.length_filter_le _ _) hp.1, fun t ht => hp.2.1 t (List.mem_filter.1 ht).1, hp.2.2.filter _⟩
theorem those_woT {P : List (Int × Int)} (h : handB P = true) (t : Int × Int) : (thoseL P [t] false).Perm (woT P t) := by
  have e : woT P t = P.filter (pickB [t] false) := by
    unfold woT
    refine List.filter_congr fun u _ => ?_
    unfold pickB
    by_cases hu : u = t <;> simp [hu]
  rw [e]
  exact (sortP_perm h).filter _
theorem hand_perm {P Q : List (Int × Int)} (h : P.Perm Q) (hp : handB P = true) : handB Q = true := by
  have hq : handP P := of_decide_eq_true hp
  exact decide_eq_true ⟨by rw [← h.length_eq]; exact hq.1, fun t ht => hq.2.1 t (h.mem_iff.2 ht), h.nodup_iff.1 hq.2.2⟩
theorem rdT_one {w : World} {g : Nat} {x y : Int} (h0 : w.cell? ⟨g, 0, none⟩ = some (.int .i64 x)) (h1 : w.cell? ⟨g, 1, none⟩ = some (.int .i64 y)) : RdT w (some ⟨g, 0, none⟩) [(x, y)] :=
  ⟨g, 0, fun _ => rfl, fun j hj => by
    have : j = 0 := by simp at hj; omega
    subst this
    exact ⟨h0, h1⟩⟩

set_option maxHeartbeats 1000000 in
theorem c_whWithout (A : Option Addr) (c : Nat) (P : List (Int × Int)) (a b : Int) (w : World) (hr : RdT w A P) (hl : P.length ≤ 1048576) :
    Calls Try.prog 54 #[.slice A P.length c, .int .i64 a, .int .i64 b] w (RetL w (thoseL P [tile2 a b] false)) := by
  have con := fun (W : World) (A2 : Option Addr) (h : RdT W A P) (h2 : RdT W A2 [tile2 a b]) => c_tiThose A c P A2 1 [tile2 a b] false W h hl h2 (by simp)
  have Con := Lib.hid con
  have HR := Lib.hid hr
  clear con hr
  go_enter Try.func54, Try.ntmps54
  go_wp2_with (first | (go_at_call 53; refine (c_tiOf _ _ _).mono ?_; rintro e w1 ⟨rfl, h1⟩) | (go_at_call 48; have al : Below w1.heap.size w1 (w1.alloc (.cells #[.int .i64 (min a b), .int .i64 (max a b)] 41)) := (Below.refl _ _).alloc (Nat.le_refl _) _; refine (Con.out _ _ ((HR.out.below h1).below al) (rdT_one (by simp) (by simp))).mono ?_; rintro e w2 ⟨A2, c2, rfl, o2, h2⟩))
  go_ret
  exact ⟨A2, c2, rfl, own_base o2 (Nat.le_trans h1.size al.size), (h1.trans (al.mono h1.size)).trans (h2.mono (Nat.le_trans h1.size al.size))⟩

set_option maxRecDepth 100000 in
set_option maxHeartbeats 2000000 in
theorem c_whFrom (A : Option Addr) (c : Nat) (P : List (Int × Int)) (x : Int) (w : World) (hr : RdT w A P) (hh : handB P = true) (hx : numB x = true) :
    Calls Try.prog 35 #[.slice A P.length c, .int .i64 x] w fun e w' => e = .returned (.bool (fromB P x)) ∧ Below w.heap.size w w' := by
  have hl : P.length ≤ 55 := (of_decide_eq_true hh : handP P).1
  by_cases h0 : P.length = 0
  · have e : fromB P x = true := by unfold fromB; rw [decide_eq_true h0]; rfl
    have j0 : ((P.length : Int) == 0) = true := by rw [h0]; rfl
    rw [e]
    clear e h0 hr hh
    go_enter Try.func35, Try.ntmps35
    go_wp2
    go_ret
    exact ⟨rfl, Below.refl _ _⟩
  · have j0 : ((P.length : Int) == 0) = false := by rw [beq_eq_false_iff_ne]; omega
    have conO := c_whOdd A c P w hr (by omega)
    have conP := fun (W : World) (hb : Below w.heap.size w W) => c_whPart A c P x W (hr.below hb) (by omega) (hand_gd hh) hx
    have hol := oddTo_len P 10
    have hpl : (partL P x).length ≤ 110 := Nat.le_trans (List.length_filter_le _ _) (sortL_len P)
    have e : fromB P x = (decide ((partL P x).length = P.length) && (decide ((oddTo P 10).length = 0) || (decide ((oddTo P 10).length = 2) && decide (x ∈ oddTo P 10)))) := by unfold fromB; rw [decide_eq_false h0, Bool.false_or]
    rw [e]
    clear e
    obtain ⟨os, hos⟩ : ∃ os, os = oddTo P 10 := ⟨_, rfl⟩
    obtain ⟨ps, hps⟩ : ∃ ps, ps = partL P x := ⟨_, rfl⟩
    rw [← hos] at conO hol ⊢
    simp only [← hps] at conP
    rw [← hps] at hpl ⊢
    have ConO := Lib.hid conO
    have ConP := Lib.hid conP
    clear conO conP hr hh hos hps
    by_cases h1 : ps.length = P.length
    · have j1 : ((ps.length : Int) == (P.length : Int)) = true := by rw [beq_iff_eq]; omega
      rw [decide_eq_true h1, Bool.true_and]
      by_cases h2 : os.length = 0
      · have j2 : ((os.length : Int) == 0) = true := by rw [h2]; rfl
        rw [decide_eq_true h2, Bool.true_or]
        clear h1 h2
        go_enter Try.func35, Try.ntmps35
        go_wp2_with (first | (go_at_call 45; refine ConO.out.mono ?_; rintro e w1 ⟨A1, c1, rfl, o1, h1⟩) | (go_at_call 47; refine (ConP.out _ h1).mono ?_; rintro e w2 ⟨A2, c2, rfl, o2, h2⟩))
        go_ret
        exact ⟨rfl, h1.trans (h2.mono h1.size)⟩
      · have j2 : ((os.length : Int) == 0) = false := by rw [beq_eq_false_iff_ne]; omega
        rw [decide_eq_false h2, Bool.false_or]
        by_cases h3 : os.length = 2
        · have j3 : ((os.length : Int) == 2) = true := by rw [h3]; rfl
          rw [decide_eq_true h3, Bool.true_and]
          clear h1 h2 h3
          go_enter Try.func35, Try.ntmps35
          go_wp2_with (first | (go_at_call 45; refine ConO.out.mono ?_; rintro e w1 ⟨A1, c1, rfl, o1, h1⟩) | (go_at_call 47; refine (ConP.out _ h1).mono ?_; rintro e w2 ⟨A2, c2, rfl, o2, h2⟩) | (go_at_call 52; refine (c_l1Has _ _ os x _ ((RdI.of_own o1).below h2) (by omega)).mono ?_; rintro e w3 ⟨rfl, h3⟩))
          go_ret
          exact ⟨rfl, (h1.trans (h2.mono h1.size)).trans (h3.mono (Nat.le_trans h1.size h2.size))⟩
        · have j3 : ((os.length : Int) == 2) = false := by rw [beq_eq_false_iff_ne]; omega
          rw [decide_eq_false h3, Bool.false_and]
          clear h1 h2 h3
          go_enter Try.func35, Try.ntmps35
          go_wp2_with (first | (go_at_call 45; refine ConO.out.mono ?_; rintro e w1 ⟨A1, c1, rfl, o1, h1⟩) | (go_at_call 47; refine (ConP.out _ h1).mono ?_; rintro e w2 ⟨A2, c2, rfl, o2, h2⟩))
          go_ret
          exact ⟨rfl, h1.trans (h2.mono h1.size)⟩
    · have j1 : ((ps.length : Int) == (P.length : Int)) = false := by rw [beq_eq_false_iff_ne]; omega
      rw [decide_eq_false h1, Bool.false_and]
      clear h1
      go_enter Try.func35, Try.ntmps35
      go_wp2_with (first | (go_at_call 45; refine ConO.out.mono ?_; rintro e w1 ⟨A1, c1, rfl, o1, h1⟩) | (go_at_call 47; refine (ConP.out _ h1).mono ?_; rintro e w2 ⟨A2, c2, rfl, o2, h2⟩))
      go_ret
      exact ⟨rfl, h1.trans (h2.mono h1.size)⟩

/-- The ways with one tile laid, and the sum over the numbers below q. -/
def trlA (f : Nat) (P : List (Int × Int)) (x : Int) (y : Nat) : Nat := if tile2 x (y : Int) ∈ P then trl f (woT P (tile2 x (y : Int))) (y : Int) else 0
def trlS (f : Nat) (P : List (Int × Int)) (x : Int) (q : Nat) : Nat := ((List.range q).map (trlA f P x)).sum
theorem trlS_step (f : Nat) (P : List (Int × Int)) (x : Int) (q : Nat) : trlS f P x (q + 1) = trlS f P x q + trlA f P x q := by
  unfold trlS
  rw [List.range_succ, List.map_append, List.sum_append]
  simp
theorem trlS_all {f : Nat} {P : List (Int × Int)} {x : Int} (h : P.length = f + 1) : trlS f P x 10 = trl P.length P x := by
  rw [h]
  show _ = if P.length = 0 then 1 else _
  rw [if_neg (by omega)]
  rfl
theorem trlA_le (f : Nat) (P : List (Int × Int)) (x : Int) (y : Nat) : trlA f P x y ≤ 10 ^ f := by
  unfold trlA
  split
  · exact trl_le _ _ _
  · exact Nat.zero_le _
theorem trlS_le (f : Nat) (P : List (Int × Int)) (x : Int) (q : Nat) : trlS f P x q ≤ q * 10 ^ f := by
  have := sum_le_mul (m := 10 ^ f) (List.range q) (trlA f P x) (fun y _ => trlA_le f P x y)
  rw [List.length_range] at this
  exact this
theorem ten_pow {f : Nat} (h : f ≤ 12) : 10 ^ f ≤ 1000000000000 := Nat.le_trans (Nat.pow_le_pow_right (by omega) h) (by decide)

end Go.Proofs.Ytcofambcicnonaa

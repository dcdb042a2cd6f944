/- Rings spun. -/
import Derived.Test.YtghemmocbmkgiaaConc
import Derived.Test.YtghemmocbmkgiaaEnds
import Derived.Test.YtghemmocbmkgiaaTurn
namespace Go.Proofs.Ytghemmocbmkgiaa
open Go.RowKit
set_option linter.unusedVariables false

def spinB (xs : List Int) (k : Int) : Bool := chainB xs && (ringB xs && (decide (0 ≤ k) && decide (k ≤ (xs.length : Int) - 2)))
def spinHL (xs : List Int) (k : Int) : List Int := if spinB xs k then xs.drop k.toNat ++ (xs.drop 1).take k.toNat else []
theorem spinHL_len (xs : List Int) (k : Int) : (spinHL xs k).length ≤ 110 := by
  unfold spinHL
  split
  · rename_i h
    unfold spinB at h
    simp only [Bool.and_eq_true, decide_eq_true_eq] at h
    have := chain_len h.1
    simp only [List.length_append, List.length_drop, List.length_take]
    omega
  · simp
/-- The two parts of a ring that is spun, as they lie in memory. -/
theorem RdI.parts {w : World} {A : Option Addr} {xs : List Int} {m : Nat} (h : RdI w A xs) (hm : m + 2 ≤ xs.length) :
    ∃ b off, A = some ⟨b, off, none⟩ ∧ RdI w (some ⟨b, off + m, none⟩) (xs.drop m) ∧ RdI w (some ⟨b, off + 1, none⟩) ((xs.drop 1).take m) := by
  obtain ⟨b, off, h1, h2⟩ := h
  refine ⟨b, off, h1 (by rintro rfl; simp at hm), ⟨b, off + m, fun _ => rfl, fun j hj => ?_⟩, ⟨b, off + 1, fun _ => rfl, fun j hj => ?_⟩⟩
  · simp only [List.length_drop] at hj
    rw [List.getElem_drop, Nat.add_assoc]
    exact h2 (m + j) (by omega)
  · simp only [List.length_take, List.length_drop] at hj
    rw [List.getElem_take, List.getElem_drop, Nat.add_assoc]
    exact h2 (1 + j) (by omega)

set_option maxRecDepth 100000 in
set_option maxHeartbeats 2000000 in
theorem c_specSpin (A : Option Addr) (c : Nat) (xs : List Int) (k : Int) (w : World) (hr : RdI w A xs) (hl : xs.length ≤ 1048576) (hcap : xs.length ≤ c) :
    Calls Try.prog 36 #[.slice A xs.length c, .int .i64 k] w (RetI w (spinHL xs k) (spinB xs k)) := by
  have con := Lib.hid (c_haGood A c xs w hr (by omega))
  have conR := Lib.hid (fun W (hb : Below w.heap.size w W) => c_haRing A c xs W (hr.below hb) (by omega))
  cases hc : chainB xs
  · have e1 : spinB xs k = false := by simp [spinB, hc]
    have e2 : spinHL xs k = [] := by simp [spinHL, e1]
    rw [e1, e2]
    rw [hc] at con
    clear e1 e2 hc hr
    go_enter Try.func36, Try.ntmps36
    go_wp2_with (go_at_call 58; refine con.out.mono ?_; rintro e w1 ⟨rfl, hb1⟩)
    go_ret2
    exact ⟨none, 0, rfl, World.ownsRow_nil _ _ _ _, hb1⟩
  · rw [hc] at con
    cases hrg : ringB xs
    · have e1 : spinB xs k = false := by simp [spinB, hrg]
      have e2 : spinHL xs k = [] := by simp [spinHL, e1]
      rw [e1, e2]
      rw [hrg] at conR
      clear e1 e2 hc hr hrg
      go_enter Try.func36, Try.ntmps36
      go_wp2_with (first | (go_at_call 58; refine con.out.mono ?_; rintro e w1 ⟨rfl, hb1⟩) | (go_at_call 62; refine (conR.out _ hb1).mono ?_; rintro e w2 ⟨rfl, hb2⟩))
      go_ret2
      exact ⟨none, 0, rfl, World.ownsRow_nil _ _ _ _, bstep hb1 hb2⟩
    · rw [hrg] at conR
      have hlen : 2 ≤ xs.length := by
        have := hrg
        simp only [ringB, Bool.and_eq_true, decide_eq_true_eq] at this
        omega
      by_cases hk : 0 ≤ k ∧ k ≤ (xs.length : Int) - 2
      · have e1 : spinB xs k = true := by simp [spinB, hc, hrg, hk]
        have e2 : spinHL xs k = xs.drop k.toNat ++ (xs.drop 1).take k.toNat := by simp [spinHL, e1]
        rw [e1, e2]
        have hd : (decide (0 ≤ k) && decide (k ≤ (xs.length : Int) - 2)) = true := by simp [hk]
        obtain ⟨m, rfl⟩ : ∃ m : Nat, k = m := ⟨k.toNat, by omega⟩
        have hm : m + 2 ≤ xs.length := by omega
        have hto : ((m : Int)).toNat = m := by omega
        rw [hto]
        have conL : ∀ W, Calls Try.prog 66 #[.int .i64 (m : Int), .int .i64 0, .int .i64 ((xs.length : Int) - 2)] W fun e w' => e = .returned (.bool true) ∧ W = w' := fun W => by
          have := c_l1In m 0 ((xs.length : Int) - 2) W
          rw [hd] at this
          exact this
        have ConL := Lib.hid conL
        obtain ⟨b, off, rfl, _⟩ := hr.parts hm
        have hp1 := Lib.hid (show ∀ W, Below w.heap.size w W → RdI W (some ⟨b, off + m, none⟩) (xs.drop m) ∧ RdI W (some ⟨b, off + 1, none⟩) ((xs.drop 1).take m) from fun W hb => by
          obtain ⟨b', off', e, h1, h2⟩ := (hr.below hb).parts hm
          injection e with e
          injection e with e3 e4
          subst e3 e4
          exact ⟨h1, h2⟩)
        have conO := Lib.hid (fun W (hb : Below w.heap.size w W) => (show Calls Try.prog 67 #[.slice (some ⟨b, off + m, none⟩) (xs.length - m) (c - m)] W (RetN W (xs.drop m)) from by
          have := c_l1Own (some ⟨b, off + m, none⟩) (c - m) (xs.drop m) W (hp1.out W hb).1 (by simp; omega)
          rwa [List.length_drop] at this))
        have iw1 : IntKind.i64.wrap ((xs.length : Int) - 2) = (xs.length : Int) - 2 := IntWalk.i64_in _ (by omega)
        have i0 : (0 : Int) ≤ (m : Int) := by omega
        have i1 : (m : Int) ≤ (xs.length : Int) := by omega
        have i2 : (m : Int) + 1 ≤ (c : Int) := by omega
        have i3 : (m : Int) < (c : Int) := by omega
        have i5 : (1 : Int) ≤ (m : Int) + 1 := by omega
        have i6 : (1 : Int) < (c : Int) := by omega
        have i7 : (1 : Int) ≤ (c : Int) := by omega
        have n1 : ¬ c = m := by omega
        have n2 : ¬ c = 1 := by omega
        have iw2 : IntKind.i64.wrap ((m : Int) + 1) = (m : Int) + 1 := IntWalk.i64_in _ (by omega)
        have hdl : (xs.drop m).length ≤ 2097152 := by simp; omega
        obtain ⟨us, hus⟩ : ∃ us, us = (xs.drop 1).take m := ⟨_, rfl⟩
        have hul : us.length = m := by rw [hus]; simp; omega
        rw [← hus] at hp1 ⊢
        have Hm := Lib.hid hm
        clear e1 e2 hc hr hrg hd hk hto conL hus
        subst hul
        obtain ⟨vs, hvs⟩ : ∃ vs, vs = xs.drop us.length := ⟨_, rfl⟩
        rw [← hvs] at hp1 conO hdl ⊢
        clear hvs
        go_enter Try.func36, Try.ntmps36
        go_wp2_with (first | (go_at_call 58; refine con.out.mono ?_; rintro e w1 ⟨rfl, hb1⟩) | (go_at_call 62; refine (conR.out _ hb1).mono ?_; rintro e w2 ⟨rfl, hb2⟩; have hb12 := bstep hb1 hb2) | (go_at_call 66; refine (ConL.out _).mono ?_; rintro e w3 ⟨rfl, rfl⟩))
        go_region_held3 (fun w' => True) (exact trivial) (first | (go_at_call 67; refine (conO.out _ hb12.drew).mono ?_; rintro e w4 ⟨A4, c4, rfl, ho4, hb4⟩; have hb124 := bstep hb12.drew hb4; have Hx := Lib.hid (hp1.out _ hb124).2) | (refine step_append_ints rfl (.tmp 26) (.tmp 30) rfl w2.heap.size (.slice A4 vs.length c4) vs rfl ho4 (some ⟨b, off + 1, none⟩) (c - 1) us rfl Hx.out (by omega) (by omega) hb4.size ⟨_, _, rfl⟩ ?_; intro A5 c5 w5 ho5 hg5))
        go_wp2
        go_ret2
        exact ⟨A5, c5, by rw [List.length_append]; rfl, own_base ho5 (by exact hb12.size), hb124.trans (below_of_grown hg5 hb124.size (fun g hg => Nat.le_trans (by exact hb12.size) (ho4.lt g hg).1))⟩
      · have e1 : spinB xs k = false := by
          rw [Bool.eq_false_iff]
          intro h
          simp only [spinB, Bool.and_eq_true, decide_eq_true_eq] at h
          exact hk h.2.2
        have e2 : spinHL xs k = [] := by simp [spinHL, e1]
        rw [e1, e2]
        have hd : (decide (0 ≤ k) && decide (k ≤ (xs.length : Int) - 2)) = false := by
          rw [Bool.eq_false_iff]
          intro h
          simp only [Bool.and_eq_true, decide_eq_true_eq] at h
          exact hk h
        have conL : ∀ W, Calls Try.prog 66 #[.int .i64 k, .int .i64 0, .int .i64 ((xs.length : Int) - 2)] W fun e w' => e = .returned (.bool false) ∧ W = w' := fun W => by
          have := c_l1In k 0 ((xs.length : Int) - 2) W
          rw [hd] at this
          exact this
        have ConL := Lib.hid conL
        have iw1 : IntKind.i64.wrap ((xs.length : Int) - 2) = (xs.length : Int) - 2 := IntWalk.i64_in _ (by omega)
        clear e1 e2 hc hr hrg hd hk conL
        go_enter Try.func36, Try.ntmps36
        go_wp2_with (first | (go_at_call 58; refine con.out.mono ?_; rintro e w1 ⟨rfl, hb1⟩) | (go_at_call 62; refine (conR.out _ hb1).mono ?_; rintro e w2 ⟨rfl, hb2⟩) | (go_at_call 66; refine (ConL.out _).mono ?_; rintro e w3 ⟨rfl, rfl⟩))
        go_ret2
        exact ⟨none, 0, rfl, World.ownsRow_nil _ _ _ _, bstep hb1 hb2⟩

set_option maxRecDepth 100000 in
set_option maxHeartbeats 2000000 in
theorem c_implSpin (A : Option Addr) (c : Nat) (xs : List Int) (k : Int) (w : World) (hr : RdI w A xs) (hl : xs.length ≤ 1048576) (hcap : xs.length ≤ c) :
    Calls Try.prog 37 #[.slice A xs.length c, .int .i64 k] w (RetI w (spinHL xs k) (spinB xs k)) := by
  have con := Lib.hid (c_implIsRing A c xs w hr (by omega))
  cases hrg : (chainB xs && ringB xs)
  · have e1 : spinB xs k = false := by
      unfold spinB
      rw [← Bool.and_assoc, hrg]
      rfl
    have e2 : spinHL xs k = [] := by simp [spinHL, e1]
    rw [e1, e2]
    rw [hrg] at con
    clear e1 e2 hr hrg
    go_enter Try.func37, Try.ntmps37
    go_wp2_with (go_at_call 32; refine con.out.mono ?_; rintro e w1 ⟨rfl, hb1⟩)
    go_ret2
    exact ⟨none, 0, rfl, World.ownsRow_nil _ _ _ _, hb1⟩
  · rw [hrg] at con
    have hcr : chainB xs = true ∧ ringB xs = true := by simpa using hrg
    have hlen : 2 ≤ xs.length := by
      have := hcr.2
      simp only [ringB, Bool.and_eq_true, decide_eq_true_eq] at this
      omega
    have iw1 : IntKind.i64.wrap ((xs.length : Int) - 1) = (xs.length : Int) - 1 := IntWalk.i64_in _ (by omega)
    by_cases hk0 : 0 ≤ k
    · by_cases hk : k ≤ (xs.length : Int) - 2
      · have e1 : spinB xs k = true := by simp [spinB, hcr, hk0, hk]
        have e2 : spinHL xs k = xs.drop k.toNat ++ (xs.drop 1).take k.toNat := by simp [spinHL, e1]
        rw [e1, e2]
        obtain ⟨m, rfl⟩ : ∃ m : Nat, k = m := ⟨k.toNat, by omega⟩
        have hm : m + 2 ≤ xs.length := by omega
        have hto : ((m : Int)).toNat = m := by omega
        rw [hto]
        have hch := chain_spin hcr.1 (by have := hcr.2; simp only [ringB, Bool.and_eq_true, beq_iff_eq] at this; exact this.2) (k := m) (by omega)
        obtain ⟨b, off, rfl, _⟩ := hr.parts hm
        have hp1 := Lib.hid (show ∀ W, Below w.heap.size w W → RdI W (some ⟨b, off + m, none⟩) (xs.drop m) ∧ RdI W (some ⟨b, off + 1, none⟩) ((xs.drop 1).take m) from fun W hb => by
          obtain ⟨b', off', e, h1, h2⟩ := (hr.below hb).parts hm
          injection e with e
          injection e with e3 e4
          subst e3 e4
          exact ⟨h1, h2⟩)
        have conO := Lib.hid (fun W (hb : Below w.heap.size w W) => (show Calls Try.prog 68 #[.slice (some ⟨b, off + m, none⟩) (xs.length - m) (c - m), .slice (some ⟨b, off + 1, none⟩) m (c - 1)] W (RetI W (xs.drop m ++ (xs.drop 1).take m) true) from by
          have := c_layNumbers (some ⟨b, off + m, none⟩) (c - m) (xs.drop m) (some ⟨b, off + 1, none⟩) (c - 1) ((xs.drop 1).take m) W (hp1.out W hb).1 (hp1.out W hb).2 (by simp; omega) (by simp; omega)
          have e3 : layL (xs.drop m) ((xs.drop 1).take m) = xs.drop m ++ (xs.drop 1).take m := by unfold layL; rw [if_pos hch]
          rw [e3, hch] at this
          rwa [List.length_drop, List.length_take, List.length_drop, Nat.min_eq_left (by omega)] at this))
        have i0 : (0 : Int) ≤ (m : Int) := by omega
        have i1 : (m : Int) ≤ (xs.length : Int) := by omega
        have i2 : (m : Int) + 1 ≤ (c : Int) := by omega
        have i3 : (m : Int) < (c : Int) := by omega
        have i5 : (1 : Int) ≤ (m : Int) + 1 := by omega
        have i6 : (1 : Int) < (c : Int) := by omega
        have i7 : (1 : Int) ≤ (c : Int) := by omega
        have n1 : ¬ c = m := by omega
        have n2 : ¬ c = 1 := by omega
        have i4 : (m : Int) < (xs.length : Int) - 1 := by omega
        have iw2 : IntKind.i64.wrap ((m : Int) + 1) = (m : Int) + 1 := IntWalk.i64_in _ (by omega)
        clear e1 e2 hr hrg hk hk0 hto hch hcr
        obtain ⟨zs, hzs⟩ : ∃ zs, zs = xs.drop m ++ (xs.drop 1).take m := ⟨_, rfl⟩
        rw [← hzs] at conO ⊢
        clear hzs hp1
        go_enter Try.func37, Try.ntmps37
        go_wp2_with (go_at_call 32; refine con.out.mono ?_; rintro e w1 ⟨rfl, hb1⟩)
        go_region_held3 (fun w' => True) (exact trivial) ((go_at_call 68; refine (conO.out _ hb1.drew).mono ?_; rintro e w4 ⟨A4, c4, rfl, ho4, hb4⟩))
        go_wp2
        go_ret2
        exact ⟨A4, c4, rfl, own_base ho4 hb1.size, bstep hb1.drew hb4⟩
      · have e1 : spinB xs k = false := by
          rw [Bool.eq_false_iff]
          intro h
          simp only [spinB, Bool.and_eq_true, decide_eq_true_eq] at h
          exact hk h.2.2.2
        have e2 : spinHL xs k = [] := by simp [spinHL, e1]
        rw [e1, e2]
        have i1 : (xs.length : Int) - 1 ≤ k := by omega
        clear e1 e2 hr hrg hk hcr
        go_enter Try.func37, Try.ntmps37
        go_wp2_with (go_at_call 32; refine con.out.mono ?_; rintro e w1 ⟨rfl, hb1⟩)
        go_ret2
        exact ⟨none, 0, rfl, World.ownsRow_nil _ _ _ _, hb1⟩
    · have e1 : spinB xs k = false := by
        rw [Bool.eq_false_iff]
        intro h
        simp only [spinB, Bool.and_eq_true, decide_eq_true_eq] at h
        exact hk0 h.2.2.1
      have e2 : spinHL xs k = [] := by simp [spinHL, e1]
      rw [e1, e2]
      have i1 : k < 0 := by omega
      clear e1 e2 hr hrg hk0 hcr
      go_enter Try.func37, Try.ntmps37
      go_wp2_with (go_at_call 32; refine con.out.mono ?_; rintro e w1 ⟨rfl, hb1⟩)
      go_ret2
      exact ⟨none, 0, rfl, World.ownsRow_nil _ _ _ _, hb1⟩

end Go.Proofs.Ytghemmocbmkgiaa

/- Magic blocks: the specification's wiBlocks and CountMagic. -/
import Derived.Test.YtbanpgifhnbjoaaMgT
namespace Go.Proofs.Ytbanpgifhnbjoaa
open Go Go.RowKit
set_option linter.unusedVariables false

/-- What wiBlocks says. -/
def RetWm (w : World) (H : List (Int × Int)) (r : Int) (e : Ending) (w' : World) : Prop :=
  Below w.heap.size w w' ∧ ((mrB H r = false ∧ e = .returned (.tuple #[.pointer none, .bool false])) ∨ (mrB H r = true ∧ ∃ (mb R W : Nat), e = .returned (.tuple #[.pointer (some ⟨mb, 0, none⟩), .bool true]) ∧ WmS w' mb R W (cmN H r)))

set_option maxRecDepth 100000 in
set_option maxHeartbeats 2000000 in
theorem c_wiBlocksYes (A : Option Addr) (c : Nat) (H : List (Int × Int)) (R W : Nat) (w : World) (hr : RdT w A H) (hcap : H.length ≤ c) (hg : mrB H (R : Int) = true) (hh : handB H = true) (h1 : 1 ≤ R) (h3 : R ≤ 3) (h6 : H.length ≤ 6) (hW : 2 * H.length = R * W) (hW0 : 0 < W) (hW4 : W ≤ 4) (hd : 2 * H.length / R = W) (hWW : W = 2 ∨ W = 4) :
    Calls Try.prog 28 #[.slice A H.length c, .int .i64 (R : Int)] w (RetWm w H (R : Int)) := by
  have con := c_tiHand A c H w hr (by omega) hcap
  rw [hh] at con
  have Con := Lib.hid con
  have HR := Lib.hid hr
  have HG := Lib.hid hg
  have HW := Lib.hid hW
  have i1 : decide ((1 : Int) ≤ (R : Int)) = true := by simp; omega
  have i2 : decide ((R : Int) ≤ 3) = true := by simp; omega
  have i6 : ¬ (6 : Int) < (H.length : Int) := by omega
  have iw : IntKind.i64.wrap (2 * (R : Int)) = 2 * (R : Int) := IntWalk.i64_in _ (by omega)
  have iq : IntKind.i64.wrap (2 * (H.length : Int)) = 2 * (H.length : Int) := IntWalk.i64_in _ (by omega)
  have iz : ((R : Int) == 0) = false := by simp; omega
  have iz2 : ¬ (R : Int) = 0 := by omega
  have iq2 : IntKind.i64.wrap ((2 * (H.length : Int)).tdiv (R : Int)) = (W : Int) := by
    rw [show 2 * (H.length : Int) = (W : Int) * (R : Int) by rw [← Int.natCast_mul, Nat.mul_comm, ← hW]; simp, Int.mul_tdiv_cancel _ (by omega)]
    exact IntWalk.i64_in _ (by omega)
  have HCM := Lib.hid (show (mgB R W [] (hwL (sortL H))).length = cmN H (R : Int) by
    rw [hwL_perm (sortP_perm hh)]
    unfold cmN mgB hwL
    rw [Int.toNat_natCast, hd]
    simp)
  have hcl := cmN_le (H := H) (R : Int) h6
  have hsl := sortP_len hh
  have HLOOK := Lib.hid (fun (mb : Nat) (A3 : Option Addr) (c3 : Nat) (V : World) (h4 : RdT V A3 (sortL H)) (h5 : ∀ a, A3 = some a → a.block ≠ mb) (hs : WmS V mb R W 0) => (show Calls Try.prog 45 #[.pointer (some ⟨mb, 0, none⟩), .slice A3 (sortL H).length c3, .slice none 0 0] V fun e w' => e = .returned (.tuple #[]) ∧ WmS w' mb R W (cmN H (R : Int)) ∧ Turn (fun k => k = mb) V w' by
    have h7 := c_wmLook mb R W hWW h1 h3 (sortL H).length (sortL H) A3 c3 [] none 0 0 V rfl (hand_permM (sortP_perm hh).symm hh) h4 h5 RdI.nil_ (by simp) (by rw [hsl]; simpa using hW) (by simp) (by simp) (by omega) hs (by rw [HCM.out]; omega)
    rw [HCM.out, Nat.zero_add] at h7
    exact h7))
  clear con hr hg hW hd hcl hsl
  by_cases e1 : (H.length : Int) = (R : Int)
  · have n1 : ((H.length : Int) != (R : Int)) = false := by simp [e1]
    have E1 := Lib.hid e1
    clear e1
    go_enter Try.func28, Try.ntmps28
    go_wp2_with (first | (go_at_call 43; refine Con.out.mono ?_; rintro e w1 ⟨rfl, b1⟩) | (go_at_call 44; refine (c_l1In _ _ _ _).mono ?_; rintro e w2 ⟨rfl, rfl⟩))
    have ba : Below w1.heap.size w1 (w1.alloc (.cells #[.int .i64 (R : Int), .int .i64 (W : Int), .int .i64 0, .slice none 0 0] 48)) := (Below.refl _ _).alloc (Nat.le_refl _) _
    have sa : WmS (w1.alloc (.cells #[.int .i64 (R : Int), .int .i64 (W : Int), .int .i64 0, .slice none 0 0] 48)) w1.heap.size R W 0 := ⟨by simp, by simp, by simp, ⟨none, 0, 0, by simp⟩, fun m => frozen_new w1 _ _ m⟩
    have za : (w1.alloc (.cells #[.int .i64 (R : Int), .int .i64 (W : Int), .int .i64 0, .slice none 0 0] 48)).heap.size = w1.heap.size + 1 := by simp
    have BA := Lib.hid (bstep b1 ba)
    have B1 := Lib.hid b1
    refine (c_tiSort A c H _ (HR.out.below BA.out) (by omega)).mono ?_
    rintro e w3 ⟨A3, c3, rfl, o3, b3⟩
    have S3 := Lib.hid (sa.keep b3)
    have R3 := Lib.hid (RdT.of_own o3)
    have N3 := Lib.hid (own_away (mb := w1.heap.size) o3 (by omega))
    have Bw3 := Lib.hid (bstep BA.out b3)
    have zw := b1.size
    clear ba sa za o3 b3 b1
    go_wp2_with (go_at_call 45; refine (HLOOK.out _ _ _ _ R3.out N3.out S3.out).mono ?_; rintro e w4 ⟨rfl, s4, t4⟩)
    go_ret2
    exact ⟨Bw3.out.trans (t4.below Bw3.out.size (fun k hk => by omega)), .inr ⟨HG.out, w1.heap.size, R, W, rfl, s4⟩⟩
  · have n1 : ((H.length : Int) != (R : Int)) = true := by simp; omega
    have e2 : (H.length : Int) = 2 * (R : Int) := by
      rcases hWW with rfl | rfl <;> (have := HW.out; omega)
    have n2 : ((H.length : Int) != 2 * (R : Int)) = false := by simp [e2]
    clear e1 e2
    go_enter Try.func28, Try.ntmps28
    go_wp2_with (first | (go_at_call 43; refine Con.out.mono ?_; rintro e w1 ⟨rfl, b1⟩) | (go_at_call 44; refine (c_l1In _ _ _ _).mono ?_; rintro e w2 ⟨rfl, rfl⟩))
    have ba : Below w1.heap.size w1 (w1.alloc (.cells #[.int .i64 (R : Int), .int .i64 (W : Int), .int .i64 0, .slice none 0 0] 48)) := (Below.refl _ _).alloc (Nat.le_refl _) _
    have sa : WmS (w1.alloc (.cells #[.int .i64 (R : Int), .int .i64 (W : Int), .int .i64 0, .slice none 0 0] 48)) w1.heap.size R W 0 := ⟨by simp, by simp, by simp, ⟨none, 0, 0, by simp⟩, fun m => frozen_new w1 _ _ m⟩
    have za : (w1.alloc (.cells #[.int .i64 (R : Int), .int .i64 (W : Int), .int .i64 0, .slice none 0 0] 48)).heap.size = w1.heap.size + 1 := by simp
    have BA := Lib.hid (bstep b1 ba)
    have B1 := Lib.hid b1
    refine (c_tiSort A c H _ (HR.out.below BA.out) (by omega)).mono ?_
    rintro e w3 ⟨A3, c3, rfl, o3, b3⟩
    have S3 := Lib.hid (sa.keep b3)
    have R3 := Lib.hid (RdT.of_own o3)
    have N3 := Lib.hid (own_away (mb := w1.heap.size) o3 (by omega))
    have Bw3 := Lib.hid (bstep BA.out b3)
    have zw := b1.size
    clear ba sa za o3 b3 b1
    go_wp2_with (go_at_call 45; refine (HLOOK.out _ _ _ _ R3.out N3.out S3.out).mono ?_; rintro e w4 ⟨rfl, s4, t4⟩)
    go_ret2
    exact ⟨Bw3.out.trans (t4.below Bw3.out.size (fun k hk => by omega)), .inr ⟨HG.out, w1.heap.size, R, W, rfl, s4⟩⟩

set_option maxRecDepth 100000 in
set_option maxHeartbeats 2000000 in
theorem c_wiBlocksNot (A : Option Addr) (c : Nat) (H : List (Int × Int)) (r : Int) (w : World) (hr : RdT w A H) (hl : H.length ≤ 1048576) (hcap : H.length ≤ c) (hg : mrB H r = false) :
    Calls Try.prog 28 #[.slice A H.length c, .int .i64 r] w (RetWm w H r) := by
  have con := c_tiHand A c H w hr (by omega) hcap
  have HG := Lib.hid hg
  cases hh : handB H
  · rw [hh] at con
    have Con := Lib.hid con
    clear con hr hg hh
    go_enter Try.func28, Try.ntmps28
    go_wp2_with (first | (go_at_call 43; refine Con.out.mono ?_; rintro e w1 ⟨rfl, b1⟩) | (go_at_call 44; refine (c_l1In _ _ _ _).mono ?_; rintro e w2 ⟨rfl, rfl⟩))
    go_ret2
    exact ⟨b1, .inl ⟨HG.out, rfl⟩⟩
  · rw [hh] at con
    have Con := Lib.hid con
    by_cases a1 : 1 ≤ r
    · by_cases a3 : r ≤ 3
      · have i1 : decide (1 ≤ r) = true := by simp [a1]
        have i2 : decide (r ≤ 3) = true := by simp [a3]
        have iw : IntKind.i64.wrap (2 * r) = 2 * r := IntWalk.i64_in _ (by omega)
        have h7 : ¬ (H.length : Int) = r ∧ ¬ (H.length : Int) = 2 * r := by
          unfold mrB at hg
          rw [hh, i1, i2] at hg
          simpa using hg
        have n1 : ((H.length : Int) != r) = true := by simp [h7.1]
        have n2 : ((H.length : Int) != 2 * r) = true := by simp [h7.2]
        clear con hr hg hh h7
        go_enter Try.func28, Try.ntmps28
        go_wp2_with (first | (go_at_call 43; refine Con.out.mono ?_; rintro e w1 ⟨rfl, b1⟩) | (go_at_call 44; refine (c_l1In _ _ _ _).mono ?_; rintro e w2 ⟨rfl, rfl⟩))
        go_ret2
        exact ⟨b1, .inl ⟨HG.out, rfl⟩⟩
      · have i1 : decide (1 ≤ r) = true := by simp [a1]
        have i2 : decide (r ≤ 3) = false := by simp [a3]
        clear con hr hg hh
        go_enter Try.func28, Try.ntmps28
        go_wp2_with (first | (go_at_call 43; refine Con.out.mono ?_; rintro e w1 ⟨rfl, b1⟩) | (go_at_call 44; refine (c_l1In _ _ _ _).mono ?_; rintro e w2 ⟨rfl, rfl⟩))
        go_ret2
        exact ⟨b1, .inl ⟨HG.out, rfl⟩⟩
    · have i1 : decide (1 ≤ r) = false := by simp [a1]
      clear con hr hg hh
      go_enter Try.func28, Try.ntmps28
      go_wp2_with (first | (go_at_call 43; refine Con.out.mono ?_; rintro e w1 ⟨rfl, b1⟩) | (go_at_call 44; refine (c_l1In _ _ _ _).mono ?_; rintro e w2 ⟨rfl, rfl⟩))
      go_ret2
      exact ⟨b1, .inl ⟨HG.out, rfl⟩⟩

theorem c_wiBlocks (A : Option Addr) (c : Nat) (H : List (Int × Int)) (r : Int) (w : World) (hr : RdT w A H) (hl : H.length ≤ 1048576) (hcap : H.length ≤ c) :
    Calls Try.prog 28 #[.slice A H.length c, .int .i64 r] w (RetWm w H r) := by
  cases hg : mrB H r
  · exact c_wiBlocksNot A c H r w hr hl hcap hg
  · obtain ⟨R, W, rfl, hh, h1, h3, h6, hW, hW0, hW4, hd⟩ := mrB_yes hg
    refine c_wiBlocksYes A c H R W w hr hcap hg hh h1 h3 h6 hW hW0 hW4 hd ?_
    have h8 := hg
    unfold mrB at h8
    simp only [Bool.and_eq_true, Bool.or_eq_true, decide_eq_true_eq] at h8
    have h9 : R = 1 ∨ R = 2 ∨ R = 3 := by omega
    rcases h9 with rfl | rfl | rfl <;> omega

set_option maxRecDepth 100000 in
set_option maxHeartbeats 2000000 in
theorem c_specMagic (A : Option Addr) (c : Nat) (H : List (Int × Int)) (r : Int) (w : World) (hr : RdT w A H) (hl : H.length ≤ 1048576) (hcap : H.length ≤ c) :
    Calls Try.prog 9 #[.slice A H.length c, .int .i64 r] w fun e w' => e = .returned (.tuple #[.int .i64 (cmV H r), .bool (mrB H r)]) ∧ Below w.heap.size w w' := by
  have con := c_wiBlocks A c H r w hr hl hcap
  unfold RetWm at con
  unfold cmV
  cases hg : mrB H r
  · rw [hg] at con
    have Con := Lib.hid con
    clear con hr hg
    go_enter Try.func9, Try.ntmps9
    go_wp2_with fail
    refine Con.out.mono ?_
    rintro e w1 ⟨b1, ⟨_, rfl⟩ | ⟨h, _⟩⟩
    · go_wp2
      go_ret2
      exact ⟨rfl, b1⟩
    · cases h
  · rw [hg] at con
    have Con := Lib.hid con
    clear con hr hg
    go_enter Try.func9, Try.ntmps9
    go_wp2_with fail
    refine Con.out.mono ?_
    rintro e w1 ⟨b1, ⟨h, _⟩ | ⟨_, mb, R, W, rfl, s1⟩⟩
    · cases h
    · have q2 := s1.c2
      go_wp2
      go_ret2
      exact ⟨rfl, b1⟩

end Go.Proofs.Ytbanpgifhnbjoaa

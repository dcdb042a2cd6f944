/- Magic blocks: the specification's search, by induction on the hand. -/
import Derived.Test.YtbanpgifhnbjoaaMgS
namespace Go.Proofs.Ytbanpgifhnbjoaa
open Go Go.RowKit
set_option linter.unusedVariables false

theorem rdT_turn {w w' : World} {mb : Nat} {A : Option Addr} {P : List (Int × Int)} (h : RdT w A P) (ht : Turn (fun k => k = mb) w w') (hne : ∀ a, A = some a → a.block ≠ mb) : RdT w' A P := by
  obtain ⟨b, off, h1, h2⟩ := h
  refine ⟨b, off, h1, fun k hk => ?_⟩
  have hx : P ≠ [] := fun e => by rw [e] at hk; simp at hk
  have hb := hne _ (h1 hx)
  have := h2 k hk
  exact ⟨ht.cell hb this.1, ht.cell hb this.2⟩
theorem rdI_turn {w w' : World} {mb : Nat} {A : Option Addr} {P : List Int} (h : RdI w A P) (ht : Turn (fun k => k = mb) w w') (hne : ∀ a, A = some a → a.block ≠ mb) : RdI w' A P := by
  obtain ⟨b, off, h1, h2⟩ := h
  refine ⟨b, off, h1, fun k hk => ?_⟩
  have hx : P ≠ [] := fun e => by rw [e] at hk; simp at hk
  have hb : b ≠ mb := hne ⟨b, off, none⟩ (h1 hx)
  exact ht.cell (p := ⟨b, off + k, none⟩) hb (h2 k hk)

theorem own_capT {w : World} {base e sz n m : Nat} {A : Option Addr} {c : Nat} {xs : List Value} (h : w.ownsRow base e sz (.slice A n c) m xs) : n ≤ c ∧ c ≤ 9223372036854775807 := by
  rcases h.2 with ⟨hv, hn⟩ | ⟨g, cap, cur, hv, h1, h2, h3, h4, h5, h6⟩
  · cases hv; simp
  · cases hv
    refine ⟨by omega, ?_⟩
    unfold maxLen at h4
    omega
theorem own_away {w : World} {base e sz n m mb : Nat} {A : Option Addr} {c : Nat} {xs : List Value} (h : w.ownsRow base e sz (.slice A n c) m xs) (hb : mb < base) : ∀ a, A = some a → a.block ≠ mb := by
  rintro a rfl
  have := (h.lt a.block (by simp [Value.ownBlock])).1
  omega
theorem rdT_oneM {w : World} {g : Nat} {x y : Int} (h0 : w.cell? ⟨g, 0, none⟩ = some (.int .i64 x)) (h1 : w.cell? ⟨g, 1, none⟩ = some (.int .i64 y)) : RdT w (some ⟨g, 0, none⟩) [(x, y)] :=
  ⟨g, 0, fun _ => rfl, fun j hj => by
    have : j = 0 := by simp at hj; omega
    subst this
    exact ⟨h0, h1⟩⟩
theorem rdI_two {w : World} {g : Nat} {x y : Int} (h0 : w.cell? ⟨g, 0, none⟩ = some (.int .i64 x)) (h1 : w.cell? ⟨g, 1, none⟩ = some (.int .i64 y)) : RdI w (some ⟨g, 0, none⟩) [x, y] :=
  ⟨g, 0, fun _ => rfl, fun j hj => by
    match j, hj with
    | 0, _ => exact h0
    | 1, _ => exact h1⟩

set_option maxRecDepth 100000 in
set_option maxHeartbeats 4000000 in
theorem c_wmLook (mb R W : Nat) (hW : W = 2 ∨ W = 4) (h1 : 1 ≤ R) (h3 : R ≤ 3) : ∀ (t : Nat) (P : List (Int × Int)) (A : Option Addr) (c : Nat) (xs : List Int) (Bx : Option Addr) (d n : Nat) (w : World), P.length = t → handB P = true → RdT w A P → (∀ a, A = some a → a.block ≠ mb) → RdI w Bx xs → (∀ a, Bx = some a → a.block ≠ mb) →
    xs.length + 2 * P.length = R * W → (∀ y ∈ xs, 0 ≤ y ∧ y ≤ 9) → xs.length ≤ d → d ≤ 9223372036854775807 → WmS w mb R W n → n + (mgB R W xs (hwL P)).length + 1 ≤ 2000000000000 →
    Calls Try.prog 45 #[.pointer (some ⟨mb, 0, none⟩), .slice A P.length c, .slice Bx xs.length d] w fun e w' => e = .returned (.tuple #[]) ∧ WmS w' mb R W (n + (mgB R W xs (hwL P)).length) ∧ Turn (fun k => k = mb) w w' := by
  intro t
  induction t with
  | zero =>
    intro P A c xs Bx d n w ht hh hr hA hrx hB hlen hbd hd hd2 hs hn
    obtain rfl : P = [] := List.length_eq_zero_iff.1 ht
    have hx : xs.length = R * W := by simpa using hlen
    obtain ⟨b, off, hb, hc⟩ := hrx
    have hpos : 0 < xs.length := by
      rw [hx]; exact Nat.mul_pos h1 (by omega)
    obtain rfl := hb (by rintro rfl; simp at hpos)
    have h7 := c_wmLeaf mb R W n A c b off d xs w hs hc hx hW h1 h3 hbd (by omega) hd2 (by omega)
    rw [hwL_nil, ← addM_mgB, hx]
    exact h7
  | succ t ih =>
    intro P A c xs Bx d n w ht hh hr hA hrx hB hlen hbd hd hd2 hs hn
    have hpos : 0 < P.length := by omega
    have jl : ((P.length : Int) == 0) = false := by rw [beq_eq_false_iff_ne]; omega
    have IH := Lib.hid ih
    have HR := Lib.hid hr
    have HA := Lib.hid hA
    have HX := Lib.hid hrx
    have HB := Lib.hid hB
    have HBD := Lib.hid hbd
    have HLEN := Lib.hid hlen
    have HT := Lib.hid ht
    have HS := Lib.hid hs
    have HN := Lib.hid hn
    have lt := hs.lt
    have hP55 := hand_gt hh
    clear ih hr hA hrx hB hbd hlen ht hs hn
    go_enter Try.func45, Try.ntmps45
    go_wp2_with fail
    go_loopw [8] (fun i wr => ∃ a : Nat, i = .int .i64 a ∧ a ≤ 10 ∧ WmS wr mb R W (n + (mgB R W xs (hwTo P (10 * a))).length) ∧ Turn (fun k => k = mb) w wr) (fun i _ => 10 - (intOf i).toNat)
    case atStart => exact ⟨0, rfl, by omega, HS.out, Turn.refl _ _⟩
    case round =>
      obtain ⟨a, rfl, ha, hs, htw⟩ := hrel
      by_cases ha9 : a < 10
      · have ia9 : (a : Int) ≤ 9 := by omega
        go_wp2
        have HS1 := Lib.hid hs
        have HT1 := Lib.hid htw
        clear hs htw
        rename World => wo
        go_loopw [9] (fun i wi => ∃ b : Nat, i = .int .i64 b ∧ b ≤ 10 ∧ WmS wi mb R W (n + (mgB R W xs (hwTo P (10 * a + b))).length) ∧ Turn (fun k => k = mb) w wi) (fun i _ => 10 - (intOf i).toNat)
        case atStart => exact ⟨0, rfl, by omega, HS1.out, HT1.out⟩
        case round =>
          obtain ⟨b, rfl, hb, hs, htw⟩ := hrel
          by_cases hb9 : b < 10
          · have ib9 : (b : Int) ≤ 9 := by omega
            have HS2 := Lib.hid hs
            have HT2 := Lib.hid htw
            clear hs htw
            by_cases hin : tile2 (a : Int) b ∈ P
            · have hst := hwTo_yes (P := P) hh hb9 hin
              have jp : decide (placeI P (min (a : Int) b, max (a : Int) b) < 0) = false := decide_eq_false (by
                have := placeI_nonneg.2 hin
                unfold tile2 at this
                omega)
              obtain ⟨hh4, hl4, _⟩ := those_hand hh hin
              have HRw := Lib.hid (rdT_turn HR.out HT2.out HA.out)
              have HXw := Lib.hid (rdI_turn HX.out HT2.out HB.out)
              have Hst := Lib.hid hst
              have HH4 := Lib.hid hh4
              have HL4 := Lib.hid hl4
              have hxl : xs.length ≤ 12 := by have := HLEN.out; rcases hW with rfl | rfl <;> omega
              clear hst hin hh4 hl4
              go_wp2_with (first | (go_at_call 69; refine (c_tiOf _ _ _).mono ?_; rintro e w2 ⟨rfl, hb2⟩; have y0 := HRw.out.below hb2) | (go_at_call 64; refine (c_tiPlace _ _ P _ _ _ (y0.below (by go_grown)) (by omega)).mono ?_; rintro e w3 ⟨rfl, hb3⟩; have B3 := Lib.hid (bstep (hb2.alloc hb2.size _) hb3); have y1 : w3.cell? ⟨w2.heap.size, 0, none⟩ = some (.int .i64 (min (a : Int) b)) := keepc hb3 (by simp); have y2 : w3.cell? ⟨w2.heap.size, 1, none⟩ = some (.int .i64 (max (a : Int) b)) := keepc hb3 (by simp)))
              have ba : Below w3.heap.size w3 (w3.alloc (.cells #[.int .i64 (min (a : Int) b), .int .i64 (max (a : Int) b)] 50)) := (Below.refl _ _).alloc (Nat.le_refl _) _
              have BA := Lib.hid (bstep B3.out ba)
              refine (c_tiThose A c P (some ⟨w3.heap.size, 0, none⟩) 1 [(min (a : Int) b, max (a : Int) b)] false _ (HRw.out.below BA.out) (by omega) (rdT_oneM (by simp) (by simp)) (by simp)).mono ?_
              rintro e w4 ⟨A4, c4, rfl, o4, h4⟩
              have O4 := Lib.hid o4
              have B4 := Lib.hid (bstep BA.out h4)
              clear o4 h4 ba y1 y2 hb3
              go_wp2_with fail
              have hmb := HS2.out.lt
              have z4 := B4.out.size
              have z3 := BA.out.size
              refine (c_l1Own Bx d xs w4 (HXw.out.below B4.out) (by omega)).mono ?_
              rintro e w5 ⟨A5, c5, rfl, o5, h5⟩
              have O5 := Lib.hid o5
              have z5 := h5.size
              have B5 := Lib.hid (bstep B4.out h5)
              have H45 := Lib.hid h5
              clear o5 h5
              go_wp2_with (at_builtin; refine wp_append_ints rfl _ _ rfl w4.heap.size _ xs rfl (O5.out.alloc (.cells #[.int .i64 (a : Int), .int .i64 (b : Int)] 3)) (some ⟨w5.heap.size, 0, none⟩) 2 [(a : Int), (b : Int)] rfl (rdI_two (by simp) (by simp)) (by omega) (by simp) (by simp; omega) ⟨_, _, rfl⟩ ?_; intro A6 c6 w6 o6 g6; have O6 := Lib.hid o6; have G6 := Lib.hid g6; clear o6 g6)
              have a5 : Below w5.heap.size w5 (w5.alloc (.cells #[.int .i64 (a : Int), .int .i64 (b : Int)] 3)) := (Below.refl _ _).alloc (Nat.le_refl _) _
              have b6 : Below wr.heap.size wr w6 := Below.grown (bstep B5.out a5) G6.out (by simp; omega) (fun g hg => Nat.le_trans z4 (O5.out.lt g hg).1)
              have b46 : Below w4.heap.size w4 w6 := Below.grown (bstep H45.out a5) G6.out (by simp; omega) (fun g hg => (O5.out.lt g hg).1)
              have hwt : tile2 (a : Int) b = (min (a : Int) b, max (a : Int) b) := rfl
              have l6 : (xs ++ [(a : Int), (b : Int)]).length = xs.length + 2 := by simp
              have hstep : (mgB R W xs (hwTo P (10 * a + b + 1))).length = (mgB R W xs (hwTo P (10 * a + b))).length + (mgB R W (xs ++ [(a : Int), (b : Int)]) (hwL (thoseL P [tile2 (a : Int) b] false))).length := by
                rw [Hst.out, mgB_app, List.length_append, mgB_cons]
              have hto := mgB_to (R := R) (W := W) (xs := xs) (P := P) (10 * a + b + 1) (by omega) hpos
              have hcap := own_capT O6.out
              have con := IH.out (thoseL P [tile2 (a : Int) b] false) A4 c4 (xs ++ [(a : Int), (b : Int)]) A6 c6 (n + (mgB R W xs (hwTo P (10 * a + b))).length) w6 (by have := HL4.out; have := HT.out; omega) HH4.out ((RdT.of_own O4.out).below b46) (own_away O4.out (by omega)) (RdI.of_own O6.out) (own_away O6.out (by omega)) (by rw [l6]; have := HL4.out; have := HLEN.out; omega) (fun y hy => by
                rcases List.mem_append.1 hy with hy | hy
                · exact HBD.out y hy
                · simp at hy
                  omega) hcap.1 hcap.2 (HS2.out.keep b6) (by have := HN.out; omega)
              rw [l6, hwt] at con
              rw [hwt] at hstep
              refine con.mono ?_
              rintro e w7 ⟨rfl, s7, t7⟩
              have S7 := Lib.hid s7
              have T7 := Lib.hid t7
              have B6 := Lib.hid b6
              have HST := Lib.hid hstep
              clear con s7 t7 b6 b46 a5 hstep hto hcap l6 hwt z3 z4 z5 hmb
              go_wp2
              go_roundw
              case rel => exact ⟨b + 1, by go_num, by omega, by rw [show 10 * a + (b + 1) = 10 * a + b + 1 by omega, HST.out, ← Nat.add_assoc]; exact S7.out, (HT2.out.trans (Turn.of_below B6.out) (fun k _ h => h)).trans T7.out (fun k _ h => h)⟩
              case measure => simp [intOf]; omega
            · have hst := hwTo_no (P := P) hb9 hin
              have jp : decide (placeI P (min (a : Int) b, max (a : Int) b) < 0) = true := decide_eq_true (by
                have := mt placeI_nonneg.1 hin
                unfold tile2 at this
                omega)
              have Hst := Lib.hid hst
              have HRw := Lib.hid (rdT_turn HR.out HT2.out HA.out)
              clear hst hin
              go_wp2_with (first | (go_at_call 69; refine (c_tiOf _ _ _).mono ?_; rintro e w2 ⟨rfl, hb2⟩; have y0 := HRw.out.below hb2) | (go_at_call 64; refine (c_tiPlace _ _ P _ _ _ (y0.below (by go_grown)) (by omega)).mono ?_; rintro e w3 ⟨rfl, hb3⟩; have B3 := Lib.hid (bstep (hb2.alloc hb2.size _) hb3)))
              go_roundw
              case rel => exact ⟨b + 1, by go_num, by omega, by rw [show 10 * a + (b + 1) = 10 * a + b + 1 by omega, Hst.out]; exact HS2.out.keep B3.out, HT2.out.trans (Turn.of_below B3.out) (fun k _ h => h)⟩
              case measure => simp [intOf]; omega
          · obtain rfl : b = 10 := by omega
            have HS2 := Lib.hid hs
            have HT2 := Lib.hid htw
            clear hs htw
            go_wp2
            go_roundw
            case rel => exact ⟨a + 1, by go_num, by omega, by rw [show 10 * (a + 1) = 10 * a + 10 by omega]; exact HS2.out, HT2.out⟩
            case measure => simp [intOf]; omega
      · obtain rfl : a = 10 := by omega
        have HS2 := Lib.hid hs
        have HT2 := Lib.hid htw
        clear hs htw
        go_wp2
        first | go_end0 | (refine bodyPost_ret (results_none rfl _ _ _) rfl ?_)
        exact ⟨rfl, by rw [← hwTo_all hpos]; exact HS2.out, HT2.out⟩

end Go.Proofs.Ytbanpgifhnbjoaa

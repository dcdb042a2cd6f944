/- The program's windows. -/
import Derived.Test.YtbanpgifhnbjoaaWinA
import Derived.Laws.Cover3
namespace Go.Proofs.Ytbanpgifhnbjoaa
open Go.RowKit
set_option linter.unusedVariables false

def winF (xs : List Int) (i : Nat) : Int := if winB xs then xs.getD i 0 else 0

theorem winF_no {xs : List Int} (h : winB xs = false) (i : Nat) : winF xs i = 0 := by simp [winF, h]

theorem winF_yes {xs : List Int} (h : winB xs = true) (i : Nat) : winF xs i = xs.getD i 0 := by simp [winF, h]

set_option maxRecDepth 100000 in
set_option maxHeartbeats 1000000 in
theorem c_winList (f : Nat → Int) (w : World) : Calls Try.prog 58 #[.agg #[.int .i64 (f 0), .int .i64 (f 1), .int .i64 (f 2), .int .i64 (f 3), .int .i64 (f 4), .int .i64 (f 5), .int .i64 (f 6), .int .i64 (f 7)]] w (RetN w (l8 f)) := by
  have hE := eight_box w 68 f
  have hb0 : Below w.heap.size w (w.alloc (.cells #[.int .i64 (f 0), .int .i64 (f 1), .int .i64 (f 2), .int .i64 (f 3), .int .i64 (f 4), .int .i64 (f 5), .int .i64 (f 6), .int .i64 (f 7)] 68)) := (Below.refl _ _).alloc (Nat.le_refl _) _
  have con := c_clone (some ⟨w.heap.size, 0, none⟩) 8 (l8 f) (w.alloc (.cells #[.int .i64 (f 0), .int .i64 (f 1), .int .i64 (f 2), .int .i64 (f 3), .int .i64 (f 4), .int .i64 (f 5), .int .i64 (f 6), .int .i64 (f 7)] 68)) (eight_reads hE) (by rw [l8_len]; decide) (by rw [l8_len]; decide)
  have hl := l8_len f
  rw [hl] at con
  have Con := Lib.hid con
  clear con hE hl
  go_enter Try.func58, Try.ntmps58
  go_wp2_with (go_at_call 51; refine Con.out.mono ?_; rintro e w1 ⟨A1, c1, rfl, ho1, hb1⟩)
  go_ret
  exact ⟨A1, c1, rfl, own_base ho1 hb0.size, bstep hb0 hb1⟩

def spinF (f : Nat → Int) (k i : Nat) : Int := f ((2 * k + i) % 8)

def mirF (f : Nat → Int) (i : Nat) : Int := f ((9 - i) % 8)

set_option maxRecDepth 100000 in
set_option maxHeartbeats 4000000 in
theorem c_spun (f : Nat → Int) (k : Nat) (w : World) (hk : k < 4) : Calls Try.prog 83 #[.agg #[.int .i64 (f 0), .int .i64 (f 1), .int .i64 (f 2), .int .i64 (f 3), .int .i64 (f 4), .int .i64 (f 5), .int .i64 (f 6), .int .i64 (f 7)], .int .i64 k] w fun e w' => e = .returned (.agg #[.int .i64 ((spinF f k) 0), .int .i64 ((spinF f k) 1), .int .i64 ((spinF f k) 2), .int .i64 ((spinF f k) 3), .int .i64 ((spinF f k) 4), .int .i64 ((spinF f k) 5), .int .i64 ((spinF f k) 6), .int .i64 ((spinF f k) 7)]) ∧ Below w.heap.size w w' := by
  have hF := Lib.hid (fun i => (show (spinF f k) i = f ((2 * k + i) % 8) from rfl))
  have hEa := ((eight_box w 68 f).alloc (.cells #[.int .i64 0, .int .i64 0, .int .i64 0, .int .i64 0, .int .i64 0, .int .i64 0, .int .i64 0, .int .i64 0] 68)).alloc (.cells #[.int .i64 0, .int .i64 0, .int .i64 0, .int .i64 0, .int .i64 0, .int .i64 0, .int .i64 0, .int .i64 0] 68)
  have hEb := (eight_new (w.alloc (.cells #[.int .i64 (f 0), .int .i64 (f 1), .int .i64 (f 2), .int .i64 (f 3), .int .i64 (f 4), .int .i64 (f 5), .int .i64 (f 6), .int .i64 (f 7)] 68)) 68).alloc (.cells #[.int .i64 0, .int .i64 0, .int .i64 0, .int .i64 0, .int .i64 0, .int .i64 0, .int .i64 0, .int .i64 0] 68)
  have hEc := eight_new ((w.alloc (.cells #[.int .i64 (f 0), .int .i64 (f 1), .int .i64 (f 2), .int .i64 (f 3), .int .i64 (f 4), .int .i64 (f 5), .int .i64 (f 6), .int .i64 (f 7)] 68)).alloc (.cells #[.int .i64 0, .int .i64 0, .int .i64 0, .int .i64 0, .int .i64 0, .int .i64 0, .int .i64 0, .int .i64 0] 68)) 68
  rw [World.size_alloc] at hEb
  rw [World.size_alloc, World.size_alloc] at hEc
  have hb0 : Below w.heap.size w (((w.alloc (.cells #[.int .i64 (f 0), .int .i64 (f 1), .int .i64 (f 2), .int .i64 (f 3), .int .i64 (f 4), .int .i64 (f 5), .int .i64 (f 6), .int .i64 (f 7)] 68)).alloc (.cells #[.int .i64 0, .int .i64 0, .int .i64 0, .int .i64 0, .int .i64 0, .int .i64 0, .int .i64 0, .int .i64 0] 68)).alloc (.cells #[.int .i64 0, .int .i64 0, .int .i64 0, .int .i64 0, .int .i64 0, .int .i64 0, .int .i64 0, .int .i64 0] 68)) := by go_grown
  have HEa := Lib.hid hEa
  have HEb := Lib.hid hEb
  have HEc := Lib.hid hEc
  have Hb0 := Lib.hid hb0
  clear hEa hEb hEc hb0
  generalize hFF : (spinF f k) = F at *
  clear hFF
  go_enter Try.func83, Try.ntmps83
  go_wp2
  go_loopw [7] (fun i wr => ∃ j : Nat, j ≤ 8 ∧ i = .int .i64 j ∧ Eight wr w.heap.size f ∧ Eight wr (w.heap.size + 1) (fun _ => 0) ∧ Eight wr (w.heap.size + 2) (fun m => if m < j then F m else 0) ∧ Below w.heap.size w wr) (fun i _ => 8 - (intOf i).toNat)
  case atStart => exact ⟨0, by omega, rfl, HEa.out, HEb.out, HEc.out.congr (fun m hm => by simp only [Nat.not_lt_zero, if_false]), Hb0.out⟩
  case round =>
    clear HEa HEb HEc Hb0
    obtain ⟨j, hj, rfl, hE, hR, hT, hb⟩ := hrel
    by_cases hlt : j < 8
    · obtain ⟨r, hr⟩ : ∃ r : Nat, r = (2 * k + j) % 8 := ⟨_, rfl⟩
      have hFj := hF.out j
      rw [← hr] at hFj
      have cr := hE.1 r (by omega)
      rw [← hFj] at cr
      have ck := hT.1 j hlt
      have fk := hT.2 j
      have hrt : (2 * (k : Int) + (j : Int)).tmod 8 = (r : Int) := by rw [Int.tmod_eq_emod_of_nonneg (by omega)]; omega
      have i0 : (0 : Int) ≤ (j : Int) := by omega
      have i1 : (j : Int) < 8 := by omega
      have i2 : (0 : Int) ≤ (r : Int) := by omega
      have i3 : (r : Int) < 8 := by omega
      have HE := Lib.hid hE
      have HR := Lib.hid hR
      have HT := Lib.hid hT
      have Hb := Lib.hid hb
      clear hE hR hT hb hFj hr
      generalize hv : F j = v at cr
      have Hv := Lib.hid hv
      clear hv
      go_wp2
      go_roundw
      case rel =>
        refine ⟨j + 1, by omega, by go_num, HE.out.other (by omega) _, HR.out.other (by omega) _, HT.out.set hlt v ?_ ?_, Hb.out.setCell (by show w.heap.size ≤ w.heap.size + 1 + 1; omega) _⟩
        · simp only [Nat.lt_succ_self, if_true]; exact Hv.out
        · intro m hm hne
          by_cases h1 : m < j
          · have h2 : m < j + 1 := by omega
            simp only [h1, h2, if_true]
          · have h2 : ¬ m < j + 1 := by omega
            simp only [h1, h2, if_false]
      case measure => simp [intOf]; omega
    · obtain rfl : j = 8 := by omega
      replace hT : Eight wr (w.heap.size + 2) F := hT.congr fun m hm => if_pos hm
      clear hE hF
      have d0 := hT.1 0 (by omega)
      have d1 := hT.1 1 (by omega)
      have d2 := hT.1 2 (by omega)
      have d3 := hT.1 3 (by omega)
      have d4 := hT.1 4 (by omega)
      have d5 := hT.1 5 (by omega)
      have d6 := hT.1 6 (by omega)
      have d7 := hT.1 7 (by omega)
      have r0 := hR.1 0 (by omega)
      have r1 := hR.1 1 (by omega)
      have r2 := hR.1 2 (by omega)
      have r3 := hR.1 3 (by omega)
      have r4 := hR.1 4 (by omega)
      have r5 := hR.1 5 (by omega)
      have r6 := hR.1 6 (by omega)
      have r7 := hR.1 7 (by omega)
      have rf := hR.2
      have Hall := Lib.hid (hR.setAll F)
      have Hb := Lib.hid (setAll8_below hb (show w.heap.size ≤ w.heap.size + 1 from Nat.le_succ _) F)
      clear hT hR hb
      go_wp2
      have e0 := Hall.out.1 0 (by omega)
      have e1 := Hall.out.1 1 (by omega)
      have e2 := Hall.out.1 2 (by omega)
      have e3 := Hall.out.1 3 (by omega)
      have e4 := Hall.out.1 4 (by omega)
      have e5 := Hall.out.1 5 (by omega)
      have e6 := Hall.out.1 6 (by omega)
      have e7 := Hall.out.1 7 (by omega)
      have hb := Hb.out
      obtain ⟨W, hW⟩ : ∃ W, W = ((((((((wr.setCell ⟨w.heap.size + 1, 0, none⟩ (.int .i64 (F 0))).setCell ⟨w.heap.size + 1, 1, none⟩ (.int .i64 (F 1))).setCell ⟨w.heap.size + 1, 2, none⟩ (.int .i64 (F 2))).setCell ⟨w.heap.size + 1, 3, none⟩ (.int .i64 (F 3))).setCell ⟨w.heap.size + 1, 4, none⟩ (.int .i64 (F 4))).setCell ⟨w.heap.size + 1, 5, none⟩ (.int .i64 (F 5))).setCell ⟨w.heap.size + 1, 6, none⟩ (.int .i64 (F 6))).setCell ⟨w.heap.size + 1, 7, none⟩ (.int .i64 (F 7))) := ⟨_, rfl⟩
      rw [← hW] at e0 e1 e2 e3 e4 e5 e6 e7 hb ⊢
      clear hW Hall Hb d0 d1 d2 d3 d4 d5 d6 d7 r0 r1 r2 r3 r4 r5 r6 r7 rf
      refine bodyPost_ret (v := .agg #[.int .i64 (F 0), .int .i64 (F 1), .int .i64 (F 2), .int .i64 (F 3), .int .i64 (F 4), .int .i64 (F 5), .int .i64 (F 6), .int .i64 (F 7)]) (by simp [results, Try.results83, go_sem, e0, e1, e2, e3, e4, e5, e6, e7]) rfl ⟨rfl, hb⟩

end Go.Proofs.Ytbanpgifhnbjoaa

/- Hands counted by their pips: a tile comes to smaller hands. -/
import Derived.Test.YtiebilemlolhcaaPwR
namespace Go.Proofs.Ytiebilemlolhcaa
open Go.RowKit Go.Maps Go.ChangeMaps
set_option linter.unusedVariables false

theorem c_pipsStep (p l h : Int) (w : World) (p0 : 0 ≤ p) (p1 : p ≤ 100000) (l0 : 0 ≤ l) (l1 : l ≤ 9) (h0 : 0 ≤ h) (h1 : h ≤ 9) :
    Calls Try.prog 23 #[.int .i64 p, .agg #[.int .i64 l, .int .i64 h]] w fun e w' => e = .returned (.int .i64 (p + (l + h))) ∧ Below w.heap.size w w' := by
  go_enter Try.func23, Try.ntmps23
  go_wp2
  go_ret
  exact ⟨ret_i (by go_num), by go_grown⟩

/-- The greater map while the smaller one is walked: what no longer comes is added. -/
def addF (f1 f2 : Int → Nat) (q : Int) (left : Lit → Bool) (p : Int) : Nat := f1 p + if left (.int .i64 (p - q)) then 0 else f2 (p - q)
theorem addF_start {f1 f2 : Int → Nat} {D : DataW Unit} (h : Vw D f2) (q p : Int) : f1 p = addF f1 f2 q (has D) p := by
  unfold addF
  rw [h.has_]
  by_cases e : 0 < f2 (p - q)
  · simp [e]
  · have : f2 (p - q) = 0 := by omega
    simp [this]
theorem addF_done {f1 f2 : Int → Nat} {q : Int} {left : Lit → Bool} (h : ∀ z, left z = false) (p : Int) : addF f1 f2 q left p = f1 p + f2 (p - q) := by
  unfold addF
  rw [h]
  simp
theorem addF_step {f1 f2 : Int → Nat} {q x : Int} {left : Lit → Bool} (h : left (.int .i64 x) = true) (p : Int) :
    (if p = x + q then f1 (x + q) + f2 x else addF f1 f2 q left p) = addF f1 f2 q (fun z => left z && !z.sameKey (.int .i64 x)) p := by
  unfold addF
  simp only [same_int]
  by_cases e : p = x + q
  · subst e
    have e' : x + q - q = x := by omega
    simp [e']
  · have e' : ¬ p - q = x := by omega
    simp [e, e']
theorem addF_at {f1 f2 : Int → Nat} {q x : Int} {left : Lit → Bool} (h : left (.int .i64 x) = true) : addF f1 f2 q left (x + q) = f1 (x + q) := by
  unfold addF
  rw [show x + q - q = x by omega, h]
  simp

set_option maxRecDepth 100000 in
set_option maxHeartbeats 1000000 in
theorem c_addTile (b1 b2 n1 n2 : Nat) (f1 f2 : Int → Nat) (l h : Int) (w : World) (hne : b1 ≠ b2) (h1 : MI w b1 n1 f1) (h2 : MI w b2 n2 f2) (l0 : 0 ≤ l) (l1 : l ≤ 9) (h0 : 0 ≤ h) (h9 : h ≤ 9)
    (hin : ∀ p, 0 < f2 p → 0 ≤ p ∧ p ≤ 1000) (hf1 : ∀ p, f1 p ≤ 1000000000) (hf2 : ∀ p, f2 p ≤ 1000000000) (hn1 : n1 ≤ 1000000000) (hn2 : n2 ≤ 1000000000) :
    Calls Try.prog 27 #[.map (some b1), .map (some b2), .agg #[.int .i64 l, .int .i64 h], .func (.func 23) #[] #[]] w
      fun e w' => e = .returned (.tuple #[]) ∧ MI w' b1 (n1 + n2) (fun p => f1 p + f2 (p - (l + h))) ∧ w.grownBy w' (some b1) := by
  obtain ⟨D, ho, hv⟩ := h2
  have hsz := ho.size_le
  have b1l := h1.lt
  have b2l := ho.lt
  have H1 := Lib.hid (h1.kept (World.grownBy_alloc w (.cells #[.int .i64 l, .int .i64 h] 46) none) (by simp))
  have ho1 := ho.alloc (.cells #[.int .i64 l, .int .i64 h] 46)
  have G0 := Lib.hid (World.grownBy_alloc w (.cells #[.int .i64 l, .int .i64 h] 46) (some b1))
  have X0 := Lib.hid (Bx2.fresh w (.int .i64 l) (.int .i64 h) 46)
  have Hv := Lib.hid hv
  have Hin := Lib.hid hin
  have F1 := Lib.hid hf1
  have F2 := Lib.hid hf2
  clear h1 ho hv hin hf1 hf2
  go_enter Try.func27, Try.ntmps27
  go_wp2_with (at_range; refine wpList_range_own _ rfl _ 38 rfl 3 3 lawI Try.underlying38 _ b2 n2 _ rfl ho1 ?_; intro w2 hrg0 hg0 hs0)
  go_frame
  have A0 : MI w2 b1 n1 (addF f1 f2 (l + h) (has D)) := (H1.out.kept hg0 (by simp)).eq (addF_start Hv.out _)
  have G2 : w.grownBy w2 (some b1) := gr_trans G0.out (hg0.but _)
  have X2 : Bx2 w2 w.heap.size (.int .i64 l) (.int .i64 h) := X0.out.keep (below_of_grown hg0 (Nat.le_refl _) (by simp))
  have eR : (w.alloc (.cells #[.int .i64 l, .int .i64 h] 46)).heap.size = w.heap.size + 1 := by simp
  rw [eR] at hrg0 ⊢
  clear eR ho1 hg0 hs0 H1 G0 X0
  go_loopw [8] (fun _ wr => ∃ (left : Lit → Bool) (cnt n : Nat), wr.ranges Try.prog 3 (plainElem (H := Unit) Try.prog 3) b2 (w.heap.size + 1) n2 D left cnt ∧ MI wr b1 n (addF f1 f2 (l + h) left) ∧ n + cnt ≤ n1 + n2 ∧
      (∀ x, left (.int .i64 x) = true → 0 < f2 x) ∧ w.grownBy wr (some b1) ∧ Bx2 wr w.heap.size (.int .i64 l) (.int .i64 h)) (fun _ wr => wr.rangeLeft b2 (w.heap.size + 1))
  case atStart => exact ⟨_, _, n1, hrg0, A0, by omega, fun x hx => by rw [Hv.out.has_] at hx; exact of_decide_eq_true hx, G2, X2⟩
  case round =>
    clear hrg0 A0 G2 X2
    obtain ⟨left, cnt, n, hrg, hm, hle, hlf, hg, hx⟩ := hrel
    have Hm := Lib.hid hm
    have Hg := Lib.hid hg
    have Hx := Lib.hid hx
    have Hlf := Lib.hid hlf
    have hzg := hg.size
    clear hm hg hx hlf
    go_wp2_with (at_next; refine wpList_next_ranges_ii _ rfl _ rfl 3 3 .i64 .i64 lawI Try.underlying3 Try.underlying3 b2 (w.heap.size + 1) n2 D _ _ rfl hrg ?_ ?_)
    · intro hc0 hl0
      go_wp2
      go_end0
      exact ⟨rfl, (Hm.out.mono (by omega)).eq (addF_done hl0), Hg.out⟩
    · intro x c w1 cnt1 hwx hwc hlx hat hrg1 hlt hg1 hs1 hen
      have p0 := Hlf.out x hlx
      have px := Hin.out x p0
      have ec : c = (f2 x : Int) := by
        have h1 := hat (.lit (.int .i64 0))
        rw [Hv.out.at_ x _ p0] at h1
        cases h1
        rfl
      subst ec
      have q1 := F1.out (x + (l + h))
      have q2 := F2.out x
      have Hx1 := Hx.out.kept hg1 (by simp <;> omega)
      have y0 := Hx1.c0
      have y1 := Hx1.c1
      have Hm1 := Lib.hid (Hm.out.kept hg1 (by simp <;> omega))
      have Hg1 := Lib.hid (gr_new Hg.out hg1 (by omega))
      have Hrg := Lib.hid hrg1
      have HX1 := Lib.hid Hx1
      have Hlx := Lib.hid hlx
      have hleft0 := hrg.left_eq
      clear hrg hg1 hat hrg1 Hx1 hlx
      have Con := Lib.hid (c_pipsStep x l h w1 px.1 (by omega) l0 l1 h0 h9)
      have ex : (IntKind.i64.wrap ((addF f1 f2 (l + h) left (x + (l + h)) : Int) + (f2 x : Int))) = ((f1 (x + (l + h)) + f2 x : Nat) : Int) := by
        rw [addF_at Hlx.out]
        exact wrap_in (by omega) (by omega)
      go_wp2_with (first | (go_at_call 23; refine Con.out.mono ?_; rintro e w3 ⟨rfl, hb3⟩; have Hm3 := Lib.hid (Hm1.out.keep hb3); have Hrg3 := Lib.hid (Hrg.out.kept (gr_of none hb3) (by simp) (by simp)); have Hg3 := Lib.hid (gr_below Hg1.out (hb3.mono Hg1.out.size)); have HX3 := Lib.hid (HX1.out.keep hb3)) |
        (at_lookup; refine wp_mi_look rfl _ _ rfl b1 n _ rfl Hm3.out (x + (l + h)) rfl (WalkArith.wf_i64 (by omega)) ?_) |
        (at_mapUpdate; refine wp_mi_put rfl _ _ _ rfl b1 n _ rfl Hm3.out (by omega) (x + (l + h)) rfl (WalkArith.wf_i64 (by omega)) (f1 (x + (l + h)) + f2 x) (congrArg (Value.int .i64) (Int.natCast_add _ _).symm) (by omega) (by omega) ?_; intro w4 hm4 hg4))
      try go_frame
      go_roundw
      case rel =>
        have hr4 := Hrg3.out.kept hg4 (by simp <;> omega) (by simp <;> omega)
        refine ⟨_, cnt1, n + 1, hr4, hm4.eq (addF_step Hlx.out), by omega, ?_, gr_trans Hg3.out hg4, HX3.out.kept hg4 (by simp <;> omega)⟩
        intro y hy
        simp only [Bool.and_eq_true] at hy
        exact Hlf.out y hy.1
      case measure =>
        have hr4 := Hrg3.out.kept hg4 (by simp <;> omega) (by simp <;> omega)
        rw [hr4.left_eq, hleft0]
        exact hlt

end Go.Proofs.Ytiebilemlolhcaa

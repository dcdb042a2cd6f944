/- The board of the program: the side arms. -/
import Derived.Test.YtnnkdnleencofabBrdW
namespace Go.Proofs.Ytnnkdnleencofab
open Go.RowKit
set_option linter.unusedVariables false

theorem rdA_two {w : World} {g : Nat} {a : Int} {b c : Bool} (h0 : w.cell? ⟨g, 0, none⟩ = some (.int .i64 a)) (h1 : w.cell? ⟨g, 1, none⟩ = some (.bool b)) (h2 : w.cell? ⟨g, 2, none⟩ = some (.bool c))
    (h3 : w.cell? ⟨g, 3, none⟩ = some (.int .i64 a)) (h4 : w.cell? ⟨g, 4, none⟩ = some (.bool b)) (h5 : w.cell? ⟨g, 5, none⟩ = some (.bool c)) : RdA w (some ⟨g, 0, none⟩) [(a, b, c), (a, b, c)] := by
  refine ⟨g, 0, fun _ => rfl, fun k hk => ?_⟩
  match k, hk with
  | 0, _ => exact ⟨h0, h1, h2⟩
  | 1, _ => exact ⟨h3, h4, h5⟩

set_option maxRecDepth 100000 in
set_option maxHeartbeats 1000000 in
theorem c_withSides (A : Option Addr) (c : Nat) (D : Option Addr) (n d : Nat) (f : Int) (ps : List (Int × Int × Int)) (E : Option Addr) (e0 : Nat) (arms : List (Int × Bool × Bool)) (base : Nat) (w : World) (hr : RdP w A ps) (hl : ps.length ≤ 28) (hg : ∀ p ∈ ps, goodB p.1 p.2.1 = true)
    (ho : w.ownsRow base 141 3 (.slice E arms.length e0) arms.length (cellsA arms)) (hbase : base ≤ w.heap.size) (h4 : arms.length ≤ 4) :
    Calls Try.prog 107 #[.agg #[.slice A ps.length c, .slice D n d, .int .i64 f], .slice E arms.length e0] w fun e w' => ∃ E' e', e = .returned (.slice E' (sidesL ps arms).length e') ∧ w'.ownsRow base 141 3 (.slice E' (sidesL ps arms).length e') (sidesL ps arms).length (cellsA (sidesL ps arms)) ∧ Below base w w' := by
  have con := Lib.hid (fun W (hb : Below w.heap.size w W) => c_spinner A c D n d f ps W (hr.below hb) hl hg)
  have Ho := Lib.hid ho
  have hb0 : Below w.heap.size w (w.alloc (.cells #[.slice A ps.length c, .slice D n d, .int .i64 f] 94)) := by go_grown
  clear hr hg ho
  by_cases hs : 0 ≤ spinL ps
  · have hd : decide (0 ≤ spinL ps) = true := decide_eq_true hs
    have hv : spinV ps = spinL ps := if_pos hs
    rw [hd, hv] at con
    obtain ⟨s, hS⟩ : ∃ s, spinL ps = s := ⟨_, rfl⟩
    by_cases h2 : 2 < arms.length
    · have e1 : sidesL ps arms = arms := sidesL_many h2
      rw [e1]
      have i0 : (2 : Int) < (arms.length : Int) := by omega
      clear hd hv e1 hs h2
      go_enter Try.func107, Try.ntmps107
      go_wp2_with (go_at_call 137; refine (con.out _ hb0).mono ?_; rintro e w1 ⟨rfl, hb1⟩)
      go_ret
      exact ⟨E, e0, rfl, own_keep (own_keep Ho.out hb0) hb1, (bstep hb0 hb1).mono hbase⟩
    · have i0 : ¬ (2 : Int) < (arms.length : Int) := by omega
      rw [hS] at con hs hd hv
      have conC := Lib.hid (fun W (hb : Below w.heap.size w W) => c_containsA E e0 arms s W (RdA.of_own (own_keep Ho.out hb)) (by omega))
      by_cases hm : (s, true, false) ∈ arms
      · have e1 : sidesL ps arms = arms := sidesL_in (by rw [hS]; exact hm)
        rw [e1]
        rw [decide_eq_true hm] at conC
        clear hd hv e1 hs h2 hm hS
        go_enter Try.func107, Try.ntmps107
        go_wp2_with (first | (go_at_call 137; refine (con.out _ hb0).mono ?_; rintro e w1 ⟨rfl, hb1⟩) | (go_at_call 138; refine (conC.out _ (bstep hb0 hb1)).mono ?_; rintro e w2 ⟨rfl, hb2⟩))
        go_ret
        exact ⟨E, e0, rfl, own_keep (own_keep (own_keep Ho.out hb0) hb1) hb2, (bstep (bstep hb0 hb1) hb2).mono hbase⟩
      · have e1 : sidesL ps arms = arms ++ [(s, false, true), (s, false, true)] := by
          rw [sidesL_new (by rw [hS]; exact hs) (by omega) (by rw [hS]; exact hm), hS]
        rw [e1]
        rw [decide_eq_false hm] at conC
        clear hd hv e1 hs h2 hm hS
        go_enter Try.func107, Try.ntmps107
        go_wp2_with (first | (go_at_call 137; refine (con.out _ hb0).mono ?_; rintro e w1 ⟨rfl, hb1⟩) | (go_at_call 138; refine (conC.out _ (bstep hb0 hb1)).mono ?_; rintro e w2 ⟨rfl, hb2⟩; have hbw := bstep (bstep hb0 hb1) hb2; have hz := hbw.size; have Ho2 := Lib.hid (own_keep (own_keep (own_keep Ho.out hb0) hb1) hb2)) | (at_builtin; refine wp_append_As rfl _ _ rfl base _ arms rfl ((Ho2.out.alloc _).alloc _) _ _ [(s, false, true), (s, false, true)] rfl (rdA_two (by simp) (by simp) (by simp) (by simp) (by simp) (by simp)) (by omega) (by simp) (by simp <;> omega) ⟨_, _, rfl⟩ ?_; intro A5 c5 w5 ho5 hg5))
        go_ret
        exact ⟨A5, c5, by simp, ho5, Below.grown ((hbw.mono hbase).trans (by go_grown)) hg5 (by simp <;> omega) (fun g hg => (Ho2.out.lt g hg).1)⟩
  · have hd : decide (0 ≤ spinL ps) = false := decide_eq_false hs
    have hv : spinV ps = 0 := if_neg hs
    have e1 : sidesL ps arms = arms := sidesL_low (by omega)
    rw [hd, hv] at con
    rw [e1]
    clear hd hv e1 hs
    go_enter Try.func107, Try.ntmps107
    go_wp2_with (go_at_call 137; refine (con.out _ hb0).mono ?_; rintro e w1 ⟨rfl, hb1⟩)
    go_ret
    exact ⟨E, e0, rfl, own_keep (own_keep Ho.out hb0) hb1, (bstep hb0 hb1).mono hbase⟩
end Go.Proofs.Ytnnkdnleencofab

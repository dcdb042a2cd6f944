/- All tiles of a hand laid by one alone: the program's side. -/
import Derived.Test.YtlnfialfkipdjaaBehA
import Derived.Deep.Cut
import Derived.BigQuiet
namespace Go.Proofs.Ytlnfialfkipdjaa
open Go.RowKit
set_option linter.unusedVariables false

/-- Can the one whose turn it is lay all own tiles? -/
def swN : Nat → List (Int × Int) → List (Int × Int) → List Int → Int → Bool
  | 0, _, _, _, _ => true
  | n + 1, F, S, R, t => if (handG F S t).length = 0 then true else (laysL R (handG F S t)).any fun m => swN n (woL F m.1 m.2.1) (woL S m.1 m.2.1) (rowWL R m.1 m.2.1 m.2.2) t
theorem sw_hand {F S : List (Int × Int)} {t : Int} (a b : Int) : handG (woL F a b) (woL S a b) t = woL (handG F S t) a b := by
  unfold handG
  split <;> rfl
theorem rowWL_len (R : List Int) (a b : Int) (k : Nat) : (rowWL R a b k).length ≤ 110 := by
  unfold rowWL
  split
  · simp
  · exact layHL_len _ _ _ _
theorem any_take {α : Type} (p : α → Bool) (M : List α) (k : Nat) (h : k < M.length) (h0 : (M.take k).any p = false) : (M.take (k + 1)).any p = p M[k] := by
  rw [List.take_succ_eq_append_getElem h, List.any_append, h0]
  simp

set_option maxRecDepth 100000 in
set_option maxHeartbeats 2000000 in
theorem c_canSweep : ∀ (n : Nat) (AF : Option Addr) (cF : Nat) (F : List (Int × Int)) (AS : Option Addr) (cS : Nat) (S : List (Int × Int)) (AR : Option Addr) (cR : Nat) (R : List Int) (t u : Int) (w : World) (hF : RdT w AF F) (hS : RdT w AS S) (hR : RdI w AR R) (gF : handB F = true) (gS : handB S = true) (lR : R.length ≤ 1048576) (ht2 : t = 0 ∨ t = 1) (hz : (handG F S t).length < n) (hn : n ≤ 1000000),
    Calls Try.prog 101 #[.agg #[.slice AF F.length cF, .slice AS S.length cS, .slice AR R.length cR, .int .i64 t, .int .i64 u]] w fun e w' => e = .returned (.bool (swN n F S R t)) ∧ Below w.heap.size w w'
  | 0, AF, cF, F, AS, cS, S, AR, cR, R, t, u, w, hF, hS, hR, gF, gS, lR, ht2, hz, hn => by omega
  | n + 1, AF, cF, F, AS, cS, S, AR, cR, R, t, u, w, hF, hS, hR, gF, gS, lR, ht2, hz, hn => by
    have lF : F.length ≤ 1048576 := by have := (of_decide_eq_true gF : handP F).1; omega
    have lS : S.length ≤ 1048576 := by have := (of_decide_eq_true gS : handP S).1; omega
    have conH := fun W => c_gHand AF cF F AS cS S AR cR R t u W ht2
    obtain ⟨AH, cH, hh⟩ : ∃ AH cH, (if t = 1 then Value.slice AS S.length cS else .slice AF F.length cF) = .slice AH (handG F S t).length cH := by
      by_cases h : t = 1
      · exact ⟨AS, cS, by rw [if_pos h]; unfold handG; rw [if_pos h]⟩
      · exact ⟨AF, cF, by rw [if_neg h]; unfold handG; rw [if_neg h]⟩
    simp only [hh] at conH
    by_cases h0 : (handG F S t).length = 0
    · have en : swN (n + 1) F S R t = true := by unfold swN; rw [if_pos h0]
      rw [en]
      have e0 : (((handG F S t).length : Int) == 0) = true := by rw [h0]; rfl
      have ConH := Lib.hid conH
      clear conH en hF hS hR hz hh h0
      go_enter Try.func101, Try.ntmps101
      go_wp2_with fail
      obtain ⟨w0, hw0⟩ : ∃ w0, w0 = w.alloc (.cells #[.slice AF F.length cF, .slice AS S.length cS, .slice AR R.length cR, .int .i64 t, .int .i64 u] 43) := ⟨_, rfl⟩
      rw [← hw0]
      have ba0 : BoxAt w0 w.heap.size (.slice AF F.length cF) (.slice AS S.length cS) (.slice AR R.length cR) (.int .i64 t) (.int .i64 u) := by rw [hw0]; exact BoxAt.fresh w _ _ _ _ _ _
      have hb0 : Below w.heap.size w w0 := by rw [hw0]; go_grown
      clear hw0
      refine (ConH.out w0).mono ?_
      rintro e w1 ⟨rfl, h1⟩
      have hb1 := bstep hb0 h1
      clear ConH ba0
      go_wp2
      go_ret
      exact ⟨rfl, hb1⟩
    · have en : swN (n + 1) F S R t = (laysL R (handG F S t)).any fun m => swN n (woL F m.1 m.2.1) (woL S m.1 m.2.1) (rowWL R m.1 m.2.1 m.2.2) t := by
        rw [swN, if_neg h0]
      rw [en]
      have e0 : (((handG F S t).length : Int) == 0) = false := by rw [beq_eq_false_iff_ne]; omega
      have ConH := Lib.hid conH
      have conL := Lib.hid (fun W (hb : Below w.heap.size w W) => c_layings AF cF F AS cS S AR cR R t u W (hF.below hb) (hS.below hb) (hR.below hb) gF gS lR ht2)
      have conB := Lib.hid (fun m (hm : m ∈ laysL R (handG F S t)) W (hb : Below w.heap.size w W) => c_laid AF cF F AS cS S AR cR R t u m.1 m.2.1 m.2.2 (by rcases (mem_lays hm).2 with h | h <;> omega) W (hF.below hb) (hS.below hb) (hR.below hb) lF lS lR)
      have conI := Lib.hid (fun m (hm : m ∈ laysL R (handG F S t)) (A1 : Option Addr) (c1 : Nat) (A2 : Option Addr) (c2 : Nat) (A3 : Option Addr) (c3 : Nat) W (rF : RdT W A1 (woL F m.1 m.2.1)) (rS : RdT W A2 (woL S m.1 m.2.1)) (rR : RdI W A3 (rowWL R m.1 m.2.1 m.2.2)) => c_canSweep n A1 c1 (woL F m.1 m.2.1) A2 c2 (woL S m.1 m.2.1) A3 c3 (rowWL R m.1 m.2.1 m.2.2) t 0 W rF rS rR (woL_hand gF) (woL_hand gS) (by have := rowWL_len R m.1 m.2.1 m.2.2; omega) ht2 (by rw [sw_hand]; have := woL_less (mem_lays hm).1; omega) (by omega))
      have ml := laysL_len R (handG F S t)
      generalize hp : (fun m : Mv => swN n (woL F m.1 m.2.1) (woL S m.1 m.2.1) (rowWL R m.1 m.2.1 m.2.2) t) = p at *
      have hpm : Hid (∀ m : Mv, swN n (woL F m.1 m.2.1) (woL S m.1 m.2.1) (rowWL R m.1 m.2.1 m.2.2) t = p m) := Lib.hid (fun m => by rw [← hp])
      generalize laysL R (handG F S t) = M at *
      have hany := Lib.hid (fun k (h : k < M.length) (h0 : (M.take k).any p = false) => any_take p M k h h0)
      have hyes := Lib.hid (fun k (h : k < M.length) (h0 : p M[k] = true) => show M.any p = true from List.any_eq_true.2 ⟨M[k], List.getElem_mem h, h0⟩)
      clear conH en hF hS hR hz hh h0 hp
      go_enter Try.func101, Try.ntmps101
      go_wp2_with fail
      obtain ⟨w0, hw0⟩ : ∃ w0, w0 = w.alloc (.cells #[.slice AF F.length cF, .slice AS S.length cS, .slice AR R.length cR, .int .i64 t, .int .i64 u] 43) := ⟨_, rfl⟩
      rw [← hw0]
      have ba0 : BoxAt w0 w.heap.size (.slice AF F.length cF) (.slice AS S.length cS) (.slice AR R.length cR) (.int .i64 t) (.int .i64 u) := by rw [hw0]; exact BoxAt.fresh w _ _ _ _ _ _
      have hb0 : Below w.heap.size w w0 := by rw [hw0]; go_grown
      clear hw0
      refine (ConH.out w0).mono ?_
      rintro e w1 ⟨rfl, h1⟩
      have hb1 := bstep hb0 h1
      have ba1 := ba0.keep h1
      have x0 := ba1.c0
      have x1 := ba1.c1
      have x2 := ba1.c2
      have x3 := ba1.c3
      have x4 := ba1.c4
      clear ConH ba0
      go_wp2_with fail
      refine (conL.out w1 hb1).mono ?_
      rintro e w2 ⟨A2, c2, rfl, o2, h2⟩
      have hb2 := bstep hb1 h2
      have ba2 := ba1.keep h2
      have r2 := RdE.of_own encI_len o2
      clear x0 x1 x2 x3 x4 ba1 o2 conL
      go_wp2
      go_loopw [12] (fun i wr => ∃ k : Nat, k ≤ M.length ∧ i = .int .i64 k ∧ (M.take k).any p = false ∧ Below w2.heap.size w2 wr) (fun i _ => M.length - (intOf i).toNat)
      case atStart => exact ⟨0, Nat.zero_le _, rfl, by simp, Below.refl _ _⟩
      case round =>
        obtain ⟨k, hk, rfl, hno, hb⟩ := hrel
        by_cases hlt : k < M.length
        · obtain ⟨bm, om, rfl, hbm, hcm⟩ := r2.at_ hlt
          have g0 := keepc hb (hcm k hlt 0 _ rfl)
          have g1 := keepc hb (hcm k hlt 1 _ rfl)
          have g2 := keepc hb (hcm k hlt 2 _ rfl)
          rw [Nat.add_zero] at g0
          have hA := Lib.hid (hany.out k hlt hno)
          have hY := Lib.hid (hyes.out k hlt)
          have hmem : M[k] ∈ M := List.getElem_mem hlt
          have conB2 := Lib.hid (conB.out _ hmem)
          have conI2' := conI.out _ hmem
          rw [hpm.out] at conI2'
          generalize M[k] = m at *
          have bar := ba2.keep hb
          have x0 := bar.c0
          have x1 := bar.c1
          have x2 := bar.c2
          have x3 := bar.c3
          have x4 := bar.c4
          have hlw := bar.lt
          have hbr := bstep hb2 hb
          generalize p m = y at *
          have conI2 := Lib.hid conI2'
          clear hcm conB conI conI2' hany hyes hpm hno
          go_wp2_with fail
          refine (conB2.out _ (hbr.alloc hbr.size _)).mono ?_
          rintro e w3 ⟨A3, c3, A4, c4, A5, c5, rfl, o3, h3⟩
          have hb3 := bstep ((Below.refl wr.heap.size wr).alloc (Nat.le_refl _) (.cells #[.int .i64 m.1, .int .i64 m.2.1, .string (endS m.2.2)] 198)) h3
          go_wp2_with fail
          refine (conI2.out A3 c3 A4 c4 A5 c5 w3 (RdT.of_own o3.f) (RdT.of_own o3.s) (RdI.of_own o3.r)).mono ?_
          rintro e w4 ⟨rfl, h4⟩
          have hb4 := Lib.hid (bstep hb (bstep hb3 h4))
          clear x0 x1 x2 x3 x4 o3 conB2 conI2 bar
          cases hy : y
          · have hA2 := Lib.hid (hA.out.trans hy)
            clear hY hA
            subst hy
            go_wp2
            go_roundw
            case rel => exact ⟨k + 1, by omega, by go_num, hA2.out, hb4.out⟩
            case measure => simp [intOf]; omega
          · have hA2 := hY.out hy
            have hE := Lib.hid hA2
            clear hY hA hA2
            subst hy
            have Hr := Lib.hid (bstep hb2 hb4.out)
            go_wp2
            go_ret
            exact ⟨by rw [hE.out]; rfl, Hr.out⟩
        · have : k = M.length := by omega
          subst this
          rw [List.take_length] at hno
          have Hno := Lib.hid hno
          have Hr := Lib.hid (bstep hb2 hb)
          clear hno
          go_wp2
          go_ret
          exact ⟨by rw [Hno.out]; rfl, Hr.out⟩

end Go.Proofs.Ytlnfialfkipdjaa

/- CanSweep: the program's own. -/
import Derived.Test.YtlnfialfkipdjaaSwV
import Derived.Test.YtlnfialfkipdjaaGameL
import Derived.Test.YtlnfialfkipdjaaGames
namespace Go.Proofs.Ytlnfialfkipdjaa
open Go.RowKit
set_option linter.unusedVariables false

def swOk (F S : List (Int × Int)) (R : List Int) (t u : Int) : Bool := gameB F S R t u && decide ((handG F S t).length ≤ 8)
def swRes (F S : List (Int × Int)) (R : List Int) (t u : Int) : Bool := if swOk F S R t u then swN 9 F S R t else false
theorem turn_two {t u : Int} (h : turnB t u = true) : t = 0 ∨ t = 1 := by
  unfold turnB at h
  simp only [Bool.and_eq_true, decide_eq_true_eq] at h
  omega
theorem game_sw {F S : List (Int × Int)} {R : List Int} {t u : Int} (h : gameB F S R t u = true) : (t = 0 ∨ t = 1) ∧ handB F = true ∧ handB S = true ∧ swInv (handG F S t) R := by
  obtain ⟨h1, h2, h3, h4, h5, h6, h7⟩ := gameB_parts h
  refine ⟨turn_two h1, h3, h4, h2, ?_, ?_⟩
  · unfold handG
    split
    · exact h4
    · exact h3
  · unfold handG
    split
    · exact h7
    · exact h6
/-- What the specification's search tells is what the plain one tells. -/
theorem sw_same {F S : List (Int × Int)} {R : List Int} {t u : Int} (h : swOk F S R t u = true) : swRes F S R t u = swpV (handG F S t) R := by
  unfold swRes
  rw [if_pos h]
  unfold swOk at h
  rw [Bool.and_eq_true, decide_eq_true_eq] at h
  obtain ⟨h1, h2⟩ := h
  obtain ⟨_, _, _, hi⟩ := game_sw h1
  rw [swN_swH 9 F S R t hi, swp_eq (n := 9) (by omega) hi]
theorem hand_val (AF : Option Addr) (cF : Nat) (F : List (Int × Int)) (AS : Option Addr) (cS : Nat) (S : List (Int × Int)) (t : Int) : ∃ AH cH, (if t = 1 then Value.slice AS S.length cS else .slice AF F.length cF) = .slice AH (handG F S t).length cH ∧ (AH = AS ∧ handG F S t = S ∨ AH = AF ∧ handG F S t = F) := by
  by_cases h : t = 1
  · exact ⟨AS, cS, by rw [if_pos h]; unfold handG; rw [if_pos h], .inl ⟨rfl, by unfold handG; rw [if_pos h]⟩⟩
  · exact ⟨AF, cF, by rw [if_neg h]; unfold handG; rw [if_neg h], .inr ⟨rfl, by unfold handG; rw [if_neg h]⟩⟩

set_option maxRecDepth 100000 in
set_option maxHeartbeats 1000000 in
theorem c_implCanSweep (AF : Option Addr) (cF : Nat) (F : List (Int × Int)) (AS : Option Addr) (cS : Nat) (S : List (Int × Int)) (AR : Option Addr) (cR : Nat) (R : List Int) (t u : Int) (w : World) (hF : RdT w AF F) (hS : RdT w AS S) (hR : RdI w AR R) (lFS : F.length + S.length ≤ 1048576) (lR : R.length ≤ 1048576) :
    Calls Try.prog 26 #[.agg #[.slice AF F.length cF, .slice AS S.length cS, .slice AR R.length cR, .int .i64 t, .int .i64 u]] w fun e w' => e = .returned (.tuple #[.bool (swRes F S R t u), .bool (swOk F S R t u)]) ∧ Below w.heap.size w w' := by
  have conG := fun W (hb : Below w.heap.size w W) => c_implIsGame AF cF F AS cS S AR cR R t u W (hF.below hb) (hS.below hb) (hR.below hb) lFS lR
  have conH := fun (h : t = 0 ∨ t = 1) W => c_gHand AF cF F AS cS S AR cR R t u W h
  have conS := fun (h1 : t = 0 ∨ t = 1) (h2 : handB F = true) (h3 : handB S = true) (h4 : (handG F S t).length < 9) W (hb : Below w.heap.size w W) => c_canSweep 9 AF cF F AS cS S AR cR R t u W (hF.below hb) (hS.below hb) (hR.below hb) h2 h3 lR h1 h4 (by omega)
  obtain ⟨AH, cH, hh, _⟩ := hand_val AF cF F AS cS S t
  simp only [hh] at conH
  clear hF hS hR hh
  cases hg : gameB F S R t u
  · have hok : swOk F S R t u = false := by unfold swOk; rw [hg]; rfl
    have hre : swRes F S R t u = false := by unfold swRes; rw [hok]; rfl
    rw [hok, hre]
    simp only [hg] at conG
    have ConG := Lib.hid conG
    clear hg hok hre conG conH conS
    go_enter Try.func26, Try.ntmps26
    go_wp2_with fail
    obtain ⟨w0, hw0⟩ : ∃ w0, w0 = w.alloc (.cells #[.slice AF F.length cF, .slice AS S.length cS, .slice AR R.length cR, .int .i64 t, .int .i64 u] 43) := ⟨_, rfl⟩
    rw [← hw0]
    have ba0 : BoxAt w0 w.heap.size (.slice AF F.length cF) (.slice AS S.length cS) (.slice AR R.length cR) (.int .i64 t) (.int .i64 u) := by rw [hw0]; exact BoxAt.fresh w _ _ _ _ _ _
    have hb0 : Below w.heap.size w w0 := by rw [hw0]; go_grown
    clear hw0
    refine (ConG.out w0 hb0).mono ?_
    rintro e w1 ⟨rfl, h1⟩
    go_wp2
    go_ret2
    exact ⟨rfl, bstep hb0 h1⟩
  obtain ⟨ht2, gF, gS, _⟩ := game_sw hg
  simp only [hg] at conG
  have conH2 := conH ht2
  by_cases hl : (handG F S t).length ≤ 8
  · have hok : swOk F S R t u = true := by unfold swOk; rw [hg, decide_eq_true hl]; rfl
    have hre : swRes F S R t u = swN 9 F S R t := by unfold swRes; rw [hok, if_pos rfl]
    rw [hok, hre]
    have conS2 := conS ht2 gF gS (by omega)
    generalize swN 9 F S R t = q at *
    generalize (handG F S t).length = n at *
    have hl2 : ¬ (8 : Int) < (n : Int) := by omega
    have ConG := Lib.hid conG
    have ConH := Lib.hid conH2
    have ConS := Lib.hid conS2
    clear hg hok hre conG conH conS conH2 conS2 ht2 gF gS
    go_enter Try.func26, Try.ntmps26
    go_wp2_with fail
    obtain ⟨w0, hw0⟩ : ∃ w0, w0 = w.alloc (.cells #[.slice AF F.length cF, .slice AS S.length cS, .slice AR R.length cR, .int .i64 t, .int .i64 u] 43) := ⟨_, rfl⟩
    rw [← hw0]
    have ba0 : BoxAt w0 w.heap.size (.slice AF F.length cF) (.slice AS S.length cS) (.slice AR R.length cR) (.int .i64 t) (.int .i64 u) := by rw [hw0]; exact BoxAt.fresh w _ _ _ _ _ _
    have hb0 : Below w.heap.size w w0 := by rw [hw0]; go_grown
    clear hw0
    refine (ConG.out w0 hb0).mono ?_
    rintro e w1 ⟨rfl, h1⟩
    have hb1 := bstep hb0 h1
    have ba1 := ba0.keep h1
    clear ba0
    have x0 := ba1.c0
    have x1 := ba1.c1
    have x2 := ba1.c2
    have x3 := ba1.c3
    have x4 := ba1.c4
    go_wp2_with fail
    refine (ConH.out _).mono ?_
    rintro e w2 ⟨rfl, h2⟩
    have hb2 := bstep hb1 h2
    have ba2 := ba1.keep h2
    clear ba1 x0 x1 x2 x3 x4
    have x0 := ba2.c0
    have x1 := ba2.c1
    have x2 := ba2.c2
    have x3 := ba2.c3
    have x4 := ba2.c4
    go_wp2_with fail
    refine (ConS.out _ hb2).mono ?_
    rintro e w3 ⟨rfl, h3⟩
    go_wp2
    go_ret2
    exact ⟨rfl, bstep hb2 h3⟩
  · have hok : swOk F S R t u = false := by unfold swOk; rw [hg, decide_eq_false hl]; rfl
    have hre : swRes F S R t u = false := by unfold swRes; rw [hok]; rfl
    rw [hok, hre]
    generalize (handG F S t).length = n at *
    have hl2 : (8 : Int) < (n : Int) := by omega
    have ConG := Lib.hid conG
    have ConH := Lib.hid conH2
    clear hg hok hre conG conH conS conH2 ht2 gF gS
    go_enter Try.func26, Try.ntmps26
    go_wp2_with fail
    obtain ⟨w0, hw0⟩ : ∃ w0, w0 = w.alloc (.cells #[.slice AF F.length cF, .slice AS S.length cS, .slice AR R.length cR, .int .i64 t, .int .i64 u] 43) := ⟨_, rfl⟩
    rw [← hw0]
    have ba0 : BoxAt w0 w.heap.size (.slice AF F.length cF) (.slice AS S.length cS) (.slice AR R.length cR) (.int .i64 t) (.int .i64 u) := by rw [hw0]; exact BoxAt.fresh w _ _ _ _ _ _
    have hb0 : Below w.heap.size w w0 := by rw [hw0]; go_grown
    clear hw0
    refine (ConG.out w0 hb0).mono ?_
    rintro e w1 ⟨rfl, h1⟩
    have hb1 := bstep hb0 h1
    have ba1 := ba0.keep h1
    clear ba0
    have x0 := ba1.c0
    have x1 := ba1.c1
    have x2 := ba1.c2
    have x3 := ba1.c3
    have x4 := ba1.c4
    go_wp2_with fail
    refine (ConH.out _).mono ?_
    rintro e w2 ⟨rfl, h2⟩
    go_wp2
    go_ret2
    exact ⟨rfl, bstep hb1 h2⟩

end Go.Proofs.Ytlnfialfkipdjaa

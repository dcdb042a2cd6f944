/- The laws' own small functions over games. Games: the specification's IsGame, IsOver, PointsOf, GameOf, SwapGame. Games: the program's IsGame, IsOver, PointsOf. Arguments of the laws: games. -/
import Derived.Test.YtlnfialfkipdjaaGames
import Derived.Test.YtlnfialfkipdjaaChains
import Derived.Test.YtlnfialfkipdjaaSets
import Derived.Test.YtlnfialfkipdjaaLawA
namespace Go.Proofs.Ytlnfialfkipdjaa
open Go.RowKit
set_option linter.unusedVariables false

set_option maxHeartbeats 400000 in
theorem c_szIntSg (A : Option Addr) (c n : Nat) (q : Int) (w : World) (hn : n ≤ 9223372036854775807) (h0 : 0 ≤ q) (h1 : q ≤ 9223372036854775807) :
    Calls Try.prog 95 #[.slice A n c, .int .i64 q] w fun e w' => e = .returned (.int .i64 (if q - n < 0 then -1 else q - n)) ∧ w = w' := by
  by_cases h : q - n < 0
  all_goals
    go_enter Try.func95, Try.ntmps95
    go_wp2
    go_ret
    exact ⟨ret_i (by first | omega | (split <;> omega)), rfl⟩

set_option maxRecDepth 100000 in
set_option maxHeartbeats 1000000 in
theorem c_szGame_yes (AF : Option Addr) (cF : Nat) (F : List (Int × Int)) (AS : Option Addr) (cS : Nat) (S : List (Int × Int)) (AR : Option Addr) (cR : Nat) (R : List Int) (t u : Int) (w : World) (h : F.length + S.length + R.length ≤ 1048576) :
    Calls Try.prog 23 #[.agg #[.slice AF F.length cF, .slice AS S.length cS, .slice AR R.length cR, .int .i64 t, .int .i64 u], .int .i64 1048576] w fun e w' => e = .returned (.int .i64 (1048576 - (F.length : Int) - (S.length : Int) - (R.length : Int))) ∧ Below w.heap.size w w' := by
  have c1 := fun W => c_szTileS AF cF F.length 1048576 W (by omega) (by omega) (by omega)
  have c2 := fun W => c_szTileS AS cS S.length (1048576 - (F.length : Int)) W (by omega) (by omega) (by omega)
  have c3 := fun W => c_szIntSg AR cR R.length (1048576 - (F.length : Int) - (S.length : Int)) W (by omega) (by omega) (by omega)
  have e1 : ¬ 1048576 - (F.length : Int) < 0 := by omega
  have e2 : ¬ 1048576 - (F.length : Int) - (S.length : Int) < 0 := by omega
  have e3 : ¬ 1048576 - (F.length : Int) - (S.length : Int) - (R.length : Int) < 0 := by omega
  simp only [if_neg e1] at c1
  simp only [if_neg e2] at c2
  simp only [if_neg e3] at c3
  have C1 := Lib.hid c1
  have C2 := Lib.hid c2
  have C3 := Lib.hid c3
  clear c1 c2 c3
  have q1 : True := trivial
  go_enter Try.func23, Try.ntmps23
  go_wp2_with (first | (go_at_call 29; have zz := q1; clear zz q1; refine (C1.out _).mono ?_; rintro e w1 ⟨rfl, rfl⟩) | (go_at_call 29; refine (C2.out _).mono ?_; rintro e w1 ⟨rfl, rfl⟩) | (go_at_call 95; refine (C3.out _).mono ?_; rintro e w1 ⟨rfl, rfl⟩))
  go_ret
  exact ⟨rfl, by go_grown⟩

set_option maxRecDepth 100000 in
set_option maxHeartbeats 1000000 in
theorem c_szGame_no (AF : Option Addr) (cF : Nat) (F : List (Int × Int)) (AS : Option Addr) (cS : Nat) (S : List (Int × Int)) (AR : Option Addr) (cR : Nat) (R : List Int) (t u : Int) (w : World) (lF : F.length ≤ 9223372036854775807) (lS : S.length ≤ 9223372036854775807) (lR : R.length ≤ 9223372036854775807) (h : 1048576 < F.length + S.length + R.length) :
    Calls Try.prog 23 #[.agg #[.slice AF F.length cF, .slice AS S.length cS, .slice AR R.length cR, .int .i64 t, .int .i64 u], .int .i64 1048576] w fun e w' => e = .returned (.int .i64 (-1)) ∧ Below w.heap.size w w' := by
  have c1 := fun W => c_szTileS AF cF F.length 1048576 W (by omega) (by omega) (by omega)
  by_cases e1 : 1048576 - (F.length : Int) < 0
  · simp only [if_pos e1] at c1
    have C1 := Lib.hid c1
    clear c1
    go_enter Try.func23, Try.ntmps23
    go_wp2_with (go_at_call 29; refine (C1.out _).mono ?_; rintro e w1 ⟨rfl, rfl⟩)
    go_ret
    exact ⟨rfl, by go_grown⟩
  · simp only [if_neg e1] at c1
    have c2 := fun W => c_szTileS AS cS S.length (1048576 - (F.length : Int)) W (by omega) (by omega) (by omega)
    by_cases e2 : 1048576 - (F.length : Int) - (S.length : Int) < 0
    · simp only [if_pos e2] at c2
      have C1 := Lib.hid c1
      have C2 := Lib.hid c2
      clear c1 c2
      have q1 : True := trivial
      go_enter Try.func23, Try.ntmps23
      go_wp2_with (first | (go_at_call 29; have zz := q1; clear zz q1; refine (C1.out _).mono ?_; rintro e w1 ⟨rfl, rfl⟩) | (go_at_call 29; refine (C2.out _).mono ?_; rintro e w1 ⟨rfl, rfl⟩))
      go_ret
      exact ⟨rfl, by go_grown⟩
    · simp only [if_neg e2] at c2
      have e3 : 1048576 - (F.length : Int) - (S.length : Int) - (R.length : Int) < 0 := by omega
      have c3 := fun W => c_szIntSg AR cR R.length (1048576 - (F.length : Int) - (S.length : Int)) W (by omega) (by omega) (by omega)
      simp only [if_pos e3] at c3
      have C1 := Lib.hid c1
      have C2 := Lib.hid c2
      have C3 := Lib.hid c3
      clear c1 c2 c3
      have q1 : True := trivial
      go_enter Try.func23, Try.ntmps23
      go_wp2_with (first | (go_at_call 29; have zz := q1; clear zz q1; refine (C1.out _).mono ?_; rintro e w1 ⟨rfl, rfl⟩) | (go_at_call 29; refine (C2.out _).mono ?_; rintro e w1 ⟨rfl, rfl⟩) | (go_at_call 95; refine (C3.out _).mono ?_; rintro e w1 ⟨rfl, rfl⟩))
      go_ret
      exact ⟨rfl, by go_grown⟩

set_option maxRecDepth 100000 in
set_option maxHeartbeats 1000000 in
theorem c_toGame (AF : Option Addr) (cF : Nat) (F : List (Int × Int)) (AS : Option Addr) (cS : Nat) (S : List (Int × Int)) (AR : Option Addr) (cR : Nat) (R : List Int) (t u : Int) (w : World) (hF : RdT w AF F) (hS : RdT w AS S) (hR : RdI w AR R) (h : F.length + S.length + R.length ≤ 1048576) :
    Calls Try.prog 25 #[.agg #[.slice AF F.length cF, .slice AS S.length cS, .slice AR R.length cR, .int .i64 t, .int .i64 u]] w (RetG w F S R t u) := by
  go_enter Try.func25, Try.ntmps25
  go_wp2_with fail
  obtain ⟨w0, hw0⟩ : ∃ w0, w0 = ((w.alloc (.cells #[.slice AF F.length cF, .slice AS S.length cS, .slice AR R.length cR, .int .i64 t, .int .i64 u] 38)).alloc (.cells #[.slice none 0 0, .slice none 0 0, .slice none 0 0, .int .i64 0, .int .i64 0] 43)).alloc (.cells #[.slice none 0 0, .slice none 0 0, .slice none 0 0, .int .i64 0, .int .i64 0] 43) := ⟨_, rfl⟩
  rw [← hw0]
  have hs0 : w0.heap.size = w.heap.size + 3 := by rw [hw0]; simp
  have ba : BoxAt w0 w.heap.size (.slice AF F.length cF) (.slice AS S.length cS) (.slice AR R.length cR) (.int .i64 t) (.int .i64 u) := by rw [hw0]; exact ((BoxAt.fresh w _ _ _ _ _ _).more _).more _
  have br : BoxAt w0 (w.heap.size + 1) (.slice none 0 0) (.slice none 0 0) (.slice none 0 0) (.int .i64 0) (.int .i64 0) := by
    have h1 := BoxAt.fresh (w.alloc (.cells #[.slice AF F.length cF, .slice AS S.length cS, .slice AR R.length cR, .int .i64 t, .int .i64 u] 38)) (.slice none 0 0) (.slice none 0 0) (.slice none 0 0) (.int .i64 0) (.int .i64 0) 43
    rw [World.size_alloc] at h1
    rw [hw0]; exact h1.more _
  have bo : BoxAt w0 (w.heap.size + 2) (.slice none 0 0) (.slice none 0 0) (.slice none 0 0) (.int .i64 0) (.int .i64 0) := by
    have h1 := BoxAt.fresh ((w.alloc (.cells #[.slice AF F.length cF, .slice AS S.length cS, .slice AR R.length cR, .int .i64 t, .int .i64 u] 38)).alloc (.cells #[.slice none 0 0, .slice none 0 0, .slice none 0 0, .int .i64 0, .int .i64 0] 43)) (.slice none 0 0) (.slice none 0 0) (.slice none 0 0) (.int .i64 0) (.int .i64 0) 43
    rw [World.size_alloc, World.size_alloc] at h1
    rw [hw0]; exact h1
  have hb0 : Below w.heap.size w w0 := by rw [hw0]; go_grown
  have hS0 := hS
  have hR0 := hR
  have hF0 := hF
  clear hF hS hR
  clear hw0
  refine (c_toTileS AF cF F w0 (hF0.below hb0) (by omega)).mono ?_
  rintro e w1 ⟨rfl, o1, hb1⟩
  generalize hA1 : (some ⟨w0.heap.size, 0, none⟩ : Option Addr) = A1 at o1 ⊢
  clear hA1
  have ba1 := ba.keep hb1
  have br1 := br.keep hb1
  have bo1 := bo.keep hb1
  have p1 := hb1.size
  have x0 := ba1.c1
  have y0 := bo1.c0
  have f0 := bo1.fz 0
  go_wp2_with fail
  obtain ⟨v1, hv1⟩ : ∃ v1, v1 = w1.setCell ⟨w.heap.size + 2, 0, none⟩ (.slice A1 F.length F.length) := ⟨_, rfl⟩
  rw [← hv1]
  have ba2 : BoxAt v1 w.heap.size (.slice AF F.length cF) (.slice AS S.length cS) (.slice AR R.length cR) (.int .i64 t) (.int .i64 u) := by rw [hv1]; exact ba1.far _ (by omega)
  have br2 : BoxAt v1 (w.heap.size + 1) (.slice none 0 0) (.slice none 0 0) (.slice none 0 0) (.int .i64 0) (.int .i64 0) := by rw [hv1]; exact br1.far _ (by omega)
  have bo2 : BoxAt v1 (w.heap.size + 2) (.slice A1 F.length F.length) (.slice none 0 0) (.slice none 0 0) (.int .i64 0) (.int .i64 0) := by rw [hv1]; exact bo1.set0 _
  have o2 : v1.ownsRow w0.heap.size 95 2 (.slice A1 F.length F.length) F.length (cellsT F) := by rw [hv1]; exact own_box o1 (by omega)
  have l1 := o1.lt
  have hs2 : v1.heap.size = w1.heap.size := by rw [hv1]; simp [World.setCell]
  have hq2 : Below w.heap.size w v1 := by rw [hv1]; exact below_box (bstep hb0 hb1) (Nat.le_add_right _ _)
  clear hv1 ba ba1 br br1 bo bo1 x0 y0 f0 o1
  refine (c_toTileS AS cS S v1 (hS0.below hq2) (by omega)).mono ?_
  rintro e w2 ⟨rfl, o3, hb3⟩
  generalize hA2 : (some ⟨v1.heap.size, 0, none⟩ : Option Addr) = A2 at o3 ⊢
  clear hA2
  have ba3 := ba2.keep hb3
  have br3 := br2.keep hb3
  have bo3 := bo2.keep hb3
  have p3 := hb3.size
  have x0 := ba3.c2
  have y0 := bo3.c1
  have f0 := bo3.fz 1
  have o2' := own_keep o2 hb3
  go_wp2_with fail
  obtain ⟨v2, hv2⟩ : ∃ v2, v2 = w2.setCell ⟨w.heap.size + 2, 1, none⟩ (.slice A2 S.length S.length) := ⟨_, rfl⟩
  rw [← hv2]
  have ba4 : BoxAt v2 w.heap.size (.slice AF F.length cF) (.slice AS S.length cS) (.slice AR R.length cR) (.int .i64 t) (.int .i64 u) := by rw [hv2]; exact ba3.far _ (by omega)
  have br4 : BoxAt v2 (w.heap.size + 1) (.slice none 0 0) (.slice none 0 0) (.slice none 0 0) (.int .i64 0) (.int .i64 0) := by rw [hv2]; exact br3.far _ (by omega)
  have bo4 : BoxAt v2 (w.heap.size + 2) (.slice A1 F.length F.length) (.slice A2 S.length S.length) (.slice none 0 0) (.int .i64 0) (.int .i64 0) := by rw [hv2]; exact bo3.set1 _
  have o4 : v2.ownsRow v1.heap.size 95 2 (.slice A2 S.length S.length) S.length (cellsT S) := by rw [hv2]; exact own_box o3 (by omega)
  have o5 : v2.ownsRow w0.heap.size 95 2 (.slice A1 F.length F.length) F.length (cellsT F) := by rw [hv2]; exact own_box o2' (by omega)
  have l3 := o3.lt
  have hs4 : v2.heap.size = w2.heap.size := by rw [hv2]; simp [World.setCell]
  have hq4 : Below w.heap.size w v2 := by rw [hv2]; exact below_box (bstep hq2 hb3) (Nat.le_add_right _ _)
  clear hv2 ba2 ba3 br2 br3 bo2 bo3 x0 y0 f0 o3 o2 o2'
  refine (c_toIntS AR cR R v2 (hR0.below hq4) (by omega)).mono ?_
  rintro e w3 ⟨rfl, o6, hb6⟩
  generalize hA3 : (some ⟨v2.heap.size, 0, none⟩ : Option Addr) = A3 at o6 ⊢
  clear hA3
  have ba6 := ba4.keep hb6
  have br6 := br4.keep hb6
  have bo6 := bo4.keep hb6
  have p6 := hb6.size
  have x3 := ba6.c3
  have x4 := ba6.c4
  have y0 := bo6.c0
  have y1 := bo6.c1
  have y2 := bo6.c2
  have y3 := bo6.c3
  have y4 := bo6.c4
  have f2 := bo6.fz 2
  have f3 := bo6.fz 3
  have f4 := bo6.fz 4
  have r0 := br6.c0
  have r1 := br6.c1
  have r2 := br6.c2
  have r3 := br6.c3
  have r4 := br6.c4
  have z0 := br6.fz 0
  have z1 := br6.fz 1
  have z2 := br6.fz 2
  have z3 := br6.fz 3
  have z4 := br6.fz 4
  have o4' := own_keep o4 hb6
  have o5' := own_keep o5 hb6
  have l6 := o6.lt
  have HQ := Lib.hid (bstep hq4 hb6)
  have n1 : w.heap.size + 1 < w3.heap.size := by omega
  have n2 : w.heap.size + 2 < w3.heap.size := by omega
  have g3 : OwnG w3 (w.heap.size + 3) w3.heap.size (.slice A1 F.length F.length) F.length F (.slice A2 S.length S.length) S.length S (.slice A3 R.length R.length) R.length R :=
    { f := own_base o5' (by omega), s := own_base o4' (by omega), r := own_base o6 (by omega), hf := fun g hg => (o5'.lt g hg).2, hs := fun g hg => (o4'.lt g hg).2, hr := fun g hg => (o6.lt g hg).2,
      fs := ApG.of_lt (m := w1.heap.size) (fun g hg => (l1 g hg).2) (fun g hg => by have := (l3 g hg).1; omega), fr := ApG.of_lt (m := w1.heap.size) (fun g hg => (l1 g hg).2) (fun g hg => by have := (l6 g hg).1; omega), sr := ApG.of_lt (m := w2.heap.size) (fun g hg => (l3 g hg).2) (fun g hg => by have := (l6 g hg).1; omega) }
  have G3 := Lib.hid g3
  clear g3 ba4 ba6 br4 br6 bo4 bo6 o4 o5 o4' o5' o6 l1 l3 l6 hF0 hS0 hR0 hb0 hq2 hq4 hb1 hb3 hb6 p1 p3 p6 hs0 hs2 hs4
  go_wp2
  refine bodyPost_ret (v := .agg #[.slice A1 F.length F.length, .slice A2 S.length S.length, .slice A3 R.length R.length, .int .i64 t, .int .i64 u]) (by simp [results, Try.results25, go_sem, r0, r1, r2, r3, r4]) rfl ⟨A1, F.length, A2, S.length, A3, R.length, rfl, ?_, ?_⟩
  · exact ((((((((G3.out.box (by omega)).box (by omega)).box (by omega)).box (by omega)).box (by omega)).box (by omega)).box (by omega)).box (by omega)).base (by omega) |>.top (by simp [World.setCell])
  · exact (below_box (below_box (below_box (below_box (below_box (below_box (below_box (below_box HQ.out (by omega)) (by omega)) (by omega)) (by omega)) (by omega)) (by omega)) (by omega)) (by omega))

set_option maxRecDepth 100000 in
set_option maxHeartbeats 1000000 in
theorem c_eqGame_same (AF : Option Addr) (cF : Nat) (AS : Option Addr) (cS : Nat) (AR : Option Addr) (cR : Nat) (BF : Option Addr) (dF : Nat) (BS : Option Addr) (dS : Nat) (BR : Option Addr) (dR : Nat) (F S : List (Int × Int)) (R : List Int) (t u : Int) (w : World)
    (hF : RdT w AF F) (hS : RdT w AS S) (hR : RdI w AR R) (gF : RdT w BF F) (gS : RdT w BS S) (gR : RdI w BR R) (lF : F.length ≤ 9223372036854775807) (lS : S.length ≤ 9223372036854775807) (lR : R.length ≤ 9223372036854775807) :
    Calls Try.prog 27 #[.agg #[.slice AF F.length cF, .slice AS S.length cS, .slice AR R.length cR, .int .i64 t, .int .i64 u], .agg #[.slice BF F.length dF, .slice BS S.length dS, .slice BR R.length dR, .int .i64 t, .int .i64 u]] w fun e w' => e = .returned (.bool true) ∧ Below w.heap.size w w' := by
  go_enter Try.func27, Try.ntmps27
  go_wp2_with fail
  obtain ⟨w0, hw0⟩ : ∃ w0, w0 = (w.alloc (.cells #[.slice AF F.length cF, .slice AS S.length cS, .slice AR R.length cR, .int .i64 t, .int .i64 u] 43)).alloc (.cells #[.slice BF F.length dF, .slice BS S.length dS, .slice BR R.length dR, .int .i64 t, .int .i64 u] 43) := ⟨_, rfl⟩
  rw [← hw0]
  have ba : BoxAt w0 w.heap.size (.slice AF F.length cF) (.slice AS S.length cS) (.slice AR R.length cR) (.int .i64 t) (.int .i64 u) := by rw [hw0]; exact (BoxAt.fresh w _ _ _ _ _ _).more _
  have br : BoxAt w0 (w.heap.size + 1) (.slice BF F.length dF) (.slice BS S.length dS) (.slice BR R.length dR) (.int .i64 t) (.int .i64 u) := by
    have h1 := BoxAt.fresh (w.alloc (.cells #[.slice AF F.length cF, .slice AS S.length cS, .slice AR R.length cR, .int .i64 t, .int .i64 u] 43)) (.slice BF F.length dF) (.slice BS S.length dS) (.slice BR R.length dR) (.int .i64 t) (.int .i64 u) 43
    rw [World.size_alloc] at h1
    rw [hw0]; exact h1
  have hb0 : Below w.heap.size w w0 := by rw [hw0]; go_grown
  clear hw0
  refine (c_eqTileS_same AF BF cF dF F w0 (hF.below hb0) (gF.below hb0) lF).mono ?_
  rintro e w1 ⟨rfl, hb1⟩
  have hb1' := bstep hb0 hb1
  have ba1 := ba.keep hb1
  have br1 := br.keep hb1
  have x1 := ba1.c1
  have y1 := br1.c1
  clear ba br hb0 hb1
  go_wp2_with fail
  refine (c_eqTileS_same AS BS cS dS S w1 (hS.below hb1') (gS.below hb1') lS).mono ?_
  rintro e w2 ⟨rfl, hb2⟩
  have hb2' := bstep hb1' hb2
  have ba2 := ba1.keep hb2
  have br2 := br1.keep hb2
  have x2 := ba2.c2
  have y2 := br2.c2
  clear ba1 br1 hb1' hb2 x1 y1
  go_wp2_with fail
  refine (c_eqIntS_same AR BR cR dR R w2 (hR.below hb2') (gR.below hb2') lR).mono ?_
  rintro e w3 ⟨rfl, hb3⟩
  have hb3' := bstep hb2' hb3
  have ba3 := ba2.keep hb3
  have br3 := br2.keep hb3
  have x3 := ba3.c3
  have y3 := br3.c3
  have x4 := ba3.c4
  have y4 := br3.c4
  clear ba2 br2 hb2' hb3 x2 y2 ba3 br3
  go_wp2
  go_ret
  exact ⟨rfl, hb3'⟩

end Go.Proofs.Ytlnfialfkipdjaa

namespace Go.Proofs.Ytlnfialfkipdjaa
open Go.RowKit
set_option linter.unusedVariables false

def rowW (R : List Int) : List (Int × Int) := if R.length = 0 then [] else whTiles R

theorem rowW_len (R : List Int) : (rowW R).length ≤ 110 := by
  unfold rowW whTiles
  split
  · simp
  · split
    · rename_i h; rw [tilesC_len]; omega
    · simp

theorem rowW_eq {R : List Int} (h : rowB R = true) : rowW R = rowT R := by
  unfold rowW rowT
  by_cases h0 : R.length = 0
  · rw [if_pos h0, chain_empty h0]; rfl
  · rw [if_neg h0]
    unfold rowB at h
    simp only [Bool.or_eq_true, Bool.and_eq_true, decide_eq_true_eq, h0, false_or] at h
    rw [if_pos h.1]
    unfold whTiles
    exact if_pos ⟨(chain_len h.1).1, (chain_len h.1).2, chain_num h.1⟩

set_option maxRecDepth 100000 in
set_option maxHeartbeats 1000000 in
theorem c_plRow (AR : Option Addr) (cR : Nat) (R : List Int) (w : World) (hR : RdI w AR R) (lR : R.length ≤ 1048576) :
    Calls Try.prog 160 #[.slice AR R.length cR] w (RetT w (rowW R) (rowB R)) := by
  by_cases h0 : R.length = 0
  · have e1 : rowW R = [] := if_pos h0
    have e2 : rowB R = true := by simp [rowB, h0]
    have e0 : ((R.length : Int) == 0) = true := by simp [h0]
    rw [e1, e2]
    clear e1 e2 hR h0
    go_enter Try.func160, Try.ntmps160
    go_wp2
    go_ret2
    exact ⟨none, 0, rfl, World.ownsRow_nil _ _ _ _, Below.refl _ _⟩
  · have e1 : rowW R = whTiles R := if_neg h0
    have e0 : ((R.length : Int) == 0) = false := by rw [beq_eq_false_iff_ne]; omega
    have con := c_whChain AR cR R w hR lR
    have hl : (whTiles R).length ≤ 110 := by rw [← e1]; exact rowW_len R
    rw [e1]
    cases hc : chainB R
    · have e2 : rowB R = false := by simp [rowB, h0, hc]
      rw [hc] at con
      rw [e2]
      have Con := Lib.hid con
      clear con e1 e2 hR h0 hc
      go_enter Try.func160, Try.ntmps160
      go_wp2_with (go_at_call 203; refine Con.out.mono ?_; rintro e w1 ⟨A1, c1, rfl, ho1, hb1⟩)
      go_ret2
      exact ⟨A1, c1, rfl, ho1, hb1⟩
    · have hW : whTiles R = tilesC R := if_pos ⟨(chain_len hc).1, (chain_len hc).2, chain_num hc⟩
      have hn : (whTiles R).length = R.length - 1 := by rw [hW, tilesC_len]
      rw [hc] at con
      by_cases h2 : 2 ≤ R.length
      · have e2 : rowB R = true := by simp [rowB, hc, h2]
        have g2 : decide (0 < (whTiles R).length) = true := decide_eq_true (by omega)
        rw [e2]
        have Con := Lib.hid con
        clear con e1 e2 hR h0 hc hW hn h2
        generalize whTiles R = ts at *
        go_enter Try.func160, Try.ntmps160
        go_wp2_with (go_at_call 203; refine Con.out.mono ?_; rintro e w1 ⟨A1, c1, rfl, ho1, hb1⟩)
        go_ret2
        exact ⟨A1, c1, rfl, ho1, hb1⟩
      · have e2 : rowB R = false := by simp [rowB, h0, h2]
        have g2 : decide (0 < (whTiles R).length) = false := decide_eq_false (by omega)
        rw [e2]
        have Con := Lib.hid con
        clear con e1 e2 hR h0 hc hW hn h2
        generalize whTiles R = ts at *
        go_enter Try.func160, Try.ntmps160
        go_wp2_with (go_at_call 203; refine Con.out.mono ?_; rintro e w1 ⟨A1, c1, rfl, ho1, hb1⟩)
        go_ret2
        exact ⟨A1, c1, rfl, ho1, hb1⟩

set_option maxRecDepth 100000 in
set_option maxHeartbeats 4000000 in
theorem c_plGood (AF : Option Addr) (cF : Nat) (F : List (Int × Int)) (AS : Option Addr) (cS : Nat) (S : List (Int × Int)) (AR : Option Addr) (cR : Nat) (R : List Int) (t u : Int) (w : World) (hF : RdT w AF F) (hS : RdT w AS S) (hR : RdI w AR R) (lF : F.length ≤ 1048576) (lS : S.length ≤ 1048576) (lR : R.length ≤ 1048576) (kF : F.length ≤ cF) (kS : S.length ≤ cS) :
    Calls Try.prog 96 #[.agg #[.slice AF F.length cF, .slice AS S.length cS, .slice AR R.length cR, .int .i64 t, .int .i64 u]] w fun e w' => e = .returned (.bool (gameB F S R t u)) ∧ Below w.heap.size w w' := by
  have conR := fun W (hb : Below w.heap.size w W) => c_plRow AR cR R W (hR.below hb) lR
  have conF := fun W (hb : Below w.heap.size w W) => c_tiHand AF cF F W (hF.below hb) (by omega) kF
  have conS := fun W (hb : Below w.heap.size w W) => c_tiHand AS cS S W (hS.below hb) (by omega) kS
  have conT := fun W => c_l1In t 0 1 W
  have conU := fun W => c_l1In u 0 2 W
  have con1 := fun W (hb : Below w.heap.size w W) => c_tiThose AF cF F AS cS S true W (hF.below hb) lF (hS.below hb) lS
  have con2 := fun W A c (hb : Below w.heap.size w W) (h : RdT W A (rowW R)) => c_tiThose AF cF F A c (rowW R) true W (hF.below hb) lF h (by have := rowW_len R; omega)
  have con3 := fun W A c (hb : Below w.heap.size w W) (h : RdT W A (rowW R)) => c_tiThose AS cS S A c (rowW R) true W (hS.below hb) lS h (by have := rowW_len R; omega)
  have hspec := gameB_spec F S R t u
  have hlW := rowW_len R
  have hl1 := thoseL_len F S true
  have hl2 := thoseL_len F (rowW R) true
  have hl3 := thoseL_len S (rowW R) true
  obtain ⟨bt, ht⟩ : ∃ b, b = (decide (0 ≤ t) && decide (t ≤ 1)) := ⟨_, rfl⟩
  obtain ⟨bu, hu⟩ : ∃ b, b = (decide (0 ≤ u) && decide (u ≤ 2)) := ⟨_, rfl⟩
  have htu : turnB t u = (bt && bu) := by rw [ht, hu]; unfold turnB; rw [Bool.and_assoc]
  rw [htu] at hspec
  simp only [← ht] at conT
  simp only [← hu] at conU
  have weq := rowW_eq (R := R)
  rw [hspec]
  clear hspec htu ht hu hF hS hR
  cases eR : rowB R
  · simp only [eR] at conR
    rw [show (bt && bu && (false && (handB F && (handB S && (decide ((thoseL F S true).length = 0) && (decide ((thoseL F (rowT R) true).length = 0) && decide ((thoseL S (rowT R) true).length = 0))))))) = false from by simp]
    clear eR
    have ConR := Lib.hid conR
    have ConF := Lib.hid conF
    have ConS := Lib.hid conS
    have ConT := Lib.hid conT
    have ConU := Lib.hid conU
    have Con1 := Lib.hid con1
    have Con2 := Lib.hid con2
    have Con3 := Lib.hid con3
    clear conR conF conS conT conU con1 con2 con3
    clear weq lF lS lR kF kS
    go_enter Try.func96, Try.ntmps96
    go_wp2_with fail
    obtain ⟨w0, hw0⟩ : ∃ w0, w0 = w.alloc (.cells #[.slice AF F.length cF, .slice AS S.length cS, .slice AR R.length cR, .int .i64 t, .int .i64 u] 43) := ⟨_, rfl⟩
    rw [← hw0]
    have ba0 : BoxAt w0 w.heap.size (.slice AF F.length cF) (.slice AS S.length cS) (.slice AR R.length cR) (.int .i64 t) (.int .i64 u) := by rw [hw0]; exact BoxAt.fresh w _ _ _ _ _ _
    have hb0 : Below w.heap.size w w0 := by rw [hw0]; go_grown
    clear hw0
    refine (ConR.out w0 hb0).mono ?_
    rintro e w1 ⟨A1, c1, rfl, o1, h1⟩
    have hb1 := bstep hb0 h1
    have ba1 := ba0.keep h1
    clear ba0
    have x0 := ba1.c0
    have x1 := ba1.c1
    have x2 := ba1.c2
    have x3 := ba1.c3
    have x4 := ba1.c4
    have r1 := RdT.of_own o1
    clear o1
    go_wp2
    go_ret
    exact ⟨rfl, hb1⟩
  simp only [eR] at conR
  rw [weq eR] at hl2 hl3 hlW
  simp only [weq eR] at conR con2 con3
  clear eR weq
  have weq : True := trivial
  generalize rowT R = T at *
  cases eF : handB F
  · simp only [eF] at conF
    rw [show (bt && bu && (true && (false && (handB S && (decide ((thoseL F S true).length = 0) && (decide ((thoseL F T true).length = 0) && decide ((thoseL S T true).length = 0))))))) = false from by simp]
    clear eF
    have ConR := Lib.hid conR
    have ConF := Lib.hid conF
    have ConS := Lib.hid conS
    have ConT := Lib.hid conT
    have ConU := Lib.hid conU
    have Con1 := Lib.hid con1
    have Con2 := Lib.hid con2
    have Con3 := Lib.hid con3
    clear conR conF conS conT conU con1 con2 con3
    clear weq lF lS lR kF kS
    go_enter Try.func96, Try.ntmps96
    go_wp2_with fail
    obtain ⟨w0, hw0⟩ : ∃ w0, w0 = w.alloc (.cells #[.slice AF F.length cF, .slice AS S.length cS, .slice AR R.length cR, .int .i64 t, .int .i64 u] 43) := ⟨_, rfl⟩
    rw [← hw0]
    have ba0 : BoxAt w0 w.heap.size (.slice AF F.length cF) (.slice AS S.length cS) (.slice AR R.length cR) (.int .i64 t) (.int .i64 u) := by rw [hw0]; exact BoxAt.fresh w _ _ _ _ _ _
    have hb0 : Below w.heap.size w w0 := by rw [hw0]; go_grown
    clear hw0
    refine (ConR.out w0 hb0).mono ?_
    rintro e w1 ⟨A1, c1, rfl, o1, h1⟩
    have hb1 := bstep hb0 h1
    have ba1 := ba0.keep h1
    clear ba0
    have x0 := ba1.c0
    have x1 := ba1.c1
    have x2 := ba1.c2
    have x3 := ba1.c3
    have x4 := ba1.c4
    have r1 := RdT.of_own o1
    clear o1
    go_wp2_with fail
    refine (ConF.out w1 hb1).mono ?_
    rintro e w2 ⟨rfl, h2⟩
    have hb2 := bstep hb1 h2
    have ba2 := ba1.keep h2
    clear x0 x1 x2 x3 x4
    clear ba1
    have x0 := ba2.c0
    have x1 := ba2.c1
    have x2 := ba2.c2
    have x3 := ba2.c3
    have x4 := ba2.c4
    have r2 := r1.below h2
    clear r1
    go_wp2
    go_ret
    exact ⟨rfl, hb2⟩
  simp only [eF] at conF
  clear eF
  cases eS : handB S
  · simp only [eS] at conS
    rw [show (bt && bu && (true && (true && (false && (decide ((thoseL F S true).length = 0) && (decide ((thoseL F T true).length = 0) && decide ((thoseL S T true).length = 0))))))) = false from by simp]
    clear eS
    have ConR := Lib.hid conR
    have ConF := Lib.hid conF
    have ConS := Lib.hid conS
    have ConT := Lib.hid conT
    have ConU := Lib.hid conU
    have Con1 := Lib.hid con1
    have Con2 := Lib.hid con2
    have Con3 := Lib.hid con3
    clear conR conF conS conT conU con1 con2 con3
    clear weq lF lS lR kF kS
    go_enter Try.func96, Try.ntmps96
    go_wp2_with fail
    obtain ⟨w0, hw0⟩ : ∃ w0, w0 = w.alloc (.cells #[.slice AF F.length cF, .slice AS S.length cS, .slice AR R.length cR, .int .i64 t, .int .i64 u] 43) := ⟨_, rfl⟩
    rw [← hw0]
    have ba0 : BoxAt w0 w.heap.size (.slice AF F.length cF) (.slice AS S.length cS) (.slice AR R.length cR) (.int .i64 t) (.int .i64 u) := by rw [hw0]; exact BoxAt.fresh w _ _ _ _ _ _
    have hb0 : Below w.heap.size w w0 := by rw [hw0]; go_grown
    clear hw0
    refine (ConR.out w0 hb0).mono ?_
    rintro e w1 ⟨A1, c1, rfl, o1, h1⟩
    have hb1 := bstep hb0 h1
    have ba1 := ba0.keep h1
    clear ba0
    have x0 := ba1.c0
    have x1 := ba1.c1
    have x2 := ba1.c2
    have x3 := ba1.c3
    have x4 := ba1.c4
    have r1 := RdT.of_own o1
    clear o1
    go_wp2_with fail
    refine (ConF.out w1 hb1).mono ?_
    rintro e w2 ⟨rfl, h2⟩
    have hb2 := bstep hb1 h2
    have ba2 := ba1.keep h2
    clear x0 x1 x2 x3 x4
    clear ba1
    have x0 := ba2.c0
    have x1 := ba2.c1
    have x2 := ba2.c2
    have x3 := ba2.c3
    have x4 := ba2.c4
    have r2 := r1.below h2
    clear r1
    go_wp2_with fail
    refine (ConS.out w2 hb2).mono ?_
    rintro e w3 ⟨rfl, h3⟩
    have hb3 := bstep hb2 h3
    have ba3 := ba2.keep h3
    clear x0 x1 x2 x3 x4
    clear ba2
    have x0 := ba3.c0
    have x1 := ba3.c1
    have x2 := ba3.c2
    have x3 := ba3.c3
    have x4 := ba3.c4
    have r3 := r2.below h3
    clear r2
    go_wp2
    go_ret
    exact ⟨rfl, hb3⟩
  simp only [eS] at conS
  clear eS
  cases bt
  · rw [show (false && bu && (true && (true && (true && (decide ((thoseL F S true).length = 0) && (decide ((thoseL F T true).length = 0) && decide ((thoseL S T true).length = 0))))))) = false from by simp]
    have ConR := Lib.hid conR
    have ConF := Lib.hid conF
    have ConS := Lib.hid conS
    have ConT := Lib.hid conT
    have ConU := Lib.hid conU
    have Con1 := Lib.hid con1
    have Con2 := Lib.hid con2
    have Con3 := Lib.hid con3
    clear conR conF conS conT conU con1 con2 con3
    clear weq lF lS lR kF kS
    go_enter Try.func96, Try.ntmps96
    go_wp2_with fail
    obtain ⟨w0, hw0⟩ : ∃ w0, w0 = w.alloc (.cells #[.slice AF F.length cF, .slice AS S.length cS, .slice AR R.length cR, .int .i64 t, .int .i64 u] 43) := ⟨_, rfl⟩
    rw [← hw0]
    have ba0 : BoxAt w0 w.heap.size (.slice AF F.length cF) (.slice AS S.length cS) (.slice AR R.length cR) (.int .i64 t) (.int .i64 u) := by rw [hw0]; exact BoxAt.fresh w _ _ _ _ _ _
    have hb0 : Below w.heap.size w w0 := by rw [hw0]; go_grown
    clear hw0
    refine (ConR.out w0 hb0).mono ?_
    rintro e w1 ⟨A1, c1, rfl, o1, h1⟩
    have hb1 := bstep hb0 h1
    have ba1 := ba0.keep h1
    clear ba0
    have x0 := ba1.c0
    have x1 := ba1.c1
    have x2 := ba1.c2
    have x3 := ba1.c3
    have x4 := ba1.c4
    have r1 := RdT.of_own o1
    clear o1
    go_wp2_with fail
    refine (ConF.out w1 hb1).mono ?_
    rintro e w2 ⟨rfl, h2⟩
    have hb2 := bstep hb1 h2
    have ba2 := ba1.keep h2
    clear x0 x1 x2 x3 x4
    clear ba1
    have x0 := ba2.c0
    have x1 := ba2.c1
    have x2 := ba2.c2
    have x3 := ba2.c3
    have x4 := ba2.c4
    have r2 := r1.below h2
    clear r1
    go_wp2_with fail
    refine (ConS.out w2 hb2).mono ?_
    rintro e w3 ⟨rfl, h3⟩
    have hb3 := bstep hb2 h3
    have ba3 := ba2.keep h3
    clear x0 x1 x2 x3 x4
    clear ba2
    have x0 := ba3.c0
    have x1 := ba3.c1
    have x2 := ba3.c2
    have x3 := ba3.c3
    have x4 := ba3.c4
    have r3 := r2.below h3
    clear r2
    go_wp2_with fail
    refine (ConT.out w3).mono ?_
    rintro e w' ⟨rfl, rfl⟩
    go_wp2
    go_ret
    exact ⟨rfl, hb3⟩
  cases bu
  · rw [show (true && false && (true && (true && (true && (decide ((thoseL F S true).length = 0) && (decide ((thoseL F T true).length = 0) && decide ((thoseL S T true).length = 0))))))) = false from by simp]
    have ConR := Lib.hid conR
    have ConF := Lib.hid conF
    have ConS := Lib.hid conS
    have ConT := Lib.hid conT
    have ConU := Lib.hid conU
    have Con1 := Lib.hid con1
    have Con2 := Lib.hid con2
    have Con3 := Lib.hid con3
    clear conR conF conS conT conU con1 con2 con3
    clear weq lF lS lR kF kS
    go_enter Try.func96, Try.ntmps96
    go_wp2_with fail
    obtain ⟨w0, hw0⟩ : ∃ w0, w0 = w.alloc (.cells #[.slice AF F.length cF, .slice AS S.length cS, .slice AR R.length cR, .int .i64 t, .int .i64 u] 43) := ⟨_, rfl⟩
    rw [← hw0]
    have ba0 : BoxAt w0 w.heap.size (.slice AF F.length cF) (.slice AS S.length cS) (.slice AR R.length cR) (.int .i64 t) (.int .i64 u) := by rw [hw0]; exact BoxAt.fresh w _ _ _ _ _ _
    have hb0 : Below w.heap.size w w0 := by rw [hw0]; go_grown
    clear hw0
    refine (ConR.out w0 hb0).mono ?_
    rintro e w1 ⟨A1, c1, rfl, o1, h1⟩
    have hb1 := bstep hb0 h1
    have ba1 := ba0.keep h1
    clear ba0
    have x0 := ba1.c0
    have x1 := ba1.c1
    have x2 := ba1.c2
    have x3 := ba1.c3
    have x4 := ba1.c4
    have r1 := RdT.of_own o1
    clear o1
    go_wp2_with fail
    refine (ConF.out w1 hb1).mono ?_
    rintro e w2 ⟨rfl, h2⟩
    have hb2 := bstep hb1 h2
    have ba2 := ba1.keep h2
    clear x0 x1 x2 x3 x4
    clear ba1
    have x0 := ba2.c0
    have x1 := ba2.c1
    have x2 := ba2.c2
    have x3 := ba2.c3
    have x4 := ba2.c4
    have r2 := r1.below h2
    clear r1
    go_wp2_with fail
    refine (ConS.out w2 hb2).mono ?_
    rintro e w3 ⟨rfl, h3⟩
    have hb3 := bstep hb2 h3
    have ba3 := ba2.keep h3
    clear x0 x1 x2 x3 x4
    clear ba2
    have x0 := ba3.c0
    have x1 := ba3.c1
    have x2 := ba3.c2
    have x3 := ba3.c3
    have x4 := ba3.c4
    have r3 := r2.below h3
    clear r2
    go_wp2_with fail
    refine (ConT.out w3).mono ?_
    rintro e w' ⟨rfl, rfl⟩
    go_wp2_with fail
    refine (ConU.out w3).mono ?_
    rintro e w' ⟨rfl, rfl⟩
    go_wp2
    go_ret
    exact ⟨rfl, hb3⟩
  simp only [Bool.true_and]
  generalize thoseL F S true = L1 at *
  generalize thoseL F T true = L2 at *
  generalize thoseL S T true = L3 at *
  by_cases e1 : L1.length = 0
  · have d1 : ((L1.length : Int) == 0) = true := by simp [e1]
    rw [decide_eq_true e1]
    clear e1
    by_cases e2 : L2.length = 0
    · have d2 : ((L2.length : Int) == 0) = true := by simp [e2]
      rw [decide_eq_true e2]
      clear e2
      by_cases e3 : L3.length = 0
      · have d3 : ((L3.length : Int) == 0) = true := by simp [e3]
        rw [decide_eq_true e3]
        clear e3
        have ConR := Lib.hid conR
        have ConF := Lib.hid conF
        have ConS := Lib.hid conS
        have ConT := Lib.hid conT
        have ConU := Lib.hid conU
        have Con1 := Lib.hid con1
        have Con2 := Lib.hid con2
        have Con3 := Lib.hid con3
        clear conR conF conS conT conU con1 con2 con3
        clear weq lF lS lR kF kS
        go_enter Try.func96, Try.ntmps96
        go_wp2_with fail
        obtain ⟨w0, hw0⟩ : ∃ w0, w0 = w.alloc (.cells #[.slice AF F.length cF, .slice AS S.length cS, .slice AR R.length cR, .int .i64 t, .int .i64 u] 43) := ⟨_, rfl⟩
        rw [← hw0]
        have ba0 : BoxAt w0 w.heap.size (.slice AF F.length cF) (.slice AS S.length cS) (.slice AR R.length cR) (.int .i64 t) (.int .i64 u) := by rw [hw0]; exact BoxAt.fresh w _ _ _ _ _ _
        have hb0 : Below w.heap.size w w0 := by rw [hw0]; go_grown
        clear hw0
        refine (ConR.out w0 hb0).mono ?_
        rintro e w1 ⟨A1, c1, rfl, o1, h1⟩
        have hb1 := bstep hb0 h1
        have ba1 := ba0.keep h1
        clear ba0
        have x0 := ba1.c0
        have x1 := ba1.c1
        have x2 := ba1.c2
        have x3 := ba1.c3
        have x4 := ba1.c4
        have r1 := RdT.of_own o1
        clear o1
        go_wp2_with fail
        refine (ConF.out w1 hb1).mono ?_
        rintro e w2 ⟨rfl, h2⟩
        have hb2 := bstep hb1 h2
        have ba2 := ba1.keep h2
        clear x0 x1 x2 x3 x4
        clear ba1
        have x0 := ba2.c0
        have x1 := ba2.c1
        have x2 := ba2.c2
        have x3 := ba2.c3
        have x4 := ba2.c4
        have r2 := r1.below h2
        clear r1
        go_wp2_with fail
        refine (ConS.out w2 hb2).mono ?_
        rintro e w3 ⟨rfl, h3⟩
        have hb3 := bstep hb2 h3
        have ba3 := ba2.keep h3
        clear x0 x1 x2 x3 x4
        clear ba2
        have x0 := ba3.c0
        have x1 := ba3.c1
        have x2 := ba3.c2
        have x3 := ba3.c3
        have x4 := ba3.c4
        have r3 := r2.below h3
        clear r2
        go_wp2_with fail
        refine (ConT.out w3).mono ?_
        rintro e w' ⟨rfl, rfl⟩
        go_wp2_with fail
        refine (ConU.out w3).mono ?_
        rintro e w' ⟨rfl, rfl⟩
        go_wp2_with fail
        refine (Con1.out w3 hb3).mono ?_
        rintro e w4 ⟨A4, c4, rfl, o4, h4⟩
        have hb4 := bstep hb3 h4
        have ba4 := ba3.keep h4
        clear x0 x1 x2 x3 x4
        clear ba3
        have x0 := ba4.c0
        have x1 := ba4.c1
        have x2 := ba4.c2
        have x3 := ba4.c3
        have x4 := ba4.c4
        clear o4
        have r4 := r3.below h4
        clear r3
        go_wp2_with fail
        refine (Con2.out w4 A1 c1 hb4 r4).mono ?_
        rintro e w5 ⟨A5, c5, rfl, o5, h5⟩
        have hb5 := bstep hb4 h5
        have ba5 := ba4.keep h5
        clear x0 x1 x2 x3 x4
        clear ba4
        have x0 := ba5.c0
        have x1 := ba5.c1
        have x2 := ba5.c2
        have x3 := ba5.c3
        have x4 := ba5.c4
        clear o5
        have r5 := r4.below h5
        clear r4
        go_wp2_with fail
        refine (Con3.out w5 A1 c1 hb5 r5).mono ?_
        rintro e w6 ⟨A6, c6, rfl, o6, h6⟩
        have hb6 := bstep hb5 h6
        have ba6 := ba5.keep h6
        clear x0 x1 x2 x3 x4
        clear ba5
        have x0 := ba6.c0
        have x1 := ba6.c1
        have x2 := ba6.c2
        have x3 := ba6.c3
        have x4 := ba6.c4
        clear o6
        have r6 := r5.below h6
        clear r5
        go_wp2
        go_ret
        exact ⟨rfl, hb6⟩
      · have d3 : ((L3.length : Int) == 0) = false := by rw [beq_eq_false_iff_ne]; omega
        rw [decide_eq_false e3]
        clear e3
        have ConR := Lib.hid conR
        have ConF := Lib.hid conF
        have ConS := Lib.hid conS
        have ConT := Lib.hid conT
        have ConU := Lib.hid conU
        have Con1 := Lib.hid con1
        have Con2 := Lib.hid con2
        have Con3 := Lib.hid con3
        clear conR conF conS conT conU con1 con2 con3
        clear weq lF lS lR kF kS
        go_enter Try.func96, Try.ntmps96
        go_wp2_with fail
        obtain ⟨w0, hw0⟩ : ∃ w0, w0 = w.alloc (.cells #[.slice AF F.length cF, .slice AS S.length cS, .slice AR R.length cR, .int .i64 t, .int .i64 u] 43) := ⟨_, rfl⟩
        rw [← hw0]
        have ba0 : BoxAt w0 w.heap.size (.slice AF F.length cF) (.slice AS S.length cS) (.slice AR R.length cR) (.int .i64 t) (.int .i64 u) := by rw [hw0]; exact BoxAt.fresh w _ _ _ _ _ _
        have hb0 : Below w.heap.size w w0 := by rw [hw0]; go_grown
        clear hw0
        refine (ConR.out w0 hb0).mono ?_
        rintro e w1 ⟨A1, c1, rfl, o1, h1⟩
        have hb1 := bstep hb0 h1
        have ba1 := ba0.keep h1
        clear ba0
        have x0 := ba1.c0
        have x1 := ba1.c1
        have x2 := ba1.c2
        have x3 := ba1.c3
        have x4 := ba1.c4
        have r1 := RdT.of_own o1
        clear o1
        go_wp2_with fail
        refine (ConF.out w1 hb1).mono ?_
        rintro e w2 ⟨rfl, h2⟩
        have hb2 := bstep hb1 h2
        have ba2 := ba1.keep h2
        clear x0 x1 x2 x3 x4
        clear ba1
        have x0 := ba2.c0
        have x1 := ba2.c1
        have x2 := ba2.c2
        have x3 := ba2.c3
        have x4 := ba2.c4
        have r2 := r1.below h2
        clear r1
        go_wp2_with fail
        refine (ConS.out w2 hb2).mono ?_
        rintro e w3 ⟨rfl, h3⟩
        have hb3 := bstep hb2 h3
        have ba3 := ba2.keep h3
        clear x0 x1 x2 x3 x4
        clear ba2
        have x0 := ba3.c0
        have x1 := ba3.c1
        have x2 := ba3.c2
        have x3 := ba3.c3
        have x4 := ba3.c4
        have r3 := r2.below h3
        clear r2
        go_wp2_with fail
        refine (ConT.out w3).mono ?_
        rintro e w' ⟨rfl, rfl⟩
        go_wp2_with fail
        refine (ConU.out w3).mono ?_
        rintro e w' ⟨rfl, rfl⟩
        go_wp2_with fail
        refine (Con1.out w3 hb3).mono ?_
        rintro e w4 ⟨A4, c4, rfl, o4, h4⟩
        have hb4 := bstep hb3 h4
        have ba4 := ba3.keep h4
        clear x0 x1 x2 x3 x4
        clear ba3
        have x0 := ba4.c0
        have x1 := ba4.c1
        have x2 := ba4.c2
        have x3 := ba4.c3
        have x4 := ba4.c4
        clear o4
        have r4 := r3.below h4
        clear r3
        go_wp2_with fail
        refine (Con2.out w4 A1 c1 hb4 r4).mono ?_
        rintro e w5 ⟨A5, c5, rfl, o5, h5⟩
        have hb5 := bstep hb4 h5
        have ba5 := ba4.keep h5
        clear x0 x1 x2 x3 x4
        clear ba4
        have x0 := ba5.c0
        have x1 := ba5.c1
        have x2 := ba5.c2
        have x3 := ba5.c3
        have x4 := ba5.c4
        clear o5
        have r5 := r4.below h5
        clear r4
        go_wp2_with fail
        refine (Con3.out w5 A1 c1 hb5 r5).mono ?_
        rintro e w6 ⟨A6, c6, rfl, o6, h6⟩
        have hb6 := bstep hb5 h6
        have ba6 := ba5.keep h6
        clear x0 x1 x2 x3 x4
        clear ba5
        have x0 := ba6.c0
        have x1 := ba6.c1
        have x2 := ba6.c2
        have x3 := ba6.c3
        have x4 := ba6.c4
        clear o6
        have r6 := r5.below h6
        clear r5
        go_wp2
        go_ret
        exact ⟨rfl, hb6⟩
    · have d2 : ((L2.length : Int) == 0) = false := by rw [beq_eq_false_iff_ne]; omega
      rw [decide_eq_false e2, Bool.false_and, Bool.and_false]
      clear e2
      have ConR := Lib.hid conR
      have ConF := Lib.hid conF
      have ConS := Lib.hid conS
      have ConT := Lib.hid conT
      have ConU := Lib.hid conU
      have Con1 := Lib.hid con1
      have Con2 := Lib.hid con2
      have Con3 := Lib.hid con3
      clear conR conF conS conT conU con1 con2 con3
      clear weq lF lS lR kF kS
      go_enter Try.func96, Try.ntmps96
      go_wp2_with fail
      obtain ⟨w0, hw0⟩ : ∃ w0, w0 = w.alloc (.cells #[.slice AF F.length cF, .slice AS S.length cS, .slice AR R.length cR, .int .i64 t, .int .i64 u] 43) := ⟨_, rfl⟩
      rw [← hw0]
      have ba0 : BoxAt w0 w.heap.size (.slice AF F.length cF) (.slice AS S.length cS) (.slice AR R.length cR) (.int .i64 t) (.int .i64 u) := by rw [hw0]; exact BoxAt.fresh w _ _ _ _ _ _
      have hb0 : Below w.heap.size w w0 := by rw [hw0]; go_grown
      clear hw0
      refine (ConR.out w0 hb0).mono ?_
      rintro e w1 ⟨A1, c1, rfl, o1, h1⟩
      have hb1 := bstep hb0 h1
      have ba1 := ba0.keep h1
      clear ba0
      have x0 := ba1.c0
      have x1 := ba1.c1
      have x2 := ba1.c2
      have x3 := ba1.c3
      have x4 := ba1.c4
      have r1 := RdT.of_own o1
      clear o1
      go_wp2_with fail
      refine (ConF.out w1 hb1).mono ?_
      rintro e w2 ⟨rfl, h2⟩
      have hb2 := bstep hb1 h2
      have ba2 := ba1.keep h2
      clear x0 x1 x2 x3 x4
      clear ba1
      have x0 := ba2.c0
      have x1 := ba2.c1
      have x2 := ba2.c2
      have x3 := ba2.c3
      have x4 := ba2.c4
      have r2 := r1.below h2
      clear r1
      go_wp2_with fail
      refine (ConS.out w2 hb2).mono ?_
      rintro e w3 ⟨rfl, h3⟩
      have hb3 := bstep hb2 h3
      have ba3 := ba2.keep h3
      clear x0 x1 x2 x3 x4
      clear ba2
      have x0 := ba3.c0
      have x1 := ba3.c1
      have x2 := ba3.c2
      have x3 := ba3.c3
      have x4 := ba3.c4
      have r3 := r2.below h3
      clear r2
      go_wp2_with fail
      refine (ConT.out w3).mono ?_
      rintro e w' ⟨rfl, rfl⟩
      go_wp2_with fail
      refine (ConU.out w3).mono ?_
      rintro e w' ⟨rfl, rfl⟩
      go_wp2_with fail
      refine (Con1.out w3 hb3).mono ?_
      rintro e w4 ⟨A4, c4, rfl, o4, h4⟩
      have hb4 := bstep hb3 h4
      have ba4 := ba3.keep h4
      clear x0 x1 x2 x3 x4
      clear ba3
      have x0 := ba4.c0
      have x1 := ba4.c1
      have x2 := ba4.c2
      have x3 := ba4.c3
      have x4 := ba4.c4
      clear o4
      have r4 := r3.below h4
      clear r3
      go_wp2_with fail
      refine (Con2.out w4 A1 c1 hb4 r4).mono ?_
      rintro e w5 ⟨A5, c5, rfl, o5, h5⟩
      have hb5 := bstep hb4 h5
      have ba5 := ba4.keep h5
      clear x0 x1 x2 x3 x4
      clear ba4
      have x0 := ba5.c0
      have x1 := ba5.c1
      have x2 := ba5.c2
      have x3 := ba5.c3
      have x4 := ba5.c4
      clear o5
      have r5 := r4.below h5
      clear r4
      go_wp2
      go_ret
      exact ⟨rfl, hb5⟩
  · have d1 : ((L1.length : Int) == 0) = false := by rw [beq_eq_false_iff_ne]; omega
    rw [decide_eq_false e1, Bool.false_and]
    clear e1
    have ConR := Lib.hid conR
    have ConF := Lib.hid conF
    have ConS := Lib.hid conS
    have ConT := Lib.hid conT
    have ConU := Lib.hid conU
    have Con1 := Lib.hid con1
    have Con2 := Lib.hid con2
    have Con3 := Lib.hid con3
    clear conR conF conS conT conU con1 con2 con3
    clear weq lF lS lR kF kS
    go_enter Try.func96, Try.ntmps96
    go_wp2_with fail
    obtain ⟨w0, hw0⟩ : ∃ w0, w0 = w.alloc (.cells #[.slice AF F.length cF, .slice AS S.length cS, .slice AR R.length cR, .int .i64 t, .int .i64 u] 43) := ⟨_, rfl⟩
    rw [← hw0]
    have ba0 : BoxAt w0 w.heap.size (.slice AF F.length cF) (.slice AS S.length cS) (.slice AR R.length cR) (.int .i64 t) (.int .i64 u) := by rw [hw0]; exact BoxAt.fresh w _ _ _ _ _ _
    have hb0 : Below w.heap.size w w0 := by rw [hw0]; go_grown
    clear hw0
    refine (ConR.out w0 hb0).mono ?_
    rintro e w1 ⟨A1, c1, rfl, o1, h1⟩
    have hb1 := bstep hb0 h1
    have ba1 := ba0.keep h1
    clear ba0
    have x0 := ba1.c0
    have x1 := ba1.c1
    have x2 := ba1.c2
    have x3 := ba1.c3
    have x4 := ba1.c4
    have r1 := RdT.of_own o1
    clear o1
    go_wp2_with fail
    refine (ConF.out w1 hb1).mono ?_
    rintro e w2 ⟨rfl, h2⟩
    have hb2 := bstep hb1 h2
    have ba2 := ba1.keep h2
    clear x0 x1 x2 x3 x4
    clear ba1
    have x0 := ba2.c0
    have x1 := ba2.c1
    have x2 := ba2.c2
    have x3 := ba2.c3
    have x4 := ba2.c4
    have r2 := r1.below h2
    clear r1
    go_wp2_with fail
    refine (ConS.out w2 hb2).mono ?_
    rintro e w3 ⟨rfl, h3⟩
    have hb3 := bstep hb2 h3
    have ba3 := ba2.keep h3
    clear x0 x1 x2 x3 x4
    clear ba2
    have x0 := ba3.c0
    have x1 := ba3.c1
    have x2 := ba3.c2
    have x3 := ba3.c3
    have x4 := ba3.c4
    have r3 := r2.below h3
    clear r2
    go_wp2_with fail
    refine (ConT.out w3).mono ?_
    rintro e w' ⟨rfl, rfl⟩
    go_wp2_with fail
    refine (ConU.out w3).mono ?_
    rintro e w' ⟨rfl, rfl⟩
    go_wp2_with fail
    refine (Con1.out w3 hb3).mono ?_
    rintro e w4 ⟨A4, c4, rfl, o4, h4⟩
    have hb4 := bstep hb3 h4
    have ba4 := ba3.keep h4
    clear x0 x1 x2 x3 x4
    clear ba3
    have x0 := ba4.c0
    have x1 := ba4.c1
    have x2 := ba4.c2
    have x3 := ba4.c3
    have x4 := ba4.c4
    clear o4
    have r4 := r3.below h4
    clear r3
    go_wp2
    go_ret
    exact ⟨rfl, hb4⟩

def overB (nF nS : Nat) (u : Int) : Bool := decide (nF = 0) || (decide (nS = 0) || decide (u = 2))

end Go.Proofs.Ytlnfialfkipdjaa

namespace Go.Proofs.Ytlnfialfkipdjaa
open Go.RowKit
set_option linter.unusedVariables false

theorem rows2 {w : World} {b : Nat} {A0 A1 : Option Addr} {c0 c1 : Nat} {F S : List (Int × Int)} (y0 : w.cell? ⟨b, 0 + 0, none⟩ = some (.slice A0 F.length c0)) (y1 : w.cell? ⟨b, 0 + 1, none⟩ = some (.slice A1 S.length c1)) (h0 : RdT w A0 F) (h1 : RdT w A1 S) : RowsAt w b 0 [F, S] := fun k hk => by
  match k, hk with
  | 0, _ => exact ⟨A0, c0, y0, h0⟩
  | 1, _ => exact ⟨A1, c1, y1, h1⟩
theorem rows3 {w : World} {b : Nat} {A0 A1 A2 : Option Addr} {c0 c1 c2 : Nat} {F S T : List (Int × Int)} (y0 : w.cell? ⟨b, 0 + 0, none⟩ = some (.slice A0 F.length c0)) (y1 : w.cell? ⟨b, 0 + 1, none⟩ = some (.slice A1 S.length c1)) (y2 : w.cell? ⟨b, 0 + 2, none⟩ = some (.slice A2 T.length c2)) (h0 : RdT w A0 F) (h1 : RdT w A1 S) (h2 : RdT w A2 T) : RowsAt w b 0 [F, S, T] := fun k hk => by
  match k, hk with
  | 0, _ => exact ⟨A0, c0, y0, h0⟩
  | 1, _ => exact ⟨A1, c1, y1, h1⟩
  | 2, _ => exact ⟨A2, c2, y2, h2⟩

set_option maxRecDepth 100000 in
set_option maxHeartbeats 1000000 in
theorem c_areApart (g off m : Nat) (tss : List (List (Int × Int))) (w : World) (hm : tss.length = m) (h : RowsAt w g off tss) (hlen : tss.flatten.length ≤ 2097152) (hn : m ≤ 100) (hpos : 0 < m) :
    Calls Try.prog 162 #[.slice (some ⟨g, off, none⟩) m m] w fun e w' => e = .returned (.bool (handB tss.flatten)) ∧ Below w.heap.size w w' := by
  have con := Lib.hid (c_concatT g off m tss w hm h hlen hn hpos)
  clear h hm hn hpos
  generalize tss.flatten = ts at *
  go_enter Try.func162, Try.ntmps162
  go_wp2_with fail
  refine con.out.mono ?_
  rintro e w1 ⟨A1, c1, rfl, ho1, hb1⟩
  go_wp2_with fail
  refine (c_implIsHand A1 c1 ts w1 (RdT.of_own ho1) (Nat.le_trans hlen (by omega))).mono ?_
  rintro e w2 ⟨rfl, hb2⟩
  go_wp2
  go_ret
  exact ⟨rfl, bstep hb1 hb2⟩

set_option maxRecDepth 100000 in
set_option maxHeartbeats 4000000 in
theorem c_implIsGame (AF : Option Addr) (cF : Nat) (F : List (Int × Int)) (AS : Option Addr) (cS : Nat) (S : List (Int × Int)) (AR : Option Addr) (cR : Nat) (R : List Int) (t u : Int) (w : World) (hF : RdT w AF F) (hS : RdT w AS S) (hR : RdI w AR R) (lFS : F.length + S.length ≤ 1048576) (lR : R.length ≤ 1048576) :
    Calls Try.prog 99 #[.agg #[.slice AF F.length cF, .slice AS S.length cS, .slice AR R.length cR, .int .i64 t, .int .i64 u]] w fun e w' => e = .returned (.bool (gameB F S R t u)) ∧ Below w.heap.size w w' := by
  by_cases t0 : t < 0
  · rw [show gameB F S R t u = false from by have : decide (0 ≤ t) = false := decide_eq_false (by omega); simp [gameB, turnB, this]]
    clear hF hS hR
    go_enter Try.func99, Try.ntmps99
    go_wp2
    go_ret
    exact ⟨rfl, by go_grown⟩
  by_cases t1 : 1 < t
  · rw [show gameB F S R t u = false from by have : decide (t ≤ 1) = false := decide_eq_false (by omega); simp [gameB, turnB, this]]
    clear hF hS hR
    go_enter Try.func99, Try.ntmps99
    go_wp2
    go_ret
    exact ⟨rfl, by go_grown⟩
  by_cases u0 : u < 0
  · rw [show gameB F S R t u = false from by have : decide (0 ≤ u) = false := decide_eq_false (by omega); simp [gameB, turnB, this]]
    clear hF hS hR
    go_enter Try.func99, Try.ntmps99
    go_wp2
    go_ret
    exact ⟨rfl, by go_grown⟩
  by_cases u1 : 2 < u
  · rw [show gameB F S R t u = false from by have : decide (u ≤ 2) = false := decide_eq_false (by omega); simp [gameB, turnB, this]]
    clear hF hS hR
    go_enter Try.func99, Try.ntmps99
    go_wp2
    go_ret
    exact ⟨rfl, by go_grown⟩
  have htu : turnB t u = true := by unfold turnB; simp only [Bool.and_eq_true, decide_eq_true_eq]; omega
  by_cases h0 : R.length = 0
  · have e0 : ((R.length : Int) == 0) = true := by simp [h0]
    have hg : gameB F S R t u = handB ([F, S].flatten) := by
      unfold gameB rowB rowT
      rw [htu, chain_empty h0, decide_eq_true h0]
      rfl
    rw [hg]
    have lf : ([F, S].flatten).length ≤ 2097152 := by simp; omega
    have con := Lib.hid (fun W g (h : RowsAt W g 0 [F, S]) => c_areApart g 0 2 [F, S] W rfl h lf (by omega) (by omega))
    clear hg htu h0 lf
    generalize handB ([F, S].flatten) = res at *
    go_enter Try.func99, Try.ntmps99
    go_wp2_with fail
    obtain ⟨w0, hw0⟩ : ∃ w0, w0 = (w.alloc (.cells #[.slice AF F.length cF, .slice AS S.length cS, .slice AR R.length cR, .int .i64 t, .int .i64 u] 43)).alloc (.cells #[.slice AF F.length cF, .slice AS S.length cS] 22) := ⟨_, rfl⟩
    rw [← hw0]
    have hb0 : Below w.heap.size w w0 := by rw [hw0]; go_grown
    have y0 : w0.cell? ⟨w.heap.size + 1, 0 + 0, none⟩ = some (.slice AF F.length cF) := by rw [hw0]; simp
    have y1 : w0.cell? ⟨w.heap.size + 1, 0 + 1, none⟩ = some (.slice AS S.length cS) := by rw [hw0]; simp
    clear hw0
    refine (con.out w0 _ (rows2 y0 y1 (hF.below hb0) (hS.below hb0))).mono ?_
    rintro e w1 ⟨rfl, h1⟩
    have hb1 := bstep hb0 h1
    clear y0 y1 con hF hS hR
    go_wp2
    go_ret
    exact ⟨rfl, hb1⟩
  have e0 : ((R.length : Int) == 0) = false := by rw [beq_eq_false_iff_ne]; omega
  have conC := fun W (hb : Below w.heap.size w W) => c_implTiles AR cR R W (hR.below hb) lR
  have hrow : rowB R = (chainB R && decide (2 ≤ R.length)) := by simp [rowB, h0]
  cases hc : chainB R
  · have hg : gameB F S R t u = false := by unfold gameB; rw [hrow, hc]; simp
    rw [hg]
    simp only [hc] at conC
    have ConC := Lib.hid conC
    clear conC hg hrow htu hc hF hS hR h0
    go_enter Try.func99, Try.ntmps99
    go_wp2_with fail
    obtain ⟨w0, hw0⟩ : ∃ w0, w0 = w.alloc (.cells #[.slice AF F.length cF, .slice AS S.length cS, .slice AR R.length cR, .int .i64 t, .int .i64 u] 43) := ⟨_, rfl⟩
    rw [← hw0]
    have ba0 : BoxAt w0 w.heap.size (.slice AF F.length cF) (.slice AS S.length cS) (.slice AR R.length cR) (.int .i64 t) (.int .i64 u) := by rw [hw0]; exact BoxAt.fresh w _ _ _ _ _ _
    have hb0 : Below w.heap.size w w0 := by rw [hw0]; go_grown
    clear hw0
    refine (ConC.out w0 hb0).mono ?_
    rintro e w1 ⟨A1, c1, rfl, o1, h1⟩
    have hb1 := bstep hb0 h1
    have ba1 := ba0.keep h1
    clear ba0
    have x0 := ba1.c0
    have x1 := ba1.c1
    have x2 := ba1.c2
    have x3 := ba1.c3
    have x4 := ba1.c4
    clear o1
    go_wp2
    go_ret
    exact ⟨rfl, hb1⟩
  have hW : tilesHL R = tilesC R := by simp [tilesHL, hc]
  have hn : (tilesC R).length = R.length - 1 := tilesC_len R
  have hc56 := (chain_len hc).2
  simp only [hc, hW] at conC
  by_cases h2 : 2 ≤ R.length
  · have hg : gameB F S R t u = handB ([F, S, tilesC R].flatten) := by
      unfold gameB rowT
      rw [htu, hrow, hc, decide_eq_true h2]
      simp
    have g2 : decide (0 < (tilesC R).length) = true := decide_eq_true (by omega)
    have lf : ([F, S, tilesC R].flatten).length ≤ 2097152 := by simp; omega
    have con := Lib.hid (fun W g (h : RowsAt W g 0 [F, S, tilesC R]) => c_areApart g 0 3 [F, S, tilesC R] W rfl h lf (by omega) (by omega))
    rw [hg]
    have ConC := Lib.hid conC
    clear conC hg hrow htu hc h0 hW hn lf h2 hc56 hR
    generalize handB ([F, S, tilesC R].flatten) = res at *
    generalize tilesC R = T at *
    go_enter Try.func99, Try.ntmps99
    go_wp2_with fail
    obtain ⟨w0, hw0⟩ : ∃ w0, w0 = w.alloc (.cells #[.slice AF F.length cF, .slice AS S.length cS, .slice AR R.length cR, .int .i64 t, .int .i64 u] 43) := ⟨_, rfl⟩
    rw [← hw0]
    have ba0 : BoxAt w0 w.heap.size (.slice AF F.length cF) (.slice AS S.length cS) (.slice AR R.length cR) (.int .i64 t) (.int .i64 u) := by rw [hw0]; exact BoxAt.fresh w _ _ _ _ _ _
    have hb0 : Below w.heap.size w w0 := by rw [hw0]; go_grown
    clear hw0
    refine (ConC.out w0 hb0).mono ?_
    rintro e w1 ⟨A1, c1, rfl, o1, h1⟩
    have hb1 := bstep hb0 h1
    have ba1 := ba0.keep h1
    clear ba0
    have x0 := ba1.c0
    have x1 := ba1.c1
    have x2 := ba1.c2
    have x3 := ba1.c3
    have x4 := ba1.c4
    have r1 := RdT.of_own o1
    clear o1
    go_wp2_with fail
    obtain ⟨w2, hw2⟩ : ∃ w2, w2 = w1.alloc (.cells #[.slice AF F.length cF, .slice AS S.length cS, .slice A1 T.length c1] 22) := ⟨_, rfl⟩
    rw [← hw2]
    have h2 : Below w1.heap.size w1 w2 := by rw [hw2]; go_grown
    have hb2 := bstep hb1 h2
    have y0 : w2.cell? ⟨w1.heap.size, 0 + 0, none⟩ = some (.slice AF F.length cF) := by rw [hw2]; simp
    have y1 : w2.cell? ⟨w1.heap.size, 0 + 1, none⟩ = some (.slice AS S.length cS) := by rw [hw2]; simp
    have y2 : w2.cell? ⟨w1.heap.size, 0 + 2, none⟩ = some (.slice A1 T.length c1) := by rw [hw2]; simp
    clear hw2 x0 x1 x2 x3 x4
    refine (con.out w2 _ (rows3 y0 y1 y2 (hF.below hb2) (hS.below hb2) (r1.below h2))).mono ?_
    rintro e w3 ⟨rfl, h3⟩
    have hb3 := bstep hb2 h3
    clear y0 y1 y2 con hF hS
    go_wp2
    go_ret
    exact ⟨rfl, hb3⟩
  · have hg : gameB F S R t u = false := by unfold gameB; rw [hrow, decide_eq_false h2]; simp
    have g2 : decide (0 < (tilesC R).length) = false := decide_eq_false (by omega)
    rw [hg]
    have ConC := Lib.hid conC
    clear conC hg hrow htu hc h0 hW hn h2 hc56 hR hF hS
    generalize tilesC R = T at *
    go_enter Try.func99, Try.ntmps99
    go_wp2_with fail
    obtain ⟨w0, hw0⟩ : ∃ w0, w0 = w.alloc (.cells #[.slice AF F.length cF, .slice AS S.length cS, .slice AR R.length cR, .int .i64 t, .int .i64 u] 43) := ⟨_, rfl⟩
    rw [← hw0]
    have ba0 : BoxAt w0 w.heap.size (.slice AF F.length cF) (.slice AS S.length cS) (.slice AR R.length cR) (.int .i64 t) (.int .i64 u) := by rw [hw0]; exact BoxAt.fresh w _ _ _ _ _ _
    have hb0 : Below w.heap.size w w0 := by rw [hw0]; go_grown
    clear hw0
    refine (ConC.out w0 hb0).mono ?_
    rintro e w1 ⟨A1, c1, rfl, o1, h1⟩
    have hb1 := bstep hb0 h1
    have ba1 := ba0.keep h1
    clear ba0
    have x0 := ba1.c0
    have x1 := ba1.c1
    have x2 := ba1.c2
    have x3 := ba1.c3
    have x4 := ba1.c4
    clear o1
    go_wp2
    go_ret
    exact ⟨rfl, hb1⟩

end Go.Proofs.Ytlnfialfkipdjaa

namespace Go.Proofs.Ytlnfialfkipdjaa
open Go.ChangeShapes Go.WideShapes Go.ChangeAt Go.RowKit Go.Joins
set_option linter.unusedVariables false

section
variable {H : Type} {enc : TypeId × Value → H}

theorem Try.cells_lgame : Try.prog.cellsOf 38 = 5 := by kernel_rfl
theorem Try.cells_ltiles : Try.prog.cellsOf 29 = 1 := by kernel_rfl
theorem Try.cells_ints : Try.prog.cellsOf 36 = 1 := by kernel_rfl

set_option maxRecDepth 100000 in
theorem nums_cs {W : World} {fuel : Nat} {cs : List Value} {x : DataW H × List MemPlace} (h : DataW.trod enc Try.prog W 0 (fun _ => true) true fuel 36 cs = some x) :
    ∃ (A : Option Addr) (c : Nat) (xs : List Int), cs = [.slice A xs.length c] ∧ RdI W A xs ∧ xs.length ≤ 9223372036854775807 := by
  rcases open_ints Try.underlying36 Try.underlying3 Try.cells_int h with ⟨rfl, _⟩ | ⟨a, len, cap, zs, rfl, _, hlc, hcm, hz, _, hi, _⟩
  · exact ⟨none, 0, [], rfl, RdI.nil_, by simp⟩
  · simp only [if_true] at hz
    have hl : (zs.take len).length = len := by rw [List.length_take]; omega
    refine ⟨some a, cap, zs.take len, by rw [hl], ⟨a.block, a.off, fun hne => ?_, fun k hk => ?_⟩, by rw [hl]; unfold maxLen at hcm; omega⟩
    · have h0 : 0 < (zs.take len).length := List.length_pos_iff.2 hne
      have := hi 0 (by omega)
      rw [show a.add 0 = a from by simp [Addr.add]] at this
      exact congrArg some (plain_of_cell this)
    · have h1 := cell_add_plain (hi k (by omega))
      rw [h1, List.getElem_take]
      simp [List.getD_eq_getElem?_getD, List.getElem?_eq_getElem (show k < zs.length by omega)]

set_option maxRecDepth 100000 in
theorem tiles_cs {W : World} {fuel : Nat} {cs : List Value} {x : DataW H × List MemPlace} (h : DataW.trod enc Try.prog W 0 (fun _ => true) true fuel 29 cs = some x) :
    ∃ (A : Option Addr) (c : Nat) (ts : List (Int × Int)), cs = [.slice A ts.length c] ∧ RdT W A ts ∧ ts.length ≤ 9223372036854775807 := by
  rcases Deep.open_slice_pairs Try.underlying29 Try.underlying128 Try.cells_ltile rfl rfl Try.cells_int Try.cells_int h with ⟨rfl, _⟩ | ⟨a, len0, cap, m, n, V0, V1, D0, D1, P0, P1, rfl, _, hlc, hcm, hm, _, hi⟩
  · exact ⟨none, 0, [], rfl, RdT.nil_, by simp⟩
  · simp only [if_true] at hm
    subst hm
    refine ⟨some a, m, (List.range len0).map (fun i => (intOf (V0 i), intOf (V1 i))), by simp, ⟨a.block, a.off, fun hne => ?_, fun k hk => ?_⟩, by simp; unfold maxLen at hcm; omega⟩
    · have h0 : 0 < len0 := by
        rcases Nat.eq_zero_or_pos len0 with h | h
        · subst h; simp at hne
        · exact h
      have := (hi 0 (by omega)).1
      rw [Nat.zero_mul, show a.add 0 = a from by simp [Addr.add]] at this
      exact congrArg some (plain_of_cell this)
    · simp only [List.length_map, List.length_range] at hk
      obtain ⟨h1, h2, h3, h4⟩ := hi k (by omega)
      obtain ⟨x, hx, _⟩ := DataW.trod_int Try.underlying3 h3
      obtain ⟨y, hy, _⟩ := DataW.trod_int Try.underlying3 h4
      simp only [List.cons.injEq, and_true] at hx hy
      replace h1 := cell_add_plain h1
      replace h2 := cell_add_plain h2
      rw [hx] at h1
      rw [hy] at h2
      simp only [List.getElem_map, List.getElem_range, hx, hy, intOf]
      exact ⟨h1, by rw [Nat.add_assoc]; exact h2⟩

set_option maxRecDepth 100000 in
theorem open_game {W : World} {r : Reach} {b0 : Nat} {v : Value} {d : DataW H} {p : List MemPlace}
    (hv : Value.okWide Try.prog W r b0 38 v) (h : DataW.Trod enc Try.prog W 0 (fun _ => true) true 38 v d p) :
    ∃ (AF : Option Addr) (cF : Nat) (F : List (Int × Int)) (AS : Option Addr) (cS : Nat) (S : List (Int × Int)) (AR : Option Addr) (cR : Nat) (R : List Int) (t u : Int),
      v = .agg #[.slice AF F.length cF, .slice AS S.length cS, .slice AR R.length cR, .int .i64 t, .int .i64 u] ∧ (RdT W AF F ∧ F.length ≤ 9223372036854775807) ∧ (RdT W AS S ∧ S.length ≤ 9223372036854775807) ∧ (RdI W AR R ∧ R.length ≤ 9223372036854775807) ∧
      (Lit.int .i64 t).wf = true ∧ (Lit.int .i64 u).wf = true := by
  obtain ⟨cs, rfl, hsz⟩ := okWide_struct Try.underlying38 hv
  obtain ⟨fuel, hf⟩ := h
  obtain ⟨xs, n, _, _, hl, hlen, hx⟩ := DataW.trod_struct Try.underlying38 hf
  obtain ⟨l⟩ := cs
  rw [Try.cells_lgame] at hl
  simp only [Value.cells] at hl hx
  match l, hl, xs, hlen with
  | [v0, v1, v2, v3, v4], _, [y0, y1, y2, y3, y4], _ =>
    have k0 := hx 0 _ rfl
    have k1 := hx 1 _ rfl
    have k2 := hx 2 _ rfl
    have k3 := hx 3 _ rfl
    have k4 := hx 4 _ rfl
    simp [Try.cells_ltiles, Try.cells_ints, Try.cells_int] at k0 k1 k2 k3 k4
    obtain ⟨AF, cF, F, e0, h0, l0⟩ := tiles_cs k0
    obtain ⟨AS, cS, S, e1, h1, l1⟩ := tiles_cs k1
    obtain ⟨AR, cR, R, e2, h2, l2⟩ := nums_cs k2
    obtain ⟨t, e3, _, wt⟩ := DataW.trod_int Try.underlying3 k3
    obtain ⟨u, e4, _, wu⟩ := DataW.trod_int Try.underlying3 k4
    simp only [List.cons.injEq, and_true] at e0 e1 e2 e3 e4
    subst e0 e1 e2 e3 e4
    exact ⟨AF, cF, F, AS, cS, S, AR, cR, R, t, u, rfl, ⟨h0, l0⟩, ⟨h1, l1⟩, ⟨h2, l2⟩, wt, wu⟩
end
end Go.Proofs.Ytlnfialfkipdjaa

/- The laws' own small functions over games. -/
import Derived.Test.YtjdnkcdnppcbhaaGamB
namespace Go.Proofs.Ytjdnkcdnppcbhaa
open Go.RowKit
set_option linter.unusedVariables false

set_option maxHeartbeats 400000 in
theorem c_szIntSg (A : Option Addr) (c n : Nat) (q : Int) (w : World) (hn : n ≤ 9223372036854775807) (h0 : 0 ≤ q) (h1 : q ≤ 9223372036854775807) :
    Calls Try.prog 60 #[.slice A n c, .int .i64 q] w fun e w' => e = .returned (.int .i64 (if q - n < 0 then -1 else q - n)) ∧ w = w' := by
  by_cases h : q - n < 0
  all_goals
    go_enter Try.func60, Try.ntmps60
    go_wp2
    go_ret
    exact ⟨ret_i (by first | omega | (split <;> omega)), rfl⟩

set_option maxRecDepth 100000 in
set_option maxHeartbeats 1000000 in
theorem c_szGame_yes (AF : Option Addr) (cF : Nat) (F : List (Int × Int)) (AS : Option Addr) (cS : Nat) (S : List (Int × Int)) (AR : Option Addr) (cR : Nat) (R : List Int) (t u : Int) (w : World) (h : F.length + S.length + R.length ≤ 1048576) :
    Calls Try.prog 44 #[.agg #[.slice AF F.length cF, .slice AS S.length cS, .slice AR R.length cR, .int .i64 t, .int .i64 u], .int .i64 1048576] w fun e w' => e = .returned (.int .i64 (1048576 - (F.length : Int) - (S.length : Int) - (R.length : Int))) ∧ Below w.heap.size w w' := by
  have c1 := fun W => c_szTileS AF cF F.length 1048576 W (by omega) (by omega) (by omega)
  have c2 := fun W => c_szTileS AS cS S.length (1048576 - (F.length : Int)) W (by omega) (by omega) (by omega)
  have c3 := fun W => c_szIntSg AR cR R.length (1048576 - (F.length : Int) - (S.length : Int)) W (by omega) (by omega) (by omega)
  have e1 : ¬ 1048576 - (F.length : Int) < 0 := by omega
  have e2 : ¬ 1048576 - (F.length : Int) - (S.length : Int) < 0 := by omega
  have e3 : ¬ 1048576 - (F.length : Int) - (S.length : Int) - (R.length : Int) < 0 := by omega
  simp only [if_neg e1] at c1
  simp only [if_neg e2] at c2
  simp only [if_neg e3] at c3
  have C1 := Lib.hid c1
  have C2 := Lib.hid c2
  have C3 := Lib.hid c3
  clear c1 c2 c3
  have q1 : True := trivial
  go_enter Try.func44, Try.ntmps44
  go_wp2_with (first | (go_at_call 50; have zz := q1; clear zz q1; refine (C1.out _).mono ?_; rintro e w1 ⟨rfl, rfl⟩) | (go_at_call 50; refine (C2.out _).mono ?_; rintro e w1 ⟨rfl, rfl⟩) | (go_at_call 60; refine (C3.out _).mono ?_; rintro e w1 ⟨rfl, rfl⟩))
  go_ret
  exact ⟨rfl, by go_grown⟩

set_option maxRecDepth 100000 in
set_option maxHeartbeats 1000000 in
theorem c_szGame_no (AF : Option Addr) (cF : Nat) (F : List (Int × Int)) (AS : Option Addr) (cS : Nat) (S : List (Int × Int)) (AR : Option Addr) (cR : Nat) (R : List Int) (t u : Int) (w : World) (lF : F.length ≤ 9223372036854775807) (lS : S.length ≤ 9223372036854775807) (lR : R.length ≤ 9223372036854775807) (h : 1048576 < F.length + S.length + R.length) :
    Calls Try.prog 44 #[.agg #[.slice AF F.length cF, .slice AS S.length cS, .slice AR R.length cR, .int .i64 t, .int .i64 u], .int .i64 1048576] w fun e w' => e = .returned (.int .i64 (-1)) ∧ Below w.heap.size w w' := by
  have c1 := fun W => c_szTileS AF cF F.length 1048576 W (by omega) (by omega) (by omega)
  by_cases e1 : 1048576 - (F.length : Int) < 0
  · simp only [if_pos e1] at c1
    have C1 := Lib.hid c1
    clear c1
    go_enter Try.func44, Try.ntmps44
    go_wp2_with (go_at_call 50; refine (C1.out _).mono ?_; rintro e w1 ⟨rfl, rfl⟩)
    go_ret
    exact ⟨rfl, by go_grown⟩
  · simp only [if_neg e1] at c1
    have c2 := fun W => c_szTileS AS cS S.length (1048576 - (F.length : Int)) W (by omega) (by omega) (by omega)
    by_cases e2 : 1048576 - (F.length : Int) - (S.length : Int) < 0
    · simp only [if_pos e2] at c2
      have C1 := Lib.hid c1
      have C2 := Lib.hid c2
      clear c1 c2
      have q1 : True := trivial
      go_enter Try.func44, Try.ntmps44
      go_wp2_with (first | (go_at_call 50; have zz := q1; clear zz q1; refine (C1.out _).mono ?_; rintro e w1 ⟨rfl, rfl⟩) | (go_at_call 50; refine (C2.out _).mono ?_; rintro e w1 ⟨rfl, rfl⟩))
      go_ret
      exact ⟨rfl, by go_grown⟩
    · simp only [if_neg e2] at c2
      have e3 : 1048576 - (F.length : Int) - (S.length : Int) - (R.length : Int) < 0 := by omega
      have c3 := fun W => c_szIntSg AR cR R.length (1048576 - (F.length : Int) - (S.length : Int)) W (by omega) (by omega) (by omega)
      simp only [if_pos e3] at c3
      have C1 := Lib.hid c1
      have C2 := Lib.hid c2
      have C3 := Lib.hid c3
      clear c1 c2 c3
      have q1 : True := trivial
      go_enter Try.func44, Try.ntmps44
      go_wp2_with (first | (go_at_call 50; have zz := q1; clear zz q1; refine (C1.out _).mono ?_; rintro e w1 ⟨rfl, rfl⟩) | (go_at_call 50; refine (C2.out _).mono ?_; rintro e w1 ⟨rfl, rfl⟩) | (go_at_call 60; refine (C3.out _).mono ?_; rintro e w1 ⟨rfl, rfl⟩))
      go_ret
      exact ⟨rfl, by go_grown⟩

set_option maxRecDepth 100000 in
set_option maxHeartbeats 1000000 in
theorem c_toGame (AF : Option Addr) (cF : Nat) (F : List (Int × Int)) (AS : Option Addr) (cS : Nat) (S : List (Int × Int)) (AR : Option Addr) (cR : Nat) (R : List Int) (t u : Int) (w : World) (hF : RdT w AF F) (hS : RdT w AS S) (hR : RdI w AR R) (h : F.length + S.length + R.length ≤ 1048576) :
    Calls Try.prog 46 #[.agg #[.slice AF F.length cF, .slice AS S.length cS, .slice AR R.length cR, .int .i64 t, .int .i64 u]] w (RetG w F S R t u) := by
  go_enter Try.func46, Try.ntmps46
  go_wp2_with fail
  obtain ⟨w0, hw0⟩ : ∃ w0, w0 = ((w.alloc (.cells #[.slice AF F.length cF, .slice AS S.length cS, .slice AR R.length cR, .int .i64 t, .int .i64 u] 58)).alloc (.cells #[.slice none 0 0, .slice none 0 0, .slice none 0 0, .int .i64 0, .int .i64 0] 62)).alloc (.cells #[.slice none 0 0, .slice none 0 0, .slice none 0 0, .int .i64 0, .int .i64 0] 62) := ⟨_, rfl⟩
  rw [← hw0]
  have hs0 : w0.heap.size = w.heap.size + 3 := by rw [hw0]; simp
  have ba : BoxAt w0 w.heap.size (.slice AF F.length cF) (.slice AS S.length cS) (.slice AR R.length cR) (.int .i64 t) (.int .i64 u) := by rw [hw0]; exact ((BoxAt.fresh w _ _ _ _ _ _).more _).more _
  have br : BoxAt w0 (w.heap.size + 1) (.slice none 0 0) (.slice none 0 0) (.slice none 0 0) (.int .i64 0) (.int .i64 0) := by
    have h1 := BoxAt.fresh (w.alloc (.cells #[.slice AF F.length cF, .slice AS S.length cS, .slice AR R.length cR, .int .i64 t, .int .i64 u] 58)) (.slice none 0 0) (.slice none 0 0) (.slice none 0 0) (.int .i64 0) (.int .i64 0) 62
    rw [World.size_alloc] at h1
    rw [hw0]; exact h1.more _
  have bo : BoxAt w0 (w.heap.size + 2) (.slice none 0 0) (.slice none 0 0) (.slice none 0 0) (.int .i64 0) (.int .i64 0) := by
    have h1 := BoxAt.fresh ((w.alloc (.cells #[.slice AF F.length cF, .slice AS S.length cS, .slice AR R.length cR, .int .i64 t, .int .i64 u] 58)).alloc (.cells #[.slice none 0 0, .slice none 0 0, .slice none 0 0, .int .i64 0, .int .i64 0] 62)) (.slice none 0 0) (.slice none 0 0) (.slice none 0 0) (.int .i64 0) (.int .i64 0) 62
    rw [World.size_alloc, World.size_alloc] at h1
    rw [hw0]; exact h1
  have hb0 : Below w.heap.size w w0 := by rw [hw0]; go_grown
  have hS0 := hS
  have hR0 := hR
  have hF0 := hF
  clear hF hS hR
  clear hw0
  refine (c_toTileS AF cF F w0 (hF0.below hb0) (by omega)).mono ?_
  rintro e w1 ⟨rfl, o1, hb1⟩
  generalize hA1 : (some ⟨w0.heap.size, 0, none⟩ : Option Addr) = A1 at o1 ⊢
  clear hA1
  have ba1 := ba.keep hb1
  have br1 := br.keep hb1
  have bo1 := bo.keep hb1
  have p1 := hb1.size
  have x0 := ba1.c1
  have y0 := bo1.c0
  have f0 := bo1.fz 0
  go_wp2_with fail
  obtain ⟨v1, hv1⟩ : ∃ v1, v1 = w1.setCell ⟨w.heap.size + 2, 0, none⟩ (.slice A1 F.length F.length) := ⟨_, rfl⟩
  rw [← hv1]
  have ba2 : BoxAt v1 w.heap.size (.slice AF F.length cF) (.slice AS S.length cS) (.slice AR R.length cR) (.int .i64 t) (.int .i64 u) := by rw [hv1]; exact ba1.far _ (by omega)
  have br2 : BoxAt v1 (w.heap.size + 1) (.slice none 0 0) (.slice none 0 0) (.slice none 0 0) (.int .i64 0) (.int .i64 0) := by rw [hv1]; exact br1.far _ (by omega)
  have bo2 : BoxAt v1 (w.heap.size + 2) (.slice A1 F.length F.length) (.slice none 0 0) (.slice none 0 0) (.int .i64 0) (.int .i64 0) := by rw [hv1]; exact bo1.set0 _
  have o2 : v1.ownsRow w0.heap.size 82 2 (.slice A1 F.length F.length) F.length (cellsT F) := by rw [hv1]; exact own_box o1 (by omega)
  have l1 := o1.lt
  have hs2 : v1.heap.size = w1.heap.size := by rw [hv1]; simp [World.setCell]
  have hq2 : Below w.heap.size w v1 := by rw [hv1]; exact below_box (bstep hb0 hb1) (Nat.le_add_right _ _)
  clear hv1 ba ba1 br br1 bo bo1 x0 y0 f0 o1
  refine (c_toTileS AS cS S v1 (hS0.below hq2) (by omega)).mono ?_
  rintro e w2 ⟨rfl, o3, hb3⟩
  generalize hA2 : (some ⟨v1.heap.size, 0, none⟩ : Option Addr) = A2 at o3 ⊢
  clear hA2
  have ba3 := ba2.keep hb3
  have br3 := br2.keep hb3
  have bo3 := bo2.keep hb3
  have p3 := hb3.size
  have x0 := ba3.c2
  have y0 := bo3.c1
  have f0 := bo3.fz 1
  have o2' := own_keep o2 hb3
  go_wp2_with fail
  obtain ⟨v2, hv2⟩ : ∃ v2, v2 = w2.setCell ⟨w.heap.size + 2, 1, none⟩ (.slice A2 S.length S.length) := ⟨_, rfl⟩
  rw [← hv2]
  have ba4 : BoxAt v2 w.heap.size (.slice AF F.length cF) (.slice AS S.length cS) (.slice AR R.length cR) (.int .i64 t) (.int .i64 u) := by rw [hv2]; exact ba3.far _ (by omega)
  have br4 : BoxAt v2 (w.heap.size + 1) (.slice none 0 0) (.slice none 0 0) (.slice none 0 0) (.int .i64 0) (.int .i64 0) := by rw [hv2]; exact br3.far _ (by omega)
  have bo4 : BoxAt v2 (w.heap.size + 2) (.slice A1 F.length F.length) (.slice A2 S.length S.length) (.slice none 0 0) (.int .i64 0) (.int .i64 0) := by rw [hv2]; exact bo3.set1 _
  have o4 : v2.ownsRow v1.heap.size 82 2 (.slice A2 S.length S.length) S.length (cellsT S) := by rw [hv2]; exact own_box o3 (by omega)
  have o5 : v2.ownsRow w0.heap.size 82 2 (.slice A1 F.length F.length) F.length (cellsT F) := by rw [hv2]; exact own_box o2' (by omega)
  have l3 := o3.lt
  have hs4 : v2.heap.size = w2.heap.size := by rw [hv2]; simp [World.setCell]
  have hq4 : Below w.heap.size w v2 := by rw [hv2]; exact below_box (bstep hq2 hb3) (Nat.le_add_right _ _)
  clear hv2 ba2 ba3 br2 br3 bo2 bo3 x0 y0 f0 o3 o2 o2'
  refine (c_toIntS AR cR R v2 (hR0.below hq4) (by omega)).mono ?_
  rintro e w3 ⟨rfl, o6, hb6⟩
  generalize hA3 : (some ⟨v2.heap.size, 0, none⟩ : Option Addr) = A3 at o6 ⊢
  clear hA3
  have ba6 := ba4.keep hb6
  have br6 := br4.keep hb6
  have bo6 := bo4.keep hb6
  have p6 := hb6.size
  have x3 := ba6.c3
  have x4 := ba6.c4
  have y0 := bo6.c0
  have y1 := bo6.c1
  have y2 := bo6.c2
  have y3 := bo6.c3
  have y4 := bo6.c4
  have f2 := bo6.fz 2
  have f3 := bo6.fz 3
  have f4 := bo6.fz 4
  have r0 := br6.c0
  have r1 := br6.c1
  have r2 := br6.c2
  have r3 := br6.c3
  have r4 := br6.c4
  have z0 := br6.fz 0
  have z1 := br6.fz 1
  have z2 := br6.fz 2
  have z3 := br6.fz 3
  have z4 := br6.fz 4
  have o4' := own_keep o4 hb6
  have o5' := own_keep o5 hb6
  have l6 := o6.lt
  have HQ := Lib.hid (bstep hq4 hb6)
  have n1 : w.heap.size + 1 < w3.heap.size := by omega
  have n2 : w.heap.size + 2 < w3.heap.size := by omega
  have g3 : OwnG w3 (w.heap.size + 3) w3.heap.size (.slice A1 F.length F.length) F.length F (.slice A2 S.length S.length) S.length S (.slice A3 R.length R.length) R.length R :=
    { f := own_base o5' (by omega), s := own_base o4' (by omega), r := own_base o6 (by omega), hf := fun g hg => (o5'.lt g hg).2, hs := fun g hg => (o4'.lt g hg).2, hr := fun g hg => (o6.lt g hg).2,
      fs := ApG.of_lt (m := w1.heap.size) (fun g hg => (l1 g hg).2) (fun g hg => by have := (l3 g hg).1; omega), fr := ApG.of_lt (m := w1.heap.size) (fun g hg => (l1 g hg).2) (fun g hg => by have := (l6 g hg).1; omega), sr := ApG.of_lt (m := w2.heap.size) (fun g hg => (l3 g hg).2) (fun g hg => by have := (l6 g hg).1; omega) }
  have G3 := Lib.hid g3
  clear g3 ba4 ba6 br4 br6 bo4 bo6 o4 o5 o4' o5' o6 l1 l3 l6 hF0 hS0 hR0 hb0 hq2 hq4 hb1 hb3 hb6 p1 p3 p6 hs0 hs2 hs4
  go_wp2
  refine bodyPost_ret (v := .agg #[.slice A1 F.length F.length, .slice A2 S.length S.length, .slice A3 R.length R.length, .int .i64 t, .int .i64 u]) (by simp [results, Try.results46, go_sem, r0, r1, r2, r3, r4]) rfl ⟨A1, F.length, A2, S.length, A3, R.length, rfl, ?_, ?_⟩
  · exact ((((((((G3.out.box (by omega)).box (by omega)).box (by omega)).box (by omega)).box (by omega)).box (by omega)).box (by omega)).box (by omega)).base (by omega) |>.top (by simp [World.setCell])
  · exact (below_box (below_box (below_box (below_box (below_box (below_box (below_box (below_box HQ.out (by omega)) (by omega)) (by omega)) (by omega)) (by omega)) (by omega)) (by omega)) (by omega))

set_option maxRecDepth 100000 in
set_option maxHeartbeats 1000000 in
theorem c_eqGame_same (AF : Option Addr) (cF : Nat) (AS : Option Addr) (cS : Nat) (AR : Option Addr) (cR : Nat) (BF : Option Addr) (dF : Nat) (BS : Option Addr) (dS : Nat) (BR : Option Addr) (dR : Nat) (F S : List (Int × Int)) (R : List Int) (t u : Int) (w : World)
    (hF : RdT w AF F) (hS : RdT w AS S) (hR : RdI w AR R) (gF : RdT w BF F) (gS : RdT w BS S) (gR : RdI w BR R) (lF : F.length ≤ 9223372036854775807) (lS : S.length ≤ 9223372036854775807) (lR : R.length ≤ 9223372036854775807) :
    Calls Try.prog 48 #[.agg #[.slice AF F.length cF, .slice AS S.length cS, .slice AR R.length cR, .int .i64 t, .int .i64 u], .agg #[.slice BF F.length dF, .slice BS S.length dS, .slice BR R.length dR, .int .i64 t, .int .i64 u]] w fun e w' => e = .returned (.bool true) ∧ Below w.heap.size w w' := by
  go_enter Try.func48, Try.ntmps48
  go_wp2_with fail
  obtain ⟨w0, hw0⟩ : ∃ w0, w0 = (w.alloc (.cells #[.slice AF F.length cF, .slice AS S.length cS, .slice AR R.length cR, .int .i64 t, .int .i64 u] 62)).alloc (.cells #[.slice BF F.length dF, .slice BS S.length dS, .slice BR R.length dR, .int .i64 t, .int .i64 u] 62) := ⟨_, rfl⟩
  rw [← hw0]
  have ba : BoxAt w0 w.heap.size (.slice AF F.length cF) (.slice AS S.length cS) (.slice AR R.length cR) (.int .i64 t) (.int .i64 u) := by rw [hw0]; exact (BoxAt.fresh w _ _ _ _ _ _).more _
  have br : BoxAt w0 (w.heap.size + 1) (.slice BF F.length dF) (.slice BS S.length dS) (.slice BR R.length dR) (.int .i64 t) (.int .i64 u) := by
    have h1 := BoxAt.fresh (w.alloc (.cells #[.slice AF F.length cF, .slice AS S.length cS, .slice AR R.length cR, .int .i64 t, .int .i64 u] 62)) (.slice BF F.length dF) (.slice BS S.length dS) (.slice BR R.length dR) (.int .i64 t) (.int .i64 u) 62
    rw [World.size_alloc] at h1
    rw [hw0]; exact h1
  have hb0 : Below w.heap.size w w0 := by rw [hw0]; go_grown
  clear hw0
  refine (c_eqTileS_same AF BF cF dF F w0 (hF.below hb0) (gF.below hb0) lF).mono ?_
  rintro e w1 ⟨rfl, hb1⟩
  have hb1' := bstep hb0 hb1
  have ba1 := ba.keep hb1
  have br1 := br.keep hb1
  have x1 := ba1.c1
  have y1 := br1.c1
  clear ba br hb0 hb1
  go_wp2_with fail
  refine (c_eqTileS_same AS BS cS dS S w1 (hS.below hb1') (gS.below hb1') lS).mono ?_
  rintro e w2 ⟨rfl, hb2⟩
  have hb2' := bstep hb1' hb2
  have ba2 := ba1.keep hb2
  have br2 := br1.keep hb2
  have x2 := ba2.c2
  have y2 := br2.c2
  clear ba1 br1 hb1' hb2 x1 y1
  go_wp2_with fail
  refine (c_eqIntS_same AR BR cR dR R w2 (hR.below hb2') (gR.below hb2') lR).mono ?_
  rintro e w3 ⟨rfl, hb3⟩
  have hb3' := bstep hb2' hb3
  have ba3 := ba2.keep hb3
  have br3 := br2.keep hb3
  have x3 := ba3.c3
  have y3 := br3.c3
  have x4 := ba3.c4
  have y4 := br3.c4
  clear ba2 br2 hb2' hb3 x2 y2 ba3 br3
  go_wp2
  go_ret
  exact ⟨rfl, hb3'⟩

end Go.Proofs.Ytjdnkcdnppcbhaa

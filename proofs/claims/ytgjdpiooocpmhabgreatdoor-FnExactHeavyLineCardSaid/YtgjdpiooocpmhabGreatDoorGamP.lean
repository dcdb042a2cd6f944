/- The points of games: both sides. -/
import Derived.Test.YtgjdpiooocpmhabGreatDoorGameL
import Derived.Test.YtgjdpiooocpmhabGreatDoorSets
namespace Go.Proofs.YtgjdpiooocpmhabGreatDoor
open Go.RowKit
set_option linter.unusedVariables false

set_option maxRecDepth 100000 in
set_option maxHeartbeats 1000000 in
theorem c_plPoints (AF : Option Addr) (cF : Nat) (F : List (Int × Int)) (AS : Option Addr) (cS : Nat) (S : List (Int × Int)) (AR : Option Addr) (cR : Nat) (R : List Int) (t u : Int) (w : World) (hF : RdT w AF F) (hS : RdT w AS S) (gF : handB F = true) (gS : handB S = true) :
    Calls Tryz.prog 80 #[.agg #[.slice AF F.length cF, .slice AS S.length cS, .slice AR R.length cR, .int .i64 t, .int .i64 u]] w fun e w' => e = .returned (.int .i64 (pipsI S - pipsI F)) ∧ Below w.heap.size w w' := by
  have conF := Lib.hid (fun W (hb : Below w.heap.size w W) => c_tiPips AF cF F W (hF.below hb) (handB_good gF).1 (handB_good gF).2)
  have conS := Lib.hid (fun W (hb : Below w.heap.size w W) => c_tiPips AS cS S W (hS.below hb) (handB_good gS).1 (handB_good gS).2)
  have bF := pipsI_bd (handB_good gF).2 F.length (Nat.le_refl _)
  have bS := pipsI_bd (handB_good gS).2 S.length (Nat.le_refl _)
  rw [List.take_length] at bF bS
  have mF := (handB_good gF).1
  have mS := (handB_good gS).1
  have iw : IntKind.i64.wrap (pipsI S - pipsI F) = pipsI S - pipsI F := IntWalk.i64_in _ (by omega)
  have Iw := Lib.hid iw
  clear iw
  clear hF hS gF gS
  go_enter Tryz.func80, Tryz.ntmps80
  go_wp2_with fail
  obtain ⟨w0, hw0⟩ : ∃ w0, w0 = w.alloc (.cells #[.slice AF F.length cF, .slice AS S.length cS, .slice AR R.length cR, .int .i64 t, .int .i64 u] 32) := ⟨_, rfl⟩
  rw [← hw0]
  have ba0 : BoxAt w0 w.heap.size (.slice AF F.length cF) (.slice AS S.length cS) (.slice AR R.length cR) (.int .i64 t) (.int .i64 u) := by rw [hw0]; exact BoxAt.fresh w _ _ _ _ _ _
  have hb0 : Below w.heap.size w w0 := by rw [hw0]; go_grown
  clear hw0
  have x0 := ba0.c0
  have x1 := ba0.c1
  have x2 := ba0.c2
  have x3 := ba0.c3
  have x4 := ba0.c4
  have hbd : Below w.heap.size w w0.drew := hb0.drew
  go_region_held3 (fun w' => w'.cell? ⟨w.heap.size, 0, none⟩ = some (.slice AF F.length cF) ∧ w'.cell? ⟨w.heap.size, 1, none⟩ = some (.slice AS S.length cS)) (first | exact ⟨z0, z1⟩ | exact ⟨y0, y1⟩ | go_keep) (first | (go_at_call_of 98 (Value.slice AS S.length cS); refine (conS.out _ hbd).mono ?_; rintro e w1 ⟨rfl, h1⟩; have y0 := keepc h1 (gdG _ x0); have y1 := keepc h1 (gdG _ x1); have hb1 := bstep hbd h1) | (go_at_call_of 98 (Value.slice AF F.length cF); refine (conF.out _ hb1).mono ?_; rintro e w2 ⟨rfl, h2⟩; have z0 := keepc h2 y0; have z1 := keepc h2 y1; have hb2 := bstep hb1 h2))
  go_wp2
  go_ret
  exact ⟨ret_i Iw.out, hb2⟩

set_option maxRecDepth 100000 in
set_option maxHeartbeats 1000000 in
theorem c_points (AF : Option Addr) (cF : Nat) (F : List (Int × Int)) (AS : Option Addr) (cS : Nat) (S : List (Int × Int)) (AR : Option Addr) (cR : Nat) (R : List Int) (t u : Int) (w : World) (hF : RdT w AF F) (hS : RdT w AS S) (gF : handB F = true) (gS : handB S = true) :
    Calls Tryz.prog 173 #[.agg #[.slice AF F.length cF, .slice AS S.length cS, .slice AR R.length cR, .int .i64 t, .int .i64 u]] w fun e w' => e = .returned (.int .i64 (pipsI S - pipsI F)) ∧ Below w.heap.size w w' := by
  have eF : pipsV F = pipsI F := by unfold pipsV; rw [gF]; rfl
  have eS : pipsV S = pipsI S := by unfold pipsV; rw [gS]; rfl
  have conF := fun W (hb : Below w.heap.size w W) => c_implPipsOf AF cF F W (hF.below hb) (by have := (handB_good gF).1; omega)
  have conS := fun W (hb : Below w.heap.size w W) => c_implPipsOf AS cS S W (hS.below hb) (by have := (handB_good gS).1; omega)
  simp only [eF, gF] at conF
  simp only [eS, gS] at conS
  have ConF := Lib.hid conF
  have ConS := Lib.hid conS
  have bF := pipsI_bd (handB_good gF).2 F.length (Nat.le_refl _)
  have bS := pipsI_bd (handB_good gS).2 S.length (Nat.le_refl _)
  rw [List.take_length] at bF bS
  have mF := (handB_good gF).1
  have mS := (handB_good gS).1
  have iw : IntKind.i64.wrap (pipsI S - pipsI F) = pipsI S - pipsI F := IntWalk.i64_in _ (by omega)
  have Iw := Lib.hid iw
  clear iw
  clear hF hS gF gS conF conS eF eS
  go_enter Tryz.func173, Tryz.ntmps173
  go_wp2_with fail
  obtain ⟨w0, hw0⟩ : ∃ w0, w0 = w.alloc (.cells #[.slice AF F.length cF, .slice AS S.length cS, .slice AR R.length cR, .int .i64 t, .int .i64 u] 32) := ⟨_, rfl⟩
  rw [← hw0]
  have ba0 : BoxAt w0 w.heap.size (.slice AF F.length cF) (.slice AS S.length cS) (.slice AR R.length cR) (.int .i64 t) (.int .i64 u) := by rw [hw0]; exact BoxAt.fresh w _ _ _ _ _ _
  have hb0 : Below w.heap.size w w0 := by rw [hw0]; go_grown
  clear hw0
  refine (ConF.out w0 hb0).mono ?_
  rintro e w1 ⟨rfl, h1⟩
  have hb1 := bstep hb0 h1
  have ba1 := ba0.keep h1
  clear ba0
  have x0 := ba1.c0
  have x1 := ba1.c1
  have x2 := ba1.c2
  have x3 := ba1.c3
  have x4 := ba1.c4
  go_wp2_with fail
  refine (ConS.out w1 hb1).mono ?_
  rintro e w2 ⟨rfl, h2⟩
  have hb2 := bstep hb1 h2
  have ba2 := ba1.keep h2
  clear x0 x1 x2 x3 x4
  clear ba1
  have x0 := ba2.c0
  have x1 := ba2.c1
  have x2 := ba2.c2
  have x3 := ba2.c3
  have x4 := ba2.c4
  go_wp2
  go_ret
  exact ⟨(by first | rfl | exact ret_i Iw.out), hb2⟩

def ptsB (F S : List (Int × Int)) (R : List Int) (t u : Int) : Bool := gameB F S R t u && overB F.length S.length u
def ptsV (F S : List (Int × Int)) (R : List Int) (t u : Int) : Int := if ptsB F S R t u then pipsI S - pipsI F else 0

end Go.Proofs.YtgjdpiooocpmhabGreatDoor

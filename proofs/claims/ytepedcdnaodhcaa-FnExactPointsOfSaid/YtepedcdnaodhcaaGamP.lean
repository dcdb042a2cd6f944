/- The points of games: both sides. -/
import Derived.Test.YtepedcdnaodhcaaGamI
import Derived.Test.YtepedcdnaodhcaaCount
namespace Go.Proofs.Ytepedcdnaodhcaa
open Go.RowKit
set_option linter.unusedVariables false

set_option maxRecDepth 100000 in
set_option maxHeartbeats 1000000 in
theorem c_plPoints (AF : Option Addr) (cF : Nat) (F : List (Int × Int)) (AS : Option Addr) (cS : Nat) (S : List (Int × Int)) (AR : Option Addr) (cR : Nat) (R : List Int) (t u : Int) (w : World) (hF : RdT w AF F) (hS : RdT w AS S) (gF : handB F = true) (gS : handB S = true) :
    Calls Try.prog 72 #[.agg #[.slice AF F.length cF, .slice AS S.length cS, .slice AR R.length cR, .int .i64 t, .int .i64 u]] w fun e w' => e = .returned (.int .i64 (pipsI S - pipsI F)) ∧ Below w.heap.size w w' := by
  have conF := Lib.hid (fun W (hb : Below w.heap.size w W) => c_tiPips AF cF F W (hF.below hb) (handB_good gF).1 (handB_good gF).2)
  have conS := Lib.hid (fun W (hb : Below w.heap.size w W) => c_tiPips AS cS S W (hS.below hb) (handB_good gS).1 (handB_good gS).2)
  have bF := pipsI_bd (handB_good gF).2 F.length (Nat.le_refl _)
  have bS := pipsI_bd (handB_good gS).2 S.length (Nat.le_refl _)
  rw [List.take_length] at bF bS
  have mF := (handB_good gF).1
  have mS := (handB_good gS).1
  have iw : IntKind.i64.wrap (pipsI S - pipsI F) = pipsI S - pipsI F := IntWalk.i64_in _ (by omega)
  have Iw := Lib.hid iw
  clear iw
  clear hF hS gF gS
  go_enter Try.func72, Try.ntmps72
  go_wp2_with fail
  obtain ⟨w0, hw0⟩ : ∃ w0, w0 = w.alloc (.cells #[.slice AF F.length cF, .slice AS S.length cS, .slice AR R.length cR, .int .i64 t, .int .i64 u] 30) := ⟨_, rfl⟩
  rw [← hw0]
  have ba0 : BoxAt w0 w.heap.size (.slice AF F.length cF) (.slice AS S.length cS) (.slice AR R.length cR) (.int .i64 t) (.int .i64 u) := by rw [hw0]; exact BoxAt.fresh w _ _ _ _ _ _
  have hb0 : Below w.heap.size w w0 := by rw [hw0]; go_grown
  clear hw0
  have x0 := ba0.c0
  have x1 := ba0.c1
  have x2 := ba0.c2
  have x3 := ba0.c3
  have x4 := ba0.c4
  have hbd : Below w.heap.size w w0.drew := hb0.drew
  go_region_held3 (fun w' => w'.cell? ⟨w.heap.size, 0, none⟩ = some (.slice AF F.length cF) ∧ w'.cell? ⟨w.heap.size, 1, none⟩ = some (.slice AS S.length cS)) (first | exact ⟨z0, z1⟩ | exact ⟨y0, y1⟩ | go_keep) (first | (go_at_call_of 111 (Value.slice AS S.length cS); refine (conS.out _ hbd).mono ?_; rintro e w1 ⟨rfl, h1⟩; have y0 := keepc h1 (gdG _ x0); have y1 := keepc h1 (gdG _ x1); have hb1 := bstep hbd h1) | (go_at_call_of 111 (Value.slice AF F.length cF); refine (conF.out _ hb1).mono ?_; rintro e w2 ⟨rfl, h2⟩; have z0 := keepc h2 y0; have z1 := keepc h2 y1; have hb2 := bstep hb1 h2))
  go_wp2
  go_ret
  exact ⟨ret_i Iw.out, hb2⟩

set_option maxRecDepth 100000 in
set_option maxHeartbeats 1000000 in
theorem c_points (AF : Option Addr) (cF : Nat) (F : List (Int × Int)) (AS : Option Addr) (cS : Nat) (S : List (Int × Int)) (AR : Option Addr) (cR : Nat) (R : List Int) (t u : Int) (w : World) (hF : RdT w AF F) (hS : RdT w AS S) (gF : handB F = true) (gS : handB S = true) :
    Calls Try.prog 73 #[.agg #[.slice AF F.length cF, .slice AS S.length cS, .slice AR R.length cR, .int .i64 t, .int .i64 u]] w fun e w' => e = .returned (.int .i64 (pipsI S - pipsI F)) ∧ Below w.heap.size w w' := by
  have eF : pipsV F = pipsI F := by unfold pipsV; rw [gF]; rfl
  have eS : pipsV S = pipsI S := by unfold pipsV; rw [gS]; rfl
  have conF := fun W (hb : Below w.heap.size w W) => c_implPipsOf AF cF F W (hF.below hb) (by have := (handB_good gF).1; omega)
  have conS := fun W (hb : Below w.heap.size w W) => c_implPipsOf AS cS S W (hS.below hb) (by have := (handB_good gS).1; omega)
  simp only [eF, gF] at conF
  simp only [eS, gS] at conS
  have ConF := Lib.hid conF
  have ConS := Lib.hid conS
  have bF := pipsI_bd (handB_good gF).2 F.length (Nat.le_refl _)
  have bS := pipsI_bd (handB_good gS).2 S.length (Nat.le_refl _)
  rw [List.take_length] at bF bS
  have mF := (handB_good gF).1
  have mS := (handB_good gS).1
  have iw : IntKind.i64.wrap (pipsI S - pipsI F) = pipsI S - pipsI F := IntWalk.i64_in _ (by omega)
  have Iw := Lib.hid iw
  clear iw
  clear hF hS gF gS conF conS eF eS
  go_enter Try.func73, Try.ntmps73
  go_wp2_with fail
  obtain ⟨w0, hw0⟩ : ∃ w0, w0 = w.alloc (.cells #[.slice AF F.length cF, .slice AS S.length cS, .slice AR R.length cR, .int .i64 t, .int .i64 u] 30) := ⟨_, rfl⟩
  rw [← hw0]
  have ba0 : BoxAt w0 w.heap.size (.slice AF F.length cF) (.slice AS S.length cS) (.slice AR R.length cR) (.int .i64 t) (.int .i64 u) := by rw [hw0]; exact BoxAt.fresh w _ _ _ _ _ _
  have hb0 : Below w.heap.size w w0 := by rw [hw0]; go_grown
  clear hw0
  refine (ConF.out w0 hb0).mono ?_
  rintro e w1 ⟨rfl, h1⟩
  have hb1 := bstep hb0 h1
  have ba1 := ba0.keep h1
  clear ba0
  have x0 := ba1.c0
  have x1 := ba1.c1
  have x2 := ba1.c2
  have x3 := ba1.c3
  have x4 := ba1.c4
  go_wp2_with fail
  refine (ConS.out w1 hb1).mono ?_
  rintro e w2 ⟨rfl, h2⟩
  have hb2 := bstep hb1 h2
  have ba2 := ba1.keep h2
  clear x0 x1 x2 x3 x4
  clear ba1
  have x0 := ba2.c0
  have x1 := ba2.c1
  have x2 := ba2.c2
  have x3 := ba2.c3
  have x4 := ba2.c4
  go_wp2
  go_ret
  exact ⟨(by first | rfl | exact ret_i Iw.out), hb2⟩

def ptsB (F S : List (Int × Int)) (R : List Int) (t u : Int) : Bool := gameB F S R t u && overB F.length S.length u
def ptsV (F S : List (Int × Int)) (R : List Int) (t u : Int) : Int := if ptsB F S R t u then pipsI S - pipsI F else 0

set_option maxRecDepth 100000 in
set_option maxHeartbeats 1000000 in
theorem c_specPointsOf (AF : Option Addr) (cF : Nat) (F : List (Int × Int)) (AS : Option Addr) (cS : Nat) (S : List (Int × Int)) (AR : Option Addr) (cR : Nat) (R : List Int) (t u : Int) (w : World) (hF : RdT w AF F) (hS : RdT w AS S) (hR : RdI w AR R) (lF : F.length ≤ 1048576) (lS : S.length ≤ 1048576) (lR : R.length ≤ 1048576) (kF : F.length ≤ cF) (kS : S.length ≤ cS) :
    Calls Try.prog 29 #[.agg #[.slice AF F.length cF, .slice AS S.length cS, .slice AR R.length cR, .int .i64 t, .int .i64 u]] w fun e w' => e = .returned (.tuple #[.int .i64 (ptsV F S R t u), .bool (ptsB F S R t u)]) ∧ Below w.heap.size w w' := by
  have con := fun W (hb : Below w.heap.size w W) => c_plGood AF cF F AS cS S AR cR R t u W (hF.below hb) (hS.below hb) (hR.below hb) lF lS lR kF kS
  have conO := fun W => c_plOver AF F.length cF AS S.length cS AR R.length cR t u W
  have conP := fun W (hb : Below w.heap.size w W) (gF : handB F = true) (gS : handB S = true) => c_plPoints AF cF F AS cS S AR cR R t u W (hF.below hb) (hS.below hb) gF gS
  unfold ptsV ptsB
  cases hg : gameB F S R t u
  · simp only [hg] at con
    rw [Bool.false_and]
    have Con := Lib.hid con
    clear con conO conP hg hF hS hR
    go_enter Try.func29, Try.ntmps29
    go_wp2_with fail
    obtain ⟨w0, hw0⟩ : ∃ w0, w0 = w.alloc (.cells #[.slice AF F.length cF, .slice AS S.length cS, .slice AR R.length cR, .int .i64 t, .int .i64 u] 30) := ⟨_, rfl⟩
    rw [← hw0]
    have ba0 : BoxAt w0 w.heap.size (.slice AF F.length cF) (.slice AS S.length cS) (.slice AR R.length cR) (.int .i64 t) (.int .i64 u) := by rw [hw0]; exact BoxAt.fresh w _ _ _ _ _ _
    have hb0 : Below w.heap.size w w0 := by rw [hw0]; go_grown
    clear hw0
    refine (Con.out w0 hb0).mono ?_
    rintro e w1 ⟨rfl, h1⟩
    have hb1 := bstep hb0 h1
    have ba1 := ba0.keep h1
    clear ba0
    have x0 := ba1.c0
    have x1 := ba1.c1
    have x2 := ba1.c2
    have x3 := ba1.c3
    have x4 := ba1.c4
    go_wp2
    go_ret2
    exact ⟨rfl, hb1⟩
  obtain ⟨_, _, gF, gS, _⟩ := gameB_parts hg
  simp only [hg] at con
  rw [Bool.true_and]
  cases ho : overB F.length S.length u
  · simp only [ho] at conO
    have Con := Lib.hid con
    have ConO := Lib.hid conO
    clear con conO conP hg ho hF hS hR gF gS
    go_enter Try.func29, Try.ntmps29
    go_wp2_with fail
    obtain ⟨w0, hw0⟩ : ∃ w0, w0 = w.alloc (.cells #[.slice AF F.length cF, .slice AS S.length cS, .slice AR R.length cR, .int .i64 t, .int .i64 u] 30) := ⟨_, rfl⟩
    rw [← hw0]
    have ba0 : BoxAt w0 w.heap.size (.slice AF F.length cF) (.slice AS S.length cS) (.slice AR R.length cR) (.int .i64 t) (.int .i64 u) := by rw [hw0]; exact BoxAt.fresh w _ _ _ _ _ _
    have hb0 : Below w.heap.size w w0 := by rw [hw0]; go_grown
    clear hw0
    refine (Con.out w0 hb0).mono ?_
    rintro e w1 ⟨rfl, h1⟩
    have hb1 := bstep hb0 h1
    have ba1 := ba0.keep h1
    clear ba0
    have x0 := ba1.c0
    have x1 := ba1.c1
    have x2 := ba1.c2
    have x3 := ba1.c3
    have x4 := ba1.c4
    go_wp2_with fail
    refine (ConO.out w1).mono ?_
    rintro e w2 ⟨rfl, h2⟩
    have hb2 := bstep hb1 h2
    have ba2 := ba1.keep h2
    clear x0 x1 x2 x3 x4
    clear ba1
    have x0 := ba2.c0
    have x1 := ba2.c1
    have x2 := ba2.c2
    have x3 := ba2.c3
    have x4 := ba2.c4
    go_wp2
    go_ret2
    exact ⟨rfl, hb2⟩
  · simp only [ho] at conO
    rw [if_pos rfl]
    have Con := Lib.hid con
    have ConO := Lib.hid conO
    have ConP := Lib.hid (fun W hb => conP W hb gF gS)
    clear con conO conP hg ho hF hS hR gF gS
    go_enter Try.func29, Try.ntmps29
    go_wp2_with fail
    obtain ⟨w0, hw0⟩ : ∃ w0, w0 = w.alloc (.cells #[.slice AF F.length cF, .slice AS S.length cS, .slice AR R.length cR, .int .i64 t, .int .i64 u] 30) := ⟨_, rfl⟩
    rw [← hw0]
    have ba0 : BoxAt w0 w.heap.size (.slice AF F.length cF) (.slice AS S.length cS) (.slice AR R.length cR) (.int .i64 t) (.int .i64 u) := by rw [hw0]; exact BoxAt.fresh w _ _ _ _ _ _
    have hb0 : Below w.heap.size w w0 := by rw [hw0]; go_grown
    clear hw0
    refine (Con.out w0 hb0).mono ?_
    rintro e w1 ⟨rfl, h1⟩
    have hb1 := bstep hb0 h1
    have ba1 := ba0.keep h1
    clear ba0
    have x0 := ba1.c0
    have x1 := ba1.c1
    have x2 := ba1.c2
    have x3 := ba1.c3
    have x4 := ba1.c4
    go_wp2_with fail
    refine (ConO.out w1).mono ?_
    rintro e w2 ⟨rfl, h2⟩
    have hb2 := bstep hb1 h2
    have ba2 := ba1.keep h2
    clear x0 x1 x2 x3 x4
    clear ba1
    have x0 := ba2.c0
    have x1 := ba2.c1
    have x2 := ba2.c2
    have x3 := ba2.c3
    have x4 := ba2.c4
    go_wp2_with fail
    refine (ConP.out w2 hb2).mono ?_
    rintro e w3 ⟨rfl, h3⟩
    have hb3 := bstep hb2 h3
    have ba3 := ba2.keep h3
    clear x0 x1 x2 x3 x4
    clear ba2
    have x0 := ba3.c0
    have x1 := ba3.c1
    have x2 := ba3.c2
    have x3 := ba3.c3
    have x4 := ba3.c4
    go_wp2
    go_ret2
    exact ⟨rfl, hb3⟩

set_option maxRecDepth 100000 in
set_option maxHeartbeats 1000000 in
theorem c_implPointsOf (AF : Option Addr) (cF : Nat) (F : List (Int × Int)) (AS : Option Addr) (cS : Nat) (S : List (Int × Int)) (AR : Option Addr) (cR : Nat) (R : List Int) (t u : Int) (w : World) (hF : RdT w AF F) (hS : RdT w AS S) (hR : RdI w AR R) (lFS : F.length + S.length ≤ 1048576) (lR : R.length ≤ 1048576) :
    Calls Try.prog 30 #[.agg #[.slice AF F.length cF, .slice AS S.length cS, .slice AR R.length cR, .int .i64 t, .int .i64 u]] w fun e w' => e = .returned (.tuple #[.int .i64 (ptsV F S R t u), .bool (ptsB F S R t u)]) ∧ Below w.heap.size w w' := by
  have con := fun W (hb : Below w.heap.size w W) => c_implIsGame AF cF F AS cS S AR cR R t u W (hF.below hb) (hS.below hb) (hR.below hb) lFS lR
  have conO := fun W => c_isOver AF F.length cF AS S.length cS AR R.length cR t u W
  have conP := fun W (hb : Below w.heap.size w W) (gF : handB F = true) (gS : handB S = true) => c_points AF cF F AS cS S AR cR R t u W (hF.below hb) (hS.below hb) gF gS
  unfold ptsV ptsB
  cases hg : gameB F S R t u
  · simp only [hg] at con
    rw [Bool.false_and]
    have Con := Lib.hid con
    clear con conO conP hg hF hS hR
    go_enter Try.func30, Try.ntmps30
    go_wp2_with fail
    obtain ⟨w0, hw0⟩ : ∃ w0, w0 = w.alloc (.cells #[.slice AF F.length cF, .slice AS S.length cS, .slice AR R.length cR, .int .i64 t, .int .i64 u] 30) := ⟨_, rfl⟩
    rw [← hw0]
    have ba0 : BoxAt w0 w.heap.size (.slice AF F.length cF) (.slice AS S.length cS) (.slice AR R.length cR) (.int .i64 t) (.int .i64 u) := by rw [hw0]; exact BoxAt.fresh w _ _ _ _ _ _
    have hb0 : Below w.heap.size w w0 := by rw [hw0]; go_grown
    clear hw0
    refine (Con.out w0 hb0).mono ?_
    rintro e w1 ⟨rfl, h1⟩
    have hb1 := bstep hb0 h1
    have ba1 := ba0.keep h1
    clear ba0
    have x0 := ba1.c0
    have x1 := ba1.c1
    have x2 := ba1.c2
    have x3 := ba1.c3
    have x4 := ba1.c4
    go_wp2
    go_ret2
    exact ⟨rfl, hb1⟩
  obtain ⟨_, _, gF, gS, _⟩ := gameB_parts hg
  simp only [hg] at con
  rw [Bool.true_and]
  cases ho : overB F.length S.length u
  · simp only [ho] at conO
    have Con := Lib.hid con
    have ConO := Lib.hid conO
    clear con conO conP hg ho hF hS hR gF gS
    go_enter Try.func30, Try.ntmps30
    go_wp2_with fail
    obtain ⟨w0, hw0⟩ : ∃ w0, w0 = w.alloc (.cells #[.slice AF F.length cF, .slice AS S.length cS, .slice AR R.length cR, .int .i64 t, .int .i64 u] 30) := ⟨_, rfl⟩
    rw [← hw0]
    have ba0 : BoxAt w0 w.heap.size (.slice AF F.length cF) (.slice AS S.length cS) (.slice AR R.length cR) (.int .i64 t) (.int .i64 u) := by rw [hw0]; exact BoxAt.fresh w _ _ _ _ _ _
    have hb0 : Below w.heap.size w w0 := by rw [hw0]; go_grown
    clear hw0
    refine (Con.out w0 hb0).mono ?_
    rintro e w1 ⟨rfl, h1⟩
    have hb1 := bstep hb0 h1
    have ba1 := ba0.keep h1
    clear ba0
    have x0 := ba1.c0
    have x1 := ba1.c1
    have x2 := ba1.c2
    have x3 := ba1.c3
    have x4 := ba1.c4
    go_wp2_with fail
    refine (ConO.out w1).mono ?_
    rintro e w2 ⟨rfl, h2⟩
    have hb2 := bstep hb1 h2
    have ba2 := ba1.keep h2
    clear x0 x1 x2 x3 x4
    clear ba1
    have x0 := ba2.c0
    have x1 := ba2.c1
    have x2 := ba2.c2
    have x3 := ba2.c3
    have x4 := ba2.c4
    go_wp2
    go_ret2
    exact ⟨rfl, hb2⟩
  · simp only [ho] at conO
    rw [if_pos rfl]
    have Con := Lib.hid con
    have ConO := Lib.hid conO
    have ConP := Lib.hid (fun W hb => conP W hb gF gS)
    clear con conO conP hg ho hF hS hR gF gS
    go_enter Try.func30, Try.ntmps30
    go_wp2_with fail
    obtain ⟨w0, hw0⟩ : ∃ w0, w0 = w.alloc (.cells #[.slice AF F.length cF, .slice AS S.length cS, .slice AR R.length cR, .int .i64 t, .int .i64 u] 30) := ⟨_, rfl⟩
    rw [← hw0]
    have ba0 : BoxAt w0 w.heap.size (.slice AF F.length cF) (.slice AS S.length cS) (.slice AR R.length cR) (.int .i64 t) (.int .i64 u) := by rw [hw0]; exact BoxAt.fresh w _ _ _ _ _ _
    have hb0 : Below w.heap.size w w0 := by rw [hw0]; go_grown
    clear hw0
    refine (Con.out w0 hb0).mono ?_
    rintro e w1 ⟨rfl, h1⟩
    have hb1 := bstep hb0 h1
    have ba1 := ba0.keep h1
    clear ba0
    have x0 := ba1.c0
    have x1 := ba1.c1
    have x2 := ba1.c2
    have x3 := ba1.c3
    have x4 := ba1.c4
    go_wp2_with fail
    refine (ConO.out w1).mono ?_
    rintro e w2 ⟨rfl, h2⟩
    have hb2 := bstep hb1 h2
    have ba2 := ba1.keep h2
    clear x0 x1 x2 x3 x4
    clear ba1
    have x0 := ba2.c0
    have x1 := ba2.c1
    have x2 := ba2.c2
    have x3 := ba2.c3
    have x4 := ba2.c4
    go_wp2_with fail
    refine (ConP.out w2 hb2).mono ?_
    rintro e w3 ⟨rfl, h3⟩
    have hb3 := bstep hb2 h3
    have ba3 := ba2.keep h3
    clear x0 x1 x2 x3 x4
    clear ba2
    have x0 := ba3.c0
    have x1 := ba3.c1
    have x2 := ba3.c2
    have x3 := ba3.c3
    have x4 := ba3.c4
    go_wp2
    go_ret2
    exact ⟨rfl, hb3⟩

end Go.Proofs.Ytepedcdnaodhcaa

/- Games made of two hands, and exchanged: both sides. -/
import Derived.Test.YtepedcdnaodhcaaGamC
import Derived.Test.YtepedcdnaodhcaaGamI
import Derived.Deep.Cut
namespace Go.Proofs.Ytepedcdnaodhcaa
open Go.RowKit
set_option linter.unusedVariables false

def selT (b : Bool) (ts : List (Int × Int)) : List (Int × Int) := if b then ts else []
def selI (b : Bool) (xs : List Int) : List Int := if b then xs else []
def selV (b : Bool) (x : Int) : Int := if b then x else 0
theorem sel_len3 (b : Bool) (X Y : List (Int × Int)) (Z : List Int) {M : Nat} (h : X.length + Y.length + Z.length ≤ M) : (selT b X).length + (selT b Y).length + (selI b Z).length ≤ M := by
  cases b
  · simp [selT, selI]
  · exact h
/-- A game, if there is one. -/
def RetGs (w : World) (F S : List (Int × Int)) (R : List Int) (t u : Int) (b : Bool) : Ending → World → Prop := RetGB w (selT b F) (selT b S) (selI b R) (selV b t) (selV b u) b
theorem retGs_no {w w' : World} {F S : List (Int × Int)} {R : List Int} {t u : Int} (hb : Below w.heap.size w w') : RetGs w F S R t u false (.returned (.tuple #[.agg #[.slice none 0 0, .slice none 0 0, .slice none 0 0, .int .i64 0, .int .i64 0], .bool false])) w' :=
  ⟨none, 0, none, 0, none, 0, rfl, OwnG.none_ _ _ _, hb⟩
theorem retGs_yes {w w' : World} {F S : List (Int × Int)} {R : List Int} {t u : Int} {AF : Option Addr} {cF : Nat} {AS : Option Addr} {cS : Nat} {AR : Option Addr} {cR : Nat}
    (ho : OwnG w' w.heap.size w'.heap.size (.slice AF F.length cF) F.length F (.slice AS S.length cS) S.length S (.slice AR R.length cR) R.length R) (hb : Below w.heap.size w w') : RetGs w F S R t u true (.returned (.tuple #[.agg #[.slice AF F.length cF, .slice AS S.length cS, .slice AR R.length cR, .int .i64 t, .int .i64 u], .bool true])) w' :=
  ⟨AF, cF, AS, cS, AR, cR, rfl, ho, hb⟩

set_option maxRecDepth 100000 in
set_option maxHeartbeats 2000000 in
theorem c_specGameOf (A0 : Option Addr) (c0 : Nat) (F : List (Int × Int)) (A1 : Option Addr) (c1 : Nat) (S : List (Int × Int)) (w : World) (hF : RdT w A0 F) (hS : RdT w A1 S) (lF : F.length ≤ 1048576) (lS : S.length ≤ 1048576) :
    Calls Try.prog 20 #[.slice A0 F.length c0, .slice A1 S.length c1] w (RetGs w F S [] 0 0 (gameB F S [] 0 0)) := by
  have con1' := (fun W (hb : Below w.heap.size w W) => c_plOwn A0 c0 F A1 c1 S none 0 [] 0 0 W (hF.below hb) (hS.below hb) RdI.nil_ lF lS (by simp))
  simp only [List.length_nil] at con1'
  have con1 := Lib.hid con1'
  clear con1'
  have con2 := fun AF cF AS cS AR cR W h1 h2 h3 k1 k2 => c_plGood AF cF F AS cS S AR cR [] 0 0 W h1 h2 h3 lF lS (by simp) k1 k2
  simp only [List.length_nil] at con2
  clear hF hS lF lS
  generalize gameB F S [] 0 0 = bg at con2 ⊢
  cases bg
  · have Con2 := Lib.hid con2
    clear con2
    have con2 := Con2
    clear Con2
    go_enter Try.func20, Try.ntmps20
    go_wp2_with fail
    obtain ⟨w0, hw0⟩ : ∃ w0, w0 = w.alloc (.cells #[.slice none 0 0, .slice none 0 0, .slice none 0 0, .int .i64 0, .int .i64 0] 30) := ⟨_, rfl⟩
    rw [← hw0]
    have br0 : BoxAt w0 w.heap.size (.slice none 0 0) (.slice none 0 0) (.slice none 0 0) (.int .i64 0) (.int .i64 0) := by rw [hw0]; exact BoxAt.fresh w _ _ _ _ _ _
    have hb0 : Below w.heap.size w w0 := by rw [hw0]; go_grown
    clear hw0
    refine (con1.out w0 hb0).mono ?_
    rintro e w1 ⟨AF, cF, AS, cS, AR, cR, rfl, o1, h1⟩
    have qb0 := br0.lt
    have br1 := br0.keep h1
    have hb1 := bstep hb0 h1
    clear br0
    go_wp2_with fail
    obtain ⟨w2, hw2⟩ : ∃ w2, w2 = w1.alloc (.cells #[.slice AF F.length cF, .slice AS S.length cS, .slice AR 0 cR, .int .i64 0, .int .i64 0] 30) := ⟨_, rfl⟩
    rw [← hw2]
    have h2 : Below w1.heap.size w1 w2 := by rw [hw2]; exact (Below.refl _ _).alloc (Nat.le_refl _) _
    have bx2 : BoxAt w2 w1.heap.size (.slice AF F.length cF) (.slice AS S.length cS) (.slice AR 0 cR) (.int .i64 0) (.int .i64 0) := by rw [hw2]; exact BoxAt.fresh w1 _ _ _ _ _ _
    have br2 := br1.keep h2
    have hb2 := bstep hb1 h2
    have o2 := o1.keep h2
    clear hw2 br1 o1
    refine (con2.out AF cF AS cS AR cR w2 (RdT.of_own o2.f) (RdT.of_own o2.s) (RdI.of_own (xs := []) o2.r) (own_capG o2.f) (own_capG o2.s)).mono ?_
    rintro e w3 ⟨rfl, h3⟩
    have bx3 := bx2.keep h3
    have br3 := br2.keep h3
    have HQ := Lib.hid (bstep hb2 h3)
    have G3 := Lib.hid (o2.keep h3)
    have q0 := hb0.size
    have q1 := h1.size
    have q3 := br3.lt
    have q4 := qb0
    have x0 := bx3.c0
    have x1 := bx3.c1
    have x2 := bx3.c2
    have x3 := bx3.c3
    have x4 := bx3.c4
    have r0 := br3.c0
    have r1 := br3.c1
    have r2 := br3.c2
    have r3 := br3.c3
    have r4 := br3.c4
    have z0 := br3.fz 0
    have z1 := br3.fz 1
    have z2 := br3.fz 2
    have z3 := br3.fz 3
    have z4 := br3.fz 4
    clear bx2 bx3 br2 br3 o2 h1 h2 h3 hb1 hb2 hb0 con1 con2
    go_wp2
    refine bodyPost_ret (v := .tuple #[.agg #[.slice none 0 0, .slice none 0 0, .slice none 0 0, .int .i64 0, .int .i64 0], .bool false]) (by simp [results, Try.results20, go_sem, r0, r1, r2, r3, r4]) rfl (retGs_no (below_box (below_box (below_box (below_box (below_box HQ.out (by omega)) (by omega)) (by omega)) (by omega)) (by omega)))
  · have Con2 := Lib.hid con2
    clear con2
    have con2 := Con2
    clear Con2
    go_enter Try.func20, Try.ntmps20
    go_wp2_with fail
    obtain ⟨w0, hw0⟩ : ∃ w0, w0 = w.alloc (.cells #[.slice none 0 0, .slice none 0 0, .slice none 0 0, .int .i64 0, .int .i64 0] 30) := ⟨_, rfl⟩
    rw [← hw0]
    have br0 : BoxAt w0 w.heap.size (.slice none 0 0) (.slice none 0 0) (.slice none 0 0) (.int .i64 0) (.int .i64 0) := by rw [hw0]; exact BoxAt.fresh w _ _ _ _ _ _
    have hb0 : Below w.heap.size w w0 := by rw [hw0]; go_grown
    clear hw0
    refine (con1.out w0 hb0).mono ?_
    rintro e w1 ⟨AF, cF, AS, cS, AR, cR, rfl, o1, h1⟩
    have qb0 := br0.lt
    have br1 := br0.keep h1
    have hb1 := bstep hb0 h1
    clear br0
    go_wp2_with fail
    obtain ⟨w2, hw2⟩ : ∃ w2, w2 = w1.alloc (.cells #[.slice AF F.length cF, .slice AS S.length cS, .slice AR 0 cR, .int .i64 0, .int .i64 0] 30) := ⟨_, rfl⟩
    rw [← hw2]
    have h2 : Below w1.heap.size w1 w2 := by rw [hw2]; exact (Below.refl _ _).alloc (Nat.le_refl _) _
    have bx2 : BoxAt w2 w1.heap.size (.slice AF F.length cF) (.slice AS S.length cS) (.slice AR 0 cR) (.int .i64 0) (.int .i64 0) := by rw [hw2]; exact BoxAt.fresh w1 _ _ _ _ _ _
    have br2 := br1.keep h2
    have hb2 := bstep hb1 h2
    have o2 := o1.keep h2
    clear hw2 br1 o1
    refine (con2.out AF cF AS cS AR cR w2 (RdT.of_own o2.f) (RdT.of_own o2.s) (RdI.of_own (xs := []) o2.r) (own_capG o2.f) (own_capG o2.s)).mono ?_
    rintro e w3 ⟨rfl, h3⟩
    have bx3 := bx2.keep h3
    have br3 := br2.keep h3
    have HQ := Lib.hid (bstep hb2 h3)
    have G3 := Lib.hid (o2.keep h3)
    have q0 := hb0.size
    have q1 := h1.size
    have q3 := br3.lt
    have q4 := qb0
    have x0 := bx3.c0
    have x1 := bx3.c1
    have x2 := bx3.c2
    have x3 := bx3.c3
    have x4 := bx3.c4
    have r0 := br3.c0
    have r1 := br3.c1
    have r2 := br3.c2
    have r3 := br3.c3
    have r4 := br3.c4
    have z0 := br3.fz 0
    have z1 := br3.fz 1
    have z2 := br3.fz 2
    have z3 := br3.fz 3
    have z4 := br3.fz 4
    clear bx2 bx3 br2 br3 o2 h1 h2 h3 hb1 hb2 hb0 con1 con2
    go_wp2
    refine bodyPost_ret (v := .tuple #[.agg #[.slice AF F.length cF, .slice AS S.length cS, .slice AR 0 cR, .int .i64 0, .int .i64 0], .bool true]) (by simp [results, Try.results20, go_sem, r0, r1, r2, r3, r4]) rfl (retGs_yes ?_ (below_box (below_box (below_box (below_box (below_box HQ.out (by omega)) (by omega)) (by omega)) (by omega)) (by omega)))
    exact (((((G3.out.box (by omega)).box (by omega)).box (by omega)).box (by omega)).box (by omega)).base (by omega) |>.top (by simp [World.setCell])

set_option maxRecDepth 100000 in
set_option maxHeartbeats 2000000 in
theorem c_tellGC (F2 S2 : List (Int × Int)) (R2 : List Int) (t2 u2 : Int) (AF : Option Addr) (cF : Nat) (F : List (Int × Int)) (AS : Option Addr) (cS : Nat) (S : List (Int × Int)) (AR : Option Addr) (cR : Nat) (R : List Int) (t u : Int) (w : World) (hF : RdT w AF F) (hS : RdT w AS S) (hR : RdI w AR R) (lFS : F.length + S.length ≤ 1048576) (lR : R.length ≤ 1048576)
    (hfn : gameB F S R t u = true → ∀ W, Below w.heap.size w W → Calls Try.prog 65 #[.agg #[.slice AF F.length cF, .slice AS S.length cS, .slice AR R.length cR, .int .i64 t, .int .i64 u]] W (RetG W F2 S2 R2 t2 u2)) :
    Calls Try.prog 64 #[.agg #[.slice AF F.length cF, .slice AS S.length cS, .slice AR R.length cR, .int .i64 t, .int .i64 u], .func (.func 65) #[] #[]] w (RetGs w F2 S2 R2 t2 u2 (gameB F S R t u)) := by
  have con := fun W (hb : Below w.heap.size w W) => c_implIsGame AF cF F AS cS S AR cR R t u W (hF.below hb) (hS.below hb) (hR.below hb) lFS lR
  clear hF hS hR lFS lR
  generalize gameB F S R t u = bg at con hfn ⊢
  cases bg
  · have Con := Lib.hid con
    clear con hfn
    go_enter Try.func64, Try.ntmps64
    go_wp2_with fail
    obtain ⟨w0, hw0⟩ : ∃ w0, w0 = (w.alloc (.cells #[.slice AF F.length cF, .slice AS S.length cS, .slice AR R.length cR, .int .i64 t, .int .i64 u] 30)).alloc (.cells #[.slice none 0 0, .slice none 0 0, .slice none 0 0, .int .i64 0, .int .i64 0] 30) := ⟨_, rfl⟩
    rw [← hw0]
    have ba0 : BoxAt w0 w.heap.size (.slice AF F.length cF) (.slice AS S.length cS) (.slice AR R.length cR) (.int .i64 t) (.int .i64 u) := by rw [hw0]; exact (BoxAt.fresh w _ _ _ _ _ _).more _
    have br0 : BoxAt w0 (w.heap.size + 1) (.slice none 0 0) (.slice none 0 0) (.slice none 0 0) (.int .i64 0) (.int .i64 0) := by
      have h1 := BoxAt.fresh (w.alloc (.cells #[.slice AF F.length cF, .slice AS S.length cS, .slice AR R.length cR, .int .i64 t, .int .i64 u] 30)) (.slice none 0 0) (.slice none 0 0) (.slice none 0 0) (.int .i64 0) (.int .i64 0) 30
      rw [World.size_alloc] at h1
      rw [hw0]; exact h1
    have hb0 : Below w.heap.size w w0 := by rw [hw0]; go_grown
    clear hw0
    refine (Con.out w0 hb0).mono ?_
    rintro e w1 ⟨rfl, h1⟩
    have ba1 := ba0.keep h1
    have br1 := br0.keep h1
    have hb1 := bstep hb0 h1
    clear ba0 br0
    go_upto_region 3 with (fail)
    obtain ⟨w2, hw2⟩ : ∃ w2, w2 = w1.alloc (.cells #[.slice none 0 0, .slice none 0 0, .slice none 0 0, .int .i64 0, .int .i64 0] 30) := ⟨_, rfl⟩
    rw [← hw2]
    have h2 : Below w1.heap.size w1 w2 := by rw [hw2]; exact (Below.refl _ _).alloc (Nat.le_refl _) _
    have bz : BoxAt w2 w1.heap.size (.slice none 0 0) (.slice none 0 0) (.slice none 0 0) (.int .i64 0) (.int .i64 0) := by rw [hw2]; exact BoxAt.fresh w1 _ _ _ _ _ _
    have br2 := br1.keep h2
    have hb2 := bstep hb1 h2
    clear hw2
    have x0 := bz.c0
    have x1 := bz.c1
    have x2 := bz.c2
    have x3 := bz.c3
    have x4 := bz.c4
    have r0 := br2.c0
    have r1 := br2.c1
    have r2 := br2.c2
    have r3 := br2.c3
    have r4 := br2.c4
    have z0 := br2.fz 0
    have z1 := br2.fz 1
    have z2 := br2.fz 2
    have z3 := br2.fz 3
    have z4 := br2.fz 4
    clear ba1 br1 br2 bz h1 h2 hb0 hb1
    go_wp2
    refine bodyPost_ret (v := .tuple #[.agg #[.slice none 0 0, .slice none 0 0, .slice none 0 0, .int .i64 0, .int .i64 0], .bool false]) (by simp [results, Try.results64, go_sem, r0, r1, r2, r3, r4]) rfl (retGs_no ?_)
    exact (below_box (below_box (below_box (below_box (below_box hb2 (by omega)) (by omega)) (by omega)) (by omega)) (by omega))
  · have Con := Lib.hid con
    have Con2 := Lib.hid (hfn rfl)
    clear con hfn
    go_enter Try.func64, Try.ntmps64
    go_wp2_with fail
    obtain ⟨w0, hw0⟩ : ∃ w0, w0 = (w.alloc (.cells #[.slice AF F.length cF, .slice AS S.length cS, .slice AR R.length cR, .int .i64 t, .int .i64 u] 30)).alloc (.cells #[.slice none 0 0, .slice none 0 0, .slice none 0 0, .int .i64 0, .int .i64 0] 30) := ⟨_, rfl⟩
    rw [← hw0]
    have ba0 : BoxAt w0 w.heap.size (.slice AF F.length cF) (.slice AS S.length cS) (.slice AR R.length cR) (.int .i64 t) (.int .i64 u) := by rw [hw0]; exact (BoxAt.fresh w _ _ _ _ _ _).more _
    have br0 : BoxAt w0 (w.heap.size + 1) (.slice none 0 0) (.slice none 0 0) (.slice none 0 0) (.int .i64 0) (.int .i64 0) := by
      have h1 := BoxAt.fresh (w.alloc (.cells #[.slice AF F.length cF, .slice AS S.length cS, .slice AR R.length cR, .int .i64 t, .int .i64 u] 30)) (.slice none 0 0) (.slice none 0 0) (.slice none 0 0) (.int .i64 0) (.int .i64 0) 30
      rw [World.size_alloc] at h1
      rw [hw0]; exact h1
    have hb0 : Below w.heap.size w w0 := by rw [hw0]; go_grown
    clear hw0
    refine (Con.out w0 hb0).mono ?_
    rintro e w1 ⟨rfl, h1⟩
    have ba1 := ba0.keep h1
    have br1 := br0.keep h1
    have hb1 := bstep hb0 h1
    clear ba0 br0
    have x0 := ba1.c0
    have x1 := ba1.c1
    have x2 := ba1.c2
    have x3 := ba1.c3
    have x4 := ba1.c4
    go_wp2_with fail
    refine (Con2.out w1 hb1).mono ?_
    rintro e w2 ⟨AF2, cF2, AS2, cS2, AR2, cR2, rfl, o2, h2⟩
    have br2 := br1.keep h2
    have HQ := Lib.hid (bstep hb1 h2)
    have G2 := Lib.hid o2
    have q1 := br1.lt
    have q2 := h2.size
    have q3 := br2.lt
    have hb0z := hb0.size
    have h1z := h1.size
    clear ba1 br1 x0 x1 x2 x3 x4 o2
    have r0 := br2.c0
    have r1 := br2.c1
    have r2 := br2.c2
    have r3 := br2.c3
    have r4 := br2.c4
    have z0 := br2.fz 0
    have z1 := br2.fz 1
    have z2 := br2.fz 2
    have z3 := br2.fz 3
    have z4 := br2.fz 4
    clear br2 h1 h2 hb0 hb1
    go_wp2
    refine bodyPost_ret (v := .tuple #[.agg #[.slice AF2 F2.length cF2, .slice AS2 S2.length cS2, .slice AR2 R2.length cR2, .int .i64 t2, .int .i64 u2], .bool true]) (by simp [results, Try.results64, go_sem, r0, r1, r2, r3, r4]) rfl (retGs_yes ?_ (below_box (below_box (below_box (below_box (below_box HQ.out (by omega)) (by omega)) (by omega)) (by omega)) (by omega)))
    exact (((((G2.out.box (by omega)).box (by omega)).box (by omega)).box (by omega)).box (by omega)).base (by omega) |>.top (by simp [World.setCell])

set_option maxRecDepth 100000 in
set_option maxHeartbeats 2000000 in
theorem c_tellGS (F2 S2 : List (Int × Int)) (R2 : List Int) (t2 u2 : Int) (AF : Option Addr) (cF : Nat) (F : List (Int × Int)) (AS : Option Addr) (cS : Nat) (S : List (Int × Int)) (AR : Option Addr) (cR : Nat) (R : List Int) (t u : Int) (w : World) (hF : RdT w AF F) (hS : RdT w AS S) (hR : RdI w AR R) (lFS : F.length + S.length ≤ 1048576) (lR : R.length ≤ 1048576)
    (hfn : gameB F S R t u = true → ∀ W, Below w.heap.size w W → Calls Try.prog 74 #[.agg #[.slice AF F.length cF, .slice AS S.length cS, .slice AR R.length cR, .int .i64 t, .int .i64 u]] W (RetG W F2 S2 R2 t2 u2)) :
    Calls Try.prog 64 #[.agg #[.slice AF F.length cF, .slice AS S.length cS, .slice AR R.length cR, .int .i64 t, .int .i64 u], .func (.func 74) #[] #[]] w (RetGs w F2 S2 R2 t2 u2 (gameB F S R t u)) := by
  have con := fun W (hb : Below w.heap.size w W) => c_implIsGame AF cF F AS cS S AR cR R t u W (hF.below hb) (hS.below hb) (hR.below hb) lFS lR
  clear hF hS hR lFS lR
  generalize gameB F S R t u = bg at con hfn ⊢
  cases bg
  · have Con := Lib.hid con
    clear con hfn
    go_enter Try.func64, Try.ntmps64
    go_wp2_with fail
    obtain ⟨w0, hw0⟩ : ∃ w0, w0 = (w.alloc (.cells #[.slice AF F.length cF, .slice AS S.length cS, .slice AR R.length cR, .int .i64 t, .int .i64 u] 30)).alloc (.cells #[.slice none 0 0, .slice none 0 0, .slice none 0 0, .int .i64 0, .int .i64 0] 30) := ⟨_, rfl⟩
    rw [← hw0]
    have ba0 : BoxAt w0 w.heap.size (.slice AF F.length cF) (.slice AS S.length cS) (.slice AR R.length cR) (.int .i64 t) (.int .i64 u) := by rw [hw0]; exact (BoxAt.fresh w _ _ _ _ _ _).more _
    have br0 : BoxAt w0 (w.heap.size + 1) (.slice none 0 0) (.slice none 0 0) (.slice none 0 0) (.int .i64 0) (.int .i64 0) := by
      have h1 := BoxAt.fresh (w.alloc (.cells #[.slice AF F.length cF, .slice AS S.length cS, .slice AR R.length cR, .int .i64 t, .int .i64 u] 30)) (.slice none 0 0) (.slice none 0 0) (.slice none 0 0) (.int .i64 0) (.int .i64 0) 30
      rw [World.size_alloc] at h1
      rw [hw0]; exact h1
    have hb0 : Below w.heap.size w w0 := by rw [hw0]; go_grown
    clear hw0
    refine (Con.out w0 hb0).mono ?_
    rintro e w1 ⟨rfl, h1⟩
    have ba1 := ba0.keep h1
    have br1 := br0.keep h1
    have hb1 := bstep hb0 h1
    clear ba0 br0
    go_upto_region 3 with (fail)
    obtain ⟨w2, hw2⟩ : ∃ w2, w2 = w1.alloc (.cells #[.slice none 0 0, .slice none 0 0, .slice none 0 0, .int .i64 0, .int .i64 0] 30) := ⟨_, rfl⟩
    rw [← hw2]
    have h2 : Below w1.heap.size w1 w2 := by rw [hw2]; exact (Below.refl _ _).alloc (Nat.le_refl _) _
    have bz : BoxAt w2 w1.heap.size (.slice none 0 0) (.slice none 0 0) (.slice none 0 0) (.int .i64 0) (.int .i64 0) := by rw [hw2]; exact BoxAt.fresh w1 _ _ _ _ _ _
    have br2 := br1.keep h2
    have hb2 := bstep hb1 h2
    clear hw2
    have x0 := bz.c0
    have x1 := bz.c1
    have x2 := bz.c2
    have x3 := bz.c3
    have x4 := bz.c4
    have r0 := br2.c0
    have r1 := br2.c1
    have r2 := br2.c2
    have r3 := br2.c3
    have r4 := br2.c4
    have z0 := br2.fz 0
    have z1 := br2.fz 1
    have z2 := br2.fz 2
    have z3 := br2.fz 3
    have z4 := br2.fz 4
    clear ba1 br1 br2 bz h1 h2 hb0 hb1
    go_wp2
    refine bodyPost_ret (v := .tuple #[.agg #[.slice none 0 0, .slice none 0 0, .slice none 0 0, .int .i64 0, .int .i64 0], .bool false]) (by simp [results, Try.results64, go_sem, r0, r1, r2, r3, r4]) rfl (retGs_no ?_)
    exact (below_box (below_box (below_box (below_box (below_box hb2 (by omega)) (by omega)) (by omega)) (by omega)) (by omega))
  · have Con := Lib.hid con
    have Con2 := Lib.hid (hfn rfl)
    clear con hfn
    go_enter Try.func64, Try.ntmps64
    go_wp2_with fail
    obtain ⟨w0, hw0⟩ : ∃ w0, w0 = (w.alloc (.cells #[.slice AF F.length cF, .slice AS S.length cS, .slice AR R.length cR, .int .i64 t, .int .i64 u] 30)).alloc (.cells #[.slice none 0 0, .slice none 0 0, .slice none 0 0, .int .i64 0, .int .i64 0] 30) := ⟨_, rfl⟩
    rw [← hw0]
    have ba0 : BoxAt w0 w.heap.size (.slice AF F.length cF) (.slice AS S.length cS) (.slice AR R.length cR) (.int .i64 t) (.int .i64 u) := by rw [hw0]; exact (BoxAt.fresh w _ _ _ _ _ _).more _
    have br0 : BoxAt w0 (w.heap.size + 1) (.slice none 0 0) (.slice none 0 0) (.slice none 0 0) (.int .i64 0) (.int .i64 0) := by
      have h1 := BoxAt.fresh (w.alloc (.cells #[.slice AF F.length cF, .slice AS S.length cS, .slice AR R.length cR, .int .i64 t, .int .i64 u] 30)) (.slice none 0 0) (.slice none 0 0) (.slice none 0 0) (.int .i64 0) (.int .i64 0) 30
      rw [World.size_alloc] at h1
      rw [hw0]; exact h1
    have hb0 : Below w.heap.size w w0 := by rw [hw0]; go_grown
    clear hw0
    refine (Con.out w0 hb0).mono ?_
    rintro e w1 ⟨rfl, h1⟩
    have ba1 := ba0.keep h1
    have br1 := br0.keep h1
    have hb1 := bstep hb0 h1
    clear ba0 br0
    have x0 := ba1.c0
    have x1 := ba1.c1
    have x2 := ba1.c2
    have x3 := ba1.c3
    have x4 := ba1.c4
    go_wp2_with fail
    refine (Con2.out w1 hb1).mono ?_
    rintro e w2 ⟨AF2, cF2, AS2, cS2, AR2, cR2, rfl, o2, h2⟩
    have br2 := br1.keep h2
    have HQ := Lib.hid (bstep hb1 h2)
    have G2 := Lib.hid o2
    have q1 := br1.lt
    have q2 := h2.size
    have q3 := br2.lt
    have hb0z := hb0.size
    have h1z := h1.size
    clear ba1 br1 x0 x1 x2 x3 x4 o2
    have r0 := br2.c0
    have r1 := br2.c1
    have r2 := br2.c2
    have r3 := br2.c3
    have r4 := br2.c4
    have z0 := br2.fz 0
    have z1 := br2.fz 1
    have z2 := br2.fz 2
    have z3 := br2.fz 3
    have z4 := br2.fz 4
    clear br2 h1 h2 hb0 hb1
    go_wp2
    refine bodyPost_ret (v := .tuple #[.agg #[.slice AF2 F2.length cF2, .slice AS2 S2.length cS2, .slice AR2 R2.length cR2, .int .i64 t2, .int .i64 u2], .bool true]) (by simp [results, Try.results64, go_sem, r0, r1, r2, r3, r4]) rfl (retGs_yes ?_ (below_box (below_box (below_box (below_box (below_box HQ.out (by omega)) (by omega)) (by omega)) (by omega)) (by omega)))
    exact (((((G2.out.box (by omega)).box (by omega)).box (by omega)).box (by omega)).box (by omega)).base (by omega) |>.top (by simp [World.setCell])

set_option maxRecDepth 100000 in
set_option maxHeartbeats 2000000 in
theorem c_implGameOf (A0 : Option Addr) (c0 : Nat) (F : List (Int × Int)) (A1 : Option Addr) (c1 : Nat) (S : List (Int × Int)) (w : World) (hF : RdT w A0 F) (hS : RdT w A1 S) (lFS : F.length + S.length ≤ 1048576) :
    Calls Try.prog 22 #[.slice A0 F.length c0, .slice A1 S.length c1] w (RetGs w F S [] 0 0 (gameB F S [] 0 0)) := by
  have con := (fun W (hb : Below w.heap.size w W) => c_tellGC F S [] 0 0 A0 c0 F A1 c1 S none 0 [] 0 0 W (hF.below hb) (hS.below hb) RdI.nil_ lFS (by simp) (fun _ W' hb' => c_copied A0 c0 F A1 c1 S none 0 [] 0 0 W' ((hF.below hb).below hb') ((hS.below hb).below hb') RdI.nil_ (by omega) (by omega) (by simp)))
  simp only [List.length_nil] at con
  clear hF hS lFS
  generalize gameB F S [] 0 0 = bg at con ⊢
  have con' := Lib.hid con
  clear con
  go_enter Try.func22, Try.ntmps22
  go_wp2_with fail
  obtain ⟨w0, hw0⟩ : ∃ w0, w0 = w.alloc (.cells #[.slice none 0 0, .slice none 0 0, .slice none 0 0, .int .i64 0, .int .i64 0] 30) := ⟨_, rfl⟩
  rw [← hw0]
  have br0 : BoxAt w0 w.heap.size (.slice none 0 0) (.slice none 0 0) (.slice none 0 0) (.int .i64 0) (.int .i64 0) := by rw [hw0]; exact BoxAt.fresh w _ _ _ _ _ _
  have hb0 : Below w.heap.size w w0 := by rw [hw0]; go_grown
  clear hw0
  refine (con'.out w0 hb0).mono ?_
  rintro e w1 ⟨AF, cF, AS, cS, AR, cR, rfl, o1, h1⟩
  have br1 := br0.keep h1
  have HQ := Lib.hid (bstep hb0 h1)
  have G1 := Lib.hid o1
  have q0 := br0.lt
  have q1 := h1.size
  have r0 := br1.c0
  have r1 := br1.c1
  have r2 := br1.c2
  have r3 := br1.c3
  have r4 := br1.c4
  have z0 := br1.fz 0
  have z1 := br1.fz 1
  have z2 := br1.fz 2
  have z3 := br1.fz 3
  have z4 := br1.fz 4
  clear br0 br1 o1 h1 hb0 con'
  go_wp2
  refine bodyPost_ret (v := .tuple #[.agg #[.slice AF (selT bg F).length cF, .slice AS (selT bg S).length cS, .slice AR (selI bg []).length cR, .int .i64 (selV bg 0), .int .i64 (selV bg 0)], .bool bg]) (by simp [results, Try.results22, go_sem, r0, r1, r2, r3, r4]) rfl ⟨AF, cF, AS, cS, AR, cR, rfl, ?_, (below_box (below_box (below_box (below_box (below_box HQ.out (by omega)) (by omega)) (by omega)) (by omega)) (by omega))⟩
  exact (((((G1.out.box (by omega)).box (by omega)).box (by omega)).box (by omega)).box (by omega)).base (by omega) |>.top (by simp [World.setCell])

set_option maxRecDepth 100000 in
set_option maxHeartbeats 2000000 in
theorem c_specSwapGame (AF : Option Addr) (cF : Nat) (F : List (Int × Int)) (AS : Option Addr) (cS : Nat) (S : List (Int × Int)) (AR : Option Addr) (cR : Nat) (R : List Int) (t u : Int) (w : World) (hF : RdT w AF F) (hS : RdT w AS S) (hR : RdI w AR R) (lF : F.length ≤ 1048576) (lS : S.length ≤ 1048576) (lR : R.length ≤ 1048576) (kF : F.length ≤ cF) (kS : S.length ≤ cS) :
    Calls Try.prog 31 #[.agg #[.slice AF F.length cF, .slice AS S.length cS, .slice AR R.length cR, .int .i64 t, .int .i64 u]] w (RetGs w S F R (1 - t) u (gameB F S R t u)) := by
  have con := fun W (hb : Below w.heap.size w W) => c_plGood AF cF F AS cS S AR cR R t u W (hF.below hb) (hS.below hb) (hR.below hb) lF lS lR kF kS
  have con2 := Lib.hid (fun W (hb : Below w.heap.size w W) => c_plOwn AF cF F AS cS S AR cR R t u W (hF.below hb) (hS.below hb) (hR.below hb) lF lS lR)
  have ht : gameB F S R t u = true → 0 ≤ t ∧ t ≤ 1 := fun h => by
    have := (gameB_parts h).1
    unfold turnB at this
    simp only [Bool.and_eq_true, decide_eq_true_eq] at this
    exact ⟨this.1, this.2.1⟩
  clear hF hS hR lF lS lR kF kS
  generalize gameB F S R t u = bg at con ht ⊢
  cases bg
  · have Con := Lib.hid con
    clear con con2 ht
    go_enter Try.func31, Try.ntmps31
    go_wp2_with fail
    obtain ⟨w0, hw0⟩ : ∃ w0, w0 = (w.alloc (.cells #[.slice AF F.length cF, .slice AS S.length cS, .slice AR R.length cR, .int .i64 t, .int .i64 u] 30)).alloc (.cells #[.slice none 0 0, .slice none 0 0, .slice none 0 0, .int .i64 0, .int .i64 0] 30) := ⟨_, rfl⟩
    rw [← hw0]
    have ba0 : BoxAt w0 w.heap.size (.slice AF F.length cF) (.slice AS S.length cS) (.slice AR R.length cR) (.int .i64 t) (.int .i64 u) := by rw [hw0]; exact (BoxAt.fresh w _ _ _ _ _ _).more _
    have br0 : BoxAt w0 (w.heap.size + 1) (.slice none 0 0) (.slice none 0 0) (.slice none 0 0) (.int .i64 0) (.int .i64 0) := by
      have h1 := BoxAt.fresh (w.alloc (.cells #[.slice AF F.length cF, .slice AS S.length cS, .slice AR R.length cR, .int .i64 t, .int .i64 u] 30)) (.slice none 0 0) (.slice none 0 0) (.slice none 0 0) (.int .i64 0) (.int .i64 0) 30
      rw [World.size_alloc] at h1
      rw [hw0]; exact h1
    have hb0 : Below w.heap.size w w0 := by rw [hw0]; go_grown
    have hs0_ : w0.heap.size = w.heap.size + 2 := by rw [hw0]; simp
    clear hw0
    refine (Con.out w0 hb0).mono ?_
    rintro e w1 ⟨rfl, h1⟩
    have br1 := br0.keep h1
    have hb1 := bstep hb0 h1
    have r0 := br1.c0
    have r1 := br1.c1
    have r2 := br1.c2
    have r3 := br1.c3
    have r4 := br1.c4
    have z0 := br1.fz 0
    have z1 := br1.fz 1
    have z2 := br1.fz 2
    have z3 := br1.fz 3
    have z4 := br1.fz 4
    clear ba0 br0 br1 h1 hb0
    go_wp2
    refine bodyPost_ret (v := .tuple #[.agg #[.slice none 0 0, .slice none 0 0, .slice none 0 0, .int .i64 0, .int .i64 0], .bool false]) (by simp [results, Try.results31, go_sem, r0, r1, r2, r3, r4]) rfl (retGs_no ?_)
    exact (below_box (below_box (below_box (below_box (below_box hb1 (by omega)) (by omega)) (by omega)) (by omega)) (by omega))
  · have Con := Lib.hid con
    obtain ⟨t0, t1⟩ := ht rfl
    clear con ht
    go_enter Try.func31, Try.ntmps31
    go_wp2_with fail
    obtain ⟨w0, hw0⟩ : ∃ w0, w0 = (w.alloc (.cells #[.slice AF F.length cF, .slice AS S.length cS, .slice AR R.length cR, .int .i64 t, .int .i64 u] 30)).alloc (.cells #[.slice none 0 0, .slice none 0 0, .slice none 0 0, .int .i64 0, .int .i64 0] 30) := ⟨_, rfl⟩
    rw [← hw0]
    have ba0 : BoxAt w0 w.heap.size (.slice AF F.length cF) (.slice AS S.length cS) (.slice AR R.length cR) (.int .i64 t) (.int .i64 u) := by rw [hw0]; exact (BoxAt.fresh w _ _ _ _ _ _).more _
    have br0 : BoxAt w0 (w.heap.size + 1) (.slice none 0 0) (.slice none 0 0) (.slice none 0 0) (.int .i64 0) (.int .i64 0) := by
      have h1 := BoxAt.fresh (w.alloc (.cells #[.slice AF F.length cF, .slice AS S.length cS, .slice AR R.length cR, .int .i64 t, .int .i64 u] 30)) (.slice none 0 0) (.slice none 0 0) (.slice none 0 0) (.int .i64 0) (.int .i64 0) 30
      rw [World.size_alloc] at h1
      rw [hw0]; exact h1
    have hb0 : Below w.heap.size w w0 := by rw [hw0]; go_grown
    have hs0_ : w0.heap.size = w.heap.size + 2 := by rw [hw0]; simp
    clear hw0
    have hs0 := hs0_
    refine (Con.out w0 hb0).mono ?_
    rintro e w1 ⟨rfl, h1⟩
    have ba1 := ba0.keep h1
    have br1 := br0.keep h1
    have hb1 := bstep hb0 h1
    have p1 := h1.size
    clear ba0 br0
    have x0 := ba1.c0
    have x1 := ba1.c1
    have x2 := ba1.c2
    have x3 := ba1.c3
    have x4 := ba1.c4
    go_wp2_with fail
    refine (con2.out w1 hb1).mono ?_
    rintro e w2 ⟨A1, c1, A2, c2, A3, c3, rfl, o2, h2⟩
    have ba2 := ba1.keep h2
    have br2 := br1.keep h2
    have hb2 := bstep hb1 h2
    clear ba1 br1 x0 x1 x2 x3 x4
    go_upto_region 4 with (fail)
    obtain ⟨w3, hw3⟩ : ∃ w3, w3 = w2.alloc (.cells #[.slice A1 F.length c1, .slice A2 S.length c2, .slice A3 R.length c3, .int .i64 t, .int .i64 u] 30) := ⟨_, rfl⟩
    rw [← hw3]
    have h3 : Below w2.heap.size w2 w3 := by rw [hw3]; exact (Below.refl _ _).alloc (Nat.le_refl _) _
    have bt : BoxAt w3 w2.heap.size (.slice A1 F.length c1) (.slice A2 S.length c2) (.slice A3 R.length c3) (.int .i64 t) (.int .i64 u) := by rw [hw3]; exact BoxAt.fresh w2 _ _ _ _ _ _
    have ba3 := ba2.keep h3
    have br3 := br2.keep h3
    have HQ := Lib.hid (bstep hb2 h3)
    have G := Lib.hid (o2.below h3 (Nat.le_refl _))
    have q0 := ba2.lt
    have q1 := br2.lt
    have q2 := bt.lt
    have q3 := h2.size
    have q4 : w0.heap.size = w.heap.size + 2 := hs0
    have q5 := hb2.size
    clear hw3 o2
    have x0 := bt.c0
    have x1 := bt.c1
    have x2 := bt.c2
    have x3 := bt.c3
    have x4 := bt.c4
    have f0 := bt.fz 0
    have f1 := bt.fz 1
    have f3 := bt.fz 3
    have a3 := ba3.c3
    have r0 := br3.c0
    have r1 := br3.c1
    have r2 := br3.c2
    have r3 := br3.c3
    have r4 := br3.c4
    have z0 := br3.fz 0
    have z1 := br3.fz 1
    have z2 := br3.fz 2
    have z3 := br3.fz 3
    have z4 := br3.fz 4
    have n0 : w.heap.size ≠ w2.heap.size := by omega
    have n1 : w.heap.size + 1 ≠ w2.heap.size := by omega
    clear bt ba2 ba3 br2 br3 h3 hb0 hb1 hb2 h1 h2 con2 Con
    go_wp2
    refine bodyPost_ret (v := .tuple #[.agg #[.slice A2 S.length c2, .slice A1 F.length c1, .slice A3 R.length c3, .int .i64 (1 - t), .int .i64 u], .bool true]) (by simp [results, Try.results31, go_sem, r0, r1, r2, r3, r4]) rfl (retGs_yes ?_ ?_)
    · exact (((((((((G.out.boxHi (by omega)).boxHi (by omega)).boxHi (by omega)).box (by omega)).box (by omega)).box (by omega)).box (by omega)).box (by omega)).base (by omega)).swap.top (by simp [World.setCell]; omega)
    · exact (below_box (below_box (below_box (below_box (below_box (below_box (below_box (below_box HQ.out (by omega)) (by omega)) (by omega)) (by omega)) (by omega)) (by omega)) (by omega)) (by omega))

set_option maxRecDepth 100000 in
set_option maxHeartbeats 2000000 in
theorem c_swapped (AF : Option Addr) (cF : Nat) (F : List (Int × Int)) (AS : Option Addr) (cS : Nat) (S : List (Int × Int)) (AR : Option Addr) (cR : Nat) (R : List Int) (t u : Int) (w : World) (hF : RdT w AF F) (hS : RdT w AS S) (hR : RdI w AR R) (lF : F.length ≤ 1048576) (lS : S.length ≤ 1048576) (lR : R.length ≤ 1048576) (t0 : 0 ≤ t) (t1 : t ≤ 1) :
    Calls Try.prog 74 #[.agg #[.slice AF F.length cF, .slice AS S.length cS, .slice AR R.length cR, .int .i64 t, .int .i64 u]] w (RetG w S F R (1 - t) u) := by
  have con := Lib.hid (fun W (hb : Below w.heap.size w W) => c_copied AF cF F AS cS S AR cR R t u W (hF.below hb) (hS.below hb) (hR.below hb) lF lS lR)
  clear hF hS hR lF lS lR
  go_enter Try.func74, Try.ntmps74
  go_wp2_with fail
  obtain ⟨w0, hw0⟩ : ∃ w0, w0 = (w.alloc (.cells #[.slice AF F.length cF, .slice AS S.length cS, .slice AR R.length cR, .int .i64 t, .int .i64 u] 30)).alloc (.cells #[.slice none 0 0, .slice none 0 0, .slice none 0 0, .int .i64 0, .int .i64 0] 30) := ⟨_, rfl⟩
  rw [← hw0]
  have ba0 : BoxAt w0 w.heap.size (.slice AF F.length cF) (.slice AS S.length cS) (.slice AR R.length cR) (.int .i64 t) (.int .i64 u) := by rw [hw0]; exact (BoxAt.fresh w _ _ _ _ _ _).more _
  have br0 : BoxAt w0 (w.heap.size + 1) (.slice none 0 0) (.slice none 0 0) (.slice none 0 0) (.int .i64 0) (.int .i64 0) := by
    have h1 := BoxAt.fresh (w.alloc (.cells #[.slice AF F.length cF, .slice AS S.length cS, .slice AR R.length cR, .int .i64 t, .int .i64 u] 30)) (.slice none 0 0) (.slice none 0 0) (.slice none 0 0) (.int .i64 0) (.int .i64 0) 30
    rw [World.size_alloc] at h1
    rw [hw0]; exact h1
  have hb0 : Below w.heap.size w w0 := by rw [hw0]; go_grown
  have hs0_ : w0.heap.size = w.heap.size + 2 := by rw [hw0]; simp
  clear hw0
  have hs0 := hs0_
  refine (con.out w0 hb0).mono ?_
  rintro e w1 ⟨A1, c1, A2, c2, A3, c3, rfl, o1, h1⟩
  have ba1 := ba0.keep h1
  have br1 := br0.keep h1
  have hb1 := bstep hb0 h1
  clear ba0 br0
  go_upto_region 2 with (fail)
  obtain ⟨w2, hw2⟩ : ∃ w2, w2 = w1.alloc (.cells #[.slice A1 F.length c1, .slice A2 S.length c2, .slice A3 R.length c3, .int .i64 t, .int .i64 u] 30) := ⟨_, rfl⟩
  rw [← hw2]
  have h2 : Below w1.heap.size w1 w2 := by rw [hw2]; exact (Below.refl _ _).alloc (Nat.le_refl _) _
  have bt : BoxAt w2 w1.heap.size (.slice A1 F.length c1) (.slice A2 S.length c2) (.slice A3 R.length c3) (.int .i64 t) (.int .i64 u) := by rw [hw2]; exact BoxAt.fresh w1 _ _ _ _ _ _
  have ba2 := ba1.keep h2
  have br2 := br1.keep h2
  have HQ := Lib.hid (bstep hb1 h2)
  have G := Lib.hid (o1.below h2 (Nat.le_refl _))
  have q0 := ba1.lt
  have q1 := br1.lt
  have q2 := bt.lt
  have q3 := h1.size
  have q4 : w0.heap.size = w.heap.size + 2 := hs0
  have q5 := hb1.size
  clear hw2 o1
  have x0 := bt.c0
  have x1 := bt.c1
  have x2 := bt.c2
  have x3 := bt.c3
  have x4 := bt.c4
  have f0 := bt.fz 0
  have f1 := bt.fz 1
  have f3 := bt.fz 3
  have a3 := ba2.c3
  have r0 := br2.c0
  have r1 := br2.c1
  have r2 := br2.c2
  have r3 := br2.c3
  have r4 := br2.c4
  have z0 := br2.fz 0
  have z1 := br2.fz 1
  have z2 := br2.fz 2
  have z3 := br2.fz 3
  have z4 := br2.fz 4
  have n0 : w.heap.size ≠ w1.heap.size := by omega
  have n1 : w.heap.size + 1 ≠ w1.heap.size := by omega
  clear bt ba1 ba2 br1 br2 h2 hb0 hb1 h1 con
  go_wp2
  refine bodyPost_ret (v := .agg #[.slice A2 S.length c2, .slice A1 F.length c1, .slice A3 R.length c3, .int .i64 (1 - t), .int .i64 u]) (by simp [results, Try.results74, go_sem, r0, r1, r2, r3, r4]) rfl ⟨A2, c2, A1, c1, A3, c3, rfl, ?_, ?_⟩
  · exact (((((((((G.out.boxHi (by omega)).boxHi (by omega)).boxHi (by omega)).box (by omega)).box (by omega)).box (by omega)).box (by omega)).box (by omega)).base (by omega)).swap.top (by simp [World.setCell]; omega)
  · exact (below_box (below_box (below_box (below_box (below_box (below_box (below_box (below_box HQ.out (by omega)) (by omega)) (by omega)) (by omega)) (by omega)) (by omega)) (by omega)) (by omega))

set_option maxRecDepth 100000 in
set_option maxHeartbeats 2000000 in
theorem c_implSwapGame (AF : Option Addr) (cF : Nat) (F : List (Int × Int)) (AS : Option Addr) (cS : Nat) (S : List (Int × Int)) (AR : Option Addr) (cR : Nat) (R : List Int) (t u : Int) (w : World) (hF : RdT w AF F) (hS : RdT w AS S) (hR : RdI w AR R) (lFS : F.length + S.length ≤ 1048576) (lR : R.length ≤ 1048576) :
    Calls Try.prog 32 #[.agg #[.slice AF F.length cF, .slice AS S.length cS, .slice AR R.length cR, .int .i64 t, .int .i64 u]] w (RetGs w S F R (1 - t) u (gameB F S R t u)) := by
  have con := Lib.hid (fun W (hb : Below w.heap.size w W) => c_tellGS S F R (1 - t) u AF cF F AS cS S AR cR R t u W (hF.below hb) (hS.below hb) (hR.below hb) lFS lR (fun hg W' hb' => c_swapped AF cF F AS cS S AR cR R t u W' ((hF.below hb).below hb') ((hS.below hb).below hb') ((hR.below hb).below hb') (by omega) (by omega) lR
    (by have := (gameB_parts hg).1; unfold turnB at this; simp only [Bool.and_eq_true, decide_eq_true_eq] at this; exact this.1) (by have := (gameB_parts hg).1; unfold turnB at this; simp only [Bool.and_eq_true, decide_eq_true_eq] at this; exact this.2.1)))
  clear hF hS hR lFS lR
  generalize gameB F S R t u = bg at con ⊢
  go_enter Try.func32, Try.ntmps32
  go_wp2_with fail
  obtain ⟨w0, hw0⟩ : ∃ w0, w0 = (w.alloc (.cells #[.slice AF F.length cF, .slice AS S.length cS, .slice AR R.length cR, .int .i64 t, .int .i64 u] 30)).alloc (.cells #[.slice none 0 0, .slice none 0 0, .slice none 0 0, .int .i64 0, .int .i64 0] 30) := ⟨_, rfl⟩
  rw [← hw0]
  have ba0 : BoxAt w0 w.heap.size (.slice AF F.length cF) (.slice AS S.length cS) (.slice AR R.length cR) (.int .i64 t) (.int .i64 u) := by rw [hw0]; exact (BoxAt.fresh w _ _ _ _ _ _).more _
  have br0 : BoxAt w0 (w.heap.size + 1) (.slice none 0 0) (.slice none 0 0) (.slice none 0 0) (.int .i64 0) (.int .i64 0) := by
    have h1 := BoxAt.fresh (w.alloc (.cells #[.slice AF F.length cF, .slice AS S.length cS, .slice AR R.length cR, .int .i64 t, .int .i64 u] 30)) (.slice none 0 0) (.slice none 0 0) (.slice none 0 0) (.int .i64 0) (.int .i64 0) 30
    rw [World.size_alloc] at h1
    rw [hw0]; exact h1
  have hb0 : Below w.heap.size w w0 := by rw [hw0]; go_grown
  have hs0_ : w0.heap.size = w.heap.size + 2 := by rw [hw0]; simp
  clear hw0
  refine (con.out w0 hb0).mono ?_
  rintro e w1 ⟨AF1, cF1, AS1, cS1, AR1, cR1, rfl, o1, h1⟩
  have q0 := br0.lt
  have br1 := br0.keep h1
  have HQ := Lib.hid (bstep hb0 h1)
  have G1 := Lib.hid o1
  have q1 := h1.size
  have r0 := br1.c0
  have r1 := br1.c1
  have r2 := br1.c2
  have r3 := br1.c3
  have r4 := br1.c4
  have z0 := br1.fz 0
  have z1 := br1.fz 1
  have z2 := br1.fz 2
  have z3 := br1.fz 3
  have z4 := br1.fz 4
  clear ba0 br0 br1 o1 h1 hb0 con
  go_wp2
  refine bodyPost_ret (v := .tuple #[.agg #[.slice AF1 (selT bg S).length cF1, .slice AS1 (selT bg F).length cS1, .slice AR1 (selI bg R).length cR1, .int .i64 (selV bg (1 - t)), .int .i64 (selV bg u)], .bool bg]) (by simp [results, Try.results32, go_sem, r0, r1, r2, r3, r4]) rfl ⟨AF1, cF1, AS1, cS1, AR1, cR1, rfl, ?_, (below_box (below_box (below_box (below_box (below_box HQ.out (by omega)) (by omega)) (by omega)) (by omega)) (by omega))⟩
  exact (((((G1.out.box (by omega)).box (by omega)).box (by omega)).box (by omega)).box (by omega)).base (by omega) |>.top (by simp [World.setCell])

end Go.Proofs.Ytepedcdnaodhcaa

/- The texts of all moves: both sides of MovesOn. -/
import Derived.Test.YtgjdpiooocpmhabGreatDoorStrs
import Derived.Test.YtgjdpiooocpmhabGreatDoorFnd
namespace Go.Proofs.YtgjdpiooocpmhabGreatDoor
open Go.RowKit
set_option linter.unusedVariables false

def selW (b : Bool) (xs : List ByteArray) : List ByteArray := if b then xs else []
def movT (F S : List (Int × Int)) (R : List Int) (t u : Int) : List ByteArray := (movesL F S R t u).map mvTx
theorem movT_len (F S : List (Int × Int)) (R : List Int) (t u : Int) (b : Bool) : (selW b (movT F S R t u)).length ≤ 1048576 := by
  have := movesL_len F S R t u
  unfold selW movT
  split
  · rw [List.length_map]; omega
  · simp

set_option maxRecDepth 100000 in
set_option maxHeartbeats 2000000 in
theorem c_specMovesOn (AF : Option Addr) (cF : Nat) (F : List (Int × Int)) (AS : Option Addr) (cS : Nat) (S : List (Int × Int)) (AR : Option Addr) (cR : Nat) (R : List Int) (t u : Int) (w : World) (hF : RdT w AF F) (hS : RdT w AS S) (hR : RdI w AR R) (lF : F.length ≤ 1048576) (lS : S.length ≤ 1048576) (lR : R.length ≤ 1048576) (kF : F.length ≤ cF) (kS : S.length ≤ cS) :
    Calls Tryz.prog 10 #[.agg #[.slice AF F.length cF, .slice AS S.length cS, .slice AR R.length cR, .int .i64 t, .int .i64 u]] w (RetStB w (selW (gameB F S R t u) (movT F S R t u)) (gameB F S R t u)) := by
  have con := fun W (hb : Below w.heap.size w W) => c_plGood AF cF F AS cS S AR cR R t u W (hF.below hb) (hS.below hb) (hR.below hb) lF lS lR kF kS
  cases hg : gameB F S R t u
  · rw [hg] at con
    have Con := Lib.hid con
    clear con hg hF hS hR
    go_enter Tryz.func10, Tryz.ntmps10
    go_wp2_with fail
    refine (Con.out _ ((Below.refl _ _).alloc (Nat.le_refl _) _)).mono ?_
    rintro e w1 ⟨rfl, h1⟩
    go_wp2
    go_ret2
    exact ⟨none, 0, rfl, World.ownsRow_nil _ _ _ _, bstep ((Below.refl _ _).alloc (Nat.le_refl _) _) h1⟩
  · rw [hg] at con
    have Con := Lib.hid con
    have gp := gameB_parts hg
    have conM := Lib.hid (fun W (hb : Below w.heap.size w W) => c_plMoves AF cF F AS cS S AR cR R t u W (hF.below hb) (hS.below hb) (hR.below hb) gp.2.2.1 gp.2.2.2.1 (by omega))
    have ml := movesL_len F S R t u
    have conX := Lib.hid (fun A c W hr => c_plTexts A c (movesL F S R t u) W hr (by omega) (fun m hm => mov_num hg hm))
    show Calls _ _ _ _ (RetStB w ((movesL F S R t u).map mvTx) true)
    generalize movesL F S R t u = M at *
    generalize hX : M.map mvTx = X at *
    clear con hg hF hS hR gp hX
    go_enter Tryz.func10, Tryz.ntmps10
    go_wp2_with fail
    obtain ⟨w0, hw0⟩ : ∃ w0, w0 = w.alloc (.cells #[.slice AF F.length cF, .slice AS S.length cS, .slice AR R.length cR, .int .i64 t, .int .i64 u] 32) := ⟨_, rfl⟩
    rw [← hw0]
    have ba0 : BoxAt w0 w.heap.size (.slice AF F.length cF) (.slice AS S.length cS) (.slice AR R.length cR) (.int .i64 t) (.int .i64 u) := by rw [hw0]; exact BoxAt.fresh w _ _ _ _ _ _
    have hb0 : Below w.heap.size w w0 := by rw [hw0]; go_grown
    clear hw0
    refine (Con.out w0 hb0).mono ?_
    rintro e w1 ⟨rfl, h1⟩
    have hb1 := bstep hb0 h1
    have ba1 := ba0.keep h1
    clear ba0
    have x0 := ba1.c0
    have x1 := ba1.c1
    have x2 := ba1.c2
    have x3 := ba1.c3
    have x4 := ba1.c4
    go_wp2_with fail
    refine (conM.out w1 hb1).mono ?_
    rintro e w2 ⟨A2, c2, rfl, o2, h2⟩
    have hb2 := bstep hb1 h2
    have r2 := RdE.of_own encS_len o2
    clear o2 conM
    go_wp2_with fail
    refine (conX.out A2 c2 w2 r2).mono ?_
    rintro e w3 ⟨A3, c3, rfl, o3, h3⟩
    have Ho := Lib.hid (own_base o3 hb2.size)
    have Hl := Lib.hid (bstep hb2 h3)
    clear conX o3
    go_wp2
    go_ret2
    exact ⟨A3, c3, rfl, Ho.out, Hl.out⟩

set_option maxRecDepth 100000 in
set_option maxHeartbeats 2000000 in
theorem c_implMovesOn (AF : Option Addr) (cF : Nat) (F : List (Int × Int)) (AS : Option Addr) (cS : Nat) (S : List (Int × Int)) (AR : Option Addr) (cR : Nat) (R : List Int) (t u : Int) (w : World) (hF : RdT w AF F) (hS : RdT w AS S) (hR : RdI w AR R) (lFS : F.length + S.length ≤ 1048576) (lR : R.length ≤ 1048576) :
    Calls Tryz.prog 12 #[.agg #[.slice AF F.length cF, .slice AS S.length cS, .slice AR R.length cR, .int .i64 t, .int .i64 u]] w (RetStB w (selW (gameB F S R t u) (movT F S R t u)) (gameB F S R t u)) := by
  have con := fun W (hb : Below w.heap.size w W) => c_implIsGame AF cF F AS cS S AR cR R t u W (hF.below hb) (hS.below hb) (hR.below hb) lFS lR
  cases hg : gameB F S R t u
  · rw [hg] at con
    have Con := Lib.hid con
    clear con hg hF hS hR
    go_enter Tryz.func12, Tryz.ntmps12
    go_wp2_with fail
    refine (Con.out _ ((Below.refl _ _).alloc (Nat.le_refl _) _)).mono ?_
    rintro e w1 ⟨rfl, h1⟩
    go_wp2
    go_ret2
    exact ⟨none, 0, rfl, World.ownsRow_nil _ _ _ _, bstep ((Below.refl _ _).alloc (Nat.le_refl _) _) h1⟩
  · rw [hg] at con
    have Con := Lib.hid con
    have gp := gameB_parts hg
    obtain ⟨_, _, _, ht2⟩ := game_len hg
    have conM := Lib.hid (fun W (hb : Below w.heap.size w W) => c_gMoves AF cF F AS cS S AR cR R t u W (hF.below hb) (hS.below hb) (hR.below hb) gp.2.2.1 gp.2.2.2.1 (by omega) ht2)
    have ml := movesL_len F S R t u
    have conX := Lib.hid (fun A c W hr => c_textsOf A c (movesL F S R t u) W hr (by omega) (fun m hm => mov_num hg hm))
    show Calls _ _ _ _ (RetStB w ((movesL F S R t u).map mvTx) true)
    generalize movesL F S R t u = M at *
    generalize hX : M.map mvTx = X at *
    clear con hg hF hS hR gp hX
    go_enter Tryz.func12, Tryz.ntmps12
    go_wp2_with fail
    obtain ⟨w0, hw0⟩ : ∃ w0, w0 = w.alloc (.cells #[.slice AF F.length cF, .slice AS S.length cS, .slice AR R.length cR, .int .i64 t, .int .i64 u] 32) := ⟨_, rfl⟩
    rw [← hw0]
    have ba0 : BoxAt w0 w.heap.size (.slice AF F.length cF) (.slice AS S.length cS) (.slice AR R.length cR) (.int .i64 t) (.int .i64 u) := by rw [hw0]; exact BoxAt.fresh w _ _ _ _ _ _
    have hb0 : Below w.heap.size w w0 := by rw [hw0]; go_grown
    clear hw0
    refine (Con.out w0 hb0).mono ?_
    rintro e w1 ⟨rfl, h1⟩
    have hb1 := bstep hb0 h1
    have ba1 := ba0.keep h1
    clear ba0
    have x0 := ba1.c0
    have x1 := ba1.c1
    have x2 := ba1.c2
    have x3 := ba1.c3
    have x4 := ba1.c4
    go_wp2_with fail
    refine (conM.out w1 hb1).mono ?_
    rintro e w2 ⟨A2, c2, rfl, o2, h2⟩
    have hb2 := bstep hb1 h2
    have r2 := RdE.of_own encI_len o2
    clear o2 conM
    go_wp2_with fail
    refine (conX.out A2 c2 w2 r2).mono ?_
    rintro e w3 ⟨A3, c3, rfl, o3, h3⟩
    have Ho := Lib.hid (own_base o3 hb2.size)
    have Hl := Lib.hid (bstep hb2 h3)
    clear conX o3
    go_wp2
    go_ret2
    exact ⟨A3, c3, rfl, Ho.out, Hl.out⟩

end Go.Proofs.YtgjdpiooocpmhabGreatDoor

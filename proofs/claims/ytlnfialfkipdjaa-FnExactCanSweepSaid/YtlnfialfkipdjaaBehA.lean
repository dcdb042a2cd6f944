/- A pass made: the specification's. A pass made: the program's. A tile laid: the program's. A tile laid and the turn gone over: the program's. The game behind a move: the program's. -/
import Derived.Test.YtlnfialfkipdjaaGameC
import Derived.Test.YtlnfialfkipdjaaMovA
import Derived.Deep.Cut
import Derived.BigQuiet
import Derived.Test.YtlnfialfkipdjaaLayA
import Derived.Test.YtlnfialfkipdjaaMovC
import Derived.Test.YtlnfialfkipdjaaMovI
namespace Go.Proofs.Ytlnfialfkipdjaa
open Go.RowKit
set_option linter.unusedVariables false

end Go.Proofs.Ytlnfialfkipdjaa

namespace Go.Proofs.Ytlnfialfkipdjaa
open Go.RowKit
set_option linter.unusedVariables false

end Go.Proofs.Ytlnfialfkipdjaa

namespace Go.Proofs.Ytlnfialfkipdjaa
open Go.RowKit
set_option linter.unusedVariables false

theorem ownBlock_any (A : Option Addr) (n m c d : Nat) : (Value.slice A n c).ownBlock = (Value.slice A m d).ownBlock := by cases A <;> rfl
theorem own_off {w : World} {base e sz n nb j : Nat} {v u : Value} {cs : List Value} (h : w.ownsRow base e sz v n cs) (hn : ∀ g, v.ownBlock = some g → g ≠ nb) : (w.setCell ⟨nb, j, none⟩ u).ownsRow base e sz v n cs := by
  refine World.ownsRow.kept h (grown_setG w nb j u) ?_
  cases hv : v.ownBlock with
  | none => exact .inl rfl
  | some g => exact .inr fun e => hn g hv (Option.some.inj e)
theorem OwnG.setOff {w : World} {lo hi nF nS nR nb j : Nat} {vF vS vR u : Value} {F S : List (Int × Int)} {R : List Int} (h : OwnG w lo hi vF nF F vS nS S vR nR R) (n1 : ∀ g, vF.ownBlock = some g → g ≠ nb) (n2 : ∀ g, vS.ownBlock = some g → g ≠ nb) (n3 : ∀ g, vR.ownBlock = some g → g ≠ nb) : OwnG (w.setCell ⟨nb, j, none⟩ u) lo hi vF nF F vS nS S vR nR R :=
  ⟨own_off h.f n1, own_off h.s n2, own_off h.r n3, h.hf, h.hs, h.hr, h.fs, h.fr, h.sr⟩

/-- The boxes while a tile is laid: the game's, the move's, the answer's, the new game's. -/
structure LdSt (gb nb : Nat) (V0 V1 V2 V3 V4 a b s vF vS vR vT vU : Value) (w W : World) : Prop where
  ba : BoxAt W gb V0 V1 V2 V3 V4
  m0 : W.cell? ⟨gb + 1, 0, none⟩ = some a
  m1 : W.cell? ⟨gb + 1, 1, none⟩ = some b
  m2 : W.cell? ⟨gb + 1, 2, none⟩ = some s
  br : BoxAt W (gb + 2) (.slice none 0 0) (.slice none 0 0) (.slice none 0 0) (.int .i64 0) (.int .i64 0)
  bn : BoxAt W nb vF vS vR vT vU
  hb : Below gb w W
section
variable {gb nb : Nat} {V0 V1 V2 V3 V4 a b s vF vS vR vT vU : Value} {w W W' : World}
theorem LdSt.blocks (h : LdSt gb nb V0 V1 V2 V3 V4 a b s vF vS vR vT vU w W) (e0 : W'.heap[gb]? = W.heap[gb]?) (e1 : W'.heap[gb + 1]? = W.heap[gb + 1]?) (e2 : W'.heap[gb + 2]? = W.heap[gb + 2]?) (e3 : W'.heap[nb]? = W.heap[nb]?) (hb : Below gb w W') : LdSt gb nb V0 V1 V2 V3 V4 a b s vF vS vR vT vU w W' :=
  ⟨h.ba.of_block e0, (World.cell?_of_block (a := ⟨gb + 1, 0, none⟩) e1).trans h.m0, (World.cell?_of_block (a := ⟨gb + 1, 1, none⟩) e1).trans h.m1, (World.cell?_of_block (a := ⟨gb + 1, 2, none⟩) e1).trans h.m2, h.br.of_block e2, h.bn.of_block e3, hb⟩
theorem LdSt.grown {r : Option Nat} {lo : Nat} (h : LdSt gb nb V0 V1 V2 V3 V4 a b s vF vS vR vT vU w W) (hg : W.grownBy W' r) (hl : gb + 3 ≤ lo) (hr : ∀ g, r = some g → lo ≤ g ∧ g < nb) : LdSt gb nb V0 V1 V2 V3 V4 a b s vF vS vR vT vU w W' := by
  have l0 := h.ba.lt
  have l1 := block_lt h.m0
  have l2 := h.br.lt
  have l3 := h.bn.lt
  simp only at l1
  exact h.blocks (hg.block _ l0 fun e => by have := hr _ e.symm; omega) (hg.block _ l1 fun e => by have := hr _ e.symm; omega) (hg.block _ l2 fun e => by have := hr _ e.symm; omega) (hg.block _ l3 fun e => by have := hr _ e.symm; omega)
    (h.hb.trans (below_of_grown hg (by omega) (fun g e => by have := hr _ e; omega)))
theorem LdSt.keep (h : LdSt gb nb V0 V1 V2 V3 V4 a b s vF vS vR vT vU w W) (hb : Below W.heap.size W W') : LdSt gb nb V0 V1 V2 V3 V4 a b s vF vS vR vT vU w W' := by
  have l0 := h.ba.lt
  exact ⟨h.ba.keep hb, keepc hb h.m0, keepc hb h.m1, keepc hb h.m2, h.br.keep hb, h.bn.keep hb, h.hb.trans (hb.mono (by omega))⟩
theorem LdSt.far (h : LdSt gb nb V0 V1 V2 V3 V4 a b s vF vS vR vT vU w W) (hn : gb + 3 ≤ nb) (j : Nat) (v : Value) {vF' vS' vR' vT' vU' : Value} (hv : BoxAt (W.setCell ⟨nb, j, none⟩ v) nb vF' vS' vR' vT' vU') : LdSt gb nb V0 V1 V2 V3 V4 a b s vF' vS' vR' vT' vU' w (W.setCell ⟨nb, j, none⟩ v) := by
  have e1 : (W.setCell ⟨nb, j, none⟩ v).heap[gb + 1]? = W.heap[gb + 1]? := heap_setCell_other W ⟨nb, j, none⟩ (gb + 1) v (by show gb + 1 ≠ nb; omega)
  exact ⟨h.ba.far v (by omega), (World.cell?_of_block (a := ⟨gb + 1, 0, none⟩) e1).trans h.m0, (World.cell?_of_block (a := ⟨gb + 1, 1, none⟩) e1).trans h.m1, (World.cell?_of_block (a := ⟨gb + 1, 2, none⟩) e1).trans h.m2, h.br.far v (by omega), hv, below_box h.hb (by omega)⟩
end

set_option maxRecDepth 100000 in
set_option maxHeartbeats 1500000 in
theorem c_laid (AF : Option Addr) (cF : Nat) (F : List (Int × Int)) (AS : Option Addr) (cS : Nat) (S : List (Int × Int)) (AR : Option Addr) (cR : Nat) (R : List Int) (t u : Int) (a b : Int) (k : Nat) (hk : k ≤ 2) (w : World) (hF : RdT w AF F) (hS : RdT w AS S) (hR : RdI w AR R) (lF : F.length ≤ 1048576) (lS : S.length ≤ 1048576) (lR : R.length ≤ 1048576) :
    Calls Try.prog 164 #[.agg #[.slice AF F.length cF, .slice AS S.length cS, .slice AR R.length cR, .int .i64 t, .int .i64 u], .agg #[.int .i64 a, .int .i64 b, .string (endS k)]] w (RetG w (woL F a b) (woL S a b) (rowWL R a b k) t 0) := by
  have con := Lib.hid (fun W (hb : Below w.heap.size w W) => c_copied AF cF F AS cS S AR cR R t u W (hF.below hb) (hS.below hb) (hR.below hb) lF lS lR)
  have conR := Lib.hid (fun W (hb : Below w.heap.size w W) => c_rowWith AF cF F AS cS S AR cR R t u a b k hk W (hR.below hb) lR)
  have hmf : ∀ (fn : Fn) (first cap : Array Value) (w : World), (Instr.makeFunc fn first cap).run Try.prog w = .ok (.func fn first cap) w := fun _ _ _ _ => rfl
  generalize rowWL R a b k = L at *
  clear hF hS hR lR
  generalize endS k = s at *
  go_enter Try.func164, Try.ntmps164
  go_wp2_with fail
  obtain ⟨w0, hw0⟩ : ∃ w0, w0 = ((w.alloc (.cells #[.slice AF F.length cF, .slice AS S.length cS, .slice AR R.length cR, .int .i64 t, .int .i64 u] 43)).alloc (.cells #[.int .i64 a, .int .i64 b, .string s] 198)).alloc (.cells #[.slice none 0 0, .slice none 0 0, .slice none 0 0, .int .i64 0, .int .i64 0] 43) := ⟨_, rfl⟩
  rw [← hw0]
  have ba0 : BoxAt w0 w.heap.size (.slice AF F.length cF) (.slice AS S.length cS) (.slice AR R.length cR) (.int .i64 t) (.int .i64 u) := by rw [hw0]; exact ((BoxAt.fresh w _ _ _ _ _ _).more _).more _
  have br0 : BoxAt w0 (w.heap.size + 2) (.slice none 0 0) (.slice none 0 0) (.slice none 0 0) (.int .i64 0) (.int .i64 0) := by
    have h1 := BoxAt.fresh ((w.alloc (.cells #[.slice AF F.length cF, .slice AS S.length cS, .slice AR R.length cR, .int .i64 t, .int .i64 u] 43)).alloc (.cells #[.int .i64 a, .int .i64 b, .string s] 198)) (.slice none 0 0) (.slice none 0 0) (.slice none 0 0) (.int .i64 0) (.int .i64 0) 43
    rw [World.size_alloc, World.size_alloc] at h1
    rw [hw0]; exact h1
  have hb0 : Below w.heap.size w w0 := by rw [hw0]; go_grown
  have hs0 : w0.heap.size = w.heap.size + 3 := by rw [hw0, World.size_alloc, World.size_alloc, World.size_alloc]
  have n0 : w0.cell? ⟨w.heap.size + 1, 0, none⟩ = some (.int .i64 a) := by
    have h1 : ((w.alloc (.cells #[.slice AF F.length cF, .slice AS S.length cS, .slice AR R.length cR, .int .i64 t, .int .i64 u] 43)).alloc (.cells #[.int .i64 a, .int .i64 b, .string s] 198)).cell? ⟨w.heap.size + 1, 0, none⟩ = some (.int .i64 a) := by simp
    rw [hw0]
    exact keepc ((Below.refl _ _).alloc (Nat.le_refl _) _) h1
  have n1 : w0.cell? ⟨w.heap.size + 1, 1, none⟩ = some (.int .i64 b) := by
    have h1 : ((w.alloc (.cells #[.slice AF F.length cF, .slice AS S.length cS, .slice AR R.length cR, .int .i64 t, .int .i64 u] 43)).alloc (.cells #[.int .i64 a, .int .i64 b, .string s] 198)).cell? ⟨w.heap.size + 1, 1, none⟩ = some (.int .i64 b) := by simp
    rw [hw0]
    exact keepc ((Below.refl _ _).alloc (Nat.le_refl _) _) h1
  have n2 : w0.cell? ⟨w.heap.size + 1, 2, none⟩ = some (.string s) := by
    have h1 : ((w.alloc (.cells #[.slice AF F.length cF, .slice AS S.length cS, .slice AR R.length cR, .int .i64 t, .int .i64 u] 43)).alloc (.cells #[.int .i64 a, .int .i64 b, .string s] 198)).cell? ⟨w.heap.size + 1, 2, none⟩ = some (.string s) := by simp
    rw [hw0]
    exact keepc ((Below.refl _ _).alloc (Nat.le_refl _) _) h1
  clear hw0
  refine (con.out w0 hb0).mono ?_
  rintro e w1 ⟨A1, c1, A2, c2, A3, c3, rfl, o1, h1⟩
  go_upto_region 2 with (fail)
  obtain ⟨w2, hw2⟩ : ∃ w2, w2 = w1.alloc (.cells #[.slice A1 F.length c1, .slice A2 S.length c2, .slice A3 R.length c3, .int .i64 t, .int .i64 u] 43) := ⟨_, rfl⟩
  rw [← hw2]
  have h2 : Below w1.heap.size w1 w2 := by rw [hw2]; exact (Below.refl _ _).alloc (Nat.le_refl _) _
  have bt : BoxAt w2 w1.heap.size (.slice A1 F.length c1) (.slice A2 S.length c2) (.slice A3 R.length c3) (.int .i64 t) (.int .i64 u) := by rw [hw2]; exact BoxAt.fresh w1 _ _ _ _ _ _
  have h12 := bstep h1 h2
  have S2 : LdSt w.heap.size w1.heap.size (.slice AF F.length cF) (.slice AS S.length cS) (.slice AR R.length cR) (.int .i64 t) (.int .i64 u) (.int .i64 a) (.int .i64 b) (.string s) (.slice A1 F.length c1) (.slice A2 S.length c2) (.slice A3 R.length c3) (.int .i64 t) (.int .i64 u) w w2 := ⟨ba0.keep h12, keepc h12 n0, keepc h12 n1, keepc h12 n2, br0.keep h12, bt, bstep hb0 h12⟩
  have G2 := o1.below h2 (Nat.le_refl _)
  have q1 := h1.size
  clear hw2 o1 h1 h2 h12 bt ba0 br0 n0 n1 n2 con hb0
  have x0 := S2.bn.c0
  have con1 := c_laidDel A1 c1 F (w.heap.size + 1) w0.heap.size a b w2 G2.f lF (fun e => by have := (G2.f.lt _ e).1; omega) S2.m0 S2.m1
  go_wp2_with fail
  refine con1.mono ?_
  rintro e w3 ⟨rfl, of3, g3⟩
  have S3 := S2.grown (lo := w0.heap.size) g3 (by omega) (fun g e => ⟨(G2.f.lt g e).1, G2.hf g e⟩)
  have os3 := World.ownsRow.kept G2.s g3 G2.fs.symm.kept
  have or3 := World.ownsRow.kept G2.r g3 G2.fr.symm.kept
  have G3 : OwnG w3 w0.heap.size w1.heap.size (.slice A1 (woL F a b).length c1) (woL F a b).length (woL F a b) (.slice A2 S.length c2) S.length S (.slice A3 R.length c3) R.length R :=
    ⟨of3, os3, or3, fun g e => G2.hf g ((ownBlock_any _ _ _ _ _).trans e), G2.hs, G2.hr, fun g e => G2.fs g ((ownBlock_any _ _ _ _ _).trans e), fun g e => G2.fr g ((ownBlock_any _ _ _ _ _).trans e), G2.sr⟩
  have y0 := S3.bn.c0
  have z0 := S3.bn.fz 0
  clear con1 of3 os3 or3 g3 x0 S2 G2
  go_upto_region 4 with (fail)
  have S4 := S3.far (by omega) 0 (.slice A1 (woL F a b).length c1) (S3.bn.set0 _)
  have G4 := G3.boxHi (a := w1.heap.size) (j := 0) (u := .slice A1 (woL F a b).length c1) (Nat.le_refl _)
  obtain ⟨w4, hw4⟩ : ∃ w4, w4 = w3.setCell ⟨w1.heap.size, 0, none⟩ (.slice A1 (woL F a b).length c1) := ⟨_, rfl⟩
  rw [← hw4] at S4 G4 ⊢
  clear hw4 S3 G3 y0 z0
  have x1 := S4.bn.c1
  have con2 := c_laidDel A2 c2 S (w.heap.size + 1) w0.heap.size a b w4 G4.s lS (fun e => by have := (G4.s.lt _ e).1; omega) S4.m0 S4.m1
  go_wp2_with fail
  refine con2.mono ?_
  rintro e w5 ⟨rfl, os5, g5⟩
  have S5 := S4.grown (lo := w0.heap.size) g5 (by omega) (fun g e => ⟨(G4.s.lt g e).1, G4.hs g e⟩)
  have of5 := World.ownsRow.kept G4.f g5 G4.fs.kept
  have or5 := World.ownsRow.kept G4.r g5 G4.sr.symm.kept
  have G5 : OwnG w5 w0.heap.size w1.heap.size (.slice A1 (woL F a b).length c1) (woL F a b).length (woL F a b) (.slice A2 (woL S a b).length c2) (woL S a b).length (woL S a b) (.slice A3 R.length c3) R.length R :=
    ⟨of5, os5, or5, G4.hf, fun g e => G4.hs g ((ownBlock_any _ _ _ _ _).trans e), G4.hr, fun g e e' => G4.fs g e ((ownBlock_any _ _ _ _ _).trans e'), G4.fr, fun g e => G4.sr g ((ownBlock_any _ _ _ _ _).trans e)⟩
  have y1 := S5.bn.c1
  have z1 := S5.bn.fz 1
  clear con2 of5 os5 or5 g5 x1 S4 G4
  go_upto_region 5 with (fail)
  have S6 := S5.far (by omega) 1 (.slice A2 (woL S a b).length c2) (S5.bn.set1 _)
  have G6 := G5.boxHi (a := w1.heap.size) (j := 1) (u := .slice A2 (woL S a b).length c2) (Nat.le_refl _)
  obtain ⟨w6, hw6⟩ : ∃ w6, w6 = w5.setCell ⟨w1.heap.size, 1, none⟩ (.slice A2 (woL S a b).length c2) := ⟨_, rfl⟩
  rw [← hw6] at S6 G6 ⊢
  clear hw6 S5 G5 y1 z1
  have a0 := S6.ba.c0
  have a1 := S6.ba.c1
  have a2 := S6.ba.c2
  have a3 := S6.ba.c3
  have a4 := S6.ba.c4
  have m0 := S6.m0
  have m1 := S6.m1
  have m2 := S6.m2
  have l6 := S6.bn.lt
  go_wp2_with fail
  refine (conR.out w6 S6.hb).mono ?_
  rintro e w7 ⟨A7, c7, rfl, o7, h7⟩
  have S7 := S6.keep h7
  have f7 := own_keep G6.f h7
  have s7 := own_keep G6.s h7
  have G7 : OwnG w7 w0.heap.size w7.heap.size (.slice A1 (woL F a b).length c1) (woL F a b).length (woL F a b) (.slice A2 (woL S a b).length c2) (woL S a b).length (woL S a b) (.slice A7 L.length c7) L.length L :=
    ⟨f7, s7, own_base o7 (by omega), fun g e => (f7.lt g e).2, fun g e => (s7.lt g e).2, fun g e => (o7.lt g e).2, G6.fs, fun g e e' => by have := G6.hf g e; have := (o7.lt g e').1; omega, fun g e e' => by have := G6.hs g e; have := (o7.lt g e').1; omega⟩
  have nF : ∀ g, (Value.slice A1 (woL F a b).length c1).ownBlock = some g → g ≠ w1.heap.size := fun g e => by have := G6.hf g e; omega
  have nS : ∀ g, (Value.slice A2 (woL S a b).length c2).ownBlock = some g → g ≠ w1.heap.size := fun g e => by have := G6.hs g e; omega
  have nR : ∀ g, (Value.slice A7 L.length c7).ownBlock = some g → g ≠ w1.heap.size := fun g e => by have := (o7.lt g e).1; omega
  have y2 := S7.bn.c2
  have z2 := S7.bn.fz 2
  clear conR f7 s7 o7 h7 a0 a1 a2 a3 a4 m0 m1 m2 S6 G6 l6
  go_upto_region 6 with (fail)
  have S8 := S7.far (by omega) 2 (.slice A7 L.length c7) (S7.bn.set2 _)
  have G8 := G7.setOff (j := 2) (u := .slice A7 L.length c7) nF nS nR
  obtain ⟨w8, hw8⟩ : ∃ w8, w8 = w7.setCell ⟨w1.heap.size, 2, none⟩ (.slice A7 L.length c7) := ⟨_, rfl⟩
  rw [← hw8] at S8 G8 ⊢
  have hs8 : w8.heap.size = w7.heap.size := by rw [hw8]; simp
  clear hw8 S7 G7 y2 z2
  have y4 := S8.bn.c4
  have z4 := S8.bn.fz 4
  go_upto_region 7 with (fail)
  have S9 := S8.far (by omega) 4 (.int .i64 0) (S8.bn.set4 _)
  have G9 := G8.setOff (j := 4) (u := .int .i64 0) nF nS nR
  obtain ⟨w9, hw9⟩ : ∃ w9, w9 = w8.setCell ⟨w1.heap.size, 4, none⟩ (.int .i64 0) := ⟨_, rfl⟩
  rw [← hw9] at S9 G9 ⊢
  have hs9 : w9.heap.size = w8.heap.size := by rw [hw9]; simp
  clear hw9 S8 G8 y4 z4
  have x0 := S9.bn.c0
  have x1 := S9.bn.c1
  have x2 := S9.bn.c2
  have x3 := S9.bn.c3
  have x4 := S9.bn.c4
  have r0 := S9.br.c0
  have r1 := S9.br.c1
  have r2 := S9.br.c2
  have r3 := S9.br.c3
  have r4 := S9.br.c4
  have z0 := S9.br.fz 0
  have z1 := S9.br.fz 1
  have z2 := S9.br.fz 2
  have z3 := S9.br.fz 3
  have z4 := S9.br.fz 4
  go_wp2
  refine bodyPost_ret (v := .agg #[.slice A1 (woL F a b).length c1, .slice A2 (woL S a b).length c2, .slice A7 L.length c7, .int .i64 t, .int .i64 0]) (by simp [results, Try.results164, go_sem, r0, r1, r2, r3, r4]) rfl ⟨A1, c1, A2, c2, A7, c7, rfl, ?_, ?_⟩
  · exact ((((((G9.box (by omega)).box (by omega)).box (by omega)).box (by omega)).box (by omega)).base (by omega)).top (by simp [World.setCell]; omega)
  · exact below_box (below_box (below_box (below_box (below_box S9.hb (by omega)) (by omega)) (by omega)) (by omega)) (by omega)

end Go.Proofs.Ytlnfialfkipdjaa

namespace Go.Proofs.Ytlnfialfkipdjaa
open Go.RowKit
set_option linter.unusedVariables false

end Go.Proofs.Ytlnfialfkipdjaa

namespace Go.Proofs.Ytlnfialfkipdjaa
open Go.RowKit
set_option linter.unusedVariables false

theorem woL_none {ts : List (Int × Int)} {a b : Int} (h : (a, b) ∉ ts) : woL ts a b = ts := by
  unfold woL
  refine List.filter_eq_self.2 fun x hx => ?_
  unfold isTB
  obtain ⟨p, q⟩ := x
  by_cases e : p = a ∧ q = b
  · exact absurd hx (by rw [e.1, e.2]; exact h)
  · simp only [Bool.not_eq_true', Bool.and_eq_false_iff, beq_eq_false_iff_ne, ne_eq]
    by_cases e1 : p = a
    · exact .inr fun e2 => e ⟨e1, e2⟩
    · exact .inl e1

theorem rowWL_eq {R : List Int} {a b : Int} {k : Nat} (hR : rowB R = true) (hg : goodB a b = true) (hx : (a, b) ∉ rowT R) (hk : (k = 1 ∧ leftB R a b = true) ∨ (k = 2 ∧ rightB R a b = true)) : rowWL R a b k = rowAfter R a b k := by
  unfold rowWL
  by_cases h0 : R.length = 0
  · unfold rowAfter; rw [if_pos h0, if_pos h0]
  · have e1 : rowAfter R a b k = layT R a b (k == 1) := if_neg h0
    have h1 := (row_after hR hg hx hk).1
    rw [e1] at h1 ⊢
    rw [if_neg h0]
    have hl : (layT R a b (k == 1)).length ≠ 0 := by unfold layT layOut; split <;> simp
    have hc : chainB (layT R a b (k == 1)) = true := by
      unfold rowB at h1
      rw [decide_eq_false hl] at h1
      simp only [Bool.false_or, Bool.and_eq_true] at h1
      exact h1.1
    have hcR : chainB R = true := by
      unfold rowB at hR
      rw [decide_eq_false h0] at hR
      simp only [Bool.false_or, Bool.and_eq_true] at hR
      exact hR.1
    unfold layHL layB
    rw [hcR, hg, hc]
    rfl

end Go.Proofs.Ytlnfialfkipdjaa

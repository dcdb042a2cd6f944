/- What the specification's plMake must give. Numbers appended inside a region that draws its order. A tile laid: the specification's. A tile laid at the right end: the specification's. The specification's plMake at every move that can be made. -/
import Derived.Test.YtgjdpiooocpmhabGreatDoorMovC
import Derived.Test.YtgjdpiooocpmhabGreatDoorGameC
import Derived.Test.YtgjdpiooocpmhabGreatDoorChains
import Derived.Deep.RegionLaw
import Derived.Test.YtgjdpiooocpmhabGreatDoorBehA
namespace Go.Proofs.YtgjdpiooocpmhabGreatDoor
open Go.RowKit
set_option linter.unusedVariables false

theorem game_len {F S : List (Int × Int)} {R : List Int} {t u : Int} (h : gameB F S R t u = true) : F.length ≤ 55 ∧ S.length ≤ 55 ∧ R.length ≤ 56 ∧ (t = 0 ∨ t = 1) := by
  obtain ⟨g1, g2, g3, g4, g5, g6, g7⟩ := gameB_parts h
  have lF := (of_decide_eq_true g3 : handP F).1
  have lS := (of_decide_eq_true g4 : handP S).1
  have lR : R.length ≤ 56 := by
    unfold rowB at g2
    simp only [Bool.or_eq_true, decide_eq_true_eq, Bool.and_eq_true] at g2
    rcases g2 with h | h
    · omega
    · exact (chain_len h.1).2
  unfold turnB at g1
  simp only [Bool.and_eq_true, decide_eq_true_eq] at g1
  exact ⟨lF, lS, lR, by omega⟩

/-- What plMake gives, at every move that can be made. -/
def MakeP : Prop := ∀ (AF : Option Addr) (cF : Nat) (F : List (Int × Int)) (AS : Option Addr) (cS : Nat) (S : List (Int × Int)) (AR : Option Addr) (cR : Nat) (R : List Int) (t u : Int) (m : Mv) (w : World) (hF : RdT w AF F) (hS : RdT w AS S) (hR : RdI w AR R) (hg : gameB F S R t u = true) (hm : m ∈ movesL F S R t u),
  Calls Tryz.prog 55 #[.agg #[.slice AF F.length cF, .slice AS S.length cS, .slice AR R.length cR, .int .i64 t, .int .i64 u], .agg #[.int .i64 m.1, .int .i64 m.2.1, .bool (m.2.2 == 1), .bool (m.2.2 == 0)]] w (RetG w (behF F t m) (behS S t m) (behR R m) (1 - t) (behU u m))

end Go.Proofs.YtgjdpiooocpmhabGreatDoor

namespace Go.Proofs.YtgjdpiooocpmhabGreatDoor
open Go.RowKit
set_option linter.unusedVariables false

theorem step_append_intsK {w : World} {ops : Array Oper} {o : Oper} {a : Act} {K : Act → World → Prop} {Q : Exit → Act → World → Prop} {E : Prop} (hgd : o.guard = none) (s x : Operand)
    (ho : o.op = .call { callee := .builtin .append, args := #[s, x], argTypes := #[23, 23] }) (base : Nat) (v : Value) (ts : List Int) (hs : a.eval s = v)
    (hown : w.ownsRow base 3 1 v ts.length (cellsI ts)) (A : Option Addr) (c : Nat) (us : List Int) (hpos : 0 < us.length) (hx : a.eval x = .slice A us.length c) (hr : RdI w A us)
    (hlen : ts.length ≤ 2097152) (hlen' : us.length ≤ 2097152) (hbase : base ≤ w.heap.size)
    (h : ∀ A c w', w'.ownsRow base 3 1 (.slice A (ts ++ us).length c) (ts ++ us).length (cellsI (ts ++ us)) → w.grownBy w' v.ownBlock → K (a.put o.dst (.slice A (ts ++ us).length c)) w') :
    if Region.wanted o (yielded ops a.tmps) = true then Oper.wp Tryz.prog o a w K Q else E := by
  have hw : Region.wanted o (yielded ops a.tmps) = true := by simp [Region.wanted, hgd]
  rw [if_pos hw]
  obtain ⟨i0, hi, hz0, hz1, hz2⟩ := info_parts Tryz.info_int
  obtain ⟨b, off, rfl, _, hc⟩ := hr.at_ hpos
  refine wp_append_own w s x 23 ho base 3 i0 _ 1 8 Tryz.underlying23 hi hz0 hz1 hz2 rfl (by decide) v ts.length (cellsI ts) hs hown ⟨b, off, none⟩ us.length c (cellsI us) hx (by rw [cellsI_length, Nat.mul_one]) ?_ (cellsI_one us) (by unfold maxLen; omega) (by omega) hbase ?_
  · intro j u hj
    have hk : j < us.length := by
      have := (List.getElem?_eq_some_iff.1 hj).1
      rw [cellsI_length] at this
      exact this
    have hadd : (⟨b, off, none⟩ : Addr).add j = ⟨b, off + j, none⟩ := by
      unfold Addr.add
      split <;> simp_all
    rw [hadd, hc j hk]
    have e : (cellsI us)[j]? = some (.int .i64 us[j]) := by simp [cellsI, hk]
    rw [e] at hj
    exact hj
  · intro v' w' h1 h2 _
    rw [← cellsI_append, ← List.length_append] at h1
    obtain ⟨A2, c2, rfl⟩ : ∃ A2 c2, v' = .slice A2 (ts ++ us).length c2 := by
      rcases h1.2 with ⟨hv, hn⟩ | ⟨g, cap, cur, rfl, _⟩
      · rw [List.length_append] at hn; omega
      · exact ⟨_, cap, rfl⟩
    exact h A2 c2 w' h1 h2
end Go.Proofs.YtgjdpiooocpmhabGreatDoor

namespace Go.Proofs.YtgjdpiooocpmhabGreatDoor
open Go.RowKit
set_option linter.unusedVariables false

set_option maxRecDepth 100000 in
set_option maxHeartbeats 1500000 in
theorem c_plMakeFE (AF : Option Addr) (cF : Nat) (F : List (Int × Int)) (AS : Option Addr) (cS : Nat) (S : List (Int × Int)) (AR : Option Addr) (cR : Nat) (R : List Int) (t u : Int) (a b : Int) (l : Bool) (w : World) (hF : RdT w AF F) (hS : RdT w AS S) (hR : RdI w AR R) (lF : F.length ≤ 1048576) (lS : S.length ≤ 1048576) (lR : R.length ≤ 1048576) (ht : t = 0) (ha : 0 ≤ a ∧ a ≤ 9) (hb : 0 ≤ b ∧ b ≤ 9) (h0 : R.length = 0) :
    Calls Tryz.prog 55 #[.agg #[.slice AF F.length cF, .slice AS S.length cS, .slice AR R.length cR, .int .i64 t, .int .i64 u], .agg #[.int .i64 a, .int .i64 b, .bool l, .bool false]] w (RetG w (woL F a b) (S) [a, b] (1 - t) 0) := by
  have con := Lib.hid (fun W (hb : Below w.heap.size w W) => c_plOwn AF cF F AS cS S AR cR R t u W (hF.below hb) (hS.below hb) (hR.below hb) lF lS lR)
  have conW := Lib.hid (fun W (hb : Below w.heap.size w W) => c_plWithout AF cF F a b W (hF.below hb) lF)
  have et : (t == 0) = true := by simp [ht]
  have ht0 : 0 ≤ t := by omega
  have ht1 : t ≤ 1 := by omega
  have er : ((R.length : Int) == 0) = true := by simp [h0]
  generalize hF1 : woL F a b = F1 at *
  have H0 := Lib.hid h0
  clear ht hF hS hF1 h0
  go_enter Tryz.func55, Tryz.ntmps55
  go_wp2_with fail
  obtain ⟨w0, hw0⟩ : ∃ w0, w0 = ((w.alloc (.cells #[.slice AF F.length cF, .slice AS S.length cS, .slice AR R.length cR, .int .i64 t, .int .i64 u] 32)).alloc (.cells #[.int .i64 a, .int .i64 b, .bool l, .bool false] 70)).alloc (.cells #[.slice none 0 0, .slice none 0 0, .slice none 0 0, .int .i64 0, .int .i64 0] 32) := ⟨_, rfl⟩
  rw [← hw0]
  have ba0 : BoxAt w0 w.heap.size (.slice AF F.length cF) (.slice AS S.length cS) (.slice AR R.length cR) (.int .i64 t) (.int .i64 u) := by rw [hw0]; exact ((BoxAt.fresh w _ _ _ _ _ _).more _).more _
  have br0 : BoxAt w0 (w.heap.size + 2) (.slice none 0 0) (.slice none 0 0) (.slice none 0 0) (.int .i64 0) (.int .i64 0) := by
    have h1 := BoxAt.fresh ((w.alloc (.cells #[.slice AF F.length cF, .slice AS S.length cS, .slice AR R.length cR, .int .i64 t, .int .i64 u] 32)).alloc (.cells #[.int .i64 a, .int .i64 b, .bool l, .bool false] 70)) (.slice none 0 0) (.slice none 0 0) (.slice none 0 0) (.int .i64 0) (.int .i64 0) 32
    rw [World.size_alloc, World.size_alloc] at h1
    rw [hw0]; exact h1
  have hb0 : Below w.heap.size w w0 := by rw [hw0]; go_grown
  have hs0 : w0.heap.size = w.heap.size + 3 := by rw [hw0, World.size_alloc, World.size_alloc, World.size_alloc]
  have n0 : w0.cell? ⟨w.heap.size + 1, 0, none⟩ = some (.int .i64 a) := by
    have h1 : ((w.alloc (.cells #[.slice AF F.length cF, .slice AS S.length cS, .slice AR R.length cR, .int .i64 t, .int .i64 u] 32)).alloc (.cells #[.int .i64 a, .int .i64 b, .bool l, .bool false] 70)).cell? ⟨w.heap.size + 1, 0, none⟩ = some (.int .i64 a) := by simp
    rw [hw0]
    exact keepc ((Below.refl _ _).alloc (Nat.le_refl _) _) h1
  have n1 : w0.cell? ⟨w.heap.size + 1, 1, none⟩ = some (.int .i64 b) := by
    have h1 : ((w.alloc (.cells #[.slice AF F.length cF, .slice AS S.length cS, .slice AR R.length cR, .int .i64 t, .int .i64 u] 32)).alloc (.cells #[.int .i64 a, .int .i64 b, .bool l, .bool false] 70)).cell? ⟨w.heap.size + 1, 1, none⟩ = some (.int .i64 b) := by simp
    rw [hw0]
    exact keepc ((Below.refl _ _).alloc (Nat.le_refl _) _) h1
  have n2 : w0.cell? ⟨w.heap.size + 1, 2, none⟩ = some (.bool l) := by
    have h1 : ((w.alloc (.cells #[.slice AF F.length cF, .slice AS S.length cS, .slice AR R.length cR, .int .i64 t, .int .i64 u] 32)).alloc (.cells #[.int .i64 a, .int .i64 b, .bool l, .bool false] 70)).cell? ⟨w.heap.size + 1, 2, none⟩ = some (.bool l) := by simp
    rw [hw0]
    exact keepc ((Below.refl _ _).alloc (Nat.le_refl _) _) h1
  have n3 : w0.cell? ⟨w.heap.size + 1, 3, none⟩ = some (.bool false) := by
    have h1 : ((w.alloc (.cells #[.slice AF F.length cF, .slice AS S.length cS, .slice AR R.length cR, .int .i64 t, .int .i64 u] 32)).alloc (.cells #[.int .i64 a, .int .i64 b, .bool l, .bool false] 70)).cell? ⟨w.heap.size + 1, 3, none⟩ = some (.bool false) := by simp
    rw [hw0]
    exact keepc ((Below.refl _ _).alloc (Nat.le_refl _) _) h1
  clear hw0
  refine (con.out w0 hb0).mono ?_
  rintro e w1 ⟨A1, c1, A2, c2, A3, c3, rfl, o1, h1⟩
  go_upto_region 2 with (fail)
  obtain ⟨w2, hw2⟩ : ∃ w2, w2 = w1.alloc (.cells #[.slice A1 F.length c1, .slice A2 S.length c2, .slice A3 R.length c3, .int .i64 t, .int .i64 u] 32) := ⟨_, rfl⟩
  rw [← hw2]
  have h2 : Below w1.heap.size w1 w2 := by rw [hw2]; exact (Below.refl _ _).alloc (Nat.le_refl _) _
  have bt : BoxAt w2 w1.heap.size (.slice A1 F.length c1) (.slice A2 S.length c2) (.slice A3 R.length c3) (.int .i64 t) (.int .i64 u) := by rw [hw2]; exact BoxAt.fresh w1 _ _ _ _ _ _
  have h12 := bstep h1 h2
  have S2 : LdSt w.heap.size w1.heap.size (.slice AF F.length cF) (.slice AS S.length cS) (.slice AR R.length cR) (.int .i64 t) (.int .i64 u) (.int .i64 a) (.int .i64 b) (.bool l) (.slice A1 F.length c1) (.slice A2 S.length c2) (.slice A3 R.length c3) (.int .i64 t) (.int .i64 u) w w2 := ⟨ba0.keep h12, keepc h12 n0, keepc h12 n1, keepc h12 n2, br0.keep h12, bt, bstep hb0 h12⟩
  have n32 := keepc h12 n3
  have G2 := o1.below h2 (Nat.le_refl _)
  have q1 := h1.size
  clear hw2 o1 h1 h2 h12 bt ba0 br0 n0 n1 n2 n3 con hb0
  have x3 := S2.ba.c3
  have y3 := S2.bn.c3
  have z3 := S2.bn.fz 3
  have l2 := block_lt n32
  go_upto_region 3 with (fail)
  have S3 := S2.far (by omega) 3 (.int .i64 (1 - t)) (S2.bn.set3 _)
  have G3 := G2.boxHi (a := w1.heap.size) (j := 3) (u := .int .i64 (1 - t)) (Nat.le_refl _)
  have n33 : (w2.setCell ⟨w1.heap.size, 3, none⟩ (.int .i64 (1 - t))).cell? ⟨w.heap.size + 1, 3, none⟩ = some (.bool false) := (World.cell?_of_block (a := ⟨w.heap.size + 1, 3, none⟩) (heap_setCell_other w2 ⟨w1.heap.size, 3, none⟩ (w.heap.size + 1) _ (by show w.heap.size + 1 ≠ w1.heap.size; omega))).trans n32
  obtain ⟨w3, hw3⟩ : ∃ w3, w3 = w2.setCell ⟨w1.heap.size, 3, none⟩ (.int .i64 (1 - t)) := ⟨_, rfl⟩
  rw [← hw3] at S3 G3 n33 ⊢
  clear hw3 S2 G2 n32 x3 y3 z3 l2
  have y4 := S3.bn.c4
  have z4 := S3.bn.fz 4
  go_upto_region 7 with (fail)
  have S4 := S3.far (by omega) 4 (.int .i64 0) (S3.bn.set4 _)
  have G4 := G3.boxHi (a := w1.heap.size) (j := 4) (u := .int .i64 0) (Nat.le_refl _)
  obtain ⟨w4, hw4⟩ : ∃ w4, w4 = w3.setCell ⟨w1.heap.size, 4, none⟩ (.int .i64 0) := ⟨_, rfl⟩
  rw [← hw4] at S4 G4 ⊢
  clear hw4 S3 G3 n33 y4 z4
  have a0 := S4.ba.c0
  have a1 := S4.ba.c1
  have a3 := S4.ba.c3
  have m0 := S4.m0
  have m1 := S4.m1
  have l4 := S4.bn.lt
  go_wp2_with fail
  refine (conW.out w4 S4.hb).mono ?_
  rintro e w5 ⟨A5, c5, rfl, o5, h5⟩
  have S5 := S4.keep h5
  have f5 := own_keep G4.f h5
  have s5 := own_keep G4.s h5
  have r5 := own_keep G4.r h5
  have G5 : OwnG w5 w0.heap.size w5.heap.size (.slice A5 F1.length c5) F1.length F1 (.slice A2 S.length c2) S.length S (.slice A3 R.length c3) R.length R :=
    ⟨own_base o5 (by omega), s5, r5, fun g e => (o5.lt g e).2, fun g e => (s5.lt g e).2, fun g e => (r5.lt g e).2, fun g e e' => by have := G4.hs g e'; have := (o5.lt g e).1; omega, fun g e e' => by have := G4.hr g e'; have := (o5.lt g e).1; omega, G4.sr⟩
  have nF : ∀ g, (Value.slice A5 F1.length c5).ownBlock = some g → g ≠ w1.heap.size := fun g e => by have := (o5.lt g e).1; omega
  have nS : ∀ g, (Value.slice A2 S.length c2).ownBlock = some g → g ≠ w1.heap.size := fun g e => by have := G4.hs g e; omega
  have nR : ∀ g, (Value.slice A3 R.length c3).ownBlock = some g → g ≠ w1.heap.size := fun g e => by have := G4.hr g e; omega
  have y0 := S5.bn.c0
  have z0 := S5.bn.fz 0
  have l5 := S5.bn.lt
  clear conW f5 s5 r5 o5 h5 a0 a1 a3 m0 m1 S4 G4
  go_upto_region 10 with (fail)
  have S6 := S5.far (by omega) 0 (.slice A5 F1.length c5) (S5.bn.set0 _)
  have G6 := G5.setOff (j := 0) (u := .slice A5 F1.length c5) nF nS nR
  obtain ⟨w6, hw6⟩ : ∃ w6, w6 = w5.setCell ⟨w1.heap.size, 0, none⟩ (.slice A5 F1.length c5) := ⟨_, rfl⟩
  rw [← hw6] at S6 G6 ⊢
  have HS6 := Lib.hid (show w6.heap.size = w5.heap.size by rw [hw6]; simp)
  clear hw6 S5 G5 y0 z0
  have m0 := S6.m0
  have m1 := S6.m1
  have m2 := S6.m2
  have a2 := S6.ba.c2
  have l6 := S6.bn.lt
  have y2 := S6.bn.c2
  have z2 := S6.bn.fz 2

  go_upto_region 16 with (fail)
  have hs6 := HS6.out
  have S7 := S6.far (by omega) 2 (.slice (some ⟨w6.heap.size, 0, none⟩) 2 2) (S6.bn.set2 _)
  have G7 := G6.setOff (j := 2) (u := .slice (some ⟨w6.heap.size, 0, none⟩) 2 2) nF nS nR
  obtain ⟨w7, hw7⟩ : ∃ w7, w7 = w6.setCell ⟨w1.heap.size, 2, none⟩ (.slice (some ⟨w6.heap.size, 0, none⟩) 2 2) := ⟨_, rfl⟩
  have hs7 : w7.heap.size = w6.heap.size := by rw [hw7]; simp
  rw [← hw7] at S7 G7 ⊢
  obtain ⟨w8, hw8⟩ : ∃ w8, w8 = w7.alloc (.cells #[.int .i64 a, .int .i64 b] 3) := ⟨_, rfl⟩
  rw [← hw8]
  have h8 : Below w7.heap.size w7 w8 := by rw [hw8]; exact (Below.refl _ _).alloc (Nat.le_refl _) _
  have o8 : w8.ownsRow w7.heap.size 3 1 (.slice (some ⟨w6.heap.size, 0, none⟩) 2 2) 2 (cellsI [a, b]) := by rw [hw8, ← hs7]; exact World.ownsRow_lit w7 #[.int .i64 a, .int .i64 b] 2 (Nat.le_refl _) (by unfold maxLen; omega) rfl
  have S8 := S7.keep h8
  have f8 := own_keep G7.f h8
  have s8 := own_keep G7.s h8
  have hs8 := h8.size
  have G8 : OwnG w8 w0.heap.size w8.heap.size (.slice A5 F1.length c5) F1.length F1 (.slice A2 S.length c2) S.length S (.slice (some ⟨w6.heap.size, 0, none⟩) 2 2) 2 [a, b] :=
    ⟨f8, s8, own_base o8 (by omega), fun g e => (f8.lt g e).2, fun g e => (s8.lt g e).2, fun g e => (o8.lt g e).2, G6.fs, fun g e e' => by have := G6.hf g e; have := (o8.lt g e').1; omega, fun g e e' => by have := G6.hs g e; have := (o8.lt g e').1; omega⟩
  clear hw8 hw7 S7 G7 S6 G6 m0 m1 m2 a2 y2 z2
  have x0 := S8.bn.c0
  have x1 := S8.bn.c1
  have x2 := S8.bn.c2
  have x3 := S8.bn.c3
  have x4 := S8.bn.c4
  have r0 := S8.br.c0
  have r1 := S8.br.c1
  have r2 := S8.br.c2
  have r3 := S8.br.c3
  have r4 := S8.br.c4
  have z0 := S8.br.fz 0
  have z1 := S8.br.fz 1
  have z2 := S8.br.fz 2
  have z3 := S8.br.fz 3
  have z4 := S8.br.fz 4
  go_wp2
  refine bodyPost_ret (v := .agg #[.slice A5 F1.length c5, .slice A2 S.length c2, .slice (some ⟨w6.heap.size, 0, none⟩) 2 2, .int .i64 (1 - t), .int .i64 0]) (by simp [results, Tryz.results55, go_sem, r0, r1, r2, r3, r4]) rfl ⟨A5, c5, A2, c2, (some ⟨w6.heap.size, 0, none⟩), 2, rfl, ?_, ?_⟩
  · exact ((((((G8.box (by omega)).box (by omega)).box (by omega)).box (by omega)).box (by omega)).base (by omega)).top (by first | (simp [World.setCell]; done) | (simp [World.setCell]; omega))
  · exact below_box (below_box (below_box (below_box (below_box S8.hb (by omega)) (by omega)) (by omega)) (by omega)) (by omega)

set_option maxRecDepth 100000 in
set_option maxHeartbeats 1500000 in
theorem c_plMakeFL (AF : Option Addr) (cF : Nat) (F : List (Int × Int)) (AS : Option Addr) (cS : Nat) (S : List (Int × Int)) (AR : Option Addr) (cR : Nat) (R : List Int) (t u : Int) (a b : Int) (l : Bool) (w : World) (hF : RdT w AF F) (hS : RdT w AS S) (hR : RdI w AR R) (lF : F.length ≤ 1048576) (lS : S.length ≤ 1048576) (lR : R.length ≤ 1048576) (ht : t = 0) (ha : 0 ≤ a ∧ a ≤ 9) (hb : 0 ≤ b ∧ b ≤ 9) (h0 : R.length ≠ 0) (hl : l = true) (hxn : ∀ x ∈ R, 0 ≤ x ∧ x ≤ 9) :
    Calls Tryz.prog 55 #[.agg #[.slice AF F.length cF, .slice AS S.length cS, .slice AR R.length cR, .int .i64 t, .int .i64 u], .agg #[.int .i64 a, .int .i64 b, .bool l, .bool false]] w (RetG w (woL F a b) (S) ([a + b - R.getD 0 0] ++ R) (1 - t) 0) := by
  have con := Lib.hid (fun W (hb : Below w.heap.size w W) => c_plOwn AF cF F AS cS S AR cR R t u W (hF.below hb) (hS.below hb) (hR.below hb) lF lS lR)
  have conW := Lib.hid (fun W (hb : Below w.heap.size w W) => c_plWithout AF cF F a b W (hF.below hb) lF)
  have et : (t == 0) = true := by simp [ht]
  have ht0 : 0 ≤ t := by omega
  have ht1 : t ≤ 1 := by omega
  have er : ((R.length : Int) == 0) = false := by rw [beq_eq_false_iff_ne]; omega
  generalize hF1 : woL F a b = F1 at *
  have H0 := Lib.hid h0
  have HL := Lib.hid hl
  clear hl
  clear ht hF hS hF1 h0
  go_enter Tryz.func55, Tryz.ntmps55
  go_wp2_with fail
  obtain ⟨w0, hw0⟩ : ∃ w0, w0 = ((w.alloc (.cells #[.slice AF F.length cF, .slice AS S.length cS, .slice AR R.length cR, .int .i64 t, .int .i64 u] 32)).alloc (.cells #[.int .i64 a, .int .i64 b, .bool l, .bool false] 70)).alloc (.cells #[.slice none 0 0, .slice none 0 0, .slice none 0 0, .int .i64 0, .int .i64 0] 32) := ⟨_, rfl⟩
  rw [← hw0]
  have ba0 : BoxAt w0 w.heap.size (.slice AF F.length cF) (.slice AS S.length cS) (.slice AR R.length cR) (.int .i64 t) (.int .i64 u) := by rw [hw0]; exact ((BoxAt.fresh w _ _ _ _ _ _).more _).more _
  have br0 : BoxAt w0 (w.heap.size + 2) (.slice none 0 0) (.slice none 0 0) (.slice none 0 0) (.int .i64 0) (.int .i64 0) := by
    have h1 := BoxAt.fresh ((w.alloc (.cells #[.slice AF F.length cF, .slice AS S.length cS, .slice AR R.length cR, .int .i64 t, .int .i64 u] 32)).alloc (.cells #[.int .i64 a, .int .i64 b, .bool l, .bool false] 70)) (.slice none 0 0) (.slice none 0 0) (.slice none 0 0) (.int .i64 0) (.int .i64 0) 32
    rw [World.size_alloc, World.size_alloc] at h1
    rw [hw0]; exact h1
  have hb0 : Below w.heap.size w w0 := by rw [hw0]; go_grown
  have hs0 : w0.heap.size = w.heap.size + 3 := by rw [hw0, World.size_alloc, World.size_alloc, World.size_alloc]
  have n0 : w0.cell? ⟨w.heap.size + 1, 0, none⟩ = some (.int .i64 a) := by
    have h1 : ((w.alloc (.cells #[.slice AF F.length cF, .slice AS S.length cS, .slice AR R.length cR, .int .i64 t, .int .i64 u] 32)).alloc (.cells #[.int .i64 a, .int .i64 b, .bool l, .bool false] 70)).cell? ⟨w.heap.size + 1, 0, none⟩ = some (.int .i64 a) := by simp
    rw [hw0]
    exact keepc ((Below.refl _ _).alloc (Nat.le_refl _) _) h1
  have n1 : w0.cell? ⟨w.heap.size + 1, 1, none⟩ = some (.int .i64 b) := by
    have h1 : ((w.alloc (.cells #[.slice AF F.length cF, .slice AS S.length cS, .slice AR R.length cR, .int .i64 t, .int .i64 u] 32)).alloc (.cells #[.int .i64 a, .int .i64 b, .bool l, .bool false] 70)).cell? ⟨w.heap.size + 1, 1, none⟩ = some (.int .i64 b) := by simp
    rw [hw0]
    exact keepc ((Below.refl _ _).alloc (Nat.le_refl _) _) h1
  have n2 : w0.cell? ⟨w.heap.size + 1, 2, none⟩ = some (.bool l) := by
    have h1 : ((w.alloc (.cells #[.slice AF F.length cF, .slice AS S.length cS, .slice AR R.length cR, .int .i64 t, .int .i64 u] 32)).alloc (.cells #[.int .i64 a, .int .i64 b, .bool l, .bool false] 70)).cell? ⟨w.heap.size + 1, 2, none⟩ = some (.bool l) := by simp
    rw [hw0]
    exact keepc ((Below.refl _ _).alloc (Nat.le_refl _) _) h1
  have n3 : w0.cell? ⟨w.heap.size + 1, 3, none⟩ = some (.bool false) := by
    have h1 : ((w.alloc (.cells #[.slice AF F.length cF, .slice AS S.length cS, .slice AR R.length cR, .int .i64 t, .int .i64 u] 32)).alloc (.cells #[.int .i64 a, .int .i64 b, .bool l, .bool false] 70)).cell? ⟨w.heap.size + 1, 3, none⟩ = some (.bool false) := by simp
    rw [hw0]
    exact keepc ((Below.refl _ _).alloc (Nat.le_refl _) _) h1
  clear hw0
  refine (con.out w0 hb0).mono ?_
  rintro e w1 ⟨A1, c1, A2, c2, A3, c3, rfl, o1, h1⟩
  go_upto_region 2 with (fail)
  obtain ⟨w2, hw2⟩ : ∃ w2, w2 = w1.alloc (.cells #[.slice A1 F.length c1, .slice A2 S.length c2, .slice A3 R.length c3, .int .i64 t, .int .i64 u] 32) := ⟨_, rfl⟩
  rw [← hw2]
  have h2 : Below w1.heap.size w1 w2 := by rw [hw2]; exact (Below.refl _ _).alloc (Nat.le_refl _) _
  have bt : BoxAt w2 w1.heap.size (.slice A1 F.length c1) (.slice A2 S.length c2) (.slice A3 R.length c3) (.int .i64 t) (.int .i64 u) := by rw [hw2]; exact BoxAt.fresh w1 _ _ _ _ _ _
  have h12 := bstep h1 h2
  have S2 : LdSt w.heap.size w1.heap.size (.slice AF F.length cF) (.slice AS S.length cS) (.slice AR R.length cR) (.int .i64 t) (.int .i64 u) (.int .i64 a) (.int .i64 b) (.bool l) (.slice A1 F.length c1) (.slice A2 S.length c2) (.slice A3 R.length c3) (.int .i64 t) (.int .i64 u) w w2 := ⟨ba0.keep h12, keepc h12 n0, keepc h12 n1, keepc h12 n2, br0.keep h12, bt, bstep hb0 h12⟩
  have n32 := keepc h12 n3
  have G2 := o1.below h2 (Nat.le_refl _)
  have q1 := h1.size
  clear hw2 o1 h1 h2 h12 bt ba0 br0 n0 n1 n2 n3 con hb0
  have x3 := S2.ba.c3
  have y3 := S2.bn.c3
  have z3 := S2.bn.fz 3
  have l2 := block_lt n32
  go_upto_region 3 with (fail)
  have S3 := S2.far (by omega) 3 (.int .i64 (1 - t)) (S2.bn.set3 _)
  have G3 := G2.boxHi (a := w1.heap.size) (j := 3) (u := .int .i64 (1 - t)) (Nat.le_refl _)
  have n33 : (w2.setCell ⟨w1.heap.size, 3, none⟩ (.int .i64 (1 - t))).cell? ⟨w.heap.size + 1, 3, none⟩ = some (.bool false) := (World.cell?_of_block (a := ⟨w.heap.size + 1, 3, none⟩) (heap_setCell_other w2 ⟨w1.heap.size, 3, none⟩ (w.heap.size + 1) _ (by show w.heap.size + 1 ≠ w1.heap.size; omega))).trans n32
  obtain ⟨w3, hw3⟩ : ∃ w3, w3 = w2.setCell ⟨w1.heap.size, 3, none⟩ (.int .i64 (1 - t)) := ⟨_, rfl⟩
  rw [← hw3] at S3 G3 n33 ⊢
  clear hw3 S2 G2 n32 x3 y3 z3 l2
  have y4 := S3.bn.c4
  have z4 := S3.bn.fz 4
  go_upto_region 7 with (fail)
  have S4 := S3.far (by omega) 4 (.int .i64 0) (S3.bn.set4 _)
  have G4 := G3.boxHi (a := w1.heap.size) (j := 4) (u := .int .i64 0) (Nat.le_refl _)
  obtain ⟨w4, hw4⟩ : ∃ w4, w4 = w3.setCell ⟨w1.heap.size, 4, none⟩ (.int .i64 0) := ⟨_, rfl⟩
  rw [← hw4] at S4 G4 ⊢
  clear hw4 S3 G3 n33 y4 z4
  have a0 := S4.ba.c0
  have a1 := S4.ba.c1
  have a3 := S4.ba.c3
  have m0 := S4.m0
  have m1 := S4.m1
  have l4 := S4.bn.lt
  go_wp2_with fail
  refine (conW.out w4 S4.hb).mono ?_
  rintro e w5 ⟨A5, c5, rfl, o5, h5⟩
  have S5 := S4.keep h5
  have f5 := own_keep G4.f h5
  have s5 := own_keep G4.s h5
  have r5 := own_keep G4.r h5
  have G5 : OwnG w5 w0.heap.size w5.heap.size (.slice A5 F1.length c5) F1.length F1 (.slice A2 S.length c2) S.length S (.slice A3 R.length c3) R.length R :=
    ⟨own_base o5 (by omega), s5, r5, fun g e => (o5.lt g e).2, fun g e => (s5.lt g e).2, fun g e => (r5.lt g e).2, fun g e e' => by have := G4.hs g e'; have := (o5.lt g e).1; omega, fun g e e' => by have := G4.hr g e'; have := (o5.lt g e).1; omega, G4.sr⟩
  have nF : ∀ g, (Value.slice A5 F1.length c5).ownBlock = some g → g ≠ w1.heap.size := fun g e => by have := (o5.lt g e).1; omega
  have nS : ∀ g, (Value.slice A2 S.length c2).ownBlock = some g → g ≠ w1.heap.size := fun g e => by have := G4.hs g e; omega
  have nR : ∀ g, (Value.slice A3 R.length c3).ownBlock = some g → g ≠ w1.heap.size := fun g e => by have := G4.hr g e; omega
  have y0 := S5.bn.c0
  have z0 := S5.bn.fz 0
  have l5 := S5.bn.lt
  clear conW f5 s5 r5 o5 h5 a0 a1 a3 m0 m1 S4 G4
  go_upto_region 10 with (fail)
  have S6 := S5.far (by omega) 0 (.slice A5 F1.length c5) (S5.bn.set0 _)
  have G6 := G5.setOff (j := 0) (u := .slice A5 F1.length c5) nF nS nR
  obtain ⟨w6, hw6⟩ : ∃ w6, w6 = w5.setCell ⟨w1.heap.size, 0, none⟩ (.slice A5 F1.length c5) := ⟨_, rfl⟩
  rw [← hw6] at S6 G6 ⊢
  have HS6 := Lib.hid (show w6.heap.size = w5.heap.size by rw [hw6]; simp)
  clear hw6 S5 G5 y0 z0
  have m0 := S6.m0
  have m1 := S6.m1
  have m2 := S6.m2
  have a2 := S6.ba.c2
  have l6 := S6.bn.lt
  rw [HL.out] at m2
  have rr := hR.below S6.hb
  have l0 := Lib.hid (show 0 < R.length by have := H0.out; omega)
  obtain ⟨br, orr, hAR, hbr, hcR⟩ := rr.at_ (k := 0) l0.out
  subst hAR
  have e0 := hcR 0 l0.out
  rw [Nat.add_zero] at e0
  obtain ⟨x, hx⟩ : ∃ x, R[0]'l0.out = x := ⟨_, rfl⟩
  rw [hx] at e0
  have xn : 0 ≤ x ∧ x ≤ 9 := hxn x (by rw [← hx]; exact List.getElem_mem _)
  have l1 : (0 : Int) < (R.length : Int) := by have := l0.out; omega
  have ew : IntKind.i64.wrap (a + b - x) = a + b - x := IntWalk.i64_in _ (by omega)
  go_upto_region 15 with (fail)
  have hw : ∀ W, Below w6.heap.size w6 W → RdI W (some ⟨br, orr, none⟩) R := fun W hb => rr.below hb
  have l0n := l0.out
  have lg := S6.ba.lt
  go_region_law (refine step_append_intsK rfl _ _ rfl w6.heap.size _ [a + b - x] rfl (World.ownsRow_lit w6 #[.int .i64 (a + b - x)] 1 (Nat.le_refl _) (by unfold maxLen; omega) rfl) _ _ R l0.out rfl (hw _ (((Below.refl _ _).alloc (Nat.le_refl _) _).drew)) (by simp) (by omega) (by simp) ?_; intro A9 c9 w9 o9 g9; have h9 : Below w6.heap.size w6 w9 := (((Below.refl _ _).alloc (Nat.le_refl _) _).drew).trans (below_of_grown g9 (by simp) (fun g hg => by cases hg; exact Nat.le_refl _)); have S9 := S6.keep h9; have y2 := S9.bn.c2; have z2 := S9.bn.fz 2)
  all_goals
    have hs9 := h9.size
    have hxg : R.getD 0 0 = x := by rw [List.getD_eq_getElem?_getD, List.getElem?_eq_getElem l0.out, hx]; rfl
    have f9 := own_keep G6.f h9
    have s9 := own_keep G6.s h9
    have o9' : w9.ownsRow w6.heap.size 3 1 (.slice A9 (R.length + 1) c9) (R.length + 1) (cellsI ((a + b - R.getD 0 0) :: R)) := by rw [hxg]; simpa using o9
    have G9 : OwnG w9 w0.heap.size w9.heap.size (.slice A5 F1.length c5) F1.length F1 (.slice A2 S.length c2) S.length S (.slice A9 (R.length + 1) c9) (R.length + 1) ((a + b - R.getD 0 0) :: R) :=
      ⟨f9, s9, own_base o9' (by omega), fun g e => (f9.lt g e).2, fun g e => (s9.lt g e).2, fun g e => (o9'.lt g e).2, G6.fs, fun g e e' => by have := G6.hf g e; have := (o9'.lt g e').1; have := HS6.out; have := S6.bn.lt; first | omega | (have := (G6.f.lt g e).2; omega), fun g e e' => by have := (G6.s.lt g e).2; have := (o9'.lt g e').1; omega⟩
    have nR9 : ∀ g, (Value.slice A9 (R.length + 1) c9).ownBlock = some g → g ≠ w1.heap.size := fun g e => by have := (o9'.lt g e).1; omega
    have S10 := S9.far (by omega) 2 (.slice A9 (R.length + 1) c9) (S9.bn.set2 _)
    have G10 := G9.setOff (j := 2) (u := .slice A9 (R.length + 1) c9) nF nS nR9
    obtain ⟨w10, hw10⟩ : ∃ w10, w10 = w9.setCell ⟨w1.heap.size, 2, none⟩ (.slice A9 (R.length + 1) c9) := ⟨_, rfl⟩
    rw [← hw10] at S10 G10 ⊢
    have hs10 : w10.heap.size = w9.heap.size := by rw [hw10]; simp
    clear hw10 S9 G9 y2 z2 hxg f9 s9 o9' o9 g9 h9 a2 m0 m1 m2 e0 l0n hw rr hcR hx S6 G6
    have x0 := S10.bn.c0
    have x1 := S10.bn.c1
    have x2 := S10.bn.c2
    have x3 := S10.bn.c3
    have x4 := S10.bn.c4
    have r0 := S10.br.c0
    have r1 := S10.br.c1
    have r2 := S10.br.c2
    have r3 := S10.br.c3
    have r4 := S10.br.c4
    have z0 := S10.br.fz 0
    have z1 := S10.br.fz 1
    have z2 := S10.br.fz 2
    have z3 := S10.br.fz 3
    have z4 := S10.br.fz 4
    go_wp2
    refine bodyPost_ret (v := .agg #[.slice A5 F1.length c5, .slice A2 S.length c2, .slice A9 (R.length + 1) c9, .int .i64 (1 - t), .int .i64 0]) (by simp [results, Tryz.results55, go_sem, r0, r1, r2, r3, r4]) rfl ⟨A5, c5, A2, c2, A9, c9, rfl, ?_, ?_⟩
    · exact ((((((G10.box (by omega)).box (by omega)).box (by omega)).box (by omega)).box (by omega)).base (by omega)).top (by first | (simp [World.setCell]; done) | (simp [World.setCell]; omega))
    · exact below_box (below_box (below_box (below_box (below_box S10.hb (by omega)) (by omega)) (by omega)) (by omega)) (by omega)

set_option maxRecDepth 100000 in
set_option maxHeartbeats 1500000 in
theorem c_plMakeSE (AF : Option Addr) (cF : Nat) (F : List (Int × Int)) (AS : Option Addr) (cS : Nat) (S : List (Int × Int)) (AR : Option Addr) (cR : Nat) (R : List Int) (t u : Int) (a b : Int) (l : Bool) (w : World) (hF : RdT w AF F) (hS : RdT w AS S) (hR : RdI w AR R) (lF : F.length ≤ 1048576) (lS : S.length ≤ 1048576) (lR : R.length ≤ 1048576) (ht : t = 1) (ha : 0 ≤ a ∧ a ≤ 9) (hb : 0 ≤ b ∧ b ≤ 9) (h0 : R.length = 0) :
    Calls Tryz.prog 55 #[.agg #[.slice AF F.length cF, .slice AS S.length cS, .slice AR R.length cR, .int .i64 t, .int .i64 u], .agg #[.int .i64 a, .int .i64 b, .bool l, .bool false]] w (RetG w (F) (woL S a b) [a, b] (1 - t) 0) := by
  have con := Lib.hid (fun W (hb : Below w.heap.size w W) => c_plOwn AF cF F AS cS S AR cR R t u W (hF.below hb) (hS.below hb) (hR.below hb) lF lS lR)
  have conW := Lib.hid (fun W (hb : Below w.heap.size w W) => c_plWithout AS cS S a b W (hS.below hb) lS)
  have et : (t == 0) = false := by simp [ht]
  have ht0 : 0 ≤ t := by omega
  have ht1 : t ≤ 1 := by omega
  have er : ((R.length : Int) == 0) = true := by simp [h0]
  generalize hF1 : woL S a b = F1 at *
  have H0 := Lib.hid h0
  clear ht hF hS hF1 h0
  go_enter Tryz.func55, Tryz.ntmps55
  go_wp2_with fail
  obtain ⟨w0, hw0⟩ : ∃ w0, w0 = ((w.alloc (.cells #[.slice AF F.length cF, .slice AS S.length cS, .slice AR R.length cR, .int .i64 t, .int .i64 u] 32)).alloc (.cells #[.int .i64 a, .int .i64 b, .bool l, .bool false] 70)).alloc (.cells #[.slice none 0 0, .slice none 0 0, .slice none 0 0, .int .i64 0, .int .i64 0] 32) := ⟨_, rfl⟩
  rw [← hw0]
  have ba0 : BoxAt w0 w.heap.size (.slice AF F.length cF) (.slice AS S.length cS) (.slice AR R.length cR) (.int .i64 t) (.int .i64 u) := by rw [hw0]; exact ((BoxAt.fresh w _ _ _ _ _ _).more _).more _
  have br0 : BoxAt w0 (w.heap.size + 2) (.slice none 0 0) (.slice none 0 0) (.slice none 0 0) (.int .i64 0) (.int .i64 0) := by
    have h1 := BoxAt.fresh ((w.alloc (.cells #[.slice AF F.length cF, .slice AS S.length cS, .slice AR R.length cR, .int .i64 t, .int .i64 u] 32)).alloc (.cells #[.int .i64 a, .int .i64 b, .bool l, .bool false] 70)) (.slice none 0 0) (.slice none 0 0) (.slice none 0 0) (.int .i64 0) (.int .i64 0) 32
    rw [World.size_alloc, World.size_alloc] at h1
    rw [hw0]; exact h1
  have hb0 : Below w.heap.size w w0 := by rw [hw0]; go_grown
  have hs0 : w0.heap.size = w.heap.size + 3 := by rw [hw0, World.size_alloc, World.size_alloc, World.size_alloc]
  have n0 : w0.cell? ⟨w.heap.size + 1, 0, none⟩ = some (.int .i64 a) := by
    have h1 : ((w.alloc (.cells #[.slice AF F.length cF, .slice AS S.length cS, .slice AR R.length cR, .int .i64 t, .int .i64 u] 32)).alloc (.cells #[.int .i64 a, .int .i64 b, .bool l, .bool false] 70)).cell? ⟨w.heap.size + 1, 0, none⟩ = some (.int .i64 a) := by simp
    rw [hw0]
    exact keepc ((Below.refl _ _).alloc (Nat.le_refl _) _) h1
  have n1 : w0.cell? ⟨w.heap.size + 1, 1, none⟩ = some (.int .i64 b) := by
    have h1 : ((w.alloc (.cells #[.slice AF F.length cF, .slice AS S.length cS, .slice AR R.length cR, .int .i64 t, .int .i64 u] 32)).alloc (.cells #[.int .i64 a, .int .i64 b, .bool l, .bool false] 70)).cell? ⟨w.heap.size + 1, 1, none⟩ = some (.int .i64 b) := by simp
    rw [hw0]
    exact keepc ((Below.refl _ _).alloc (Nat.le_refl _) _) h1
  have n2 : w0.cell? ⟨w.heap.size + 1, 2, none⟩ = some (.bool l) := by
    have h1 : ((w.alloc (.cells #[.slice AF F.length cF, .slice AS S.length cS, .slice AR R.length cR, .int .i64 t, .int .i64 u] 32)).alloc (.cells #[.int .i64 a, .int .i64 b, .bool l, .bool false] 70)).cell? ⟨w.heap.size + 1, 2, none⟩ = some (.bool l) := by simp
    rw [hw0]
    exact keepc ((Below.refl _ _).alloc (Nat.le_refl _) _) h1
  have n3 : w0.cell? ⟨w.heap.size + 1, 3, none⟩ = some (.bool false) := by
    have h1 : ((w.alloc (.cells #[.slice AF F.length cF, .slice AS S.length cS, .slice AR R.length cR, .int .i64 t, .int .i64 u] 32)).alloc (.cells #[.int .i64 a, .int .i64 b, .bool l, .bool false] 70)).cell? ⟨w.heap.size + 1, 3, none⟩ = some (.bool false) := by simp
    rw [hw0]
    exact keepc ((Below.refl _ _).alloc (Nat.le_refl _) _) h1
  clear hw0
  refine (con.out w0 hb0).mono ?_
  rintro e w1 ⟨A1, c1, A2, c2, A3, c3, rfl, o1, h1⟩
  go_upto_region 2 with (fail)
  obtain ⟨w2, hw2⟩ : ∃ w2, w2 = w1.alloc (.cells #[.slice A1 F.length c1, .slice A2 S.length c2, .slice A3 R.length c3, .int .i64 t, .int .i64 u] 32) := ⟨_, rfl⟩
  rw [← hw2]
  have h2 : Below w1.heap.size w1 w2 := by rw [hw2]; exact (Below.refl _ _).alloc (Nat.le_refl _) _
  have bt : BoxAt w2 w1.heap.size (.slice A1 F.length c1) (.slice A2 S.length c2) (.slice A3 R.length c3) (.int .i64 t) (.int .i64 u) := by rw [hw2]; exact BoxAt.fresh w1 _ _ _ _ _ _
  have h12 := bstep h1 h2
  have S2 : LdSt w.heap.size w1.heap.size (.slice AF F.length cF) (.slice AS S.length cS) (.slice AR R.length cR) (.int .i64 t) (.int .i64 u) (.int .i64 a) (.int .i64 b) (.bool l) (.slice A1 F.length c1) (.slice A2 S.length c2) (.slice A3 R.length c3) (.int .i64 t) (.int .i64 u) w w2 := ⟨ba0.keep h12, keepc h12 n0, keepc h12 n1, keepc h12 n2, br0.keep h12, bt, bstep hb0 h12⟩
  have n32 := keepc h12 n3
  have G2 := o1.below h2 (Nat.le_refl _)
  have q1 := h1.size
  clear hw2 o1 h1 h2 h12 bt ba0 br0 n0 n1 n2 n3 con hb0
  have x3 := S2.ba.c3
  have y3 := S2.bn.c3
  have z3 := S2.bn.fz 3
  have l2 := block_lt n32
  go_upto_region 3 with (fail)
  have S3 := S2.far (by omega) 3 (.int .i64 (1 - t)) (S2.bn.set3 _)
  have G3 := G2.boxHi (a := w1.heap.size) (j := 3) (u := .int .i64 (1 - t)) (Nat.le_refl _)
  have n33 : (w2.setCell ⟨w1.heap.size, 3, none⟩ (.int .i64 (1 - t))).cell? ⟨w.heap.size + 1, 3, none⟩ = some (.bool false) := (World.cell?_of_block (a := ⟨w.heap.size + 1, 3, none⟩) (heap_setCell_other w2 ⟨w1.heap.size, 3, none⟩ (w.heap.size + 1) _ (by show w.heap.size + 1 ≠ w1.heap.size; omega))).trans n32
  obtain ⟨w3, hw3⟩ : ∃ w3, w3 = w2.setCell ⟨w1.heap.size, 3, none⟩ (.int .i64 (1 - t)) := ⟨_, rfl⟩
  rw [← hw3] at S3 G3 n33 ⊢
  clear hw3 S2 G2 n32 x3 y3 z3 l2
  have y4 := S3.bn.c4
  have z4 := S3.bn.fz 4
  go_upto_region 7 with (fail)
  have S4 := S3.far (by omega) 4 (.int .i64 0) (S3.bn.set4 _)
  have G4 := G3.boxHi (a := w1.heap.size) (j := 4) (u := .int .i64 0) (Nat.le_refl _)
  obtain ⟨w4, hw4⟩ : ∃ w4, w4 = w3.setCell ⟨w1.heap.size, 4, none⟩ (.int .i64 0) := ⟨_, rfl⟩
  rw [← hw4] at S4 G4 ⊢
  clear hw4 S3 G3 n33 y4 z4
  have a0 := S4.ba.c0
  have a1 := S4.ba.c1
  have a3 := S4.ba.c3
  have m0 := S4.m0
  have m1 := S4.m1
  have l4 := S4.bn.lt
  go_wp2_with fail
  refine (conW.out w4 S4.hb).mono ?_
  rintro e w5 ⟨A5, c5, rfl, o5, h5⟩
  have S5 := S4.keep h5
  have f5 := own_keep G4.f h5
  have s5 := own_keep G4.s h5
  have r5 := own_keep G4.r h5
  have G5 : OwnG w5 w0.heap.size w5.heap.size (.slice A1 F.length c1) F.length F (.slice A5 F1.length c5) F1.length F1 (.slice A3 R.length c3) R.length R :=
    ⟨f5, own_base o5 (by omega), r5, fun g e => (f5.lt g e).2, fun g e => (o5.lt g e).2, fun g e => (r5.lt g e).2, fun g e e' => by have := G4.hf g e; have := (o5.lt g e').1; omega, G4.fr, fun g e e' => by have := G4.hr g e'; have := (o5.lt g e).1; omega⟩
  have nF : ∀ g, (Value.slice A1 F.length c1).ownBlock = some g → g ≠ w1.heap.size := fun g e => by have := G4.hf g e; omega
  have nS : ∀ g, (Value.slice A5 F1.length c5).ownBlock = some g → g ≠ w1.heap.size := fun g e => by have := (o5.lt g e).1; omega
  have nR : ∀ g, (Value.slice A3 R.length c3).ownBlock = some g → g ≠ w1.heap.size := fun g e => by have := G4.hr g e; omega
  have y1 := S5.bn.c1
  have z1 := S5.bn.fz 1
  have l5 := S5.bn.lt
  clear conW f5 s5 r5 o5 h5 a0 a1 a3 m0 m1 S4 G4
  go_upto_region 10 with (fail)
  have S6 := S5.far (by omega) 1 (.slice A5 F1.length c5) (S5.bn.set1 _)
  have G6 := G5.setOff (j := 1) (u := .slice A5 F1.length c5) nF nS nR
  obtain ⟨w6, hw6⟩ : ∃ w6, w6 = w5.setCell ⟨w1.heap.size, 1, none⟩ (.slice A5 F1.length c5) := ⟨_, rfl⟩
  rw [← hw6] at S6 G6 ⊢
  have HS6 := Lib.hid (show w6.heap.size = w5.heap.size by rw [hw6]; simp)
  clear hw6 S5 G5 y1 z1
  have m0 := S6.m0
  have m1 := S6.m1
  have m2 := S6.m2
  have a2 := S6.ba.c2
  have l6 := S6.bn.lt
  have y2 := S6.bn.c2
  have z2 := S6.bn.fz 2

  go_upto_region 16 with (fail)
  have hs6 := HS6.out
  have S7 := S6.far (by omega) 2 (.slice (some ⟨w6.heap.size, 0, none⟩) 2 2) (S6.bn.set2 _)
  have G7 := G6.setOff (j := 2) (u := .slice (some ⟨w6.heap.size, 0, none⟩) 2 2) nF nS nR
  obtain ⟨w7, hw7⟩ : ∃ w7, w7 = w6.setCell ⟨w1.heap.size, 2, none⟩ (.slice (some ⟨w6.heap.size, 0, none⟩) 2 2) := ⟨_, rfl⟩
  have hs7 : w7.heap.size = w6.heap.size := by rw [hw7]; simp
  rw [← hw7] at S7 G7 ⊢
  obtain ⟨w8, hw8⟩ : ∃ w8, w8 = w7.alloc (.cells #[.int .i64 a, .int .i64 b] 3) := ⟨_, rfl⟩
  rw [← hw8]
  have h8 : Below w7.heap.size w7 w8 := by rw [hw8]; exact (Below.refl _ _).alloc (Nat.le_refl _) _
  have o8 : w8.ownsRow w7.heap.size 3 1 (.slice (some ⟨w6.heap.size, 0, none⟩) 2 2) 2 (cellsI [a, b]) := by rw [hw8, ← hs7]; exact World.ownsRow_lit w7 #[.int .i64 a, .int .i64 b] 2 (Nat.le_refl _) (by unfold maxLen; omega) rfl
  have S8 := S7.keep h8
  have f8 := own_keep G7.f h8
  have s8 := own_keep G7.s h8
  have hs8 := h8.size
  have G8 : OwnG w8 w0.heap.size w8.heap.size (.slice A1 F.length c1) F.length F (.slice A5 F1.length c5) F1.length F1 (.slice (some ⟨w6.heap.size, 0, none⟩) 2 2) 2 [a, b] :=
    ⟨f8, s8, own_base o8 (by omega), fun g e => (f8.lt g e).2, fun g e => (s8.lt g e).2, fun g e => (o8.lt g e).2, G6.fs, fun g e e' => by have := G6.hf g e; have := (o8.lt g e').1; omega, fun g e e' => by have := G6.hs g e; have := (o8.lt g e').1; omega⟩
  clear hw8 hw7 S7 G7 S6 G6 m0 m1 m2 a2 y2 z2
  have x0 := S8.bn.c0
  have x1 := S8.bn.c1
  have x2 := S8.bn.c2
  have x3 := S8.bn.c3
  have x4 := S8.bn.c4
  have r0 := S8.br.c0
  have r1 := S8.br.c1
  have r2 := S8.br.c2
  have r3 := S8.br.c3
  have r4 := S8.br.c4
  have z0 := S8.br.fz 0
  have z1 := S8.br.fz 1
  have z2 := S8.br.fz 2
  have z3 := S8.br.fz 3
  have z4 := S8.br.fz 4
  go_wp2
  refine bodyPost_ret (v := .agg #[.slice A1 F.length c1, .slice A5 F1.length c5, .slice (some ⟨w6.heap.size, 0, none⟩) 2 2, .int .i64 (1 - t), .int .i64 0]) (by simp [results, Tryz.results55, go_sem, r0, r1, r2, r3, r4]) rfl ⟨A1, c1, A5, c5, (some ⟨w6.heap.size, 0, none⟩), 2, rfl, ?_, ?_⟩
  · exact ((((((G8.box (by omega)).box (by omega)).box (by omega)).box (by omega)).box (by omega)).base (by omega)).top (by first | (simp [World.setCell]; done) | (simp [World.setCell]; omega))
  · exact below_box (below_box (below_box (below_box (below_box S8.hb (by omega)) (by omega)) (by omega)) (by omega)) (by omega)

set_option maxRecDepth 100000 in
set_option maxHeartbeats 1500000 in
theorem c_plMakeSL (AF : Option Addr) (cF : Nat) (F : List (Int × Int)) (AS : Option Addr) (cS : Nat) (S : List (Int × Int)) (AR : Option Addr) (cR : Nat) (R : List Int) (t u : Int) (a b : Int) (l : Bool) (w : World) (hF : RdT w AF F) (hS : RdT w AS S) (hR : RdI w AR R) (lF : F.length ≤ 1048576) (lS : S.length ≤ 1048576) (lR : R.length ≤ 1048576) (ht : t = 1) (ha : 0 ≤ a ∧ a ≤ 9) (hb : 0 ≤ b ∧ b ≤ 9) (h0 : R.length ≠ 0) (hl : l = true) (hxn : ∀ x ∈ R, 0 ≤ x ∧ x ≤ 9) :
    Calls Tryz.prog 55 #[.agg #[.slice AF F.length cF, .slice AS S.length cS, .slice AR R.length cR, .int .i64 t, .int .i64 u], .agg #[.int .i64 a, .int .i64 b, .bool l, .bool false]] w (RetG w (F) (woL S a b) ([a + b - R.getD 0 0] ++ R) (1 - t) 0) := by
  have con := Lib.hid (fun W (hb : Below w.heap.size w W) => c_plOwn AF cF F AS cS S AR cR R t u W (hF.below hb) (hS.below hb) (hR.below hb) lF lS lR)
  have conW := Lib.hid (fun W (hb : Below w.heap.size w W) => c_plWithout AS cS S a b W (hS.below hb) lS)
  have et : (t == 0) = false := by simp [ht]
  have ht0 : 0 ≤ t := by omega
  have ht1 : t ≤ 1 := by omega
  have er : ((R.length : Int) == 0) = false := by rw [beq_eq_false_iff_ne]; omega
  generalize hF1 : woL S a b = F1 at *
  have H0 := Lib.hid h0
  have HL := Lib.hid hl
  clear hl
  clear ht hF hS hF1 h0
  go_enter Tryz.func55, Tryz.ntmps55
  go_wp2_with fail
  obtain ⟨w0, hw0⟩ : ∃ w0, w0 = ((w.alloc (.cells #[.slice AF F.length cF, .slice AS S.length cS, .slice AR R.length cR, .int .i64 t, .int .i64 u] 32)).alloc (.cells #[.int .i64 a, .int .i64 b, .bool l, .bool false] 70)).alloc (.cells #[.slice none 0 0, .slice none 0 0, .slice none 0 0, .int .i64 0, .int .i64 0] 32) := ⟨_, rfl⟩
  rw [← hw0]
  have ba0 : BoxAt w0 w.heap.size (.slice AF F.length cF) (.slice AS S.length cS) (.slice AR R.length cR) (.int .i64 t) (.int .i64 u) := by rw [hw0]; exact ((BoxAt.fresh w _ _ _ _ _ _).more _).more _
  have br0 : BoxAt w0 (w.heap.size + 2) (.slice none 0 0) (.slice none 0 0) (.slice none 0 0) (.int .i64 0) (.int .i64 0) := by
    have h1 := BoxAt.fresh ((w.alloc (.cells #[.slice AF F.length cF, .slice AS S.length cS, .slice AR R.length cR, .int .i64 t, .int .i64 u] 32)).alloc (.cells #[.int .i64 a, .int .i64 b, .bool l, .bool false] 70)) (.slice none 0 0) (.slice none 0 0) (.slice none 0 0) (.int .i64 0) (.int .i64 0) 32
    rw [World.size_alloc, World.size_alloc] at h1
    rw [hw0]; exact h1
  have hb0 : Below w.heap.size w w0 := by rw [hw0]; go_grown
  have hs0 : w0.heap.size = w.heap.size + 3 := by rw [hw0, World.size_alloc, World.size_alloc, World.size_alloc]
  have n0 : w0.cell? ⟨w.heap.size + 1, 0, none⟩ = some (.int .i64 a) := by
    have h1 : ((w.alloc (.cells #[.slice AF F.length cF, .slice AS S.length cS, .slice AR R.length cR, .int .i64 t, .int .i64 u] 32)).alloc (.cells #[.int .i64 a, .int .i64 b, .bool l, .bool false] 70)).cell? ⟨w.heap.size + 1, 0, none⟩ = some (.int .i64 a) := by simp
    rw [hw0]
    exact keepc ((Below.refl _ _).alloc (Nat.le_refl _) _) h1
  have n1 : w0.cell? ⟨w.heap.size + 1, 1, none⟩ = some (.int .i64 b) := by
    have h1 : ((w.alloc (.cells #[.slice AF F.length cF, .slice AS S.length cS, .slice AR R.length cR, .int .i64 t, .int .i64 u] 32)).alloc (.cells #[.int .i64 a, .int .i64 b, .bool l, .bool false] 70)).cell? ⟨w.heap.size + 1, 1, none⟩ = some (.int .i64 b) := by simp
    rw [hw0]
    exact keepc ((Below.refl _ _).alloc (Nat.le_refl _) _) h1
  have n2 : w0.cell? ⟨w.heap.size + 1, 2, none⟩ = some (.bool l) := by
    have h1 : ((w.alloc (.cells #[.slice AF F.length cF, .slice AS S.length cS, .slice AR R.length cR, .int .i64 t, .int .i64 u] 32)).alloc (.cells #[.int .i64 a, .int .i64 b, .bool l, .bool false] 70)).cell? ⟨w.heap.size + 1, 2, none⟩ = some (.bool l) := by simp
    rw [hw0]
    exact keepc ((Below.refl _ _).alloc (Nat.le_refl _) _) h1
  have n3 : w0.cell? ⟨w.heap.size + 1, 3, none⟩ = some (.bool false) := by
    have h1 : ((w.alloc (.cells #[.slice AF F.length cF, .slice AS S.length cS, .slice AR R.length cR, .int .i64 t, .int .i64 u] 32)).alloc (.cells #[.int .i64 a, .int .i64 b, .bool l, .bool false] 70)).cell? ⟨w.heap.size + 1, 3, none⟩ = some (.bool false) := by simp
    rw [hw0]
    exact keepc ((Below.refl _ _).alloc (Nat.le_refl _) _) h1
  clear hw0
  refine (con.out w0 hb0).mono ?_
  rintro e w1 ⟨A1, c1, A2, c2, A3, c3, rfl, o1, h1⟩
  go_upto_region 2 with (fail)
  obtain ⟨w2, hw2⟩ : ∃ w2, w2 = w1.alloc (.cells #[.slice A1 F.length c1, .slice A2 S.length c2, .slice A3 R.length c3, .int .i64 t, .int .i64 u] 32) := ⟨_, rfl⟩
  rw [← hw2]
  have h2 : Below w1.heap.size w1 w2 := by rw [hw2]; exact (Below.refl _ _).alloc (Nat.le_refl _) _
  have bt : BoxAt w2 w1.heap.size (.slice A1 F.length c1) (.slice A2 S.length c2) (.slice A3 R.length c3) (.int .i64 t) (.int .i64 u) := by rw [hw2]; exact BoxAt.fresh w1 _ _ _ _ _ _
  have h12 := bstep h1 h2
  have S2 : LdSt w.heap.size w1.heap.size (.slice AF F.length cF) (.slice AS S.length cS) (.slice AR R.length cR) (.int .i64 t) (.int .i64 u) (.int .i64 a) (.int .i64 b) (.bool l) (.slice A1 F.length c1) (.slice A2 S.length c2) (.slice A3 R.length c3) (.int .i64 t) (.int .i64 u) w w2 := ⟨ba0.keep h12, keepc h12 n0, keepc h12 n1, keepc h12 n2, br0.keep h12, bt, bstep hb0 h12⟩
  have n32 := keepc h12 n3
  have G2 := o1.below h2 (Nat.le_refl _)
  have q1 := h1.size
  clear hw2 o1 h1 h2 h12 bt ba0 br0 n0 n1 n2 n3 con hb0
  have x3 := S2.ba.c3
  have y3 := S2.bn.c3
  have z3 := S2.bn.fz 3
  have l2 := block_lt n32
  go_upto_region 3 with (fail)
  have S3 := S2.far (by omega) 3 (.int .i64 (1 - t)) (S2.bn.set3 _)
  have G3 := G2.boxHi (a := w1.heap.size) (j := 3) (u := .int .i64 (1 - t)) (Nat.le_refl _)
  have n33 : (w2.setCell ⟨w1.heap.size, 3, none⟩ (.int .i64 (1 - t))).cell? ⟨w.heap.size + 1, 3, none⟩ = some (.bool false) := (World.cell?_of_block (a := ⟨w.heap.size + 1, 3, none⟩) (heap_setCell_other w2 ⟨w1.heap.size, 3, none⟩ (w.heap.size + 1) _ (by show w.heap.size + 1 ≠ w1.heap.size; omega))).trans n32
  obtain ⟨w3, hw3⟩ : ∃ w3, w3 = w2.setCell ⟨w1.heap.size, 3, none⟩ (.int .i64 (1 - t)) := ⟨_, rfl⟩
  rw [← hw3] at S3 G3 n33 ⊢
  clear hw3 S2 G2 n32 x3 y3 z3 l2
  have y4 := S3.bn.c4
  have z4 := S3.bn.fz 4
  go_upto_region 7 with (fail)
  have S4 := S3.far (by omega) 4 (.int .i64 0) (S3.bn.set4 _)
  have G4 := G3.boxHi (a := w1.heap.size) (j := 4) (u := .int .i64 0) (Nat.le_refl _)
  obtain ⟨w4, hw4⟩ : ∃ w4, w4 = w3.setCell ⟨w1.heap.size, 4, none⟩ (.int .i64 0) := ⟨_, rfl⟩
  rw [← hw4] at S4 G4 ⊢
  clear hw4 S3 G3 n33 y4 z4
  have a0 := S4.ba.c0
  have a1 := S4.ba.c1
  have a3 := S4.ba.c3
  have m0 := S4.m0
  have m1 := S4.m1
  have l4 := S4.bn.lt
  go_wp2_with fail
  refine (conW.out w4 S4.hb).mono ?_
  rintro e w5 ⟨A5, c5, rfl, o5, h5⟩
  have S5 := S4.keep h5
  have f5 := own_keep G4.f h5
  have s5 := own_keep G4.s h5
  have r5 := own_keep G4.r h5
  have G5 : OwnG w5 w0.heap.size w5.heap.size (.slice A1 F.length c1) F.length F (.slice A5 F1.length c5) F1.length F1 (.slice A3 R.length c3) R.length R :=
    ⟨f5, own_base o5 (by omega), r5, fun g e => (f5.lt g e).2, fun g e => (o5.lt g e).2, fun g e => (r5.lt g e).2, fun g e e' => by have := G4.hf g e; have := (o5.lt g e').1; omega, G4.fr, fun g e e' => by have := G4.hr g e'; have := (o5.lt g e).1; omega⟩
  have nF : ∀ g, (Value.slice A1 F.length c1).ownBlock = some g → g ≠ w1.heap.size := fun g e => by have := G4.hf g e; omega
  have nS : ∀ g, (Value.slice A5 F1.length c5).ownBlock = some g → g ≠ w1.heap.size := fun g e => by have := (o5.lt g e).1; omega
  have nR : ∀ g, (Value.slice A3 R.length c3).ownBlock = some g → g ≠ w1.heap.size := fun g e => by have := G4.hr g e; omega
  have y1 := S5.bn.c1
  have z1 := S5.bn.fz 1
  have l5 := S5.bn.lt
  clear conW f5 s5 r5 o5 h5 a0 a1 a3 m0 m1 S4 G4
  go_upto_region 10 with (fail)
  have S6 := S5.far (by omega) 1 (.slice A5 F1.length c5) (S5.bn.set1 _)
  have G6 := G5.setOff (j := 1) (u := .slice A5 F1.length c5) nF nS nR
  obtain ⟨w6, hw6⟩ : ∃ w6, w6 = w5.setCell ⟨w1.heap.size, 1, none⟩ (.slice A5 F1.length c5) := ⟨_, rfl⟩
  rw [← hw6] at S6 G6 ⊢
  have HS6 := Lib.hid (show w6.heap.size = w5.heap.size by rw [hw6]; simp)
  clear hw6 S5 G5 y1 z1
  have m0 := S6.m0
  have m1 := S6.m1
  have m2 := S6.m2
  have a2 := S6.ba.c2
  have l6 := S6.bn.lt
  rw [HL.out] at m2
  have rr := hR.below S6.hb
  have l0 := Lib.hid (show 0 < R.length by have := H0.out; omega)
  obtain ⟨br, orr, hAR, hbr, hcR⟩ := rr.at_ (k := 0) l0.out
  subst hAR
  have e0 := hcR 0 l0.out
  rw [Nat.add_zero] at e0
  obtain ⟨x, hx⟩ : ∃ x, R[0]'l0.out = x := ⟨_, rfl⟩
  rw [hx] at e0
  have xn : 0 ≤ x ∧ x ≤ 9 := hxn x (by rw [← hx]; exact List.getElem_mem _)
  have l1 : (0 : Int) < (R.length : Int) := by have := l0.out; omega
  have ew : IntKind.i64.wrap (a + b - x) = a + b - x := IntWalk.i64_in _ (by omega)
  go_upto_region 15 with (fail)
  have hw : ∀ W, Below w6.heap.size w6 W → RdI W (some ⟨br, orr, none⟩) R := fun W hb => rr.below hb
  have l0n := l0.out
  have lg := S6.ba.lt
  go_region_law (refine step_append_intsK rfl _ _ rfl w6.heap.size _ [a + b - x] rfl (World.ownsRow_lit w6 #[.int .i64 (a + b - x)] 1 (Nat.le_refl _) (by unfold maxLen; omega) rfl) _ _ R l0.out rfl (hw _ (((Below.refl _ _).alloc (Nat.le_refl _) _).drew)) (by simp) (by omega) (by simp) ?_; intro A9 c9 w9 o9 g9; have h9 : Below w6.heap.size w6 w9 := (((Below.refl _ _).alloc (Nat.le_refl _) _).drew).trans (below_of_grown g9 (by simp) (fun g hg => by cases hg; exact Nat.le_refl _)); have S9 := S6.keep h9; have y2 := S9.bn.c2; have z2 := S9.bn.fz 2)
  all_goals
    have hs9 := h9.size
    have hxg : R.getD 0 0 = x := by rw [List.getD_eq_getElem?_getD, List.getElem?_eq_getElem l0.out, hx]; rfl
    have f9 := own_keep G6.f h9
    have s9 := own_keep G6.s h9
    have o9' : w9.ownsRow w6.heap.size 3 1 (.slice A9 (R.length + 1) c9) (R.length + 1) (cellsI ((a + b - R.getD 0 0) :: R)) := by rw [hxg]; simpa using o9
    have G9 : OwnG w9 w0.heap.size w9.heap.size (.slice A1 F.length c1) F.length F (.slice A5 F1.length c5) F1.length F1 (.slice A9 (R.length + 1) c9) (R.length + 1) ((a + b - R.getD 0 0) :: R) :=
      ⟨f9, s9, own_base o9' (by omega), fun g e => (f9.lt g e).2, fun g e => (s9.lt g e).2, fun g e => (o9'.lt g e).2, G6.fs, fun g e e' => by have := G6.hf g e; have := (o9'.lt g e').1; have := HS6.out; have := S6.bn.lt; first | omega | (have := (G6.f.lt g e).2; omega), fun g e e' => by have := (G6.s.lt g e).2; have := (o9'.lt g e').1; omega⟩
    have nR9 : ∀ g, (Value.slice A9 (R.length + 1) c9).ownBlock = some g → g ≠ w1.heap.size := fun g e => by have := (o9'.lt g e).1; omega
    have S10 := S9.far (by omega) 2 (.slice A9 (R.length + 1) c9) (S9.bn.set2 _)
    have G10 := G9.setOff (j := 2) (u := .slice A9 (R.length + 1) c9) nF nS nR9
    obtain ⟨w10, hw10⟩ : ∃ w10, w10 = w9.setCell ⟨w1.heap.size, 2, none⟩ (.slice A9 (R.length + 1) c9) := ⟨_, rfl⟩
    rw [← hw10] at S10 G10 ⊢
    have hs10 : w10.heap.size = w9.heap.size := by rw [hw10]; simp
    clear hw10 S9 G9 y2 z2 hxg f9 s9 o9' o9 g9 h9 a2 m0 m1 m2 e0 l0n hw rr hcR hx S6 G6
    have x0 := S10.bn.c0
    have x1 := S10.bn.c1
    have x2 := S10.bn.c2
    have x3 := S10.bn.c3
    have x4 := S10.bn.c4
    have r0 := S10.br.c0
    have r1 := S10.br.c1
    have r2 := S10.br.c2
    have r3 := S10.br.c3
    have r4 := S10.br.c4
    have z0 := S10.br.fz 0
    have z1 := S10.br.fz 1
    have z2 := S10.br.fz 2
    have z3 := S10.br.fz 3
    have z4 := S10.br.fz 4
    go_wp2
    refine bodyPost_ret (v := .agg #[.slice A1 F.length c1, .slice A5 F1.length c5, .slice A9 (R.length + 1) c9, .int .i64 (1 - t), .int .i64 0]) (by simp [results, Tryz.results55, go_sem, r0, r1, r2, r3, r4]) rfl ⟨A1, c1, A5, c5, A9, c9, rfl, ?_, ?_⟩
    · exact ((((((G10.box (by omega)).box (by omega)).box (by omega)).box (by omega)).box (by omega)).base (by omega)).top (by first | (simp [World.setCell]; done) | (simp [World.setCell]; omega))
    · exact below_box (below_box (below_box (below_box (below_box S10.hb (by omega)) (by omega)) (by omega)) (by omega)) (by omega)

end Go.Proofs.YtgjdpiooocpmhabGreatDoor

namespace Go.Proofs.YtgjdpiooocpmhabGreatDoor
open Go.RowKit
set_option linter.unusedVariables false

theorem rd_lit1 (w : World) (v : Int) (t : TypeId) : RdI (w.alloc (.cells #[.int .i64 v] t)) (some ⟨w.heap.size, 0, none⟩) [v] := by
  refine ⟨w.heap.size, 0, fun _ => rfl, fun k hk => ?_⟩
  have h : k = 0 := by simpa using hk
  subst h
  simp

theorem farG {w : World} {a b i j : Nat} {v u : Value} (h : b ≠ a) (hc : w.cell? ⟨b, i, none⟩ = some v) : (w.setCell ⟨a, j, none⟩ u).cell? ⟨b, i, none⟩ = some v :=
  (World.cell?_setCell_other _ _ _ _ (by simp <;> omega)).trans hc

set_option maxRecDepth 100000 in
set_option maxHeartbeats 1500000 in
theorem c_plMakeFR (AF : Option Addr) (cF : Nat) (F : List (Int × Int)) (AS : Option Addr) (cS : Nat) (S : List (Int × Int)) (AR : Option Addr) (cR : Nat) (R : List Int) (t u : Int) (a b : Int) (l : Bool) (w : World) (hF : RdT w AF F) (hS : RdT w AS S) (hR : RdI w AR R) (lF : F.length ≤ 1048576) (lS : S.length ≤ 1048576) (lR : R.length ≤ 1048576) (ht : t = 0) (ha : 0 ≤ a ∧ a ≤ 9) (hb : 0 ≤ b ∧ b ≤ 9) (h0 : R.length ≠ 0) (hl : l = false) (hxn : ∀ x ∈ R, 0 ≤ x ∧ x ≤ 9) :
    Calls Tryz.prog 55 #[.agg #[.slice AF F.length cF, .slice AS S.length cS, .slice AR R.length cR, .int .i64 t, .int .i64 u], .agg #[.int .i64 a, .int .i64 b, .bool l, .bool false]] w (RetG w (woL F a b) (S) (R ++ [a + b - R.getD (R.length - 1) 0]) (1 - t) 0) := by
  have con := Lib.hid (fun W (hb : Below w.heap.size w W) => c_plOwn AF cF F AS cS S AR cR R t u W (hF.below hb) (hS.below hb) (hR.below hb) lF lS lR)
  have conW := Lib.hid (fun W (hb : Below w.heap.size w W) => c_plWithout AF cF F a b W (hF.below hb) lF)
  have et : (t == 0) = true := by simp [ht]
  have ht0 : 0 ≤ t := by omega
  have ht1 : t ≤ 1 := by omega
  have er : ((R.length : Int) == 0) = false := by rw [beq_eq_false_iff_ne]; omega
  generalize hx9 : R.getD (R.length - 1) 0 = x
  have HX := Lib.hid hx9
  clear hx9
  generalize hR9 : R ++ [a + b - x] = R9
  have HR9 := Lib.hid hR9
  clear hR9
  generalize hF1 : woL F a b = F1 at *
  have H0 := Lib.hid h0
  have HL := Lib.hid hl
  clear hl
  clear ht hF hS hF1 h0
  go_enter Tryz.func55, Tryz.ntmps55
  go_wp2_with fail
  obtain ⟨w0, hw0⟩ : ∃ w0, w0 = ((w.alloc (.cells #[.slice AF F.length cF, .slice AS S.length cS, .slice AR R.length cR, .int .i64 t, .int .i64 u] 32)).alloc (.cells #[.int .i64 a, .int .i64 b, .bool l, .bool false] 70)).alloc (.cells #[.slice none 0 0, .slice none 0 0, .slice none 0 0, .int .i64 0, .int .i64 0] 32) := ⟨_, rfl⟩
  rw [← hw0]
  have ba0 : BoxAt w0 w.heap.size (.slice AF F.length cF) (.slice AS S.length cS) (.slice AR R.length cR) (.int .i64 t) (.int .i64 u) := by rw [hw0]; exact ((BoxAt.fresh w _ _ _ _ _ _).more _).more _
  have br0 : BoxAt w0 (w.heap.size + 2) (.slice none 0 0) (.slice none 0 0) (.slice none 0 0) (.int .i64 0) (.int .i64 0) := by
    have h1 := BoxAt.fresh ((w.alloc (.cells #[.slice AF F.length cF, .slice AS S.length cS, .slice AR R.length cR, .int .i64 t, .int .i64 u] 32)).alloc (.cells #[.int .i64 a, .int .i64 b, .bool l, .bool false] 70)) (.slice none 0 0) (.slice none 0 0) (.slice none 0 0) (.int .i64 0) (.int .i64 0) 32
    rw [World.size_alloc, World.size_alloc] at h1
    rw [hw0]; exact h1
  have hb0 : Below w.heap.size w w0 := by rw [hw0]; go_grown
  have hs0 : w0.heap.size = w.heap.size + 3 := by rw [hw0, World.size_alloc, World.size_alloc, World.size_alloc]
  have n0 : w0.cell? ⟨w.heap.size + 1, 0, none⟩ = some (.int .i64 a) := by
    have h1 : ((w.alloc (.cells #[.slice AF F.length cF, .slice AS S.length cS, .slice AR R.length cR, .int .i64 t, .int .i64 u] 32)).alloc (.cells #[.int .i64 a, .int .i64 b, .bool l, .bool false] 70)).cell? ⟨w.heap.size + 1, 0, none⟩ = some (.int .i64 a) := by simp
    rw [hw0]
    exact keepc ((Below.refl _ _).alloc (Nat.le_refl _) _) h1
  have n1 : w0.cell? ⟨w.heap.size + 1, 1, none⟩ = some (.int .i64 b) := by
    have h1 : ((w.alloc (.cells #[.slice AF F.length cF, .slice AS S.length cS, .slice AR R.length cR, .int .i64 t, .int .i64 u] 32)).alloc (.cells #[.int .i64 a, .int .i64 b, .bool l, .bool false] 70)).cell? ⟨w.heap.size + 1, 1, none⟩ = some (.int .i64 b) := by simp
    rw [hw0]
    exact keepc ((Below.refl _ _).alloc (Nat.le_refl _) _) h1
  have n2 : w0.cell? ⟨w.heap.size + 1, 2, none⟩ = some (.bool l) := by
    have h1 : ((w.alloc (.cells #[.slice AF F.length cF, .slice AS S.length cS, .slice AR R.length cR, .int .i64 t, .int .i64 u] 32)).alloc (.cells #[.int .i64 a, .int .i64 b, .bool l, .bool false] 70)).cell? ⟨w.heap.size + 1, 2, none⟩ = some (.bool l) := by simp
    rw [hw0]
    exact keepc ((Below.refl _ _).alloc (Nat.le_refl _) _) h1
  have n3 : w0.cell? ⟨w.heap.size + 1, 3, none⟩ = some (.bool false) := by
    have h1 : ((w.alloc (.cells #[.slice AF F.length cF, .slice AS S.length cS, .slice AR R.length cR, .int .i64 t, .int .i64 u] 32)).alloc (.cells #[.int .i64 a, .int .i64 b, .bool l, .bool false] 70)).cell? ⟨w.heap.size + 1, 3, none⟩ = some (.bool false) := by simp
    rw [hw0]
    exact keepc ((Below.refl _ _).alloc (Nat.le_refl _) _) h1
  clear hw0
  refine (con.out w0 hb0).mono ?_
  rintro e w1 ⟨A1, c1, A2, c2, A3, c3, rfl, o1, h1⟩
  go_upto_region 2 with (fail)
  obtain ⟨w2, hw2⟩ : ∃ w2, w2 = w1.alloc (.cells #[.slice A1 F.length c1, .slice A2 S.length c2, .slice A3 R.length c3, .int .i64 t, .int .i64 u] 32) := ⟨_, rfl⟩
  rw [← hw2]
  have h2 : Below w1.heap.size w1 w2 := by rw [hw2]; exact (Below.refl _ _).alloc (Nat.le_refl _) _
  have bt : BoxAt w2 w1.heap.size (.slice A1 F.length c1) (.slice A2 S.length c2) (.slice A3 R.length c3) (.int .i64 t) (.int .i64 u) := by rw [hw2]; exact BoxAt.fresh w1 _ _ _ _ _ _
  have h12 := bstep h1 h2
  have S2 : LdSt w.heap.size w1.heap.size (.slice AF F.length cF) (.slice AS S.length cS) (.slice AR R.length cR) (.int .i64 t) (.int .i64 u) (.int .i64 a) (.int .i64 b) (.bool l) (.slice A1 F.length c1) (.slice A2 S.length c2) (.slice A3 R.length c3) (.int .i64 t) (.int .i64 u) w w2 := ⟨ba0.keep h12, keepc h12 n0, keepc h12 n1, keepc h12 n2, br0.keep h12, bt, bstep hb0 h12⟩
  have n32 := keepc h12 n3
  have G2 := o1.below h2 (Nat.le_refl _)
  have q1 := h1.size
  clear hw2 o1 h1 h2 h12 bt ba0 br0 n0 n1 n2 n3 con hb0
  have x3 := S2.ba.c3
  have y3 := S2.bn.c3
  have z3 := S2.bn.fz 3
  have l2 := block_lt n32
  go_upto_region 3 with (fail)
  have S3 := S2.far (by omega) 3 (.int .i64 (1 - t)) (S2.bn.set3 _)
  have G3 := G2.boxHi (a := w1.heap.size) (j := 3) (u := .int .i64 (1 - t)) (Nat.le_refl _)
  have n33 : (w2.setCell ⟨w1.heap.size, 3, none⟩ (.int .i64 (1 - t))).cell? ⟨w.heap.size + 1, 3, none⟩ = some (.bool false) := (World.cell?_of_block (a := ⟨w.heap.size + 1, 3, none⟩) (heap_setCell_other w2 ⟨w1.heap.size, 3, none⟩ (w.heap.size + 1) _ (by show w.heap.size + 1 ≠ w1.heap.size; omega))).trans n32
  obtain ⟨w3, hw3⟩ : ∃ w3, w3 = w2.setCell ⟨w1.heap.size, 3, none⟩ (.int .i64 (1 - t)) := ⟨_, rfl⟩
  rw [← hw3] at S3 G3 n33 ⊢
  clear hw3 S2 G2 n32 x3 y3 z3 l2
  have y4 := S3.bn.c4
  have z4 := S3.bn.fz 4
  go_upto_region 7 with (fail)
  have S4 := S3.far (by omega) 4 (.int .i64 0) (S3.bn.set4 _)
  have G4 := G3.boxHi (a := w1.heap.size) (j := 4) (u := .int .i64 0) (Nat.le_refl _)
  obtain ⟨w4, hw4⟩ : ∃ w4, w4 = w3.setCell ⟨w1.heap.size, 4, none⟩ (.int .i64 0) := ⟨_, rfl⟩
  rw [← hw4] at S4 G4 ⊢
  clear hw4 S3 G3 n33 y4 z4
  have a0 := S4.ba.c0
  have a1 := S4.ba.c1
  have a3 := S4.ba.c3
  have m0 := S4.m0
  have m1 := S4.m1
  have l4 := S4.bn.lt
  go_wp2_with fail
  refine (conW.out w4 S4.hb).mono ?_
  rintro e w5 ⟨A5, c5, rfl, o5, h5⟩
  have S5 := S4.keep h5
  have f5 := own_keep G4.f h5
  have s5 := own_keep G4.s h5
  have r5 := own_keep G4.r h5
  have G5 : OwnG w5 w0.heap.size w5.heap.size (.slice A5 F1.length c5) F1.length F1 (.slice A2 S.length c2) S.length S (.slice A3 R.length c3) R.length R :=
    ⟨own_base o5 (by omega), s5, r5, fun g e => (o5.lt g e).2, fun g e => (s5.lt g e).2, fun g e => (r5.lt g e).2, fun g e e' => by have := G4.hs g e'; have := (o5.lt g e).1; omega, fun g e e' => by have := G4.hr g e'; have := (o5.lt g e).1; omega, G4.sr⟩
  have nF : ∀ g, (Value.slice A5 F1.length c5).ownBlock = some g → g ≠ w1.heap.size := fun g e => by have := (o5.lt g e).1; omega
  have nS : ∀ g, (Value.slice A2 S.length c2).ownBlock = some g → g ≠ w1.heap.size := fun g e => by have := G4.hs g e; omega
  have nR : ∀ g, (Value.slice A3 R.length c3).ownBlock = some g → g ≠ w1.heap.size := fun g e => by have := G4.hr g e; omega
  have y0 := S5.bn.c0
  have z0 := S5.bn.fz 0
  have l5 := S5.bn.lt
  clear conW f5 s5 r5 o5 h5 a0 a1 a3 m0 m1 S4 G4
  go_upto_region 10 with (fail)
  have S6 := S5.far (by omega) 0 (.slice A5 F1.length c5) (S5.bn.set0 _)
  have G6 := G5.setOff (j := 0) (u := .slice A5 F1.length c5) nF nS nR
  obtain ⟨w6, hw6⟩ : ∃ w6, w6 = w5.setCell ⟨w1.heap.size, 0, none⟩ (.slice A5 F1.length c5) := ⟨_, rfl⟩
  rw [← hw6] at S6 G6 ⊢
  have HS6 := Lib.hid (show w6.heap.size = w5.heap.size by rw [hw6]; simp)
  clear hw6 S5 G5 y0 z0
  have m0 := S6.m0
  have m1 := S6.m1
  have m2 := S6.m2
  have a2 := S6.ba.c2
  have l6 := S6.bn.lt
  rw [HL.out] at m2
  obtain ⟨n, hn0⟩ : ∃ n, R.length = n + 1 := ⟨R.length - 1, by have := H0.out; omega⟩
  have hn := Lib.hid hn0
  clear hn0
  have l0 := Lib.hid (show n < R.length by have := hn.out; omega)
  obtain ⟨br, orr, hAR, hbr0, hcR⟩ := hR.at_ (k := n) l0.out
  subst hAR
  have e0 := keepc S6.hb (hcR n l0.out)
  have hx : R[n]'l0.out = x := by have h := HX.out; rw [show R.length - 1 = n from by have := hn.out; omega, List.getD_eq_getElem?_getD, List.getElem?_eq_getElem l0.out] at h; simpa using h
  rw [hx] at e0
  have xn : 0 ≤ x ∧ x ≤ 9 := hxn x (by rw [← hx]; exact List.getElem_mem _)
  have l1 : (0 : Int) < (R.length : Int) := by have := l0.out; omega
  have iw : IntKind.i64.wrap ((R.length : Int) - 1) = (n : Int) := by rw [IntWalk.i64_in _ (by omega)]; have := hn.out; omega
  have iw2 : ((R.length : Int) - 1) = (n : Int) := by have := hn.out; omega
  have iwn : IntKind.i64.wrap (n : Int) = (n : Int) := IntWalk.i64_in _ (by have := l0.out; omega)
  have i0 : (0 : Int) ≤ (n : Int) := by omega
  have i1 : (n : Int) < (R.length : Int) := by have := l0.out; omega
  have ew : IntKind.i64.wrap (a + b - x) = a + b - x := IntWalk.i64_in _ (by omega)
  have conO := Lib.hid (fun W (hb : Below w.heap.size w W) => c_l1Own (some ⟨br, orr, none⟩) cR R W (hR.below hb) lR)
  go_upto_region 11 with (fail)
  have lg := S6.ba.lt
  clear hcR hx m0 m1
  refine wp_region_held_drew (S := fun w' => w'.cell? ⟨w.heap.size, 2, none⟩ = some (.slice (some ⟨br, orr, none⟩) R.length cR) ∧ w'.cell? ⟨br, orr + n, none⟩ = some (.int .i64 x)) (by kernel_rfl) ⟨gdG _ a2, gdG _ e0⟩ (fun hH0 => ?_)
  clear hH0
  refine reg_take 0 rfl (by kernel_rfl) (by kernel_rfl) (by kernel_rfl) (fun _ _ _ h => h) (by rfl) (fun w _ => by first | (go_simp; done) | (go_simp; with_reducible rfl)) ⟨gdG _ a2, gdG _ e0⟩ ?_
  try simp only [Act.put, List.setIfInBounds_toArray, List.set_cons_zero, List.set_cons_succ, List.getElem_toArray, List.getElem_cons_zero]
  refine reg_take 1 rfl (by kernel_rfl) (by kernel_rfl) (by kernel_rfl) (fun _ _ _ h => h) (by rfl) (fun w hSw => by (try dsimp only at hSw); obtain ⟨s0, s1⟩ := hSw; first | (go_simp; done) | (go_simp; with_reducible rfl)) ⟨gdG _ a2, gdG _ e0⟩ ?_
  try simp only [Act.put, List.setIfInBounds_toArray, List.set_cons_zero, List.set_cons_succ, List.getElem_toArray, List.getElem_cons_zero, List.getElem_cons_succ]
  refine reg_take 3 rfl (by kernel_rfl) (by kernel_rfl) (by kernel_rfl) (fun _ _ _ h => h) (by rfl) (fun w _ => by first | (go_simp; done) | (go_simp; with_reducible rfl)) ⟨gdG _ a2, gdG _ e0⟩ ?_
  try simp only [Act.put, List.setIfInBounds_toArray, List.set_cons_zero, List.set_cons_succ, List.getElem_toArray, List.getElem_cons_zero, List.getElem_cons_succ]
  refine reg_take 4 rfl (by kernel_rfl) (by kernel_rfl) (by kernel_rfl) (fun _ _ _ h => h) (by rfl) (fun w _ => by first | (go_simp; done) | (go_simp; with_reducible rfl)) ⟨gdG _ a2, gdG _ e0⟩ ?_
  try simp only [Act.put, List.setIfInBounds_toArray, List.set_cons_zero, List.set_cons_succ, List.getElem_toArray, List.getElem_cons_zero, List.getElem_cons_succ]
  refine reg_take 5 rfl (by kernel_rfl) (by kernel_rfl) (by kernel_rfl) (fun _ _ _ h => h) (by rfl) (fun w hSw => by (try dsimp only at hSw); obtain ⟨s0, s1⟩ := hSw; first | (go_simp; done) | (go_simp; with_reducible rfl)) ⟨gdG _ a2, gdG _ e0⟩ ?_
  try simp only [Act.put, List.setIfInBounds_toArray, List.set_cons_zero, List.set_cons_succ, List.getElem_toArray, List.getElem_cons_zero, List.getElem_cons_succ]
  refine reg_take 6 rfl (by kernel_rfl) (by kernel_rfl) (by kernel_rfl) (fun _ _ _ h => h) (by rfl) (fun w _ => by first | (go_simp; done) | (go_simp; with_reducible rfl)) ⟨gdG _ a2, gdG _ e0⟩ ?_
  try simp only [Act.put, List.setIfInBounds_toArray, List.set_cons_zero, List.set_cons_succ, List.getElem_toArray, List.getElem_cons_zero, List.getElem_cons_succ]
  refine reg_take 7 rfl (by kernel_rfl) (by kernel_rfl) (by kernel_rfl) (fun _ _ _ h => h) (by rfl) (fun w hSw => by (try dsimp only at hSw); obtain ⟨s0, s1⟩ := hSw; first | (go_simp; done) | (go_simp; with_reducible rfl)) ⟨gdG _ a2, gdG _ e0⟩ ?_
  try simp only [Act.put, List.setIfInBounds_toArray, List.set_cons_zero, List.set_cons_succ, List.getElem_toArray, List.getElem_cons_zero, List.getElem_cons_succ]
  refine reg_take 8 rfl (by kernel_rfl) (by kernel_rfl) (by kernel_rfl) (fun _ _ _ h => h) (by rfl) (fun w _ => by first | (go_simp; done) | (go_simp; with_reducible rfl)) ⟨gdG _ a2, gdG _ e0⟩ ?_
  try simp only [Act.put, List.setIfInBounds_toArray, List.set_cons_zero, List.set_cons_succ, List.getElem_toArray, List.getElem_cons_zero, List.getElem_cons_succ]
  refine reg_take 9 rfl (by kernel_rfl) (by kernel_rfl) (by kernel_rfl) (fun _ _ _ h => h) (by rfl) (fun w _ => by first | (go_simp; done) | (go_simp; with_reducible rfl)) ⟨gdG _ a2, gdG _ e0⟩ ?_
  try simp only [Act.put, List.setIfInBounds_toArray, List.set_cons_zero, List.set_cons_succ, List.getElem_toArray, List.getElem_cons_zero, List.getElem_cons_succ]
  refine reg_take 10 rfl (by kernel_rfl) (by kernel_rfl) (by kernel_rfl) (fun _ _ _ h => h) (by rfl) (fun w _ => by first | (go_simp; done) | (go_simp; with_reducible rfl)) ⟨gdG _ a2, gdG _ e0⟩ ?_
  try simp only [Act.put, List.setIfInBounds_toArray, List.set_cons_zero, List.set_cons_succ, List.getElem_toArray, List.getElem_cons_zero, List.getElem_cons_succ]
  refine reg_take 11 rfl (by kernel_rfl) (by kernel_rfl) (by kernel_rfl) (fun _ _ _ h => h) (by rfl) (fun w hSw => by (try dsimp only at hSw); obtain ⟨s0, s1⟩ := hSw; first | (go_simp; done) | (go_simp; with_reducible rfl)) ⟨gdG _ a2, gdG _ e0⟩ ?_
  try simp only [Act.put, List.setIfInBounds_toArray, List.set_cons_zero, List.set_cons_succ, List.getElem_toArray, List.getElem_cons_zero, List.getElem_cons_succ]
  refine reg_take 12 rfl (by kernel_rfl) (by kernel_rfl) (by kernel_rfl) (fun _ _ _ h => h) (by rfl) (fun w _ => by first | (go_simp; done) | (go_simp; with_reducible rfl)) ⟨gdG _ a2, gdG _ e0⟩ ?_
  try simp only [Act.put, List.setIfInBounds_toArray, List.set_cons_zero, List.set_cons_succ, List.getElem_toArray, List.getElem_cons_zero, List.getElem_cons_succ]
  refine wpAnyH_ready (rs := [2, 13]) (by kernel_rfl) (by simp) ?_
  refine AllReadyH.cons (i := 2) rfl (fun K hK => ?_) (AllReadyH.cons (i := 13) rfl (fun K hK => ?_) AllReadyH.nil)
  · go_simp
    go_at_call 77
    refine (conO.out _ S6.hb.drew).mono ?_
    rintro e w7 ⟨A8, c8, rfl, o8, h8⟩
    refine hK.out _ _ ⟨keepc h8 (gdG _ a2), keepc h8 (gdG _ e0)⟩ (fun hHx => ?_)
    clear hK K hHx
    try simp only [Act.put, List.setIfInBounds_toArray, List.set_cons_zero, List.set_cons_succ, List.getElem_toArray, List.getElem_cons_zero, List.getElem_cons_succ]
    refine wpAnyH_ready (rs := [13]) (by kernel_rfl) (by simp) ?_
    refine AllReadyH.cons (i := 13) rfl (fun K hK => ?_) AllReadyH.nil
    go_simp
    obtain ⟨w8, hwl⟩ : ∃ w8, w8 = w7.alloc (.cells #[.int .i64 (a + b - x)] 3) := ⟨_, rfl⟩
    rw [← hwl]
    have hl8 : Below w7.heap.size w7 w8 := by rw [hwl]; exact (Below.refl _ _).alloc (Nat.le_refl _) _
    have rd8 : RdI w8 (some ⟨w7.heap.size, 0, none⟩) [a + b - x] := by rw [hwl]; exact rd_lit1 _ _ _
    clear hwl
    refine hK.out _ _ ⟨keepc hl8 (keepc h8 (gdG _ a2)), keepc hl8 (keepc h8 (gdG _ e0))⟩ (fun hHx => ?_)
    clear hK K hHx
    try simp only [Act.put, List.setIfInBounds_toArray, List.set_cons_zero, List.set_cons_succ, List.getElem_toArray, List.getElem_cons_zero, List.getElem_cons_succ]
    have own8 := own_keep o8 hl8
    have h98 : Below w6.heap.size w6 w8 := (Below.refl _ _).drew.trans (bstep h8 hl8)
    have hs8 := h98.size
    refine wpAnyH_ready (rs := [14]) (by kernel_rfl) (by simp) ?_
    refine AllReadyH.cons (i := 14) rfl (fun K hK => ?_) AllReadyH.nil
    refine step_append_intsK rfl _ _ rfl w6.heap.size _ R rfl own8 _ _ [a + b - x] (by simp) rfl rd8 (by omega) (by simp) (by omega) ?_
    intro A9 c9 w9 o9 g9
    rw [HR9.out] at o9 ⊢
    have h9 : Below w6.heap.size w6 w9 := h98.trans (below_of_grown g9 (by have := h98.size; omega) (fun g hg => (own8.lt g hg).1))
    have S9 := S6.keep h9
    have y2 := S9.bn.c2
    have z2 := S9.bn.fz 2
    have hs9 := h9.size
    have f9 := own_keep G6.f h9
    have s9 := own_keep G6.s h9
    refine hK.out _ _ ⟨keepc h9 a2, keepc h9 e0⟩ (fun hHx => ?_)
    clear hK K hHx
    try simp only [Act.put, List.setIfInBounds_toArray, List.set_cons_zero, List.set_cons_succ, List.getElem_toArray, List.getElem_cons_zero, List.getElem_cons_succ]
    refine reg_take 15 rfl (by kernel_rfl) (by kernel_rfl) (by kernel_rfl) (fun _ _ _ h => h) (by rfl) (fun w _ => by first | (go_simp; done) | (go_simp; with_reducible rfl)) ⟨keepc h9 a2, keepc h9 e0⟩ ?_
    try simp only [Act.put, List.setIfInBounds_toArray, List.set_cons_zero, List.set_cons_succ, List.getElem_toArray, List.getElem_cons_zero, List.getElem_cons_succ]
    refine wpAnyH_ready (rs := [16]) (by kernel_rfl) (by simp) ?_
    refine AllReadyH.cons (i := 16) rfl (fun K hK => ?_) AllReadyH.nil
    go_simp
    have hne : w.heap.size ≠ w1.heap.size := by omega
    have hbr1 : br ≠ w1.heap.size := by have h1 : br < w.heap.size := hbr0; omega
    refine hK.out _ _ ⟨farG hne (keepc h9 a2), farG hbr1 (keepc h9 e0)⟩ (fun hHx => ?_)
    clear hK K hHx
    try simp only [Act.put, List.setIfInBounds_toArray, List.set_cons_zero, List.set_cons_succ, List.getElem_toArray, List.getElem_cons_zero, List.getElem_cons_succ]
    refine wpAnyH_done (by kernel_rfl) ?_ _
    have o9' : w9.ownsRow w6.heap.size 3 1 (.slice A9 R9.length c9) R9.length (cellsI R9) := o9
    have G9 : OwnG w9 w0.heap.size w9.heap.size (.slice A5 F1.length c5) F1.length F1 (.slice A2 S.length c2) S.length S (.slice A9 R9.length c9) R9.length R9 :=
      ⟨f9, s9, own_base o9' (by omega), fun g e => (f9.lt g e).2, fun g e => (s9.lt g e).2, fun g e => (o9'.lt g e).2, G6.fs, fun g e e' => by have := (G6.f.lt g e).2; have := (o9'.lt g e').1; omega, fun g e e' => by have := (G6.s.lt g e).2; have := (o9'.lt g e').1; omega⟩
    have nR9 : ∀ g, (Value.slice A9 R9.length c9).ownBlock = some g → g ≠ w1.heap.size := fun g e => by have := (o9'.lt g e).1; omega
    have S10 := S9.far (by omega) 2 (.slice A9 R9.length c9) (S9.bn.set2 _)
    have G10 := G9.setOff (j := 2) (u := .slice A9 R9.length c9) nF nS nR9
    obtain ⟨w10, hw10⟩ : ∃ w10, w10 = w9.setCell ⟨w1.heap.size, 2, none⟩ (.slice A9 R9.length c9) := ⟨_, rfl⟩
    rw [← hw10] at S10 G10 ⊢
    have hs10 : w10.heap.size = w9.heap.size := by rw [hw10]; simp
    clear hw10 S9 G9 y2 z2 f9 s9 o9' o9 g9 h9 a2 e0 S6 G6
    have x0 := S10.bn.c0
    have x1 := S10.bn.c1
    have x2 := S10.bn.c2
    have x3 := S10.bn.c3
    have x4 := S10.bn.c4
    have r0 := S10.br.c0
    have r1 := S10.br.c1
    have r2 := S10.br.c2
    have r3 := S10.br.c3
    have r4 := S10.br.c4
    have z0 := S10.br.fz 0
    have z1 := S10.br.fz 1
    have z2 := S10.br.fz 2
    have z3 := S10.br.fz 3
    have z4 := S10.br.fz 4
    go_wp2
    refine bodyPost_ret (v := .agg #[.slice A5 F1.length c5, .slice A2 S.length c2, .slice A9 R9.length c9, .int .i64 (1 - t), .int .i64 0]) (by simp [results, Tryz.results55, go_sem, r0, r1, r2, r3, r4]) rfl ⟨A5, c5, A2, c2, A9, c9, rfl, ?_, ?_⟩
    · exact ((((((G10.box (by omega)).box (by omega)).box (by omega)).box (by omega)).box (by omega)).base (by omega)).top (by first | (simp [World.setCell]; done) | (simp [World.setCell]; omega))
    · exact below_box (below_box (below_box (below_box (below_box S10.hb (by omega)) (by omega)) (by omega)) (by omega)) (by omega)
  · go_simp
    obtain ⟨w7a, hwl⟩ : ∃ w7a, w7a = (w6.alloc (.cells #[.int .i64 (a + b - x)] 3)).drew := ⟨_, rfl⟩
    rw [← hwl]
    have h7 : Below w6.heap.size w6 w7a := by rw [hwl]; exact ((Below.refl w6.heap.size w6).alloc (Nat.le_refl _) _).drew
    have rd7 : RdI w7a (some ⟨w6.heap.size, 0, none⟩) [a + b - x] := by rw [hwl]; exact rd_lit1 w6 _ _
    clear hwl
    refine hK.out _ _ ⟨keepc h7 a2, keepc h7 e0⟩ (fun hHx => ?_)
    clear hK K hHx
    try simp only [Act.put, List.setIfInBounds_toArray, List.set_cons_zero, List.set_cons_succ, List.getElem_toArray, List.getElem_cons_zero, List.getElem_cons_succ]
    refine wpAnyH_ready (rs := [2]) (by kernel_rfl) (by simp) ?_
    refine AllReadyH.cons (i := 2) rfl (fun K hK => ?_) AllReadyH.nil
    go_simp
    go_at_call 77
    refine (conO.out _ (bstep S6.hb h7)).mono ?_
    rintro e w8 ⟨A8, c8, rfl, o8, h8⟩
    refine hK.out _ _ ⟨keepc h8 (keepc h7 a2), keepc h8 (keepc h7 e0)⟩ (fun hHx => ?_)
    clear hK K hHx
    try simp only [Act.put, List.setIfInBounds_toArray, List.set_cons_zero, List.set_cons_succ, List.getElem_toArray, List.getElem_cons_zero, List.getElem_cons_succ]
    have rd8 := rd7.below h8
    have own8 := own_base o8 (by have := h7.size; exact this)
    have h98 : Below w6.heap.size w6 w8 := bstep h7 h8
    have hs8 := h98.size
    refine wpAnyH_ready (rs := [14]) (by kernel_rfl) (by simp) ?_
    refine AllReadyH.cons (i := 14) rfl (fun K hK => ?_) AllReadyH.nil
    refine step_append_intsK rfl _ _ rfl w6.heap.size _ R rfl own8 _ _ [a + b - x] (by simp) rfl rd8 (by omega) (by simp) (by omega) ?_
    intro A9 c9 w9 o9 g9
    rw [HR9.out] at o9 ⊢
    have h9 : Below w6.heap.size w6 w9 := h98.trans (below_of_grown g9 (by have := h98.size; omega) (fun g hg => (own8.lt g hg).1))
    have S9 := S6.keep h9
    have y2 := S9.bn.c2
    have z2 := S9.bn.fz 2
    have hs9 := h9.size
    have f9 := own_keep G6.f h9
    have s9 := own_keep G6.s h9
    refine hK.out _ _ ⟨keepc h9 a2, keepc h9 e0⟩ (fun hHx => ?_)
    clear hK K hHx
    try simp only [Act.put, List.setIfInBounds_toArray, List.set_cons_zero, List.set_cons_succ, List.getElem_toArray, List.getElem_cons_zero, List.getElem_cons_succ]
    refine reg_take 15 rfl (by kernel_rfl) (by kernel_rfl) (by kernel_rfl) (fun _ _ _ h => h) (by rfl) (fun w _ => by first | (go_simp; done) | (go_simp; with_reducible rfl)) ⟨keepc h9 a2, keepc h9 e0⟩ ?_
    try simp only [Act.put, List.setIfInBounds_toArray, List.set_cons_zero, List.set_cons_succ, List.getElem_toArray, List.getElem_cons_zero, List.getElem_cons_succ]
    refine wpAnyH_ready (rs := [16]) (by kernel_rfl) (by simp) ?_
    refine AllReadyH.cons (i := 16) rfl (fun K hK => ?_) AllReadyH.nil
    go_simp
    have hne : w.heap.size ≠ w1.heap.size := by omega
    have hbr1 : br ≠ w1.heap.size := by have h1 : br < w.heap.size := hbr0; omega
    refine hK.out _ _ ⟨farG hne (keepc h9 a2), farG hbr1 (keepc h9 e0)⟩ (fun hHx => ?_)
    clear hK K hHx
    try simp only [Act.put, List.setIfInBounds_toArray, List.set_cons_zero, List.set_cons_succ, List.getElem_toArray, List.getElem_cons_zero, List.getElem_cons_succ]
    refine wpAnyH_done (by kernel_rfl) ?_ _
    have o9' : w9.ownsRow w6.heap.size 3 1 (.slice A9 R9.length c9) R9.length (cellsI R9) := o9
    have G9 : OwnG w9 w0.heap.size w9.heap.size (.slice A5 F1.length c5) F1.length F1 (.slice A2 S.length c2) S.length S (.slice A9 R9.length c9) R9.length R9 :=
      ⟨f9, s9, own_base o9' (by omega), fun g e => (f9.lt g e).2, fun g e => (s9.lt g e).2, fun g e => (o9'.lt g e).2, G6.fs, fun g e e' => by have := (G6.f.lt g e).2; have := (o9'.lt g e').1; omega, fun g e e' => by have := (G6.s.lt g e).2; have := (o9'.lt g e').1; omega⟩
    have nR9 : ∀ g, (Value.slice A9 R9.length c9).ownBlock = some g → g ≠ w1.heap.size := fun g e => by have := (o9'.lt g e).1; omega
    have S10 := S9.far (by omega) 2 (.slice A9 R9.length c9) (S9.bn.set2 _)
    have G10 := G9.setOff (j := 2) (u := .slice A9 R9.length c9) nF nS nR9
    obtain ⟨w10, hw10⟩ : ∃ w10, w10 = w9.setCell ⟨w1.heap.size, 2, none⟩ (.slice A9 R9.length c9) := ⟨_, rfl⟩
    rw [← hw10] at S10 G10 ⊢
    have hs10 : w10.heap.size = w9.heap.size := by rw [hw10]; simp
    clear hw10 S9 G9 y2 z2 f9 s9 o9' o9 g9 h9 a2 e0 S6 G6
    have x0 := S10.bn.c0
    have x1 := S10.bn.c1
    have x2 := S10.bn.c2
    have x3 := S10.bn.c3
    have x4 := S10.bn.c4
    have r0 := S10.br.c0
    have r1 := S10.br.c1
    have r2 := S10.br.c2
    have r3 := S10.br.c3
    have r4 := S10.br.c4
    have z0 := S10.br.fz 0
    have z1 := S10.br.fz 1
    have z2 := S10.br.fz 2
    have z3 := S10.br.fz 3
    have z4 := S10.br.fz 4
    go_wp2
    refine bodyPost_ret (v := .agg #[.slice A5 F1.length c5, .slice A2 S.length c2, .slice A9 R9.length c9, .int .i64 (1 - t), .int .i64 0]) (by simp [results, Tryz.results55, go_sem, r0, r1, r2, r3, r4]) rfl ⟨A5, c5, A2, c2, A9, c9, rfl, ?_, ?_⟩
    · exact ((((((G10.box (by omega)).box (by omega)).box (by omega)).box (by omega)).box (by omega)).base (by omega)).top (by first | (simp [World.setCell]; done) | (simp [World.setCell]; omega))
    · exact below_box (below_box (below_box (below_box (below_box S10.hb (by omega)) (by omega)) (by omega)) (by omega)) (by omega)

set_option maxRecDepth 100000 in
set_option maxHeartbeats 1500000 in
theorem c_plMakeSR (AF : Option Addr) (cF : Nat) (F : List (Int × Int)) (AS : Option Addr) (cS : Nat) (S : List (Int × Int)) (AR : Option Addr) (cR : Nat) (R : List Int) (t u : Int) (a b : Int) (l : Bool) (w : World) (hF : RdT w AF F) (hS : RdT w AS S) (hR : RdI w AR R) (lF : F.length ≤ 1048576) (lS : S.length ≤ 1048576) (lR : R.length ≤ 1048576) (ht : t = 1) (ha : 0 ≤ a ∧ a ≤ 9) (hb : 0 ≤ b ∧ b ≤ 9) (h0 : R.length ≠ 0) (hl : l = false) (hxn : ∀ x ∈ R, 0 ≤ x ∧ x ≤ 9) :
    Calls Tryz.prog 55 #[.agg #[.slice AF F.length cF, .slice AS S.length cS, .slice AR R.length cR, .int .i64 t, .int .i64 u], .agg #[.int .i64 a, .int .i64 b, .bool l, .bool false]] w (RetG w (F) (woL S a b) (R ++ [a + b - R.getD (R.length - 1) 0]) (1 - t) 0) := by
  have con := Lib.hid (fun W (hb : Below w.heap.size w W) => c_plOwn AF cF F AS cS S AR cR R t u W (hF.below hb) (hS.below hb) (hR.below hb) lF lS lR)
  have conW := Lib.hid (fun W (hb : Below w.heap.size w W) => c_plWithout AS cS S a b W (hS.below hb) lS)
  have et : (t == 0) = false := by simp [ht]
  have ht0 : 0 ≤ t := by omega
  have ht1 : t ≤ 1 := by omega
  have er : ((R.length : Int) == 0) = false := by rw [beq_eq_false_iff_ne]; omega
  generalize hx9 : R.getD (R.length - 1) 0 = x
  have HX := Lib.hid hx9
  clear hx9
  generalize hR9 : R ++ [a + b - x] = R9
  have HR9 := Lib.hid hR9
  clear hR9
  generalize hF1 : woL S a b = F1 at *
  have H0 := Lib.hid h0
  have HL := Lib.hid hl
  clear hl
  clear ht hF hS hF1 h0
  go_enter Tryz.func55, Tryz.ntmps55
  go_wp2_with fail
  obtain ⟨w0, hw0⟩ : ∃ w0, w0 = ((w.alloc (.cells #[.slice AF F.length cF, .slice AS S.length cS, .slice AR R.length cR, .int .i64 t, .int .i64 u] 32)).alloc (.cells #[.int .i64 a, .int .i64 b, .bool l, .bool false] 70)).alloc (.cells #[.slice none 0 0, .slice none 0 0, .slice none 0 0, .int .i64 0, .int .i64 0] 32) := ⟨_, rfl⟩
  rw [← hw0]
  have ba0 : BoxAt w0 w.heap.size (.slice AF F.length cF) (.slice AS S.length cS) (.slice AR R.length cR) (.int .i64 t) (.int .i64 u) := by rw [hw0]; exact ((BoxAt.fresh w _ _ _ _ _ _).more _).more _
  have br0 : BoxAt w0 (w.heap.size + 2) (.slice none 0 0) (.slice none 0 0) (.slice none 0 0) (.int .i64 0) (.int .i64 0) := by
    have h1 := BoxAt.fresh ((w.alloc (.cells #[.slice AF F.length cF, .slice AS S.length cS, .slice AR R.length cR, .int .i64 t, .int .i64 u] 32)).alloc (.cells #[.int .i64 a, .int .i64 b, .bool l, .bool false] 70)) (.slice none 0 0) (.slice none 0 0) (.slice none 0 0) (.int .i64 0) (.int .i64 0) 32
    rw [World.size_alloc, World.size_alloc] at h1
    rw [hw0]; exact h1
  have hb0 : Below w.heap.size w w0 := by rw [hw0]; go_grown
  have hs0 : w0.heap.size = w.heap.size + 3 := by rw [hw0, World.size_alloc, World.size_alloc, World.size_alloc]
  have n0 : w0.cell? ⟨w.heap.size + 1, 0, none⟩ = some (.int .i64 a) := by
    have h1 : ((w.alloc (.cells #[.slice AF F.length cF, .slice AS S.length cS, .slice AR R.length cR, .int .i64 t, .int .i64 u] 32)).alloc (.cells #[.int .i64 a, .int .i64 b, .bool l, .bool false] 70)).cell? ⟨w.heap.size + 1, 0, none⟩ = some (.int .i64 a) := by simp
    rw [hw0]
    exact keepc ((Below.refl _ _).alloc (Nat.le_refl _) _) h1
  have n1 : w0.cell? ⟨w.heap.size + 1, 1, none⟩ = some (.int .i64 b) := by
    have h1 : ((w.alloc (.cells #[.slice AF F.length cF, .slice AS S.length cS, .slice AR R.length cR, .int .i64 t, .int .i64 u] 32)).alloc (.cells #[.int .i64 a, .int .i64 b, .bool l, .bool false] 70)).cell? ⟨w.heap.size + 1, 1, none⟩ = some (.int .i64 b) := by simp
    rw [hw0]
    exact keepc ((Below.refl _ _).alloc (Nat.le_refl _) _) h1
  have n2 : w0.cell? ⟨w.heap.size + 1, 2, none⟩ = some (.bool l) := by
    have h1 : ((w.alloc (.cells #[.slice AF F.length cF, .slice AS S.length cS, .slice AR R.length cR, .int .i64 t, .int .i64 u] 32)).alloc (.cells #[.int .i64 a, .int .i64 b, .bool l, .bool false] 70)).cell? ⟨w.heap.size + 1, 2, none⟩ = some (.bool l) := by simp
    rw [hw0]
    exact keepc ((Below.refl _ _).alloc (Nat.le_refl _) _) h1
  have n3 : w0.cell? ⟨w.heap.size + 1, 3, none⟩ = some (.bool false) := by
    have h1 : ((w.alloc (.cells #[.slice AF F.length cF, .slice AS S.length cS, .slice AR R.length cR, .int .i64 t, .int .i64 u] 32)).alloc (.cells #[.int .i64 a, .int .i64 b, .bool l, .bool false] 70)).cell? ⟨w.heap.size + 1, 3, none⟩ = some (.bool false) := by simp
    rw [hw0]
    exact keepc ((Below.refl _ _).alloc (Nat.le_refl _) _) h1
  clear hw0
  refine (con.out w0 hb0).mono ?_
  rintro e w1 ⟨A1, c1, A2, c2, A3, c3, rfl, o1, h1⟩
  go_upto_region 2 with (fail)
  obtain ⟨w2, hw2⟩ : ∃ w2, w2 = w1.alloc (.cells #[.slice A1 F.length c1, .slice A2 S.length c2, .slice A3 R.length c3, .int .i64 t, .int .i64 u] 32) := ⟨_, rfl⟩
  rw [← hw2]
  have h2 : Below w1.heap.size w1 w2 := by rw [hw2]; exact (Below.refl _ _).alloc (Nat.le_refl _) _
  have bt : BoxAt w2 w1.heap.size (.slice A1 F.length c1) (.slice A2 S.length c2) (.slice A3 R.length c3) (.int .i64 t) (.int .i64 u) := by rw [hw2]; exact BoxAt.fresh w1 _ _ _ _ _ _
  have h12 := bstep h1 h2
  have S2 : LdSt w.heap.size w1.heap.size (.slice AF F.length cF) (.slice AS S.length cS) (.slice AR R.length cR) (.int .i64 t) (.int .i64 u) (.int .i64 a) (.int .i64 b) (.bool l) (.slice A1 F.length c1) (.slice A2 S.length c2) (.slice A3 R.length c3) (.int .i64 t) (.int .i64 u) w w2 := ⟨ba0.keep h12, keepc h12 n0, keepc h12 n1, keepc h12 n2, br0.keep h12, bt, bstep hb0 h12⟩
  have n32 := keepc h12 n3
  have G2 := o1.below h2 (Nat.le_refl _)
  have q1 := h1.size
  clear hw2 o1 h1 h2 h12 bt ba0 br0 n0 n1 n2 n3 con hb0
  have x3 := S2.ba.c3
  have y3 := S2.bn.c3
  have z3 := S2.bn.fz 3
  have l2 := block_lt n32
  go_upto_region 3 with (fail)
  have S3 := S2.far (by omega) 3 (.int .i64 (1 - t)) (S2.bn.set3 _)
  have G3 := G2.boxHi (a := w1.heap.size) (j := 3) (u := .int .i64 (1 - t)) (Nat.le_refl _)
  have n33 : (w2.setCell ⟨w1.heap.size, 3, none⟩ (.int .i64 (1 - t))).cell? ⟨w.heap.size + 1, 3, none⟩ = some (.bool false) := (World.cell?_of_block (a := ⟨w.heap.size + 1, 3, none⟩) (heap_setCell_other w2 ⟨w1.heap.size, 3, none⟩ (w.heap.size + 1) _ (by show w.heap.size + 1 ≠ w1.heap.size; omega))).trans n32
  obtain ⟨w3, hw3⟩ : ∃ w3, w3 = w2.setCell ⟨w1.heap.size, 3, none⟩ (.int .i64 (1 - t)) := ⟨_, rfl⟩
  rw [← hw3] at S3 G3 n33 ⊢
  clear hw3 S2 G2 n32 x3 y3 z3 l2
  have y4 := S3.bn.c4
  have z4 := S3.bn.fz 4
  go_upto_region 7 with (fail)
  have S4 := S3.far (by omega) 4 (.int .i64 0) (S3.bn.set4 _)
  have G4 := G3.boxHi (a := w1.heap.size) (j := 4) (u := .int .i64 0) (Nat.le_refl _)
  obtain ⟨w4, hw4⟩ : ∃ w4, w4 = w3.setCell ⟨w1.heap.size, 4, none⟩ (.int .i64 0) := ⟨_, rfl⟩
  rw [← hw4] at S4 G4 ⊢
  clear hw4 S3 G3 n33 y4 z4
  have a0 := S4.ba.c0
  have a1 := S4.ba.c1
  have a3 := S4.ba.c3
  have m0 := S4.m0
  have m1 := S4.m1
  have l4 := S4.bn.lt
  go_wp2_with fail
  refine (conW.out w4 S4.hb).mono ?_
  rintro e w5 ⟨A5, c5, rfl, o5, h5⟩
  have S5 := S4.keep h5
  have f5 := own_keep G4.f h5
  have s5 := own_keep G4.s h5
  have r5 := own_keep G4.r h5
  have G5 : OwnG w5 w0.heap.size w5.heap.size (.slice A1 F.length c1) F.length F (.slice A5 F1.length c5) F1.length F1 (.slice A3 R.length c3) R.length R :=
    ⟨f5, own_base o5 (by omega), r5, fun g e => (f5.lt g e).2, fun g e => (o5.lt g e).2, fun g e => (r5.lt g e).2, fun g e e' => by have := G4.hf g e; have := (o5.lt g e').1; omega, G4.fr, fun g e e' => by have := G4.hr g e'; have := (o5.lt g e).1; omega⟩
  have nF : ∀ g, (Value.slice A1 F.length c1).ownBlock = some g → g ≠ w1.heap.size := fun g e => by have := G4.hf g e; omega
  have nS : ∀ g, (Value.slice A5 F1.length c5).ownBlock = some g → g ≠ w1.heap.size := fun g e => by have := (o5.lt g e).1; omega
  have nR : ∀ g, (Value.slice A3 R.length c3).ownBlock = some g → g ≠ w1.heap.size := fun g e => by have := G4.hr g e; omega
  have y1 := S5.bn.c1
  have z1 := S5.bn.fz 1
  have l5 := S5.bn.lt
  clear conW f5 s5 r5 o5 h5 a0 a1 a3 m0 m1 S4 G4
  go_upto_region 10 with (fail)
  have S6 := S5.far (by omega) 1 (.slice A5 F1.length c5) (S5.bn.set1 _)
  have G6 := G5.setOff (j := 1) (u := .slice A5 F1.length c5) nF nS nR
  obtain ⟨w6, hw6⟩ : ∃ w6, w6 = w5.setCell ⟨w1.heap.size, 1, none⟩ (.slice A5 F1.length c5) := ⟨_, rfl⟩
  rw [← hw6] at S6 G6 ⊢
  have HS6 := Lib.hid (show w6.heap.size = w5.heap.size by rw [hw6]; simp)
  clear hw6 S5 G5 y1 z1
  have m0 := S6.m0
  have m1 := S6.m1
  have m2 := S6.m2
  have a2 := S6.ba.c2
  have l6 := S6.bn.lt
  rw [HL.out] at m2
  obtain ⟨n, hn0⟩ : ∃ n, R.length = n + 1 := ⟨R.length - 1, by have := H0.out; omega⟩
  have hn := Lib.hid hn0
  clear hn0
  have l0 := Lib.hid (show n < R.length by have := hn.out; omega)
  obtain ⟨br, orr, hAR, hbr0, hcR⟩ := hR.at_ (k := n) l0.out
  subst hAR
  have e0 := keepc S6.hb (hcR n l0.out)
  have hx : R[n]'l0.out = x := by have h := HX.out; rw [show R.length - 1 = n from by have := hn.out; omega, List.getD_eq_getElem?_getD, List.getElem?_eq_getElem l0.out] at h; simpa using h
  rw [hx] at e0
  have xn : 0 ≤ x ∧ x ≤ 9 := hxn x (by rw [← hx]; exact List.getElem_mem _)
  have l1 : (0 : Int) < (R.length : Int) := by have := l0.out; omega
  have iw : IntKind.i64.wrap ((R.length : Int) - 1) = (n : Int) := by rw [IntWalk.i64_in _ (by omega)]; have := hn.out; omega
  have iw2 : ((R.length : Int) - 1) = (n : Int) := by have := hn.out; omega
  have iwn : IntKind.i64.wrap (n : Int) = (n : Int) := IntWalk.i64_in _ (by have := l0.out; omega)
  have i0 : (0 : Int) ≤ (n : Int) := by omega
  have i1 : (n : Int) < (R.length : Int) := by have := l0.out; omega
  have ew : IntKind.i64.wrap (a + b - x) = a + b - x := IntWalk.i64_in _ (by omega)
  have conO := Lib.hid (fun W (hb : Below w.heap.size w W) => c_l1Own (some ⟨br, orr, none⟩) cR R W (hR.below hb) lR)
  go_upto_region 11 with (fail)
  have lg := S6.ba.lt
  clear hcR hx m0 m1
  refine wp_region_held_drew (S := fun w' => w'.cell? ⟨w.heap.size, 2, none⟩ = some (.slice (some ⟨br, orr, none⟩) R.length cR) ∧ w'.cell? ⟨br, orr + n, none⟩ = some (.int .i64 x)) (by kernel_rfl) ⟨gdG _ a2, gdG _ e0⟩ (fun hH0 => ?_)
  clear hH0
  refine reg_take 0 rfl (by kernel_rfl) (by kernel_rfl) (by kernel_rfl) (fun _ _ _ h => h) (by rfl) (fun w _ => by first | (go_simp; done) | (go_simp; with_reducible rfl)) ⟨gdG _ a2, gdG _ e0⟩ ?_
  try simp only [Act.put, List.setIfInBounds_toArray, List.set_cons_zero, List.set_cons_succ, List.getElem_toArray, List.getElem_cons_zero]
  refine reg_take 1 rfl (by kernel_rfl) (by kernel_rfl) (by kernel_rfl) (fun _ _ _ h => h) (by rfl) (fun w hSw => by (try dsimp only at hSw); obtain ⟨s0, s1⟩ := hSw; first | (go_simp; done) | (go_simp; with_reducible rfl)) ⟨gdG _ a2, gdG _ e0⟩ ?_
  try simp only [Act.put, List.setIfInBounds_toArray, List.set_cons_zero, List.set_cons_succ, List.getElem_toArray, List.getElem_cons_zero, List.getElem_cons_succ]
  refine reg_take 3 rfl (by kernel_rfl) (by kernel_rfl) (by kernel_rfl) (fun _ _ _ h => h) (by rfl) (fun w _ => by first | (go_simp; done) | (go_simp; with_reducible rfl)) ⟨gdG _ a2, gdG _ e0⟩ ?_
  try simp only [Act.put, List.setIfInBounds_toArray, List.set_cons_zero, List.set_cons_succ, List.getElem_toArray, List.getElem_cons_zero, List.getElem_cons_succ]
  refine reg_take 4 rfl (by kernel_rfl) (by kernel_rfl) (by kernel_rfl) (fun _ _ _ h => h) (by rfl) (fun w _ => by first | (go_simp; done) | (go_simp; with_reducible rfl)) ⟨gdG _ a2, gdG _ e0⟩ ?_
  try simp only [Act.put, List.setIfInBounds_toArray, List.set_cons_zero, List.set_cons_succ, List.getElem_toArray, List.getElem_cons_zero, List.getElem_cons_succ]
  refine reg_take 5 rfl (by kernel_rfl) (by kernel_rfl) (by kernel_rfl) (fun _ _ _ h => h) (by rfl) (fun w hSw => by (try dsimp only at hSw); obtain ⟨s0, s1⟩ := hSw; first | (go_simp; done) | (go_simp; with_reducible rfl)) ⟨gdG _ a2, gdG _ e0⟩ ?_
  try simp only [Act.put, List.setIfInBounds_toArray, List.set_cons_zero, List.set_cons_succ, List.getElem_toArray, List.getElem_cons_zero, List.getElem_cons_succ]
  refine reg_take 6 rfl (by kernel_rfl) (by kernel_rfl) (by kernel_rfl) (fun _ _ _ h => h) (by rfl) (fun w _ => by first | (go_simp; done) | (go_simp; with_reducible rfl)) ⟨gdG _ a2, gdG _ e0⟩ ?_
  try simp only [Act.put, List.setIfInBounds_toArray, List.set_cons_zero, List.set_cons_succ, List.getElem_toArray, List.getElem_cons_zero, List.getElem_cons_succ]
  refine reg_take 7 rfl (by kernel_rfl) (by kernel_rfl) (by kernel_rfl) (fun _ _ _ h => h) (by rfl) (fun w hSw => by (try dsimp only at hSw); obtain ⟨s0, s1⟩ := hSw; first | (go_simp; done) | (go_simp; with_reducible rfl)) ⟨gdG _ a2, gdG _ e0⟩ ?_
  try simp only [Act.put, List.setIfInBounds_toArray, List.set_cons_zero, List.set_cons_succ, List.getElem_toArray, List.getElem_cons_zero, List.getElem_cons_succ]
  refine reg_take 8 rfl (by kernel_rfl) (by kernel_rfl) (by kernel_rfl) (fun _ _ _ h => h) (by rfl) (fun w _ => by first | (go_simp; done) | (go_simp; with_reducible rfl)) ⟨gdG _ a2, gdG _ e0⟩ ?_
  try simp only [Act.put, List.setIfInBounds_toArray, List.set_cons_zero, List.set_cons_succ, List.getElem_toArray, List.getElem_cons_zero, List.getElem_cons_succ]
  refine reg_take 9 rfl (by kernel_rfl) (by kernel_rfl) (by kernel_rfl) (fun _ _ _ h => h) (by rfl) (fun w _ => by first | (go_simp; done) | (go_simp; with_reducible rfl)) ⟨gdG _ a2, gdG _ e0⟩ ?_
  try simp only [Act.put, List.setIfInBounds_toArray, List.set_cons_zero, List.set_cons_succ, List.getElem_toArray, List.getElem_cons_zero, List.getElem_cons_succ]
  refine reg_take 10 rfl (by kernel_rfl) (by kernel_rfl) (by kernel_rfl) (fun _ _ _ h => h) (by rfl) (fun w _ => by first | (go_simp; done) | (go_simp; with_reducible rfl)) ⟨gdG _ a2, gdG _ e0⟩ ?_
  try simp only [Act.put, List.setIfInBounds_toArray, List.set_cons_zero, List.set_cons_succ, List.getElem_toArray, List.getElem_cons_zero, List.getElem_cons_succ]
  refine reg_take 11 rfl (by kernel_rfl) (by kernel_rfl) (by kernel_rfl) (fun _ _ _ h => h) (by rfl) (fun w hSw => by (try dsimp only at hSw); obtain ⟨s0, s1⟩ := hSw; first | (go_simp; done) | (go_simp; with_reducible rfl)) ⟨gdG _ a2, gdG _ e0⟩ ?_
  try simp only [Act.put, List.setIfInBounds_toArray, List.set_cons_zero, List.set_cons_succ, List.getElem_toArray, List.getElem_cons_zero, List.getElem_cons_succ]
  refine reg_take 12 rfl (by kernel_rfl) (by kernel_rfl) (by kernel_rfl) (fun _ _ _ h => h) (by rfl) (fun w _ => by first | (go_simp; done) | (go_simp; with_reducible rfl)) ⟨gdG _ a2, gdG _ e0⟩ ?_
  try simp only [Act.put, List.setIfInBounds_toArray, List.set_cons_zero, List.set_cons_succ, List.getElem_toArray, List.getElem_cons_zero, List.getElem_cons_succ]
  refine wpAnyH_ready (rs := [2, 13]) (by kernel_rfl) (by simp) ?_
  refine AllReadyH.cons (i := 2) rfl (fun K hK => ?_) (AllReadyH.cons (i := 13) rfl (fun K hK => ?_) AllReadyH.nil)
  · go_simp
    go_at_call 77
    refine (conO.out _ S6.hb.drew).mono ?_
    rintro e w7 ⟨A8, c8, rfl, o8, h8⟩
    refine hK.out _ _ ⟨keepc h8 (gdG _ a2), keepc h8 (gdG _ e0)⟩ (fun hHx => ?_)
    clear hK K hHx
    try simp only [Act.put, List.setIfInBounds_toArray, List.set_cons_zero, List.set_cons_succ, List.getElem_toArray, List.getElem_cons_zero, List.getElem_cons_succ]
    refine wpAnyH_ready (rs := [13]) (by kernel_rfl) (by simp) ?_
    refine AllReadyH.cons (i := 13) rfl (fun K hK => ?_) AllReadyH.nil
    go_simp
    obtain ⟨w8, hwl⟩ : ∃ w8, w8 = w7.alloc (.cells #[.int .i64 (a + b - x)] 3) := ⟨_, rfl⟩
    rw [← hwl]
    have hl8 : Below w7.heap.size w7 w8 := by rw [hwl]; exact (Below.refl _ _).alloc (Nat.le_refl _) _
    have rd8 : RdI w8 (some ⟨w7.heap.size, 0, none⟩) [a + b - x] := by rw [hwl]; exact rd_lit1 _ _ _
    clear hwl
    refine hK.out _ _ ⟨keepc hl8 (keepc h8 (gdG _ a2)), keepc hl8 (keepc h8 (gdG _ e0))⟩ (fun hHx => ?_)
    clear hK K hHx
    try simp only [Act.put, List.setIfInBounds_toArray, List.set_cons_zero, List.set_cons_succ, List.getElem_toArray, List.getElem_cons_zero, List.getElem_cons_succ]
    have own8 := own_keep o8 hl8
    have h98 : Below w6.heap.size w6 w8 := (Below.refl _ _).drew.trans (bstep h8 hl8)
    have hs8 := h98.size
    refine wpAnyH_ready (rs := [14]) (by kernel_rfl) (by simp) ?_
    refine AllReadyH.cons (i := 14) rfl (fun K hK => ?_) AllReadyH.nil
    refine step_append_intsK rfl _ _ rfl w6.heap.size _ R rfl own8 _ _ [a + b - x] (by simp) rfl rd8 (by omega) (by simp) (by omega) ?_
    intro A9 c9 w9 o9 g9
    rw [HR9.out] at o9 ⊢
    have h9 : Below w6.heap.size w6 w9 := h98.trans (below_of_grown g9 (by have := h98.size; omega) (fun g hg => (own8.lt g hg).1))
    have S9 := S6.keep h9
    have y2 := S9.bn.c2
    have z2 := S9.bn.fz 2
    have hs9 := h9.size
    have f9 := own_keep G6.f h9
    have s9 := own_keep G6.s h9
    refine hK.out _ _ ⟨keepc h9 a2, keepc h9 e0⟩ (fun hHx => ?_)
    clear hK K hHx
    try simp only [Act.put, List.setIfInBounds_toArray, List.set_cons_zero, List.set_cons_succ, List.getElem_toArray, List.getElem_cons_zero, List.getElem_cons_succ]
    refine reg_take 15 rfl (by kernel_rfl) (by kernel_rfl) (by kernel_rfl) (fun _ _ _ h => h) (by rfl) (fun w _ => by first | (go_simp; done) | (go_simp; with_reducible rfl)) ⟨keepc h9 a2, keepc h9 e0⟩ ?_
    try simp only [Act.put, List.setIfInBounds_toArray, List.set_cons_zero, List.set_cons_succ, List.getElem_toArray, List.getElem_cons_zero, List.getElem_cons_succ]
    refine wpAnyH_ready (rs := [16]) (by kernel_rfl) (by simp) ?_
    refine AllReadyH.cons (i := 16) rfl (fun K hK => ?_) AllReadyH.nil
    go_simp
    have hne : w.heap.size ≠ w1.heap.size := by omega
    have hbr1 : br ≠ w1.heap.size := by have h1 : br < w.heap.size := hbr0; omega
    refine hK.out _ _ ⟨farG hne (keepc h9 a2), farG hbr1 (keepc h9 e0)⟩ (fun hHx => ?_)
    clear hK K hHx
    try simp only [Act.put, List.setIfInBounds_toArray, List.set_cons_zero, List.set_cons_succ, List.getElem_toArray, List.getElem_cons_zero, List.getElem_cons_succ]
    refine wpAnyH_done (by kernel_rfl) ?_ _
    have o9' : w9.ownsRow w6.heap.size 3 1 (.slice A9 R9.length c9) R9.length (cellsI R9) := o9
    have G9 : OwnG w9 w0.heap.size w9.heap.size (.slice A1 F.length c1) F.length F (.slice A5 F1.length c5) F1.length F1 (.slice A9 R9.length c9) R9.length R9 :=
      ⟨f9, s9, own_base o9' (by omega), fun g e => (f9.lt g e).2, fun g e => (s9.lt g e).2, fun g e => (o9'.lt g e).2, G6.fs, fun g e e' => by have := (G6.f.lt g e).2; have := (o9'.lt g e').1; omega, fun g e e' => by have := (G6.s.lt g e).2; have := (o9'.lt g e').1; omega⟩
    have nR9 : ∀ g, (Value.slice A9 R9.length c9).ownBlock = some g → g ≠ w1.heap.size := fun g e => by have := (o9'.lt g e).1; omega
    have S10 := S9.far (by omega) 2 (.slice A9 R9.length c9) (S9.bn.set2 _)
    have G10 := G9.setOff (j := 2) (u := .slice A9 R9.length c9) nF nS nR9
    obtain ⟨w10, hw10⟩ : ∃ w10, w10 = w9.setCell ⟨w1.heap.size, 2, none⟩ (.slice A9 R9.length c9) := ⟨_, rfl⟩
    rw [← hw10] at S10 G10 ⊢
    have hs10 : w10.heap.size = w9.heap.size := by rw [hw10]; simp
    clear hw10 S9 G9 y2 z2 f9 s9 o9' o9 g9 h9 a2 e0 S6 G6
    have x0 := S10.bn.c0
    have x1 := S10.bn.c1
    have x2 := S10.bn.c2
    have x3 := S10.bn.c3
    have x4 := S10.bn.c4
    have r0 := S10.br.c0
    have r1 := S10.br.c1
    have r2 := S10.br.c2
    have r3 := S10.br.c3
    have r4 := S10.br.c4
    have z0 := S10.br.fz 0
    have z1 := S10.br.fz 1
    have z2 := S10.br.fz 2
    have z3 := S10.br.fz 3
    have z4 := S10.br.fz 4
    go_wp2
    refine bodyPost_ret (v := .agg #[.slice A1 F.length c1, .slice A5 F1.length c5, .slice A9 R9.length c9, .int .i64 (1 - t), .int .i64 0]) (by simp [results, Tryz.results55, go_sem, r0, r1, r2, r3, r4]) rfl ⟨A1, c1, A5, c5, A9, c9, rfl, ?_, ?_⟩
    · exact ((((((G10.box (by omega)).box (by omega)).box (by omega)).box (by omega)).box (by omega)).base (by omega)).top (by first | (simp [World.setCell]; done) | (simp [World.setCell]; omega))
    · exact below_box (below_box (below_box (below_box (below_box S10.hb (by omega)) (by omega)) (by omega)) (by omega)) (by omega)
  · go_simp
    obtain ⟨w7a, hwl⟩ : ∃ w7a, w7a = (w6.alloc (.cells #[.int .i64 (a + b - x)] 3)).drew := ⟨_, rfl⟩
    rw [← hwl]
    have h7 : Below w6.heap.size w6 w7a := by rw [hwl]; exact ((Below.refl w6.heap.size w6).alloc (Nat.le_refl _) _).drew
    have rd7 : RdI w7a (some ⟨w6.heap.size, 0, none⟩) [a + b - x] := by rw [hwl]; exact rd_lit1 w6 _ _
    clear hwl
    refine hK.out _ _ ⟨keepc h7 a2, keepc h7 e0⟩ (fun hHx => ?_)
    clear hK K hHx
    try simp only [Act.put, List.setIfInBounds_toArray, List.set_cons_zero, List.set_cons_succ, List.getElem_toArray, List.getElem_cons_zero, List.getElem_cons_succ]
    refine wpAnyH_ready (rs := [2]) (by kernel_rfl) (by simp) ?_
    refine AllReadyH.cons (i := 2) rfl (fun K hK => ?_) AllReadyH.nil
    go_simp
    go_at_call 77
    refine (conO.out _ (bstep S6.hb h7)).mono ?_
    rintro e w8 ⟨A8, c8, rfl, o8, h8⟩
    refine hK.out _ _ ⟨keepc h8 (keepc h7 a2), keepc h8 (keepc h7 e0)⟩ (fun hHx => ?_)
    clear hK K hHx
    try simp only [Act.put, List.setIfInBounds_toArray, List.set_cons_zero, List.set_cons_succ, List.getElem_toArray, List.getElem_cons_zero, List.getElem_cons_succ]
    have rd8 := rd7.below h8
    have own8 := own_base o8 (by have := h7.size; exact this)
    have h98 : Below w6.heap.size w6 w8 := bstep h7 h8
    have hs8 := h98.size
    refine wpAnyH_ready (rs := [14]) (by kernel_rfl) (by simp) ?_
    refine AllReadyH.cons (i := 14) rfl (fun K hK => ?_) AllReadyH.nil
    refine step_append_intsK rfl _ _ rfl w6.heap.size _ R rfl own8 _ _ [a + b - x] (by simp) rfl rd8 (by omega) (by simp) (by omega) ?_
    intro A9 c9 w9 o9 g9
    rw [HR9.out] at o9 ⊢
    have h9 : Below w6.heap.size w6 w9 := h98.trans (below_of_grown g9 (by have := h98.size; omega) (fun g hg => (own8.lt g hg).1))
    have S9 := S6.keep h9
    have y2 := S9.bn.c2
    have z2 := S9.bn.fz 2
    have hs9 := h9.size
    have f9 := own_keep G6.f h9
    have s9 := own_keep G6.s h9
    refine hK.out _ _ ⟨keepc h9 a2, keepc h9 e0⟩ (fun hHx => ?_)
    clear hK K hHx
    try simp only [Act.put, List.setIfInBounds_toArray, List.set_cons_zero, List.set_cons_succ, List.getElem_toArray, List.getElem_cons_zero, List.getElem_cons_succ]
    refine reg_take 15 rfl (by kernel_rfl) (by kernel_rfl) (by kernel_rfl) (fun _ _ _ h => h) (by rfl) (fun w _ => by first | (go_simp; done) | (go_simp; with_reducible rfl)) ⟨keepc h9 a2, keepc h9 e0⟩ ?_
    try simp only [Act.put, List.setIfInBounds_toArray, List.set_cons_zero, List.set_cons_succ, List.getElem_toArray, List.getElem_cons_zero, List.getElem_cons_succ]
    refine wpAnyH_ready (rs := [16]) (by kernel_rfl) (by simp) ?_
    refine AllReadyH.cons (i := 16) rfl (fun K hK => ?_) AllReadyH.nil
    go_simp
    have hne : w.heap.size ≠ w1.heap.size := by omega
    have hbr1 : br ≠ w1.heap.size := by have h1 : br < w.heap.size := hbr0; omega
    refine hK.out _ _ ⟨farG hne (keepc h9 a2), farG hbr1 (keepc h9 e0)⟩ (fun hHx => ?_)
    clear hK K hHx
    try simp only [Act.put, List.setIfInBounds_toArray, List.set_cons_zero, List.set_cons_succ, List.getElem_toArray, List.getElem_cons_zero, List.getElem_cons_succ]
    refine wpAnyH_done (by kernel_rfl) ?_ _
    have o9' : w9.ownsRow w6.heap.size 3 1 (.slice A9 R9.length c9) R9.length (cellsI R9) := o9
    have G9 : OwnG w9 w0.heap.size w9.heap.size (.slice A1 F.length c1) F.length F (.slice A5 F1.length c5) F1.length F1 (.slice A9 R9.length c9) R9.length R9 :=
      ⟨f9, s9, own_base o9' (by omega), fun g e => (f9.lt g e).2, fun g e => (s9.lt g e).2, fun g e => (o9'.lt g e).2, G6.fs, fun g e e' => by have := (G6.f.lt g e).2; have := (o9'.lt g e').1; omega, fun g e e' => by have := (G6.s.lt g e).2; have := (o9'.lt g e').1; omega⟩
    have nR9 : ∀ g, (Value.slice A9 R9.length c9).ownBlock = some g → g ≠ w1.heap.size := fun g e => by have := (o9'.lt g e).1; omega
    have S10 := S9.far (by omega) 2 (.slice A9 R9.length c9) (S9.bn.set2 _)
    have G10 := G9.setOff (j := 2) (u := .slice A9 R9.length c9) nF nS nR9
    obtain ⟨w10, hw10⟩ : ∃ w10, w10 = w9.setCell ⟨w1.heap.size, 2, none⟩ (.slice A9 R9.length c9) := ⟨_, rfl⟩
    rw [← hw10] at S10 G10 ⊢
    have hs10 : w10.heap.size = w9.heap.size := by rw [hw10]; simp
    clear hw10 S9 G9 y2 z2 f9 s9 o9' o9 g9 h9 a2 e0 S6 G6
    have x0 := S10.bn.c0
    have x1 := S10.bn.c1
    have x2 := S10.bn.c2
    have x3 := S10.bn.c3
    have x4 := S10.bn.c4
    have r0 := S10.br.c0
    have r1 := S10.br.c1
    have r2 := S10.br.c2
    have r3 := S10.br.c3
    have r4 := S10.br.c4
    have z0 := S10.br.fz 0
    have z1 := S10.br.fz 1
    have z2 := S10.br.fz 2
    have z3 := S10.br.fz 3
    have z4 := S10.br.fz 4
    go_wp2
    refine bodyPost_ret (v := .agg #[.slice A1 F.length c1, .slice A5 F1.length c5, .slice A9 R9.length c9, .int .i64 (1 - t), .int .i64 0]) (by simp [results, Tryz.results55, go_sem, r0, r1, r2, r3, r4]) rfl ⟨A1, c1, A5, c5, A9, c9, rfl, ?_, ?_⟩
    · exact ((((((G10.box (by omega)).box (by omega)).box (by omega)).box (by omega)).box (by omega)).base (by omega)).top (by first | (simp [World.setCell]; done) | (simp [World.setCell]; omega))
    · exact below_box (below_box (below_box (below_box (below_box S10.hb (by omega)) (by omega)) (by omega)) (by omega)) (by omega)

end Go.Proofs.YtgjdpiooocpmhabGreatDoor

namespace Go.Proofs.YtgjdpiooocpmhabGreatDoor
open Go.RowKit
set_option linter.unusedVariables false

theorem row_nums {R : List Int} (h : rowB R = true) : ∀ x ∈ R, 0 ≤ x ∧ x ≤ 9 := by
  intro x hx
  unfold rowB at h
  simp only [Bool.or_eq_true, decide_eq_true_eq, Bool.and_eq_true] at h
  rcases h with h | h
  · rw [List.eq_nil_of_length_eq_zero h] at hx; cases hx
  · have := chain_num h.1 x hx
    simp only [numB, Bool.and_eq_true, decide_eq_true_eq] at this
    exact this

set_option maxRecDepth 100000 in
set_option maxHeartbeats 1000000 in
theorem makeP : MakeP := by
  intro AF cF F AS cS S AR cR R t u m w hF hS hR hg hm
  obtain ⟨lF, lS, lR, ht2⟩ := game_len hg
  obtain ⟨g1, g2, g3, g4, _, _, _⟩ := gameB_parts hg
  have hnum := row_nums g2
  obtain ⟨ho, hm⟩ := mem_moves hm
  have hu := over_no hg ho
  rcases hm with rfl | ⟨hin, hk⟩
  · exact c_plMakePass AF cF F AS cS S AR cR R t u 0 0 w hF hS hR (by omega) (by omega) (by omega) (by omega) (by omega) (by omega) (by omega)
  obtain ⟨a, b, k⟩ := m
  simp only at hin hk
  have hgd : goodB a b = true := by
    unfold handG at hin
    split at hin
    · exact (handB_good g4).2 (a, b) hin
    · exact (handB_good g3).2 (a, b) hin
  have hab : (0 ≤ a ∧ a ≤ 9) ∧ (0 ≤ b ∧ b ≤ 9) := by
    simp only [goodB, numB, Bool.and_eq_true, decide_eq_true_eq] at hgd
    omega
  have hk0 : k ≠ 0 := by omega
  have eU : behU u (a, b, k) = 0 := if_neg hk0
  have eR : behR R (a, b, k) = rowAfter R a b k := if_neg hk0
  have e0 : (k == 0) = false := by rw [beq_eq_false_iff_ne]; exact hk0
  show Calls Tryz.prog 55 #[.agg #[.slice AF F.length cF, .slice AS S.length cS, .slice AR R.length cR, .int .i64 t, .int .i64 u], .agg #[.int .i64 a, .int .i64 b, .bool (k == 1), .bool (k == 0)]] w (RetG w (behF F t (a, b, k)) (behS S t (a, b, k)) (behR R (a, b, k)) (1 - t) (behU u (a, b, k)))
  rw [eU, eR, e0]
  by_cases h0 : R.length = 0
  · have er : rowAfter R a b k = [a, b] := if_pos h0
    rw [er]
    rcases ht2 with ht | ht
    · have eF : behF F t (a, b, k) = woL F a b := by unfold behF; rw [if_neg hk0, if_neg (by omega)]
      have eS : behS S t (a, b, k) = S := by unfold behS; rw [if_neg hk0, if_neg (by omega)]
      rw [eF, eS]
      exact c_plMakeFE AF cF F AS cS S AR cR R t u a b (k == 1) w hF hS hR (by omega) (by omega) (by omega) ht hab.1 hab.2 h0
    · have eF : behF F t (a, b, k) = F := by unfold behF; rw [if_neg hk0, if_pos ht]
      have eS : behS S t (a, b, k) = woL S a b := by unfold behS; rw [if_neg hk0, if_pos ht]
      rw [eF, eS]
      exact c_plMakeSE AF cF F AS cS S AR cR R t u a b (k == 1) w hF hS hR (by omega) (by omega) (by omega) ht hab.1 hab.2 h0
  rcases hk with ⟨rfl, hl⟩ | ⟨rfl, hr⟩
  · have er : rowAfter R a b 1 = [a + b - R.getD 0 0] ++ R := row_left h0 hl
    rw [er]
    rcases ht2 with ht | ht
    · have eF : behF F t (a, b, 1) = woL F a b := by unfold behF; rw [if_neg hk0, if_neg (by omega)]
      have eS : behS S t (a, b, 1) = S := by unfold behS; rw [if_neg hk0, if_neg (by omega)]
      rw [eF, eS]
      exact c_plMakeFL AF cF F AS cS S AR cR R t u a b true w hF hS hR (by omega) (by omega) (by omega) ht hab.1 hab.2 h0 rfl hnum
    · have eF : behF F t (a, b, 1) = F := by unfold behF; rw [if_neg hk0, if_pos ht]
      have eS : behS S t (a, b, 1) = woL S a b := by unfold behS; rw [if_neg hk0, if_pos ht]
      rw [eF, eS]
      exact c_plMakeSL AF cF F AS cS S AR cR R t u a b true w hF hS hR (by omega) (by omega) (by omega) ht hab.1 hab.2 h0 rfl hnum
  · have er : rowAfter R a b 2 = R ++ [a + b - R.getD (R.length - 1) 0] := row_right h0 hr
    rw [er]
    rcases ht2 with ht | ht
    · have eF : behF F t (a, b, 2) = woL F a b := by unfold behF; rw [if_neg hk0, if_neg (by omega)]
      have eS : behS S t (a, b, 2) = S := by unfold behS; rw [if_neg hk0, if_neg (by omega)]
      rw [eF, eS]
      exact c_plMakeFR AF cF F AS cS S AR cR R t u a b false w hF hS hR (by omega) (by omega) (by omega) ht hab.1 hab.2 h0 rfl hnum
    · have eF : behF F t (a, b, 2) = F := by unfold behF; rw [if_neg hk0, if_pos ht]
      have eS : behS S t (a, b, 2) = woL S a b := by unfold behS; rw [if_neg hk0, if_pos ht]
      rw [eF, eS]
      exact c_plMakeSR AF cF F AS cS S AR cR R t u a b false w hF hS hR (by omega) (by omega) (by omega) ht hab.1 hab.2 h0 rfl hnum

end Go.Proofs.YtgjdpiooocpmhabGreatDoor

/- The move with a text is found and made: both sides. -/
import Derived.Test.YtgjdpiooocpmhabGreatDoorTxt
import Derived.Test.YtgjdpiooocpmhabGreatDoorBehA
import Derived.Test.YtgjdpiooocpmhabGreatDoorMakeA
import Derived.Test.YtgjdpiooocpmhabGreatDoorGameL
import Derived.Deep.Cut
import Derived.BigQuiet
namespace Go.Proofs.YtgjdpiooocpmhabGreatDoor
open Go.RowKit
set_option linter.unusedVariables false

def fndM (F S : List (Int × Int)) (R : List Int) (t u : Int) (s : ByteArray) : Option Mv := (movesL F S R t u).find? fun m => decide (mvTx m = s)
def mkM (F S : List (Int × Int)) (R : List Int) (t u : Int) (s : ByteArray) : Mv := (fndM F S R t u s).getD (0, 0, 0)
def mkB (F S : List (Int × Int)) (R : List Int) (t u : Int) (s : ByteArray) : Bool := gameB F S R t u && (fndM F S R t u s).isSome
theorem str_ne {a b : ByteArray} (h : a ≠ b) : (a.toList == b.toList) = false := by
  rw [beq_eq_false_iff_ne]
  intro e
  rw [ByteArray.toList_eq, ByteArray.toList_eq] at e
  exact h (ByteArray.ext (Array.toList_inj.1 e))
theorem find_hit {α : Type} {p : α → Bool} : ∀ {M : List α} {k : Nat} (h : k < M.length), p M[k] = true → (∀ j (hj : j < M.length), j < k → p M[j] = false) → M.find? p = some M[k]
  | [], k, h, _, _ => by simp at h
  | x :: M, 0, h, hp, _ => by rw [List.find?_cons]; simp only [List.getElem_cons_zero] at hp ⊢; rw [hp]
  | x :: M, k + 1, h, hp, hn => by
    have h0 := hn 0 (by simp) (by omega)
    rw [List.find?_cons]
    simp only [List.getElem_cons_zero] at h0
    rw [h0]
    simp only [List.getElem_cons_succ] at hp ⊢
    exact find_hit (by simpa using h) hp (fun j hj hjk => hn (j + 1) (by simpa using hj) (by omega))
theorem find_none {α : Type} {p : α → Bool} {M : List α} (hn : ∀ j (hj : j < M.length), p M[j] = false) : M.find? p = none :=
  List.find?_eq_none.2 fun x hx => by
    obtain ⟨j, hj, rfl⟩ := List.getElem_of_mem hx
    simp [hn j hj]
theorem mov_num {F S : List (Int × Int)} {R : List Int} {t u : Int} {m : Mv} (hg : gameB F S R t u = true) (hm : m ∈ movesL F S R t u) : m.2.2 ≤ 2 ∧ (m.2.2 ≠ 0 → numB m.1 = true ∧ numB m.2.1 = true) := by
  obtain ⟨g1, g2, g3, g4, _, _, _⟩ := gameB_parts hg
  rcases (mem_moves hm).2 with rfl | ⟨hin, hk⟩
  · exact ⟨by decide, fun h => absurd rfl h⟩
  · refine ⟨by omega, fun _ => ?_⟩
    have hgd : goodB m.1 m.2.1 = true := by
      unfold handG at hin
      split at hin
      · exact (handB_good g4).2 _ hin
      · exact (handB_good g3).2 _ hin
    simp only [goodB, Bool.and_eq_true] at hgd
    exact ⟨hgd.1, hgd.2.1⟩
theorem fnd_mem {F S : List (Int × Int)} {R : List Int} {t u : Int} {s : ByteArray} (h : (fndM F S R t u s).isSome = true) : mkM F S R t u s ∈ movesL F S R t u := by
  unfold mkM
  cases hf : fndM F S R t u s with
  | none => rw [hf] at h; cases h
  | some m => exact List.mem_of_find?_eq_some hf
theorem mk_len (F S : List (Int × Int)) (R : List Int) (t u : Int) (s : ByteArray) : (selT (mkB F S R t u s) (behF F t (mkM F S R t u s))).length + (selT (mkB F S R t u s) (behS S t (mkM F S R t u s))).length + (selI (mkB F S R t u s) (behR R (mkM F S R t u s))).length ≤ 1048576 := by
  cases hb : mkB F S R t u s
  · simp [selT, selI]
  · unfold mkB at hb
    rw [Bool.and_eq_true] at hb
    have h := game_len (behind_good hb.1 (fnd_mem hb.2)).1
    simp only [selT, selI, if_true]
    omega

set_option maxRecDepth 100000 in
set_option maxHeartbeats 2000000 in
theorem c_plFind (AF : Option Addr) (cF : Nat) (F : List (Int × Int)) (AS : Option Addr) (cS : Nat) (S : List (Int × Int)) (AR : Option Addr) (cR : Nat) (R : List Int) (t u : Int) (s : ByteArray) (w : World) (hF : RdT w AF F) (hS : RdT w AS S) (hR : RdI w AR R) (hg : gameB F S R t u = true) :
    Calls Tryz.prog 46 #[.agg #[.slice AF F.length cF, .slice AS S.length cS, .slice AR R.length cR, .int .i64 t, .int .i64 u], .string s] w (RetGs w (behF F t (mkM F S R t u s)) (behS S t (mkM F S R t u s)) (behR R (mkM F S R t u s)) (1 - t) (behU u (mkM F S R t u s)) (fndM F S R t u s).isSome) := by
  obtain ⟨lF, lS, lR, ht2⟩ := game_len hg
  have gp := gameB_parts hg
  have conM := Lib.hid (fun W (hb : Below w.heap.size w W) => c_plMoves AF cF F AS cS S AR cR R t u W (hF.below hb) (hS.below hb) (hR.below hb) gp.2.2.1 gp.2.2.2.1 (by omega))
  have conB := Lib.hid (fun m (hm : m ∈ movesL F S R t u) W (hb : Below w.heap.size w W) => makeP AF cF F AS cS S AR cR R t u m W (hF.below hb) (hS.below hb) (hR.below hb) hg hm)
  have conT := Lib.hid (fun m (hm : m ∈ movesL F S R t u) W => c_plText m.1 m.2.1 m.2.2 (mov_num hg hm).1 (mov_num hg hm).2 W)
  unfold mkM fndM
  have ml := movesL_len F S R t u
  generalize hM : movesL F S R t u = M at *
  obtain ⟨o, ho⟩ : ∃ o, o = M.find? (fun m => decide (mvTx m = s)) := ⟨_, rfl⟩
  rw [← ho]
  have HO := Lib.hid ho
  clear ho hM hF hS hR hg gp
  go_enter Tryz.func46, Tryz.ntmps46
  go_wp2_with fail
  obtain ⟨w0, hw0⟩ : ∃ w0, w0 = (w.alloc (.cells #[.slice AF F.length cF, .slice AS S.length cS, .slice AR R.length cR, .int .i64 t, .int .i64 u] 32)).alloc (.cells #[.slice none 0 0, .slice none 0 0, .slice none 0 0, .int .i64 0, .int .i64 0] 32) := ⟨_, rfl⟩
  rw [← hw0]
  have ba0 : BoxAt w0 w.heap.size (.slice AF F.length cF) (.slice AS S.length cS) (.slice AR R.length cR) (.int .i64 t) (.int .i64 u) := by rw [hw0]; exact (BoxAt.fresh w _ _ _ _ _ _).more _
  have br0 : BoxAt w0 (w.heap.size + 1) (.slice none 0 0) (.slice none 0 0) (.slice none 0 0) (.int .i64 0) (.int .i64 0) := by
    have h := BoxAt.fresh (w.alloc (.cells #[.slice AF F.length cF, .slice AS S.length cS, .slice AR R.length cR, .int .i64 t, .int .i64 u] 32)) (.slice none 0 0) (.slice none 0 0) (.slice none 0 0) (.int .i64 0) (.int .i64 0) 32
    rw [World.size_alloc] at h
    rw [hw0]; exact h
  have hb0 : Below w.heap.size w w0 := by rw [hw0]; go_grown
  clear hw0
  refine (conM.out w0 hb0).mono ?_
  rintro e w2 ⟨A2, c2, rfl, o2, h2⟩
  have hb2 := bstep hb0 h2
  have ba2 := ba0.keep h2
  have br2 := br0.keep h2
  have r2 := RdE.of_own encS_len o2
  clear ba0 br0 o2 conM
  go_wp2
  go_loopw [11] (fun i wr => ∃ k : Nat, k ≤ M.length ∧ i = .int .i64 k ∧ (∀ j (hj : j < M.length), j < k → decide (mvTx M[j] = s) = false) ∧ Below w2.heap.size w2 wr) (fun i _ => M.length - (intOf i).toNat)
  case atStart => exact ⟨0, Nat.zero_le _, rfl, fun j _ h => by omega, Below.refl _ _⟩
  case round =>
    obtain ⟨k, hk, rfl, hno, hb⟩ := hrel
    have Hno := Lib.hid hno
    clear hno
    by_cases hlt : k < M.length
    · obtain ⟨bm, om, rfl, hbm, hcm⟩ := r2.at_ hlt
      have g0 := keepc hb (hcm k hlt 0 _ rfl)
      have g1 := keepc hb (hcm k hlt 1 _ rfl)
      have g2 := keepc hb (hcm k hlt 2 _ rfl)
      have g3 := keepc hb (hcm k hlt 3 _ rfl)
      rw [Nat.add_zero] at g0
      have Hhit := Lib.hid (fun (h : decide (mvTx M[k] = s) = true) => find_hit (p := fun m => decide (mvTx m = s)) hlt h (fun j hj hjk => Hno.out j hj hjk))
      have Hstep := Lib.hid (fun (h : decide (mvTx M[k] = s) = false) j (hj : j < M.length) (hjk : j < k + 1) => show decide (mvTx M[j] = s) = false by
        by_cases e : j = k
        · subst e; exact h
        · exact Hno.out j hj (by omega))
      have hmem : M[k] ∈ M := List.getElem_mem hlt
      generalize M[k] = m at *
      have conB2 := Lib.hid (conB.out m hmem)
      have conT2' := conT.out m hmem
      rw [show mvT m.1 m.2.1 m.2.2 = mvTx m from rfl] at conT2'
      have bar := ba2.keep hb
      have brr := br2.keep hb
      have hlw := bar.lt
      have hlr := brr.lt
      have hbr := bstep hb2 hb
      generalize mvTx m = T at *
      have conT2 := Lib.hid conT2'
      clear hcm conB conT conT2' hmem
      generalize (m.2.2 == 1) = p1 at *
      generalize (m.2.2 == 0) = p0 at *
      go_wp2_with fail
      obtain ⟨w3, hw3⟩ : ∃ w3, w3 = wr.alloc (.cells #[.int .i64 m.1, .int .i64 m.2.1, .bool p1, .bool p0] 70) := ⟨_, rfl⟩
      rw [← hw3]
      have m0 : w3.cell? ⟨wr.heap.size, 0, none⟩ = some (.int .i64 m.1) := by rw [hw3]; simp
      have m1 : w3.cell? ⟨wr.heap.size, 1, none⟩ = some (.int .i64 m.2.1) := by rw [hw3]; simp
      have m2 : w3.cell? ⟨wr.heap.size, 2, none⟩ = some (.bool p1) := by rw [hw3]; simp
      have m3 : w3.cell? ⟨wr.heap.size, 3, none⟩ = some (.bool p0) := by rw [hw3]; simp
      have h3 : Below wr.heap.size wr w3 := by rw [hw3]; exact (Below.refl _ _).alloc (Nat.le_refl _) _
      clear hw3
      refine (conT2.out w3).mono ?_
      rintro e w4 ⟨rfl, h4⟩
      have h34 := bstep h3 h4
      have ba4 := bar.keep h34
      have br4 := brr.keep h34
      have hb4 := bstep hbr h34
      have hs4 := h34.size
      have n0 := keepc h4 m0
      have n1 := keepc h4 m1
      have n2 := keepc h4 m2
      have n3 := keepc h4 m3
      clear g0 m0 g1 m1 g2 m2 g3 m3 bar brr conT2
      have x0 := ba4.c0
      have x1 := ba4.c1
      have x2 := ba4.c2
      have x3 := ba4.c3
      have x4 := ba4.c4
      cases hd : decide (T = s)
      · have e1 : (T.toList == s.toList) = false := str_ne (of_decide_eq_false hd)
        have hst := Lib.hid (Hstep.out hd)
        clear Hstep Hhit hd
        go_wp2
        go_roundw
        case rel => exact ⟨k + 1, by omega, by go_num, hst.out, bstep hb h34⟩
        case measure => simp [intOf]; omega
      · have e1 : (T.toList == s.toList) = true := by rw [of_decide_eq_true hd]; simp
        obtain rfl : o = some m := by rw [HO.out]; exact Hhit.out hd
        clear Hstep Hhit hd HO
        go_wp2_with fail
        refine (conB2.out w4 hb4).mono ?_
        rintro e w5 ⟨A3, c3, A4, c4, A5, c5, rfl, o5, h5⟩
        have br5 := br4.keep h5
        have hb5 := bstep hb4 h5
        have q5 := hb4.size
        have q6 := h5.size
        clear ba4 br4 x0 x1 x2 x3 x4 conB2 n0 n1 n2 n3
        have r0 := br5.c0
        have r1 := br5.c1
        have r2 := br5.c2
        have r3 := br5.c3
        have r4 := br5.c4
        have z0 := br5.fz 0
        have z1 := br5.fz 1
        have z2 := br5.fz 2
        have z3 := br5.fz 3
        have z4 := br5.fz 4
        go_wp2
        refine bodyPost_ret (v := .tuple #[.agg #[.slice A3 (behF F t m).length c3, .slice A4 (behS S t m).length c4, .slice A5 (behR R m).length c5, .int .i64 (1 - t), .int .i64 (behU u m)], .bool true]) (by simp [results, Tryz.results46, go_sem, r0, r1, r2, r3, r4]) rfl (retGs_yes ?_ (below_box (below_box (below_box (below_box (below_box hb5 (by omega)) (by omega)) (by omega)) (by omega)) (by omega)))
        exact ((((((o5.box (by omega)).box (by omega)).box (by omega)).box (by omega)).box (by omega)).base (by omega)).top (by first | (simp [World.setCell]; done) | (simp [World.setCell]; omega))
    · have : k = M.length := by omega
      subst this
      have hnone : (M.find? fun m => decide (mvTx m = s)) = none := find_none (fun j hj => Hno.out j hj hj)
      obtain rfl : o = none := by rw [HO.out]; exact hnone
      clear hnone Hno conB conT HO
      have br5 := br2.keep hb
      have hb5 := bstep hb2 hb
      have hlr := br5.lt
      have r0 := br5.c0
      have r1 := br5.c1
      have r2 := br5.c2
      have r3 := br5.c3
      have r4 := br5.c4
      have z0 := br5.fz 0
      have z1 := br5.fz 1
      have z2 := br5.fz 2
      have z3 := br5.fz 3
      have z4 := br5.fz 4
      go_wp2
      refine bodyPost_ret (v := .tuple #[.agg #[.slice none 0 0, .slice none 0 0, .slice none 0 0, .int .i64 0, .int .i64 0], .bool false]) (by simp [results, Tryz.results46, go_sem, r0, r1, r2, r3, r4]) rfl (retGs_no (below_box (below_box (below_box (below_box (below_box hb5 (by omega)) (by omega)) (by omega)) (by omega)) (by omega)))

set_option maxRecDepth 100000 in
set_option maxHeartbeats 2000000 in
theorem c_specMake (AF : Option Addr) (cF : Nat) (F : List (Int × Int)) (AS : Option Addr) (cS : Nat) (S : List (Int × Int)) (AR : Option Addr) (cR : Nat) (R : List Int) (t u : Int) (s : ByteArray) (w : World) (hF : RdT w AF F) (hS : RdT w AS S) (hR : RdI w AR R) (lF : F.length ≤ 1048576) (lS : S.length ≤ 1048576) (lR : R.length ≤ 1048576) (kF : F.length ≤ cF) (kS : S.length ≤ cS) :
    Calls Tryz.prog 18 #[.agg #[.slice AF F.length cF, .slice AS S.length cS, .slice AR R.length cR, .int .i64 t, .int .i64 u], .string s] w (RetGs w (behF F t (mkM F S R t u s)) (behS S t (mkM F S R t u s)) (behR R (mkM F S R t u s)) (1 - t) (behU u (mkM F S R t u s)) (mkB F S R t u s)) := by
  cases hg : gameB F S R t u
  · have con := fun W (hb : Below w.heap.size w W) => c_plGood AF cF F AS cS S AR cR R t u W (hF.below hb) (hS.below hb) (hR.below hb) (by omega) (by omega) (by omega) kF kS
    rw [hg] at con
    rw [show mkB F S R t u s = false by unfold mkB; rw [hg]; rfl]
    have Con := Lib.hid con
    clear con hg hF hS hR
    go_enter Tryz.func18, Tryz.ntmps18
    go_wp2_with fail
    obtain ⟨w0, hw0⟩ : ∃ w0, w0 = (w.alloc (.cells #[.slice AF F.length cF, .slice AS S.length cS, .slice AR R.length cR, .int .i64 t, .int .i64 u] 32)).alloc (.cells #[.slice none 0 0, .slice none 0 0, .slice none 0 0, .int .i64 0, .int .i64 0] 32) := ⟨_, rfl⟩
    rw [← hw0]
    have ba0 : BoxAt w0 w.heap.size (.slice AF F.length cF) (.slice AS S.length cS) (.slice AR R.length cR) (.int .i64 t) (.int .i64 u) := by rw [hw0]; exact (BoxAt.fresh w _ _ _ _ _ _).more _
    have br0 : BoxAt w0 (w.heap.size + 1) (.slice none 0 0) (.slice none 0 0) (.slice none 0 0) (.int .i64 0) (.int .i64 0) := by
      have h := BoxAt.fresh (w.alloc (.cells #[.slice AF F.length cF, .slice AS S.length cS, .slice AR R.length cR, .int .i64 t, .int .i64 u] 32)) (.slice none 0 0) (.slice none 0 0) (.slice none 0 0) (.int .i64 0) (.int .i64 0) 32
      rw [World.size_alloc] at h
      rw [hw0]; exact h
    have hb0 : Below w.heap.size w w0 := by rw [hw0]; go_grown
    clear hw0
    refine (Con.out w0 hb0).mono ?_
    rintro e w1 ⟨rfl, h1⟩
    have br5 := br0.keep h1
    have hb5 := bstep hb0 h1
    have hlr := br5.lt
    clear br0
    have r0 := br5.c0
    have r1 := br5.c1
    have r2 := br5.c2
    have r3 := br5.c3
    have r4 := br5.c4
    have z0 := br5.fz 0
    have z1 := br5.fz 1
    have z2 := br5.fz 2
    have z3 := br5.fz 3
    have z4 := br5.fz 4
    go_wp2
    refine bodyPost_ret (v := .tuple #[.agg #[.slice none 0 0, .slice none 0 0, .slice none 0 0, .int .i64 0, .int .i64 0], .bool false]) (by simp [results, Tryz.results18, go_sem, r0, r1, r2, r3, r4]) rfl (retGs_no (below_box (below_box (below_box (below_box (below_box hb5 (by omega)) (by omega)) (by omega)) (by omega)) (by omega)))
  · have con := fun W (hb : Below w.heap.size w W) => c_plGood AF cF F AS cS S AR cR R t u W (hF.below hb) (hS.below hb) (hR.below hb) (by omega) (by omega) (by omega) kF kS
    rw [hg] at con
    have conF := Lib.hid (fun W (hb : Below w.heap.size w W) => c_plFind AF cF F AS cS S AR cR R t u s W (hF.below hb) (hS.below hb) (hR.below hb) hg)
    rw [show mkB F S R t u s = (fndM F S R t u s).isSome by unfold mkB; rw [hg]; rfl]
    have Con := Lib.hid con
    unfold RetGs RetGB at conF ⊢
    generalize (fndM F S R t u s).isSome = bg at *
    generalize selT bg (behF F t (mkM F S R t u s)) = F2 at *
    generalize selT bg (behS S t (mkM F S R t u s)) = S2 at *
    generalize selI bg (behR R (mkM F S R t u s)) = R2 at *
    generalize selV bg (1 - t) = t2 at *
    generalize selV bg (behU u (mkM F S R t u s)) = u2 at *
    clear con hg hF hS hR
    go_enter Tryz.func18, Tryz.ntmps18
    go_wp2_with fail
    obtain ⟨w0, hw0⟩ : ∃ w0, w0 = (w.alloc (.cells #[.slice AF F.length cF, .slice AS S.length cS, .slice AR R.length cR, .int .i64 t, .int .i64 u] 32)).alloc (.cells #[.slice none 0 0, .slice none 0 0, .slice none 0 0, .int .i64 0, .int .i64 0] 32) := ⟨_, rfl⟩
    rw [← hw0]
    have ba0 : BoxAt w0 w.heap.size (.slice AF F.length cF) (.slice AS S.length cS) (.slice AR R.length cR) (.int .i64 t) (.int .i64 u) := by rw [hw0]; exact (BoxAt.fresh w _ _ _ _ _ _).more _
    have br0 : BoxAt w0 (w.heap.size + 1) (.slice none 0 0) (.slice none 0 0) (.slice none 0 0) (.int .i64 0) (.int .i64 0) := by
      have h := BoxAt.fresh (w.alloc (.cells #[.slice AF F.length cF, .slice AS S.length cS, .slice AR R.length cR, .int .i64 t, .int .i64 u] 32)) (.slice none 0 0) (.slice none 0 0) (.slice none 0 0) (.int .i64 0) (.int .i64 0) 32
      rw [World.size_alloc] at h
      rw [hw0]; exact h
    have hb0 : Below w.heap.size w w0 := by rw [hw0]; go_grown
    clear hw0
    refine (Con.out w0 hb0).mono ?_
    rintro e w1 ⟨rfl, h1⟩
    have ba1 := ba0.keep h1
    have br1 := br0.keep h1
    have hb1 := bstep hb0 h1
    clear ba0 br0
    have x0 := ba1.c0
    have x1 := ba1.c1
    have x2 := ba1.c2
    have x3 := ba1.c3
    have x4 := ba1.c4
    go_wp2_with fail
    refine (conF.out w1 hb1).mono ?_
    rintro e w5 ⟨A3, c3, A4, c4, A5, c5, rfl, o5, h5⟩
    have br5 := br1.keep h5
    have hb5 := bstep hb1 h5
    have q5 := hb1.size
    have q6 := h5.size
    have hlr := br1.lt
    clear ba1 br1 x0 x1 x2 x3 x4 conF
    have r0 := br5.c0
    have r1 := br5.c1
    have r2 := br5.c2
    have r3 := br5.c3
    have r4 := br5.c4
    have z0 := br5.fz 0
    have z1 := br5.fz 1
    have z2 := br5.fz 2
    have z3 := br5.fz 3
    have z4 := br5.fz 4
    go_wp2
    refine bodyPost_ret (v := .tuple #[.agg #[.slice A3 F2.length c3, .slice A4 S2.length c4, .slice A5 R2.length c5, .int .i64 t2, .int .i64 u2], .bool bg]) (by simp [results, Tryz.results18, go_sem, r0, r1, r2, r3, r4]) rfl ⟨A3, c3, A4, c4, A5, c5, rfl, ?_, below_box (below_box (below_box (below_box (below_box hb5 (by omega)) (by omega)) (by omega)) (by omega)) (by omega)⟩
    exact ((((((o5.box (by omega)).box (by omega)).box (by omega)).box (by omega)).box (by omega)).base (by omega)).top (by first | (simp [World.setCell]; done) | (simp [World.setCell]; omega))

set_option maxRecDepth 100000 in
set_option maxHeartbeats 2000000 in
theorem c_makeGood (AF : Option Addr) (cF : Nat) (F : List (Int × Int)) (AS : Option Addr) (cS : Nat) (S : List (Int × Int)) (AR : Option Addr) (cR : Nat) (R : List Int) (t u : Int) (s : ByteArray) (w : World) (hF : RdT w AF F) (hS : RdT w AS S) (hR : RdI w AR R) (hg : gameB F S R t u = true) :
    Calls Tryz.prog 19 #[.agg #[.slice AF F.length cF, .slice AS S.length cS, .slice AR R.length cR, .int .i64 t, .int .i64 u], .string s] w (RetGs w (behF F t (mkM F S R t u s)) (behS S t (mkM F S R t u s)) (behR R (mkM F S R t u s)) (1 - t) (behU u (mkM F S R t u s)) (fndM F S R t u s).isSome) := by
  obtain ⟨lF, lS, lR, ht2⟩ := game_len hg
  have gp := gameB_parts hg
  have conG := fun W (hb : Below w.heap.size w W) => c_implIsGame AF cF F AS cS S AR cR R t u W (hF.below hb) (hS.below hb) (hR.below hb) (by omega) (by omega)
  rw [hg] at conG
  have ConG := Lib.hid conG
  clear conG
  have conM := Lib.hid (fun W (hb : Below w.heap.size w W) => c_gMoves AF cF F AS cS S AR cR R t u W (hF.below hb) (hS.below hb) (hR.below hb) gp.2.2.1 gp.2.2.2.1 (by omega) ht2)
  have conB := Lib.hid (fun m (hm : m ∈ movesL F S R t u) W (hb : Below w.heap.size w W) => c_behind AF cF F AS cS S AR cR R t u m W (hF.below hb) (hS.below hb) (hR.below hb) hg hm)
  have conT := Lib.hid (fun m (hm : m ∈ movesL F S R t u) W => c_moveText m.1 m.2.1 m.2.2 (mov_num hg hm).1 (mov_num hg hm).2 W)
  unfold mkM fndM
  have ml := movesL_len F S R t u
  generalize hM : movesL F S R t u = M at *
  obtain ⟨o, ho⟩ : ∃ o, o = M.find? (fun m => decide (mvTx m = s)) := ⟨_, rfl⟩
  rw [← ho]
  have HO := Lib.hid ho
  clear ho hM hF hS hR hg gp
  go_enter Tryz.func19, Tryz.ntmps19
  go_wp2_with fail
  obtain ⟨w0, hw0⟩ : ∃ w0, w0 = (w.alloc (.cells #[.slice AF F.length cF, .slice AS S.length cS, .slice AR R.length cR, .int .i64 t, .int .i64 u] 32)).alloc (.cells #[.slice none 0 0, .slice none 0 0, .slice none 0 0, .int .i64 0, .int .i64 0] 32) := ⟨_, rfl⟩
  rw [← hw0]
  have ba0 : BoxAt w0 w.heap.size (.slice AF F.length cF) (.slice AS S.length cS) (.slice AR R.length cR) (.int .i64 t) (.int .i64 u) := by rw [hw0]; exact (BoxAt.fresh w _ _ _ _ _ _).more _
  have br0 : BoxAt w0 (w.heap.size + 1) (.slice none 0 0) (.slice none 0 0) (.slice none 0 0) (.int .i64 0) (.int .i64 0) := by
    have h := BoxAt.fresh (w.alloc (.cells #[.slice AF F.length cF, .slice AS S.length cS, .slice AR R.length cR, .int .i64 t, .int .i64 u] 32)) (.slice none 0 0) (.slice none 0 0) (.slice none 0 0) (.int .i64 0) (.int .i64 0) 32
    rw [World.size_alloc] at h
    rw [hw0]; exact h
  have hb0 : Below w.heap.size w w0 := by rw [hw0]; go_grown
  clear hw0
  refine (ConG.out w0 hb0).mono ?_
  rintro e w1 ⟨rfl, h1⟩
  have ba1 := ba0.keep h1
  have br1 := br0.keep h1
  have hb1 := bstep hb0 h1
  have x0 := ba1.c0
  have x1 := ba1.c1
  have x2 := ba1.c2
  have x3 := ba1.c3
  have x4 := ba1.c4
  go_wp2_with fail
  refine (conM.out w1 hb1).mono ?_
  rintro e w2 ⟨A2, c2, rfl, o2, h2⟩
  have hb2 := bstep hb1 h2
  have ba2 := ba1.keep h2
  have br2 := br1.keep h2
  clear x0 x1 x2 x3 x4 ba1 br1
  have r2 := RdE.of_own encI_len o2
  clear ba0 br0 o2 conM
  go_wp2
  go_loopw [15] (fun i wr => ∃ k : Nat, k ≤ M.length ∧ i = .int .i64 k ∧ (∀ j (hj : j < M.length), j < k → decide (mvTx M[j] = s) = false) ∧ Below w2.heap.size w2 wr) (fun i _ => M.length - (intOf i).toNat)
  case atStart => exact ⟨0, Nat.zero_le _, rfl, fun j _ h => by omega, Below.refl _ _⟩
  case round =>
    obtain ⟨k, hk, rfl, hno, hb⟩ := hrel
    have Hno := Lib.hid hno
    clear hno
    by_cases hlt : k < M.length
    · obtain ⟨bm, om, rfl, hbm, hcm⟩ := r2.at_ hlt
      have g0 := keepc hb (hcm k hlt 0 _ rfl)
      have g1 := keepc hb (hcm k hlt 1 _ rfl)
      have g2 := keepc hb (hcm k hlt 2 _ rfl)
      rw [Nat.add_zero] at g0
      have Hhit := Lib.hid (fun (h : decide (mvTx M[k] = s) = true) => find_hit (p := fun m => decide (mvTx m = s)) hlt h (fun j hj hjk => Hno.out j hj hjk))
      have Hstep := Lib.hid (fun (h : decide (mvTx M[k] = s) = false) j (hj : j < M.length) (hjk : j < k + 1) => show decide (mvTx M[j] = s) = false by
        by_cases e : j = k
        · subst e; exact h
        · exact Hno.out j hj (by omega))
      have hmem : M[k] ∈ M := List.getElem_mem hlt
      generalize M[k] = m at *
      have conB2 := Lib.hid (conB.out m hmem)
      have conT2' := conT.out m hmem
      rw [show mvT m.1 m.2.1 m.2.2 = mvTx m from rfl] at conT2'
      have bar := ba2.keep hb
      have brr := br2.keep hb
      have hlw := bar.lt
      have hlr := brr.lt
      have hbr := bstep hb2 hb
      generalize mvTx m = T at *
      have conT2 := Lib.hid conT2'
      clear hcm conB conT conT2' hmem
      generalize endS m.2.2 = es at *
      go_wp2_with fail
      obtain ⟨w3, hw3⟩ : ∃ w3, w3 = wr.alloc (.cells #[.int .i64 m.1, .int .i64 m.2.1, .string es] 64) := ⟨_, rfl⟩
      rw [← hw3]
      have m0 : w3.cell? ⟨wr.heap.size, 0, none⟩ = some (.int .i64 m.1) := by rw [hw3]; simp
      have m1 : w3.cell? ⟨wr.heap.size, 1, none⟩ = some (.int .i64 m.2.1) := by rw [hw3]; simp
      have m2 : w3.cell? ⟨wr.heap.size, 2, none⟩ = some (.string es) := by rw [hw3]; simp
      have h3 : Below wr.heap.size wr w3 := by rw [hw3]; exact (Below.refl _ _).alloc (Nat.le_refl _) _
      clear hw3
      refine (conT2.out w3).mono ?_
      rintro e w4 ⟨rfl, h4⟩
      have h34 := bstep h3 h4
      have ba4 := bar.keep h34
      have br4 := brr.keep h34
      have hb4 := bstep hbr h34
      have hs4 := h34.size
      have n0 := keepc h4 m0
      have n1 := keepc h4 m1
      have n2 := keepc h4 m2
      clear g0 m0 g1 m1 g2 m2 bar brr conT2
      have x0 := ba4.c0
      have x1 := ba4.c1
      have x2 := ba4.c2
      have x3 := ba4.c3
      have x4 := ba4.c4
      cases hd : decide (T = s)
      · have e1 : (T.toList == s.toList) = false := str_ne (of_decide_eq_false hd)
        have hst := Lib.hid (Hstep.out hd)
        clear Hstep Hhit hd
        go_wp2
        go_roundw
        case rel => exact ⟨k + 1, by omega, by go_num, hst.out, bstep hb h34⟩
        case measure => simp [intOf]; omega
      · have e1 : (T.toList == s.toList) = true := by rw [of_decide_eq_true hd]; simp
        obtain rfl : o = some m := by rw [HO.out]; exact Hhit.out hd
        clear Hstep Hhit hd HO
        go_wp2_with fail
        refine (conB2.out w4 hb4).mono ?_
        rintro e w5 ⟨A3, c3, A4, c4, A5, c5, rfl, o5, h5⟩
        have br5 := br4.keep h5
        have hb5 := bstep hb4 h5
        have q5 := hb4.size
        have q6 := h5.size
        clear ba4 br4 x0 x1 x2 x3 x4 conB2 n0 n1 n2
        have r0 := br5.c0
        have r1 := br5.c1
        have r2 := br5.c2
        have r3 := br5.c3
        have r4 := br5.c4
        have z0 := br5.fz 0
        have z1 := br5.fz 1
        have z2 := br5.fz 2
        have z3 := br5.fz 3
        have z4 := br5.fz 4
        go_wp2
        refine bodyPost_ret (v := .tuple #[.agg #[.slice A3 (behF F t m).length c3, .slice A4 (behS S t m).length c4, .slice A5 (behR R m).length c5, .int .i64 (1 - t), .int .i64 (behU u m)], .bool true]) (by simp [results, Tryz.results19, go_sem, r0, r1, r2, r3, r4]) rfl (retGs_yes ?_ (below_box (below_box (below_box (below_box (below_box hb5 (by omega)) (by omega)) (by omega)) (by omega)) (by omega)))
        exact ((((((o5.box (by omega)).box (by omega)).box (by omega)).box (by omega)).box (by omega)).base (by omega)).top (by first | (simp [World.setCell]; done) | (simp [World.setCell]; omega))
    · have : k = M.length := by omega
      subst this
      have hnone : (M.find? fun m => decide (mvTx m = s)) = none := find_none (fun j hj => Hno.out j hj hj)
      obtain rfl : o = none := by rw [HO.out]; exact hnone
      clear hnone Hno conB conT HO
      have br5 := br2.keep hb
      have hb5 := bstep hb2 hb
      have hlr := br5.lt
      have r0 := br5.c0
      have r1 := br5.c1
      have r2 := br5.c2
      have r3 := br5.c3
      have r4 := br5.c4
      have z0 := br5.fz 0
      have z1 := br5.fz 1
      have z2 := br5.fz 2
      have z3 := br5.fz 3
      have z4 := br5.fz 4
      go_wp2
      refine bodyPost_ret (v := .tuple #[.agg #[.slice none 0 0, .slice none 0 0, .slice none 0 0, .int .i64 0, .int .i64 0], .bool false]) (by simp [results, Tryz.results19, go_sem, r0, r1, r2, r3, r4]) rfl (retGs_no (below_box (below_box (below_box (below_box (below_box hb5 (by omega)) (by omega)) (by omega)) (by omega)) (by omega)))

set_option maxRecDepth 100000 in
set_option maxHeartbeats 2000000 in
theorem c_implMake (AF : Option Addr) (cF : Nat) (F : List (Int × Int)) (AS : Option Addr) (cS : Nat) (S : List (Int × Int)) (AR : Option Addr) (cR : Nat) (R : List Int) (t u : Int) (s : ByteArray) (w : World) (hF : RdT w AF F) (hS : RdT w AS S) (hR : RdI w AR R) (lFS : F.length + S.length ≤ 1048576) (lR : R.length ≤ 1048576) :
    Calls Tryz.prog 19 #[.agg #[.slice AF F.length cF, .slice AS S.length cS, .slice AR R.length cR, .int .i64 t, .int .i64 u], .string s] w (RetGs w (behF F t (mkM F S R t u s)) (behS S t (mkM F S R t u s)) (behR R (mkM F S R t u s)) (1 - t) (behU u (mkM F S R t u s)) (mkB F S R t u s)) := by
  cases hg : gameB F S R t u
  · have con := fun W (hb : Below w.heap.size w W) => c_implIsGame AF cF F AS cS S AR cR R t u W (hF.below hb) (hS.below hb) (hR.below hb) (by omega) (by omega)
    rw [hg] at con
    rw [show mkB F S R t u s = false by unfold mkB; rw [hg]; rfl]
    have Con := Lib.hid con
    clear con hg hF hS hR
    go_enter Tryz.func19, Tryz.ntmps19
    go_wp2_with fail
    obtain ⟨w0, hw0⟩ : ∃ w0, w0 = (w.alloc (.cells #[.slice AF F.length cF, .slice AS S.length cS, .slice AR R.length cR, .int .i64 t, .int .i64 u] 32)).alloc (.cells #[.slice none 0 0, .slice none 0 0, .slice none 0 0, .int .i64 0, .int .i64 0] 32) := ⟨_, rfl⟩
    rw [← hw0]
    have ba0 : BoxAt w0 w.heap.size (.slice AF F.length cF) (.slice AS S.length cS) (.slice AR R.length cR) (.int .i64 t) (.int .i64 u) := by rw [hw0]; exact (BoxAt.fresh w _ _ _ _ _ _).more _
    have br0 : BoxAt w0 (w.heap.size + 1) (.slice none 0 0) (.slice none 0 0) (.slice none 0 0) (.int .i64 0) (.int .i64 0) := by
      have h := BoxAt.fresh (w.alloc (.cells #[.slice AF F.length cF, .slice AS S.length cS, .slice AR R.length cR, .int .i64 t, .int .i64 u] 32)) (.slice none 0 0) (.slice none 0 0) (.slice none 0 0) (.int .i64 0) (.int .i64 0) 32
      rw [World.size_alloc] at h
      rw [hw0]; exact h
    have hb0 : Below w.heap.size w w0 := by rw [hw0]; go_grown
    clear hw0
    refine (Con.out w0 hb0).mono ?_
    rintro e w1 ⟨rfl, h1⟩
    have br5 := br0.keep h1
    have hb5 := bstep hb0 h1
    have hlr := br5.lt
    clear br0
    have r0 := br5.c0
    have r1 := br5.c1
    have r2 := br5.c2
    have r3 := br5.c3
    have r4 := br5.c4
    have z0 := br5.fz 0
    have z1 := br5.fz 1
    have z2 := br5.fz 2
    have z3 := br5.fz 3
    have z4 := br5.fz 4
    go_wp2
    refine bodyPost_ret (v := .tuple #[.agg #[.slice none 0 0, .slice none 0 0, .slice none 0 0, .int .i64 0, .int .i64 0], .bool false]) (by simp [results, Tryz.results19, go_sem, r0, r1, r2, r3, r4]) rfl (retGs_no (below_box (below_box (below_box (below_box (below_box hb5 (by omega)) (by omega)) (by omega)) (by omega)) (by omega)))
  · rw [show mkB F S R t u s = (fndM F S R t u s).isSome by unfold mkB; rw [hg]; rfl]
    exact c_makeGood AF cF F AS cS S AR cR R t u s w hF hS hR hg

end Go.Proofs.YtgjdpiooocpmhabGreatDoor

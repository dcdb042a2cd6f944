/- CanSweep: the specification's own. -/
import Derived.Test.YtlnfialfkipdjaaSwI
import Derived.Test.YtlnfialfkipdjaaSwK
import Derived.Test.YtlnfialfkipdjaaGameL
namespace Go.Proofs.Ytlnfialfkipdjaa
open Go.RowKit
set_option linter.unusedVariables false

theorem shl_facts : ∀ n : Fin 9, (2 : Nat) ^ n.1 ≤ 256 ∧ wrap64 (100 * 2 ^ n.1) = ((100 * 2 ^ n.1 : Nat) : Int) ∧ wrap64 (2 ^ n.1) = ((2 ^ n.1 : Nat) : Int) ∧ wrap64 (1 * 2 ^ n.1) = ((2 ^ n.1 : Nat) : Int) ∧ wrap64 (2 ^ n.1 - 1) = ((2 ^ n.1 - 1 : Nat) : Int) := by decide +kernel
theorem bit_factsW : ∀ (s : Fin 256) (q : Fin 8), s.1.testBit q.1 = true → bits BinOp.andNot IntKind.i64 (s.1 : Int) (IntKind.i64.wrap (2 ^ q.1)) = ((clrS s.1 q.1 : Nat) : Int) := by decide +kernel
theorem Try.info_bool : (Try.prog.info? 4).map (fun i => (i.zero, i.size, i.bytes)) = some (some (.bool false), 1, 1) := by kernel_rfl
theorem made_false {N k : Nat} (h : k < N) : (madeCells (Value.bool false).cells (N * 1)).toList[k]? = some (.bool false) := by
  rw [Nat.mul_one, show (madeCells (Value.bool false).cells N).toList = List.replicate N (Value.bool false) from toList_madeCells_one (.bool false) N]
  simp [h]

theorem grown_of_drew {w w' : World} {r : Option Nat} (h : w.drew.grownBy w' r) : w.grownBy w' r := by
  have h0 : w.grownBy w.drew r := ⟨rfl, rfl, rfl, Nat.le_refl _, fun _ _ _ => rfl⟩
  exact World.grownBy.trans h0 h
/-- The search at its start: nothing is marked. -/
theorem lk_start {H : List (Int × Int)} {N cH : Nat} {AH : Option Addr} {w w1 w2 : World} (hN : N = 100 * 2 ^ H.length) (hH : RdT w AH H) (hb : Below w.heap.size w w1) (hq : Below w1.heap.size w1 w2)
    (ho : w2.ownsRow w1.heap.size 4 1 (.slice (some ⟨w1.heap.size, 0, none⟩) N N) N (madeCells (Value.bool false).cells (N * 1)).toList) (t : TypeId) :
    LkW H w2.heap.size w1.heap.size N AH cH (w2.alloc (.cells #[.slice AH H.length cH, .slice (some ⟨w1.heap.size, 0, none⟩) N N] t)) noneS := by
  have h12 := (ho.lt w1.heap.size rfl).2
  have ba : Below w2.heap.size w2 (w2.alloc (.cells #[.slice AH H.length cH, .slice (some ⟨w1.heap.size, 0, none⟩) N N] t)) := (Below.refl _ _).alloc (Nat.le_refl _) _
  refine ⟨Bx2.fresh w2 _ _ _, by omega, fun k hk => ?_, fun s hs => ?_⟩
  · obtain ⟨bk, off, hA, hbk, hc⟩ := hH.at_ hk
    have hsz := hb.size
    refine ⟨bk, off, hA, by omega, ?_, ?_⟩
    · exact keepc ba (keepc hq (keepc hb (hc k hk).1))
    · exact keepc ba (keepc hq (keepc hb (hc k hk).2))
  · have hix : ixS s < N := by rw [hN]; exact ix_lt hs
    have h1 := (ho.cellAt (ixS s) (by omega)).trans (made_false hix)
    have h2 := ho.frozenAt (ixS s)
    exact ⟨keepc ba h1, (ba.frozen (p := ⟨w1.heap.size, ixS s, none⟩) h12).trans h2⟩
theorem LkW.drew {H : List (Int × Int)} {pb gs N cH : Nat} {AH : Option Addr} {w : World} {f : SwS → Bool} (h : LkW H pb gs N AH cH w f) : LkW H pb gs N AH cH w.drew f := h.keep (Below.refl _ _).drew
theorem row_ends {H : List (Int × Int)} {R : List Int} (hi : swInv H R) (h0 : R.length ≠ 0) : (0 ≤ fstI R ∧ fstI R ≤ 9) ∧ (0 ≤ lstI R ∧ lstI R ≤ 9) := by
  have h1 := hi.1
  unfold rowB at h1
  rw [decide_eq_false h0, Bool.false_or, Bool.and_eq_true] at h1
  have h2 := numB_getD (chain_num h1.1) 0
  have h3 := numB_getD (chain_num h1.1) (R.length - 1)
  unfold numB at h2 h3
  simp only [Bool.and_eq_true, decide_eq_true_eq] at h2 h3
  exact ⟨h2, h3⟩

set_option maxRecDepth 100000 in
set_option maxHeartbeats 16000000 in
theorem c_specCanSweep (AF : Option Addr) (cF : Nat) (F : List (Int × Int)) (AS : Option Addr) (cS : Nat) (S : List (Int × Int)) (AR : Option Addr) (cR : Nat) (R : List Int) (t u : Int) (w : World) (hF : RdT w AF F) (hS : RdT w AS S) (hR : RdI w AR R) (lFS : F.length + S.length ≤ 1048576) (lR : R.length ≤ 1048576) (kF : F.length ≤ cF) (kS : S.length ≤ cS) :
    Calls Try.prog 24 #[.agg #[.slice AF F.length cF, .slice AS S.length cS, .slice AR R.length cR, .int .i64 t, .int .i64 u]] w fun e w' => e = .returned (.tuple #[.bool (swRes F S R t u), .bool (swOk F S R t u)]) ∧ Below w.heap.size w w' := by
  have conG := fun W (hb : Below w.heap.size w W) => c_plGood AF cF F AS cS S AR cR R t u W (hF.below hb) (hS.below hb) (hR.below hb) (by omega) (by omega) lR kF kS
  obtain ⟨AH, cH, hh, hAH⟩ := hand_val AF cF F AS cS S t
  have hHr : RdT w AH (handG F S t) := by
    rcases hAH with ⟨rfl, h⟩ | ⟨rfl, h⟩
    · rw [h]; exact hS
    · rw [h]; exact hF
  cases hg : gameB F S R t u
  · have hok : swOk F S R t u = false := by unfold swOk; rw [hg]; rfl
    have hre : swRes F S R t u = false := by unfold swRes; rw [hok]; rfl
    rw [hok, hre]
    simp only [hg] at conG
    have ConG := Lib.hid conG
    clear hg hok hre conG hh hAH hHr hF hS hR
    go_enter Try.func24, Try.ntmps24
    go_wp2_with fail
    obtain ⟨w0, hw0⟩ : ∃ w0, w0 = w.alloc (.cells #[.slice AF F.length cF, .slice AS S.length cS, .slice AR R.length cR, .int .i64 t, .int .i64 u] 43) := ⟨_, rfl⟩
    rw [← hw0]
    have ba0 : BoxAt w0 w.heap.size (.slice AF F.length cF) (.slice AS S.length cS) (.slice AR R.length cR) (.int .i64 t) (.int .i64 u) := by rw [hw0]; exact BoxAt.fresh w _ _ _ _ _ _
    have hb0 : Below w.heap.size w w0 := by rw [hw0]; go_grown
    clear hw0
    refine (ConG.out w0 hb0).mono ?_
    rintro e w1 ⟨rfl, h1⟩
    go_wp2
    go_ret2
    exact ⟨rfl, bstep hb0 h1⟩
  simp only [hg] at conG
  obtain ⟨ht2, gF, gS, hi⟩ := game_sw hg
  have gH : handB (handG F S t) = true := hi.2.1
  have same := fun h => sw_same (F := F) (S := S) (R := R) (t := t) (u := u) h
  have hok : swOk F S R t u = decide ((handG F S t).length ≤ 8) := by unfold swOk; rw [hg]; rfl
  have hno : swOk F S R t u = false → swRes F S R t u = false := fun h => by unfold swRes; rw [h]; rfl
  generalize swRes F S R t u = res at *
  rw [hok] at same hno ⊢
  have vF : t = 1 ∨ (t ≠ 1 ∧ Value.slice AF F.length cF = .slice AH (handG F S t).length cH) := by
    by_cases h : t = 1
    · exact .inl h
    · rw [if_neg h] at hh; exact .inr ⟨h, hh⟩
  have vS : t = 1 → Value.slice AS S.length cS = .slice AH (handG F S t).length cH := fun h => by rw [if_pos h] at hh; exact hh
  generalize handG F S t = H at *
  have hnum : ∀ x ∈ H, (0 ≤ x.1 ∧ x.1 ≤ 9) ∧ (0 ≤ x.2 ∧ x.2 ≤ 9) := fun x hx => by
    have := hand_gd gH x hx
    simp only [goodB, numB, Bool.and_eq_true, decide_eq_true_eq] at this
    omega
  have ConG := Lib.hid conG
  clear conG hok hh hAH hg gF gS hF hS
  by_cases hl : H.length ≤ 8
  · have hl8 : ¬ (8 : Int) < (H.length : Int) := by omega
    have hsame := same (decide_eq_true hl)
    rw [decide_eq_true hl, hsame]
    clear same hno hsame
    go_enter Try.func24, Try.ntmps24
    go_wp2_with fail
    obtain ⟨w0, hw0⟩ : ∃ w0, w0 = w.alloc (.cells #[.slice AF F.length cF, .slice AS S.length cS, .slice AR R.length cR, .int .i64 t, .int .i64 u] 43) := ⟨_, rfl⟩
    rw [← hw0]
    have ba0 : BoxAt w0 w.heap.size (.slice AF F.length cF) (.slice AS S.length cS) (.slice AR R.length cR) (.int .i64 t) (.int .i64 u) := by rw [hw0]; exact BoxAt.fresh w _ _ _ _ _ _
    have hb0 : Below w.heap.size w w0 := by rw [hw0]; go_grown
    clear hw0
    refine (ConG.out w0 hb0).mono ?_
    rintro e w1 ⟨rfl, h1⟩
    have hb1 := bstep hb0 h1
    have ba1 := ba0.keep h1
    clear ba0 ConG
    have x0 := ba1.c0
    have x1 := ba1.c1
    have x2 := ba1.c2
    have x3 := ba1.c3
    have x4 := ba1.c4
    rcases ht2 with rfl | rfl
    · have e0 := (vF.resolve_left (by decide)).2
      rw [e0] at x0
      clear vF vS e0
      obtain ⟨i0, hi0, hz0, hz1, hz2⟩ := info_parts Try.info_bool
      obtain ⟨hp8, f1, f2, f3, f4⟩ := shl_facts ⟨H.length, by omega⟩
      simp only at hp8 f1 f2 f3 f4
      have hal := all_lt H
      have f5 : (2 ^ H.length - 1 : Nat) = allS H := rfl
      rw [f5] at f4
      obtain ⟨N, hN⟩ : ∃ N, N = 100 * 2 ^ H.length := ⟨_, rfl⟩
      rw [← hN] at f1
      have hN2 : N ≤ 25600 := by rw [hN]; exact Nat.le_trans (Nat.mul_le_mul_left 100 hp8) (by decide)
      have HP8 := Lib.hid hp8
      have HAL := Lib.hid hal
      have HN := Lib.hid hN
      have F1 := Lib.hid f1
      have F4 := Lib.hid f4
      clear f5 hN f1 f4 hp8 hal
      by_cases hR0 : R.length = 0
      · have r0 : ¬ (0 : Int) < (R.length : Int) := by omega
        have HR0 := Lib.hid hR0
        clear hR0
        go_wp2_with (refine wpList_make_full _ rfl _ _ _ rfl w1.heap.size 4 i0 _ 1 Try.underlying115 hi0 hz0 hz1 .i64 .i64 _ _ N rfl rfl F1.out F1.out (by rw [hz2]; omega) (by unfold maxLen; omega) (Nat.le_refl _) ?_; intro w2 hown1 hg1; have hq : Below w1.heap.size w1 w2 := below_of_grown hg1 (Nat.le_refl _) (by simp); have ba2 := ba1.keep hq; have y2 := ba2.c2; have ny := ba2.lt)
        rw [F4.out]
        clear f2 f3
        generalize wrap64 (100 * 2 ^ H.length) = zz1
        generalize wrap64 (2 ^ H.length) = zz2
        generalize decide ((0 : Int) < (R.length : Int)) = dz1
        generalize decide (0 < R.length) = dz3
        generalize decide ((8 : Int) < (H.length : Int)) = dz2
        obtain ⟨w3, hw3⟩ : ∃ w3, w3 = w2.alloc (.cells #[.slice AH H.length cH, .slice (some ⟨w1.heap.size, 0, none⟩) N N] 117) := ⟨_, rfl⟩
        have L0 : LkW H w2.heap.size w1.heap.size N AH cH w3 noneS := by rw [hw3]; exact lk_start HN.out hHr hb1 hq hown1 _
        have ba3 : BoxAt w3 w.heap.size (.slice AF F.length cF) (.slice AS S.length cS) (.slice AR R.length cR) (.int .i64 0) (.int .i64 u) := by rw [hw3]; exact ba2.keep ((Below.refl _ _).alloc (Nat.le_refl _) _)
        have hb3 : Below w.heap.size w w3 := by rw [hw3]; exact (bstep hb1 hq).alloc (bstep hb1 hq).size _
        rw [← hw3]
        have hg0 : w.heap.size ≤ w1.heap.size := hb1.size
        have hgb : w.heap.size < w1.heap.size := ba1.lt
        have hg3 : w1.heap.size < w3.heap.size := by rw [hw3]; have := (hown1.lt w1.heap.size rfl).2; simp; omega
        obtain ⟨gs, hgs⟩ : ∃ gs, gs = w1.heap.size := ⟨_, rfl⟩
        obtain ⟨pb, hpb⟩ : ∃ pb, pb = w2.heap.size := ⟨_, rfl⟩
        rw [← hgs, ← hpb] at L0 ⊢
        rw [← hgs] at hg0 hg3 hgb
        clear hown1 hg1 hq ba2 y2 ny ba1 x0 x1 x2 x3 x4 hw3 h1 hb1 hb0 hgs hpb hi0 hz0 hz1 hz2 hHr
        go_loopw [54] (fun i wr => ∃ (k : Nat) (fk : SwS → Bool), k ≤ H.length ∧ i = .int .i64 k ∧ anyS (lkH H) (startL H k) noneS = (false, fk) ∧ LkW H pb gs N AH cH wr fk ∧ w3.grownBy wr (some gs)) (fun i _ => H.length - (intOf i).toNat)
        case atStart => exact ⟨0, noneS, Nat.zero_le _, rfl, rfl, L0, World.grownBy.refl _ _⟩
        case round =>
          clear L0 ba3
          obtain ⟨k, fk, hk, rfl, hA, hL, hgr⟩ := hrel
          by_cases hlt : k < H.length
          · obtain ⟨bk, off, rfl, hbk, g1, g2⟩ := hL.hc k hlt
            have b2 := bit_factsW ⟨allS H, Nat.lt_of_lt_of_le HAL.out HP8.out⟩ ⟨k, by omega⟩ (by rw [all_bit]; exact decide_eq_true hlt)
            simp only at b2
            have hst : startS H k = (clrS (allS H) k, H[k].1, H[k].2) := by unfold startS; rw [getD_in hlt]
            have hsz := start_sz hlt
            have hn := hnum _ (List.getElem_mem hlt)
            have hcl : clrS (allS H) k < 2 ^ H.length := clr_lt HAL.out (by rw [all_bit]; exact decide_eq_true hlt)
            obtain ⟨Z, hZ⟩ := startL_split hlt
            have hstep := startL_step H k
            rw [hst] at hZ hstep hsz
            obtain ⟨p, p2, hpp⟩ : ∃ p p2, H[k] = (p, p2) := ⟨H[k].1, H[k].2, rfl⟩
            rw [hpp] at g1 g2 hn hZ hstep hsz
            simp only at g1 g2 hn hZ hstep hsz
            have hc256 : clrS (allS H) k < 256 := Nat.lt_of_lt_of_le hcl HP8.out
            generalize hcc : clrS (allS H) k = c at *
            have con := fun W (h : LkW H pb gs N (some ⟨bk, off, none⟩) cH W fk) => c_look H pb gs N cH (some ⟨bk, off, none⟩) HN.out hl hnum (H.length + 1) c p p2 fk W (by omega) ⟨hcl, hn⟩ h
            generalize hres : lkS (mvS H) (szS H) (H.length + 1) (c, p, p2) fk = rs at con
            have hres2 : lkH H (c, p, p2) fk = rs := hres
            obtain ⟨bb, f5⟩ := rs
            simp only at con
            have hbt : Below wr.heap.size wr (wr.alloc (.cells #[.int .i64 p, .int .i64 p2] 95)) := (Below.refl _ _).alloc (Nat.le_refl _) _
            have HL2 := Lib.hid (hL.keep hbt).drew
            have j0 : (0 : Int) ≤ (k : Int) := by omega
            have j1 : (k : Int) < (H.length : Int) := by omega
            have Con := Lib.hid con
            have HA := Lib.hid hA
            have HL := Lib.hid hL
            have HG := Lib.hid hgr
            have HZ := Lib.hid hZ
            have HS := Lib.hid hstep
            have HR := Lib.hid hres2
            have HC := Lib.hid hcc
            have HB := Lib.hid hbt
            have wz := hL.bx.lt
            have sz3 := hgr.size
            have z0 : (wr.alloc (.cells #[.int .i64 p, .int .i64 p2] 95)).cell? ⟨wr.heap.size, 0, none⟩ = some (.int .i64 p) := by simp
            have z1 : (wr.alloc (.cells #[.int .i64 p, .int .i64 p2] 95)).cell? ⟨wr.heap.size, 1, none⟩ = some (.int .i64 p2) := by simp
            clear con hA hL hgr hZ hstep hres hres2 hst hsz hpp hbt hcc hnum hi gH hcl hn hR lFS lR kF kS hN2
            go_wp2
            go_region_held3 (fun w' => w'.cell? ⟨wr.heap.size, 0, none⟩ = some (.int .i64 p) ∧ w'.cell? ⟨wr.heap.size, 1, none⟩ = some (.int .i64 p2)) (first | exact ⟨y0, y1⟩ | exact ⟨z0, z1⟩ | go_keep) (first | (go_at_call 97; refine (Con.out _ HL2.out).mono ?_; rintro e' w5 ⟨rfl, k5, gr5⟩; have y0 : w5.cell? ⟨wr.heap.size, 0, none⟩ = some (.int .i64 p) := cellG gr5 (g1d _ z0) (by omega); have y1 : w5.cell? ⟨wr.heap.size, 1, none⟩ = some (.int .i64 p2) := cellG gr5 (g1d _ z1) (by omega)))
            have G5 := Lib.hid (World.grownBy.trans (g_below2 HG.out HB.out.drew) gr5)
            have K5 := Lib.hid k5
            clear k5 gr5 y0 y1 z0 z1
            cases bb
            · have NX := Lib.hid (show anyS (lkH H) (startL H (k + 1)) noneS = (false, f5) by rw [HS.out, any_app _ _ _ _ HA.out, any_no _ HR.out, anyS])
              go_wp2
              go_roundw
              case rel => exact ⟨k + 1, f5, by omega, by go_num, NX.out, K5.out, G5.out⟩
              case measure => simp [intOf]; omega
            · have NX := Lib.hid (show swpV H R = true by
                unfold swpV
                rw [if_pos HR0.out, HZ.out, any_app _ _ _ _ HA.out, any_yes _ HR.out]
                rfl)
              go_wp2
              go_ret2
              rw [NX.out]
              exact ⟨rfl, hb3.trans (below_of_grown G5.out (by omega) (fun g hg => by cases hg; exact hg0))⟩
          · have hke : k = H.length := by omega
            subst hke
            have NX := Lib.hid (show swpV H R = ((H.length : Int) == 0) by
              unfold swpV
              rw [if_pos HR0.out, hA, Bool.false_or, Bool.eq_iff_iff]
              simp)
            have HG := Lib.hid hgr
            clear hA hL hgr
            go_wp2
            go_ret2
            rw [NX.out]
            exact ⟨rfl, hb3.trans (below_of_grown HG.out (by omega) (fun g hg => by cases hg; exact hg0))⟩
      · have r0 : (0 : Int) < (R.length : Int) := by omega
        have HR0 := Lib.hid hR0
        clear hR0
        go_wp2_with (refine wpList_make_full _ rfl _ _ _ rfl w1.heap.size 4 i0 _ 1 Try.underlying115 hi0 hz0 hz1 .i64 .i64 _ _ N rfl rfl F1.out F1.out (by rw [hz2]; omega) (by unfold maxLen; omega) (Nat.le_refl _) ?_; intro w2 hown1 hg1; have hq : Below w1.heap.size w1 w2 := below_of_grown hg1 (Nat.le_refl _) (by simp); have ba2 := ba1.keep hq; have y2 := ba2.c2; have ny := ba2.lt)
        rw [F4.out]
        clear f2 f3
        generalize wrap64 (100 * 2 ^ H.length) = zz1
        generalize wrap64 (2 ^ H.length) = zz2
        generalize decide ((0 : Int) < (R.length : Int)) = dz1
        generalize decide (0 < R.length) = dz3
        generalize decide ((8 : Int) < (H.length : Int)) = dz2
        obtain ⟨w3, hw3⟩ : ∃ w3, w3 = w2.alloc (.cells #[.slice AH H.length cH, .slice (some ⟨w1.heap.size, 0, none⟩) N N] 117) := ⟨_, rfl⟩
        have L0 : LkW H w2.heap.size w1.heap.size N AH cH w3 noneS := by rw [hw3]; exact lk_start HN.out hHr hb1 hq hown1 _
        have ba3 : BoxAt w3 w.heap.size (.slice AF F.length cF) (.slice AS S.length cS) (.slice AR R.length cR) (.int .i64 0) (.int .i64 u) := by rw [hw3]; exact ba2.keep ((Below.refl _ _).alloc (Nat.le_refl _) _)
        have hb3 : Below w.heap.size w w3 := by rw [hw3]; exact (bstep hb1 hq).alloc (bstep hb1 hq).size _
        rw [← hw3]
        have hg0 : w.heap.size ≤ w1.heap.size := hb1.size
        have hgb : w.heap.size < w1.heap.size := ba1.lt
        have hg3 : w1.heap.size < w3.heap.size := by rw [hw3]; have := (hown1.lt w1.heap.size rfl).2; simp; omega
        obtain ⟨gs, hgs⟩ : ∃ gs, gs = w1.heap.size := ⟨_, rfl⟩
        obtain ⟨pb, hpb⟩ : ∃ pb, pb = w2.heap.size := ⟨_, rfl⟩
        rw [← hgs, ← hpb] at L0 ⊢
        rw [← hgs] at hg0 hg3 hgb
        clear hown1 hg1 hq ba2 y2 ny ba1 x0 x1 x2 x3 x4 hw3 h1 hb1 hb0 hgs hpb hi0 hz0 hz1 hz2 hHr
        have hne : R.length ≠ 0 := HR0.out
        have hn := row_ends hi hne
        obtain ⟨br, orr, rfl, hbr, hcr⟩ := hR.at_ (k := 0) (by omega)
        obtain ⟨m, hm⟩ : ∃ m, R.length = m + 1 := ⟨R.length - 1, by omega⟩
        have g1 := keepc hb3 (hcr 0 (by omega))
        have g2 := keepc hb3 (hcr m (by omega))
        rw [Nat.add_zero] at g1
        have e1 : R[0]'(by omega) = fstI R := by unfold fstI; rw [List.getD_eq_getElem?_getD, List.getElem?_eq_getElem (by omega)]; rfl
        have e2 : R[m]'(by omega) = lstI R := by unfold lstI; rw [List.getD_eq_getElem?_getD, show R.length - 1 = m from by omega, List.getElem?_eq_getElem (by omega)]; rfl
        rw [e1] at g1
        rw [e2] at g2
        have hv : swpV H R = (lkS (mvS H) (szS H) (H.length + 1) (allS H, fstI R, lstI R) noneS).1 := by unfold swpV; rw [if_neg hne]; rfl
        have con := fun W (h : LkW H pb gs N AH cH W noneS) => c_look H pb gs N cH AH HN.out hl hnum (H.length + 1) (allS H) (fstI R) (lstI R) noneS W (by rw [sz_all]; omega) ⟨HAL.out, hn⟩ h
        generalize lkS (mvS H) (szS H) (H.length + 1) (allS H, fstI R, lstI R) noneS = rs at con hv
        obtain ⟨bb, f5⟩ := rs
        simp only at con hv
        generalize fstI R = fr at *
        generalize lstI R = lr at *
        generalize allS H = aS at *
        have i1 : IntKind.i64.wrap ((R.length : Int) - 1) = (m : Int) := by rw [IntWalk.i64_in _ (by omega)]; omega
        have i2 : (0 : Int) ≤ (m : Int) := by omega
        have i3 : (m : Int) < (R.length : Int) := by omega
        have y2 := ba3.c2
        have HL2 := Lib.hid L0.drew
        have Con := Lib.hid con
        have HV := Lib.hid hv
        have ny := ba3.lt
        have nr := block_lt g1
        clear con L0 ba3 hcr hR hm e1 e2 hv hne hnum hi gH hn lFS kF kS hN2
        go_wp2
        go_region_held3 (fun w' => w'.cell? ⟨w.heap.size, 2, none⟩ = some (.slice (some ⟨br, orr, none⟩) R.length cR) ∧ w'.cell? ⟨br, orr, none⟩ = some (.int .i64 fr) ∧ w'.cell? ⟨br, orr + m, none⟩ = some (.int .i64 lr)) (first | exact ⟨q0, q1, q2⟩ | exact ⟨y2, g1, g2⟩ | go_keep) (first | (go_at_call 97; refine (Con.out _ HL2.out).mono ?_; rintro e' w5 ⟨rfl, k5, gr5⟩; have q0 : w5.cell? ⟨w.heap.size, 2, none⟩ = some (.slice (some ⟨br, orr, none⟩) R.length cR) := cellG gr5 (g1d _ y2) (by omega); have q1 : w5.cell? ⟨br, orr, none⟩ = some (.int .i64 fr) := cellG gr5 (g1d _ g1) (by omega); have q2 : w5.cell? ⟨br, orr + m, none⟩ = some (.int .i64 lr) := cellG gr5 (g1d _ g2) (by omega)))
        have G5 := Lib.hid gr5
        clear k5 gr5 q0 q1 q2
        go_wp2
        go_ret2
        rw [HV.out]
        exact ⟨rfl, hb3.trans (below_of_grown (grown_of_drew G5.out) (by omega) (fun g hg => by cases hg; exact hg0))⟩
    · have e0 := vS rfl
      rw [e0] at x1
      clear vF vS e0
      obtain ⟨i0, hi0, hz0, hz1, hz2⟩ := info_parts Try.info_bool
      obtain ⟨hp8, f1, f2, f3, f4⟩ := shl_facts ⟨H.length, by omega⟩
      simp only at hp8 f1 f2 f3 f4
      have hal := all_lt H
      have f5 : (2 ^ H.length - 1 : Nat) = allS H := rfl
      rw [f5] at f4
      obtain ⟨N, hN⟩ : ∃ N, N = 100 * 2 ^ H.length := ⟨_, rfl⟩
      rw [← hN] at f1
      have hN2 : N ≤ 25600 := by rw [hN]; exact Nat.le_trans (Nat.mul_le_mul_left 100 hp8) (by decide)
      have HP8 := Lib.hid hp8
      have HAL := Lib.hid hal
      have HN := Lib.hid hN
      have F1 := Lib.hid f1
      have F4 := Lib.hid f4
      clear f5 hN f1 f4 hp8 hal
      by_cases hR0 : R.length = 0
      · have r0 : ¬ (0 : Int) < (R.length : Int) := by omega
        have HR0 := Lib.hid hR0
        clear hR0
        go_wp2_with (refine wpList_make_full _ rfl _ _ _ rfl w1.heap.size 4 i0 _ 1 Try.underlying115 hi0 hz0 hz1 .i64 .i64 _ _ N rfl rfl F1.out F1.out (by rw [hz2]; omega) (by unfold maxLen; omega) (Nat.le_refl _) ?_; intro w2 hown1 hg1; have hq : Below w1.heap.size w1 w2 := below_of_grown hg1 (Nat.le_refl _) (by simp); have ba2 := ba1.keep hq; have y2 := ba2.c2; have ny := ba2.lt)
        rw [F4.out]
        clear f2 f3
        generalize wrap64 (100 * 2 ^ H.length) = zz1
        generalize wrap64 (2 ^ H.length) = zz2
        generalize decide ((0 : Int) < (R.length : Int)) = dz1
        generalize decide (0 < R.length) = dz3
        generalize decide ((8 : Int) < (H.length : Int)) = dz2
        obtain ⟨w3, hw3⟩ : ∃ w3, w3 = w2.alloc (.cells #[.slice AH H.length cH, .slice (some ⟨w1.heap.size, 0, none⟩) N N] 117) := ⟨_, rfl⟩
        have L0 : LkW H w2.heap.size w1.heap.size N AH cH w3 noneS := by rw [hw3]; exact lk_start HN.out hHr hb1 hq hown1 _
        have ba3 : BoxAt w3 w.heap.size (.slice AF F.length cF) (.slice AS S.length cS) (.slice AR R.length cR) (.int .i64 1) (.int .i64 u) := by rw [hw3]; exact ba2.keep ((Below.refl _ _).alloc (Nat.le_refl _) _)
        have hb3 : Below w.heap.size w w3 := by rw [hw3]; exact (bstep hb1 hq).alloc (bstep hb1 hq).size _
        rw [← hw3]
        have hg0 : w.heap.size ≤ w1.heap.size := hb1.size
        have hgb : w.heap.size < w1.heap.size := ba1.lt
        have hg3 : w1.heap.size < w3.heap.size := by rw [hw3]; have := (hown1.lt w1.heap.size rfl).2; simp; omega
        obtain ⟨gs, hgs⟩ : ∃ gs, gs = w1.heap.size := ⟨_, rfl⟩
        obtain ⟨pb, hpb⟩ : ∃ pb, pb = w2.heap.size := ⟨_, rfl⟩
        rw [← hgs, ← hpb] at L0 ⊢
        rw [← hgs] at hg0 hg3 hgb
        clear hown1 hg1 hq ba2 y2 ny ba1 x0 x1 x2 x3 x4 hw3 h1 hb1 hb0 hgs hpb hi0 hz0 hz1 hz2 hHr
        go_loopw [54] (fun i wr => ∃ (k : Nat) (fk : SwS → Bool), k ≤ H.length ∧ i = .int .i64 k ∧ anyS (lkH H) (startL H k) noneS = (false, fk) ∧ LkW H pb gs N AH cH wr fk ∧ w3.grownBy wr (some gs)) (fun i _ => H.length - (intOf i).toNat)
        case atStart => exact ⟨0, noneS, Nat.zero_le _, rfl, rfl, L0, World.grownBy.refl _ _⟩
        case round =>
          clear L0 ba3
          obtain ⟨k, fk, hk, rfl, hA, hL, hgr⟩ := hrel
          by_cases hlt : k < H.length
          · obtain ⟨bk, off, rfl, hbk, g1, g2⟩ := hL.hc k hlt
            have b2 := bit_factsW ⟨allS H, Nat.lt_of_lt_of_le HAL.out HP8.out⟩ ⟨k, by omega⟩ (by rw [all_bit]; exact decide_eq_true hlt)
            simp only at b2
            have hst : startS H k = (clrS (allS H) k, H[k].1, H[k].2) := by unfold startS; rw [getD_in hlt]
            have hsz := start_sz hlt
            have hn := hnum _ (List.getElem_mem hlt)
            have hcl : clrS (allS H) k < 2 ^ H.length := clr_lt HAL.out (by rw [all_bit]; exact decide_eq_true hlt)
            obtain ⟨Z, hZ⟩ := startL_split hlt
            have hstep := startL_step H k
            rw [hst] at hZ hstep hsz
            obtain ⟨p, p2, hpp⟩ : ∃ p p2, H[k] = (p, p2) := ⟨H[k].1, H[k].2, rfl⟩
            rw [hpp] at g1 g2 hn hZ hstep hsz
            simp only at g1 g2 hn hZ hstep hsz
            have hc256 : clrS (allS H) k < 256 := Nat.lt_of_lt_of_le hcl HP8.out
            generalize hcc : clrS (allS H) k = c at *
            have con := fun W (h : LkW H pb gs N (some ⟨bk, off, none⟩) cH W fk) => c_look H pb gs N cH (some ⟨bk, off, none⟩) HN.out hl hnum (H.length + 1) c p p2 fk W (by omega) ⟨hcl, hn⟩ h
            generalize hres : lkS (mvS H) (szS H) (H.length + 1) (c, p, p2) fk = rs at con
            have hres2 : lkH H (c, p, p2) fk = rs := hres
            obtain ⟨bb, f5⟩ := rs
            simp only at con
            have hbt : Below wr.heap.size wr (wr.alloc (.cells #[.int .i64 p, .int .i64 p2] 95)) := (Below.refl _ _).alloc (Nat.le_refl _) _
            have HL2 := Lib.hid (hL.keep hbt).drew
            have j0 : (0 : Int) ≤ (k : Int) := by omega
            have j1 : (k : Int) < (H.length : Int) := by omega
            have Con := Lib.hid con
            have HA := Lib.hid hA
            have HL := Lib.hid hL
            have HG := Lib.hid hgr
            have HZ := Lib.hid hZ
            have HS := Lib.hid hstep
            have HR := Lib.hid hres2
            have HC := Lib.hid hcc
            have HB := Lib.hid hbt
            have wz := hL.bx.lt
            have sz3 := hgr.size
            have z0 : (wr.alloc (.cells #[.int .i64 p, .int .i64 p2] 95)).cell? ⟨wr.heap.size, 0, none⟩ = some (.int .i64 p) := by simp
            have z1 : (wr.alloc (.cells #[.int .i64 p, .int .i64 p2] 95)).cell? ⟨wr.heap.size, 1, none⟩ = some (.int .i64 p2) := by simp
            clear con hA hL hgr hZ hstep hres hres2 hst hsz hpp hbt hcc hnum hi gH hcl hn hR lFS lR kF kS hN2
            go_wp2
            go_region_held3 (fun w' => w'.cell? ⟨wr.heap.size, 0, none⟩ = some (.int .i64 p) ∧ w'.cell? ⟨wr.heap.size, 1, none⟩ = some (.int .i64 p2)) (first | exact ⟨y0, y1⟩ | exact ⟨z0, z1⟩ | go_keep) (first | (go_at_call 97; refine (Con.out _ HL2.out).mono ?_; rintro e' w5 ⟨rfl, k5, gr5⟩; have y0 : w5.cell? ⟨wr.heap.size, 0, none⟩ = some (.int .i64 p) := cellG gr5 (g1d _ z0) (by omega); have y1 : w5.cell? ⟨wr.heap.size, 1, none⟩ = some (.int .i64 p2) := cellG gr5 (g1d _ z1) (by omega)))
            have G5 := Lib.hid (World.grownBy.trans (g_below2 HG.out HB.out.drew) gr5)
            have K5 := Lib.hid k5
            clear k5 gr5 y0 y1 z0 z1
            cases bb
            · have NX := Lib.hid (show anyS (lkH H) (startL H (k + 1)) noneS = (false, f5) by rw [HS.out, any_app _ _ _ _ HA.out, any_no _ HR.out, anyS])
              go_wp2
              go_roundw
              case rel => exact ⟨k + 1, f5, by omega, by go_num, NX.out, K5.out, G5.out⟩
              case measure => simp [intOf]; omega
            · have NX := Lib.hid (show swpV H R = true by
                unfold swpV
                rw [if_pos HR0.out, HZ.out, any_app _ _ _ _ HA.out, any_yes _ HR.out]
                rfl)
              go_wp2
              go_ret2
              rw [NX.out]
              exact ⟨rfl, hb3.trans (below_of_grown G5.out (by omega) (fun g hg => by cases hg; exact hg0))⟩
          · have hke : k = H.length := by omega
            subst hke
            have NX := Lib.hid (show swpV H R = ((H.length : Int) == 0) by
              unfold swpV
              rw [if_pos HR0.out, hA, Bool.false_or, Bool.eq_iff_iff]
              simp)
            have HG := Lib.hid hgr
            clear hA hL hgr
            go_wp2
            go_ret2
            rw [NX.out]
            exact ⟨rfl, hb3.trans (below_of_grown HG.out (by omega) (fun g hg => by cases hg; exact hg0))⟩
      · have r0 : (0 : Int) < (R.length : Int) := by omega
        have HR0 := Lib.hid hR0
        clear hR0
        go_wp2_with (refine wpList_make_full _ rfl _ _ _ rfl w1.heap.size 4 i0 _ 1 Try.underlying115 hi0 hz0 hz1 .i64 .i64 _ _ N rfl rfl F1.out F1.out (by rw [hz2]; omega) (by unfold maxLen; omega) (Nat.le_refl _) ?_; intro w2 hown1 hg1; have hq : Below w1.heap.size w1 w2 := below_of_grown hg1 (Nat.le_refl _) (by simp); have ba2 := ba1.keep hq; have y2 := ba2.c2; have ny := ba2.lt)
        rw [F4.out]
        clear f2 f3
        generalize wrap64 (100 * 2 ^ H.length) = zz1
        generalize wrap64 (2 ^ H.length) = zz2
        generalize decide ((0 : Int) < (R.length : Int)) = dz1
        generalize decide (0 < R.length) = dz3
        generalize decide ((8 : Int) < (H.length : Int)) = dz2
        obtain ⟨w3, hw3⟩ : ∃ w3, w3 = w2.alloc (.cells #[.slice AH H.length cH, .slice (some ⟨w1.heap.size, 0, none⟩) N N] 117) := ⟨_, rfl⟩
        have L0 : LkW H w2.heap.size w1.heap.size N AH cH w3 noneS := by rw [hw3]; exact lk_start HN.out hHr hb1 hq hown1 _
        have ba3 : BoxAt w3 w.heap.size (.slice AF F.length cF) (.slice AS S.length cS) (.slice AR R.length cR) (.int .i64 1) (.int .i64 u) := by rw [hw3]; exact ba2.keep ((Below.refl _ _).alloc (Nat.le_refl _) _)
        have hb3 : Below w.heap.size w w3 := by rw [hw3]; exact (bstep hb1 hq).alloc (bstep hb1 hq).size _
        rw [← hw3]
        have hg0 : w.heap.size ≤ w1.heap.size := hb1.size
        have hgb : w.heap.size < w1.heap.size := ba1.lt
        have hg3 : w1.heap.size < w3.heap.size := by rw [hw3]; have := (hown1.lt w1.heap.size rfl).2; simp; omega
        obtain ⟨gs, hgs⟩ : ∃ gs, gs = w1.heap.size := ⟨_, rfl⟩
        obtain ⟨pb, hpb⟩ : ∃ pb, pb = w2.heap.size := ⟨_, rfl⟩
        rw [← hgs, ← hpb] at L0 ⊢
        rw [← hgs] at hg0 hg3 hgb
        clear hown1 hg1 hq ba2 y2 ny ba1 x0 x1 x2 x3 x4 hw3 h1 hb1 hb0 hgs hpb hi0 hz0 hz1 hz2 hHr
        have hne : R.length ≠ 0 := HR0.out
        have hn := row_ends hi hne
        obtain ⟨br, orr, rfl, hbr, hcr⟩ := hR.at_ (k := 0) (by omega)
        obtain ⟨m, hm⟩ : ∃ m, R.length = m + 1 := ⟨R.length - 1, by omega⟩
        have g1 := keepc hb3 (hcr 0 (by omega))
        have g2 := keepc hb3 (hcr m (by omega))
        rw [Nat.add_zero] at g1
        have e1 : R[0]'(by omega) = fstI R := by unfold fstI; rw [List.getD_eq_getElem?_getD, List.getElem?_eq_getElem (by omega)]; rfl
        have e2 : R[m]'(by omega) = lstI R := by unfold lstI; rw [List.getD_eq_getElem?_getD, show R.length - 1 = m from by omega, List.getElem?_eq_getElem (by omega)]; rfl
        rw [e1] at g1
        rw [e2] at g2
        have hv : swpV H R = (lkS (mvS H) (szS H) (H.length + 1) (allS H, fstI R, lstI R) noneS).1 := by unfold swpV; rw [if_neg hne]; rfl
        have con := fun W (h : LkW H pb gs N AH cH W noneS) => c_look H pb gs N cH AH HN.out hl hnum (H.length + 1) (allS H) (fstI R) (lstI R) noneS W (by rw [sz_all]; omega) ⟨HAL.out, hn⟩ h
        generalize lkS (mvS H) (szS H) (H.length + 1) (allS H, fstI R, lstI R) noneS = rs at con hv
        obtain ⟨bb, f5⟩ := rs
        simp only at con hv
        generalize fstI R = fr at *
        generalize lstI R = lr at *
        generalize allS H = aS at *
        have i1 : IntKind.i64.wrap ((R.length : Int) - 1) = (m : Int) := by rw [IntWalk.i64_in _ (by omega)]; omega
        have i2 : (0 : Int) ≤ (m : Int) := by omega
        have i3 : (m : Int) < (R.length : Int) := by omega
        have y2 := ba3.c2
        have HL2 := Lib.hid L0.drew
        have Con := Lib.hid con
        have HV := Lib.hid hv
        have ny := ba3.lt
        have nr := block_lt g1
        clear con L0 ba3 hcr hR hm e1 e2 hv hne hnum hi gH hn lFS kF kS hN2
        go_wp2
        go_region_held3 (fun w' => w'.cell? ⟨w.heap.size, 2, none⟩ = some (.slice (some ⟨br, orr, none⟩) R.length cR) ∧ w'.cell? ⟨br, orr, none⟩ = some (.int .i64 fr) ∧ w'.cell? ⟨br, orr + m, none⟩ = some (.int .i64 lr)) (first | exact ⟨q0, q1, q2⟩ | exact ⟨y2, g1, g2⟩ | go_keep) (first | (go_at_call 97; refine (Con.out _ HL2.out).mono ?_; rintro e' w5 ⟨rfl, k5, gr5⟩; have q0 : w5.cell? ⟨w.heap.size, 2, none⟩ = some (.slice (some ⟨br, orr, none⟩) R.length cR) := cellG gr5 (g1d _ y2) (by omega); have q1 : w5.cell? ⟨br, orr, none⟩ = some (.int .i64 fr) := cellG gr5 (g1d _ g1) (by omega); have q2 : w5.cell? ⟨br, orr + m, none⟩ = some (.int .i64 lr) := cellG gr5 (g1d _ g2) (by omega)))
        have G5 := Lib.hid gr5
        clear k5 gr5 q0 q1 q2
        go_wp2
        go_ret2
        rw [HV.out]
        exact ⟨rfl, hb3.trans (below_of_grown (grown_of_drew G5.out) (by omega) (fun g hg => by cases hg; exact hg0))⟩
  · have hl8 : (8 : Int) < (H.length : Int) := by omega
    have hres := hno (decide_eq_false hl)
    rw [decide_eq_false hl, hres]
    clear same hno hHr hR hres
    go_enter Try.func24, Try.ntmps24
    go_wp2_with fail
    obtain ⟨w0, hw0⟩ : ∃ w0, w0 = w.alloc (.cells #[.slice AF F.length cF, .slice AS S.length cS, .slice AR R.length cR, .int .i64 t, .int .i64 u] 43) := ⟨_, rfl⟩
    rw [← hw0]
    have ba0 : BoxAt w0 w.heap.size (.slice AF F.length cF) (.slice AS S.length cS) (.slice AR R.length cR) (.int .i64 t) (.int .i64 u) := by rw [hw0]; exact BoxAt.fresh w _ _ _ _ _ _
    have hb0 : Below w.heap.size w w0 := by rw [hw0]; go_grown
    clear hw0
    refine (ConG.out w0 hb0).mono ?_
    rintro e w1 ⟨rfl, h1⟩
    have hb1 := bstep hb0 h1
    have ba1 := ba0.keep h1
    clear ba0 ConG
    have x0 := ba1.c0
    have x1 := ba1.c1
    have x2 := ba1.c2
    have x3 := ba1.c3
    have x4 := ba1.c4
    rcases ht2 with rfl | rfl
    · have e0 := (vF.resolve_left (by decide)).2
      rw [e0] at x0
      clear vF vS e0
      go_wp2
      go_ret2
      exact ⟨rfl, hb1⟩
    · have e0 := vS rfl
      rw [e0] at x1
      clear vF vS e0
      go_wp2
      go_ret2
      exact ⟨rfl, hb1⟩

end Go.Proofs.Ytlnfialfkipdjaa

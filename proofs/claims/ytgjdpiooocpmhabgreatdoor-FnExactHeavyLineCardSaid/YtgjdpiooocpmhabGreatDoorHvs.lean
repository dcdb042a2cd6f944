/- HeavyLine: the specification's side. -/
import Derived.Test.YtgjdpiooocpmhabGreatDoorHvy
import Derived.Deep.Cut
import Derived.BigQuiet
namespace Go.Proofs.YtgjdpiooocpmhabGreatDoor
open Go.RowKit
set_option linter.unusedVariables false

/-- A box of a move of the specification. -/
structure LayAt (w : World) (b : Nat) (m : Mv) : Prop where
  c0 : w.cell? ⟨b, 0, none⟩ = some (.int .i64 m.1)
  c1 : w.cell? ⟨b, 1, none⟩ = some (.int .i64 m.2.1)
  c2 : w.cell? ⟨b, 2, none⟩ = some (.bool (m.2.2 == 1))
  c3 : w.cell? ⟨b, 3, none⟩ = some (.bool (m.2.2 == 0))
  fz : ∀ j, w.frozen? ⟨b, j, none⟩ = false
section
variable {w w' : World} {b : Nat} {m : Mv}
theorem LayAt.lt (h : LayAt w b m) : b < w.heap.size := block_lt h.c0
theorem LayAt.keep (h : LayAt w b m) (hb : Below w.heap.size w w') : LayAt w' b m :=
  ⟨keepc hb h.c0, keepc hb h.c1, keepc hb h.c2, keepc hb h.c3, fun j => (hb.frozen (p := ⟨b, j, none⟩) h.lt).trans (h.fz j)⟩
theorem LayAt.of_block (h : LayAt w b m) (hb : w'.heap[b]? = w.heap[b]?) : LayAt w' b m :=
  ⟨(World.cell?_of_block (a := ⟨b, 0, none⟩) hb).trans h.c0, (World.cell?_of_block (a := ⟨b, 1, none⟩) hb).trans h.c1, (World.cell?_of_block (a := ⟨b, 2, none⟩) hb).trans h.c2, (World.cell?_of_block (a := ⟨b, 3, none⟩) hb).trans h.c3,
    fun j => (by have := h.fz j; unfold World.frozen? at this ⊢; simp only [hb]; exact this)⟩
theorem LayAt.sets (h : LayAt w b m) (m2 : Mv) : LayAt ((((w.setCell ⟨b, 0, none⟩ (.int .i64 m2.1)).setCell ⟨b, 1, none⟩ (.int .i64 m2.2.1)).setCell ⟨b, 2, none⟩ (.bool (m2.2.2 == 1))).setCell ⟨b, 3, none⟩ (.bool (m2.2.2 == 0))) b m2 :=
  ⟨samG (by omega) (samG (by omega) (samG (by omega) (World.cell?_setCell_same _ _ _ h.c0))), samG (by omega) (samG (by omega) (World.cell?_setCell_same _ _ _ (samG (by omega) h.c1))), samG (by omega) (World.cell?_setCell_same _ _ _ (samG (by omega) (samG (by omega) h.c2))), World.cell?_setCell_same _ _ _ (samG (by omega) (samG (by omega) (samG (by omega) h.c3))),
    fun j => by simp [h.fz j]⟩
end

set_option maxRecDepth 100000 in
set_option maxHeartbeats 4000000 in
theorem c_specHeavyLine (AF : Option Addr) (cF : Nat) (F : List (Int × Int)) (AS : Option Addr) (cS : Nat) (S : List (Int × Int)) (AR : Option Addr) (cR : Nat) (R : List Int) (t u : Int) (w : World) (hF : RdT w AF F) (hS : RdT w AS S) (hR : RdI w AR R) (lFS : F.length + S.length ≤ 1048576) (lR : R.length ≤ 1048576) (kF : F.length ≤ cF) (kS : S.length ≤ cS) :
    Calls Tryz.prog 25 #[.agg #[.slice AF F.length cF, .slice AS S.length cS, .slice AR R.length cR, .int .i64 t, .int .i64 u]] w (RetStB w (selW (gameB F S R t u) (hlT F S R t u)) (gameB F S R t u)) := by
  have conG := fun W (hb : Below w.heap.size w W) => c_plGood AF cF F AS cS S AR cR R t u W (hF.below hb) (hS.below hb) (hR.below hb) (by omega) (by omega) lR kF kS
  cases hg : gameB F S R t u
  · simp only [hg] at conG
    have Con := Lib.hid conG
    clear conG hg hF hS hR
    go_enter Tryz.func25, Tryz.ntmps25
    go_wp2_with fail
    refine (Con.out _ ((Below.refl _ _).alloc (Nat.le_refl _) _)).mono ?_
    rintro e w1 ⟨rfl, h1⟩
    go_wp2
    go_ret2
    exact ⟨none, 0, rfl, World.ownsRow_nil _ _ _ _, bstep ((Below.refl _ _).alloc (Nat.le_refl _) _) h1⟩
  · simp only [hg] at conG
    have Con := Lib.hid conG
    obtain ⟨i0, hi, hz0, hz1, hz2⟩ := info_parts Tryz.info_text
    obtain ⟨hG, hz⟩ := game_siz2 hg
    show Calls _ _ _ _ (RetStB w (hlT F S R t u) true)
    unfold hlT
    obtain ⟨T, hT⟩ : ∃ T, T = (lineN hvC 400 F S R t u).map mvTx := ⟨_, rfl⟩
    have lT : T.length ≤ 400 := by rw [hT, List.length_map]; exact lineN_len _ _ _ _ _ _ _
    rw [← hT]
    have HT := Lib.hid hT
    have RA := Lib.hid (fun W' (hb : Below w.heap.size w W') => RdG.arg (P := fun g => g = w.heap.size ∨ (Value.slice none 0 0).ownBlock = some g) hF hS hR hb (fun g h => by
      rcases h with h | h
      · omega
      · simp [Value.ownBlock] at h))
    clear hT hF hS hR conG hg
    go_enter Tryz.func25, Tryz.ntmps25
    go_wp2_with fail
    obtain ⟨w0, hw0⟩ : ∃ w0, w0 = w.alloc (.cells #[.slice AF F.length cF, .slice AS S.length cS, .slice AR R.length cR, .int .i64 t, .int .i64 u] 32) := ⟨_, rfl⟩
    rw [← hw0]
    have ba0 : BoxAt w0 w.heap.size (.slice AF F.length cF) (.slice AS S.length cS) (.slice AR R.length cR) (.int .i64 t) (.int .i64 u) := by rw [hw0]; exact BoxAt.fresh w _ _ _ _ _ _
    have hb0 : Below w.heap.size w w0 := by rw [hw0]; go_grown
    clear hw0
    refine (Con.out w0 hb0).mono ?_
    rintro e w1 ⟨rfl, h1⟩
    have hb1 := bstep hb0 h1
    have ba1 := ba0.keep h1
    clear ba0 Con
    go_wp2
    go_loopw [4] (fun v wr => ∃ (n2 : Nat) (AF2 : Option Addr) (cF2 : Nat) (F2 : List (Int × Int)) (AS2 : Option Addr) (cS2 : Nat) (S2 : List (Int × Int)) (AR2 : Option Addr) (cR2 : Nat) (R2 : List Int) (t2 u2 : Int) (X : List ByteArray) (A' : Option Addr) (c' : Nat), v = .slice A' X.length c' ∧ X ++ (lineN hvC n2 F2 S2 R2 t2 u2).map mvTx = T ∧ gameB F2 S2 R2 t2 u2 = true ∧ sizG F2 S2 u2 < n2 ∧ n2 ≤ 400 ∧ BoxAt wr w.heap.size (.slice AF2 F2.length cF2) (.slice AS2 S2.length cS2) (.slice AR2 R2.length cR2) (.int .i64 t2) (.int .i64 u2) ∧
        RdG wr (fun g => g = w.heap.size ∨ (Value.slice A' X.length c').ownBlock = some g) AF2 F2 AS2 S2 AR2 R2 ∧ wr.ownsRow (w.heap.size + 1) 9 1 (.slice A' X.length c') X.length (cellsE encW X) ∧ Below w.heap.size w wr) (fun v _ => T.length - lenV v)
    case atStart => exact ⟨400, AF, cF, F, AS, cS, S, AR, cR, R, t, u, [], none, 0, rfl, HT.out.symm, hG, hz, Nat.le_refl _, ba1, RA.out w1 hb1, World.ownsRow_nil _ _ _ _, hb1⟩
    case round =>
      rename World => wo
      clear ba1 hb1 RA HT hG hz h1 hb0
      obtain ⟨n2, AF2, cF2, F2, AS2, cS2, S2, AR2, cR2, R2, t2, u2, X, A', c', rfl, hL, hg2, hz2, hn2, ba, rg, hown, hb⟩ := hrel
      have conO := fun W => c_plOver AF2 F2.length cF2 AS2 S2.length cS2 AR2 R2.length cR2 t2 u2 W
      have x0 := ba.c0
      have x1 := ba.c1
      have x2 := ba.c2
      have x3 := ba.c3
      have x4 := ba.c4
      have hlw := ba.lt
      cases ho : overB F2.length S2.length u2
      · obtain ⟨n3, rfl⟩ : ∃ k, n2 = k + 1 := ⟨n2 - 1, by omega⟩
        rw [lineN_step hvC n3 R2 t2 ho, List.map_cons] at hL
        simp only [ho] at conO
        have ConO := Lib.hid conO
        obtain ⟨r, hr⟩ := hv_ne (n := n3) (t := t2) (R := R2) hg2 ho
        have hmv := hv_in hg2 (hd_mem hr)
        obtain ⟨lF2, lS2, lR2, ht2⟩ := game_len hg2
        have gp := gameB_parts hg2
        have hbg := behind_good hg2 hmv
        have hne := moves_some (R := R2) (t := t2) ho
        have hfold : hdM (hvC n3 F2 S2 R2 t2 u2) = (movesL F2 S2 R2 t2 u2).foldl hvS (hdM (movesL F2 S2 R2 t2 u2)) := (hv_fold _ (fun m hm => by have := (hv_bd hg2 hm).1; unfold minI; omega) hne).2.1
        have conM := Lib.hid (fun W (hb : Below wo.heap.size wo W) => c_plMoves AF2 cF2 F2 AS2 cS2 S2 AR2 cR2 R2 t2 u2 W (rg.keep hb).now.1 (rg.keep hb).now.2.1 (rg.keep hb).now.2.2 gp.2.2.1 gp.2.2.2.1 (by omega))
        have conK := Lib.hid (fun W (rF : RdT W AF2 F2) (rS : RdT W AS2 S2) (rR : RdI W AR2 R2) => makeP AF2 cF2 F2 AS2 cS2 S2 AR2 cR2 R2 t2 u2 (hdM (hvC n3 F2 S2 R2 t2 u2)) W rF rS rR hg2 hmv)
        have conT' := fun W => c_plText (hdM (hvC n3 F2 S2 R2 t2 u2)).1 (hdM (hvC n3 F2 S2 R2 t2 u2)).2.1 (hdM (hvC n3 F2 S2 R2 t2 u2)).2.2 (mov_num hg2 hmv).1 (mov_num hg2 hmv).2 W
        have ml := movesL_len F2 S2 R2 t2 u2
        have hbd := fun m (hm : m ∈ movesL F2 S2 R2 t2 u2) => hv_bd hg2 hm
        have Hg1 := Lib.hid hbg.1
        have Hg2 := Lib.hid (show sizG (behF F2 t2 (hdM (hvC n3 F2 S2 R2 t2 u2))) (behS S2 t2 (hdM (hvC n3 F2 S2 R2 t2 u2))) (behU u2 (hdM (hvC n3 F2 S2 R2 t2 u2))) < n3 by omega)
        generalize hdM (hvC n3 F2 S2 R2 t2 u2) = m0 at *
        generalize movesL F2 S2 R2 t2 u2 = M at *
        rw [show mvT m0.1 m0.2.1 m0.2.2 = mvTx m0 from rfl] at conT'
        have conT := Lib.hid conT'
        generalize hF3 : behF F2 t2 m0 = F3 at *
        generalize hS3 : behS S2 t2 m0 = S3 at *
        generalize hR3 : behR R2 m0 = R3 at *
        generalize 1 - t2 = t3 at *
        generalize hU3 : behU u2 m0 = u3 at *
        generalize hTx : mvTx m0 = T1 at *
        have hXl : X.length + 1 ≤ T.length := by rw [← hL]; simp
        have HL := Lib.hid hL
        have hpos : 0 < M.length := List.length_pos_iff.2 hne
        have hM0 : hdM M = M[0] := by
          cases M with
          | nil => exact absurd rfl hne
          | cons a M => rfl
        obtain ⟨bf, hbf⟩ : ∃ bf : Nat → Mv, bf = fun k => (M.take k).foldl hvS (hdM M) := ⟨_, rfl⟩
        have b0 : bf 0 = M[0] := by rw [hbf, ← hM0]; rfl
        have bE := Lib.hid (show bf M.length = m0 by rw [hbf]; simp only [List.take_length]; exact hfold.symm)
        have bS := Lib.hid (fun k (h : k < M.length) => show bf (k + 1) = hvS (bf k) M[k] by rw [hbf]; simp only; rw [List.take_succ_eq_append_getElem h, List.foldl_append]; rfl)
        have bB := Lib.hid (fun k => show -990 ≤ hvW (bf k) ∧ hvW (bf k) ≤ 990 by
          have h0 : ∀ (ms : List Mv) (b : Mv), (-990 ≤ hvW b ∧ hvW b ≤ 990) → (∀ m ∈ ms, -990 ≤ hvW m ∧ hvW m ≤ 990) → -990 ≤ hvW (ms.foldl hvS b) ∧ hvW (ms.foldl hvS b) ≤ 990 := fun ms => by
            induction ms with
            | nil => exact fun b h _ => h
            | cons a ms ih =>
              intro b h1 h2
              refine ih _ ?_ (fun m hm => h2 m (by simp [hm]))
              unfold hvS
              split
              · exact h2 a (by simp)
              · exact h1
          rw [hbf]
          exact h0 _ _ (by rw [hM0]; exact hbd _ (List.getElem_mem hpos)) (fun m hm => hbd m (List.mem_of_mem_take hm)))
        have Hbd := Lib.hid hbd
        clear hL hg2 hz2 conO ho hr hmv gp hbg hfold conT' hF3 hS3 hR3 hU3 hTx hne hM0 hbf hbd
        go_wp2_with fail
        refine (ConO.out _).mono ?_
        rintro e w3 ⟨rfl, h3⟩
        have ba3 := ba.keep h3
        clear x0 x1 x2 x3 x4 ConO
        have x0 := ba3.c0
        have x1 := ba3.c1
        have x2 := ba3.c2
        have x3 := ba3.c3
        have x4 := ba3.c4
        go_wp2_with fail
        refine (conM.out w3 h3).mono ?_
        rintro e w5 ⟨A5, c5, rfl, o5, h5⟩
        have r5 := RdE.of_own encS_len o5
        have ba5 := ba3.keep h5
        have hw5 := bstep h3 h5
        have ow5 := own_keep hown hw5
        have rg5 := rg.keep hw5
        have hb5 := bstep hb hw5
        have hN5 := fun g hg => Nat.lt_of_lt_of_le (hown.lt g hg).2 hw5.size
        clear x0 x1 x2 x3 x4 o5 conM ba3 ba hb hown rg h3 h5 hw5
        obtain ⟨bm, om, rfl, hbm, hcm⟩ := r5.at_ hpos
        have g0 : w5.cell? ⟨bm, om, none⟩ = some (.int .i64 M[0].1) := by have := hcm 0 hpos 0 _ rfl; simpa using this
        have g1 : w5.cell? ⟨bm, om + 1, none⟩ = some (.int .i64 M[0].2.1) := by have := hcm 0 hpos 1 _ rfl; simpa using this
        have g2 : w5.cell? ⟨bm, om + 2, none⟩ = some (.bool (M[0].2.2 == 1)) := by have := hcm 0 hpos 2 _ rfl; simpa using this
        have g3 : w5.cell? ⟨bm, om + 3, none⟩ = some (.bool (M[0].2.2 == 0)) := by have := hcm 0 hpos 3 _ rfl; simpa using this
        rw [← b0] at g0 g1 g2 g3
        clear b0
        generalize hbz : bf 0 = bz at g0 g1 g2 g3
        generalize hs1 : (bz.2.2 == 1) = s1 at g2
        generalize hs0 : (bz.2.2 == 0) = s0 at g3
        have HBz := Lib.hid hbz
        have Hs1 := Lib.hid hs1
        have Hs0 := Lib.hid hs0
        clear hbz hs1 hs0
        go_upto_region 7 with (fail)
        obtain ⟨w6, hw6⟩ : ∃ w6, w6 = w5.alloc (.cells #[.int .i64 bz.1, .int .i64 bz.2.1, .bool s1, .bool s0] 70) := ⟨_, rfl⟩
        rw [← hw6]
        have la6 : LayAt w6 w5.heap.size (bf 0) := by rw [hw6, HBz.out]; exact ⟨by simp, by simp, by rw [Hs1.out]; simp, by rw [Hs0.out]; simp, frozen_freshG w5 _ _⟩
        have h6 : Below w5.heap.size w5 w6 := by rw [hw6]; exact (Below.refl _ _).alloc (Nat.le_refl _) _
        clear hw6 g0 g1 g2 g3
        obtain ⟨nb, hnb⟩ : ∃ nb, nb = w5.heap.size := ⟨_, rfl⟩
        rw [← hnb] at la6 ⊢
        have hn6 : nb < w6.heap.size := by have := la6.lt; omega
        have hbm6 : bm < nb := by omega
        have hlw6 : w.heap.size < nb := by have := ba5.lt; omega
        have hN6 : ∀ g, (Value.slice A' X.length c').ownBlock = some g → g < nb := fun g h => by rw [hnb]; exact hN5 g h
        have h6n : Below nb w5 w6 := by rw [hnb]; exact h6
        have Hnb := Lib.hid hnb
        clear hnb h6 hN5
        have RG5 := Lib.hid rg5
        have OW5 := Lib.hid ow5
        have HB5 := Lib.hid hb5
        have BA5 := Lib.hid ba5
        clear rg5 ow5 hb5 ba5
        go_wp2
        go_loopw [22] (fun i wq => ∃ k : Nat, k ≤ M.length ∧ i = .int .i64 k ∧ LayAt wq nb (bf k) ∧ Below nb w5 wq) (fun i _ => M.length - (intOf i).toNat)
        case atStart => exact ⟨0, Nat.zero_le _, rfl, la6, h6n⟩
        case round =>
          rename World => wq
          clear la6 h6n
          obtain ⟨k, hk, rfl, la, hbn⟩ := hrel
          have hbq : Below w5.heap.size w5 wq := by rw [← Hnb.out]; exact hbn
          have hlq := la.lt
          have y0 := la.c0
          have y1 := la.c1
          have y2 := la.c2
          have y3 := la.c3
          by_cases hlt : k < M.length
          · have g0 := keepc hbq (hcm k hlt 0 _ rfl)
            have g1 := keepc hbq (hcm k hlt 1 _ rfl)
            have g2 := keepc hbq (hcm k hlt 2 _ rfl)
            have g3 := keepc hbq (hcm k hlt 3 _ rfl)
            rw [Nat.add_zero] at g0
            have hs := bS.out k hlt
            have hb1 := bB.out k
            have hb2 := Hbd.out M[k] (List.getElem_mem hlt)
            generalize M[k] = m at *
            generalize bf k = b at *
            have HS := Lib.hid hs
            have la0 := Lib.hid la
            have Hbn := Lib.hid hbn
            unfold hvW at hb1 hb2
            have ew : IntKind.i64.wrap (m.1 + m.2.1) = m.1 + m.2.1 := IntWalk.i64_in _ (by omega)
            have eb : IntKind.i64.wrap (b.1 + b.2.1) = b.1 + b.2.1 := IntWalk.i64_in _ (by omega)
            have z0 := la.fz 0
            have z1 := la.fz 1
            have z2 := la.fz 2
            have z3 := la.fz 3
            generalize hp1 : (m.2.2 == 1) = p1 at *
            generalize hp0 : (m.2.2 == 0) = p0 at *
            generalize (b.2.2 == 1) = r1 at *
            generalize (b.2.2 == 0) = r0 at *
            have Hp1 := Lib.hid hp1
            have Hp0 := Lib.hid hp0
            clear hcm hs bS bB la hbn hp1 hp0 hbq hb1 hb2
            by_cases hc : b.1 + b.2.1 < m.1 + m.2.1
            · have hT : bf (k + 1) = m := by rw [HS.out]; unfold hvS hvW; rw [if_pos hc]
              have HT := Lib.hid hT
              clear hT HS
              go_wp2
              go_roundw
              case rel =>
                refine ⟨k + 1, by omega, by go_num, ?_, Below.alloc (below_box (below_box (below_box (below_box Hbn.out (Nat.le_refl _)) (Nat.le_refl _)) (Nat.le_refl _)) (Nat.le_refl _)) (by first | (simp [World.setCell]; done) | (simp [World.setCell]; omega)) _⟩
                rw [HT.out]
                have h2 := la0.out.sets m
                rw [Hp1.out, Hp0.out] at h2
                exact h2.keep ((Below.refl _ _).alloc (Nat.le_refl _) _)
              case measure => simp [intOf]; omega
            · have hT : bf (k + 1) = b := by rw [HS.out]; unfold hvS hvW; rw [if_neg hc]
              have HT := Lib.hid hT
              clear hT HS
              go_wp2
              go_roundw
              case rel =>
                refine ⟨k + 1, by omega, by go_num, ?_, Hbn.out.alloc (by omega) _⟩
                rw [HT.out]
                exact la0.out.keep ((Below.refl _ _).alloc (Nat.le_refl _) _)
              case measure => simp [intOf]; omega
          · have : k = M.length := by omega
            subst this
            rw [bE.out] at la y0 y1 y2 y3
            have baq := BA5.out.keep hbq
            have Rgq := Lib.hid (RG5.out.keep hbq)
            have Owq := Lib.hid (own_keep OW5.out hbq)
            have HBq := Lib.hid (bstep HB5.out hbq)
            have Laq := Lib.hid la
            have Baq := Lib.hid baq
            generalize hp1b : (m0.2.2 == 1) = p1 at y2 conT conK
            generalize hp0b : (m0.2.2 == 0) = p0 at y3 conT conK
            have Hp1b := Lib.hid hp1b
            have Hp0b := Lib.hid hp0b
            clear hp1b hp0b
            have hlb := Baq.out.lt
            have OwnL := Lib.hid (fun g h => Nat.lt_of_lt_of_le (hN6 g h) (Nat.le_of_lt hlq))
            clear hbn hbq la baq hlt hk
            go_wp2_with fail
            refine (conT.out _).mono ?_
            rintro e w9 ⟨rfl, h9⟩
            have La9 := Lib.hid (Laq.out.keep h9)
            have Ba9 := Lib.hid (Baq.out.keep h9)
            have Rg9 := Lib.hid (Rgq.out.keep h9)
            have Ho9 := Lib.hid (own_keep Owq.out h9)
            have HB9 := Lib.hid (bstep HBq.out h9)
            have hs9 := h9.size
            have hs9b := HB9.out.size
            have ow9 := Lib.hid (Ho9.out.alloc (.cells #[.string T1] 9))
            clear Laq Baq Rgq Owq HBq y0 y1 y2 y3 h9 conT
            go_upto_region 14 with (first | (at_builtin; refine wp_append_E encW_len encW_one Tryz.underlying27 hi hz0 hz1 hz2 rfl (by decide) (by decide) rfl _ _ rfl (w.heap.size + 1) _ X rfl ow9.out T1 w9.heap.size rfl (fun j u hu => by cases j with | zero => cases hu; simp | succ j => cases hu) (by omega) (by (try simp); omega) ?_; intro A11 c11 w11 o11 gr11 h11))
            have bA : Below w9.heap.size w9 (w9.alloc (.cells #[.string T1] 9)) := (Below.refl _ _).alloc (Nat.le_refl _) _
            have HB11 := Lib.hid (Below.grown (HB9.out.alloc hs9b _) gr11 (by simp; omega) (fun g hg => by have := (Ho9.out.lt g hg).1; omega))
            have e6 := gr11.block w.heap.size (by simp; omega) (fun e => by have := (Ho9.out.lt _ e.symm).1; omega)
            have e7 := gr11.block nb (by simp; omega) (fun e => by have := hN6 _ e.symm; omega)
            have ba11 := (Ba9.out.more _).of_block e6
            have la11 := (La9.out.keep bA).of_block e7
            have rg11 : RdG w11 (fun g => g = w.heap.size ∨ (Value.slice A11 (X ++ [T1]).length c11).ownBlock = some g) AF2 F2 AS2 S2 AR2 R2 := RdG.grown (Rg9.out.keep bA) gr11 (fun g h => .inr h) (fun g h => by
              rcases h with h | h
              · exact .inl (.inl h)
              · rcases h11 with h12 | h12
                · exact .inl (.inr (h12 ▸ h))
                · rw [h12] at h; exact .inr (Nat.le_of_eq (Option.some.inj h)))
            have rr := rg11.now
            have HO11 := Lib.hid o11
            have Ba11 := Lib.hid ba11
            have hl11 := ba11.lt
            have y0 := la11.c0
            have y1 := la11.c1
            have y2 := la11.c2
            have y3 := la11.c3
            rw [Hp1b.out] at y2
            rw [Hp0b.out] at y3
            have x0 := ba11.c0
            have x1 := ba11.c1
            have x2 := ba11.c2
            have x3 := ba11.c3
            have x4 := ba11.c4
            have conKw := conK.out w11 rr.1 rr.2.1 rr.2.2
            have ConKw := Lib.hid conKw
            clear Ba9 La9 Rg9 Ho9 HB9 ow9 e6 e7 gr11 h11 o11 bA rg11 la11 ba11 conKw rr conK
            go_wp2_with fail
            refine ConKw.out.mono ?_
            rintro e w12 ⟨A4, c4, A6, c6, A7, c7, rfl, o12, h12⟩
            have ba12 := Ba11.out.keep h12
            have Rg12 : Hid (RdG w12 (fun g => g = w.heap.size ∨ (Value.slice A11 (X ++ [T1]).length c11).ownBlock = some g) A4 F3 A6 S3 A7 R3) := Lib.hid (RdG.own o12 (fun g h => by
              rcases h with h | h
              · omega
              · exact (HO11.out.lt g h).2))
            have HO12 := Lib.hid (own_keep HO11.out h12)
            have HB12 := Lib.hid (bstep HB11.out h12)
            have hl12 := ba12.lt
            clear x0 x1 x2 x3 x4 y0 y1 y2 y3 o12 Ba11 HB11 HO11 h12 ConKw
            have x0 := ba12.c0
            have x1 := ba12.c1
            have x2 := ba12.c2
            have x3 := ba12.c3
            have x4 := ba12.c4
            have z0 := ba12.fz 0
            have z1 := ba12.fz 1
            have z2 := ba12.fz 2
            have z3 := ba12.fz 3
            have z4 := ba12.fz 4
            go_wp2
            go_roundw
            case rel =>
              refine ⟨n3, A4, c4, F3, A6, c6, S3, A7, c7, R3, t3, u3, X ++ [T1], A11, c11, by first | rfl | simp, by rw [← HL.out]; simp, Hg1.out, Hg2.out, by omega, ((((ba12.set0 _).set1 _).set2 _).set3 _).set4 _, ((((Rg12.out.set (.inl rfl)).set (.inl rfl)).set (.inl rfl)).set (.inl rfl)).set (.inl rfl), own_box (own_box (own_box (own_box (own_box HO12.out (by omega)) (by omega)) (by omega)) (by omega)) (by omega), below_box (below_box (below_box (below_box (below_box HB12.out (by omega)) (by omega)) (by omega)) (by omega)) (by omega)⟩
            case measure => simp [lenV]; omega
      · rw [lineN_over hvC n2 R2 t2 ho, List.map_nil, List.append_nil] at hL
        simp only [ho] at conO
        have ConO := Lib.hid conO
        subst hL
        rw [cellsSt_E] at hown
        have Ho := Lib.hid hown
        have Hb := Lib.hid hb
        clear conO rg hown hb ho
        go_wp2_with fail
        refine (ConO.out _).mono ?_
        rintro e w3 ⟨rfl, h3⟩
        have Ho1 := Lib.hid (own_base (own_keep Ho.out h3) (Nat.le_succ _))
        have Hb1 := Lib.hid (bstep Hb.out h3)
        go_wp2
        go_ret2
        exact ⟨A', c', rfl, Ho1.out, Hb1.out⟩

end Go.Proofs.YtgjdpiooocpmhabGreatDoor

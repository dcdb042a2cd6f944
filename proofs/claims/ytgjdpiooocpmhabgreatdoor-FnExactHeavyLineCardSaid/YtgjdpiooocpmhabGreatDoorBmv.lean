/- The best moves: both sides. -/
import Derived.Test.YtgjdpiooocpmhabGreatDoorBmM
import Derived.Test.YtgjdpiooocpmhabGreatDoorBpt
import Derived.Test.YtgjdpiooocpmhabGreatDoorStrs
import Derived.Test.YtgjdpiooocpmhabGreatDoorMvO
import Derived.Deep.Cut
import Derived.BigQuiet
namespace Go.Proofs.YtgjdpiooocpmhabGreatDoor
open Go.RowKit
set_option linter.unusedVariables false

theorem filter_take {α : Type} (p : α → Bool) (M : List α) (k : Nat) (h : k < M.length) : (M.take (k + 1)).filter p = (M.take k).filter p ++ (if p M[k] then [M[k]] else []) := by
  rw [List.take_succ_eq_append_getElem h, List.filter_append]
  congr 1
  cases hp : p M[k] <;> simp [hp]

set_option maxRecDepth 100000 in
set_option maxHeartbeats 2000000 in
theorem c_choices (n : Nat) (AF : Option Addr) (cF : Nat) (F : List (Int × Int)) (AS : Option Addr) (cS : Nat) (S : List (Int × Int)) (AR : Option Addr) (cR : Nat) (R : List Int) (t u : Int) (w : World) (hF : RdT w AF F) (hS : RdT w AS S) (hR : RdI w AR R) (hg : gameB F S R t u = true) (hz : sizG F S u < n + 1) (hn : n + 1 ≤ 1000000) :
    Calls Tryz.prog 61 #[.agg #[.slice AF F.length cF, .slice AS S.length cS, .slice AR R.length cR, .int .i64 t, .int .i64 u, .iface 82 (.agg #[])]] w (RetMv w (chF (fun m => sidV t * gB n F S R t u m) (movesL F S R t u)).1) := by
  obtain ⟨lF, lS, lR, ht2⟩ := game_len hg
  have gp := gameB_parts hg
  have conM := Lib.hid (fun W (hb : Below w.heap.size w W) => c_gMoves AF cF F AS cS S AR cR R t u W (hF.below hb) (hS.below hb) (hR.below hb) gp.2.2.1 gp.2.2.2.1 (by omega) ht2)
  have conW := Lib.hid (fun m (hm : m ∈ movesL F S R t u) W (hb : Below w.heap.size w W) => c_worth AF cF F AS cS S AR cR R t u m (sidV (1 - t) * gB n F S R t u m) (sid_mul (show 1 - t = 0 ∨ 1 - t = 1 by omega) (bstN_bd n (behind_good hg hm).1).1 (bstN_bd n (behind_good hg hm).1).2).2 W (c_behind AF cF F AS cS S AR cR R t u m _ ((hF.below hb).below (((((Below.refl W.heap.size W).alloc (Nat.le_refl _) _).alloc (by simp) _).alloc (by simp; omega) _))) ((hS.below hb).below (((((Below.refl W.heap.size W).alloc (Nat.le_refl _) _).alloc (by simp) _).alloc (by simp; omega) _))) ((hR.below hb).below (((((Below.refl W.heap.size W).alloc (Nat.le_refl _) _).alloc (by simp) _).alloc (by simp; omega) _))) hg hm) (fun A1 c1 A2 c2 A3 c3 W2 rF rS rR => c_bestGain n A1 c1 (behF F t m) A2 c2 (behS S t m) A3 c3 (behR R m) (1 - t) (behU u m) W2 rF rS rR (behind_good hg hm).1 (by have := (behind_good hg hm).2; omega) (by omega)))
  have hbd := Lib.hid (fun m (hm : m ∈ movesL F S R t u) => (sid_mul (x := gB n F S R t u m) ht2 (bstN_bd n (behind_good hg hm).1).1 (bstN_bd n (behind_good hg hm).1).2).2)
  have ml := movesL_len F S R t u
  have hturn := Lib.hid (fun m => sid_turn (t := t) (y := gB n F S R t u m) ht2)
  generalize gB n F S R t u = g at *
  generalize hM : movesL F S R t u = M at *
  obtain ⟨Wv, hWv⟩ : ∃ Wv : Mv → Int, Wv = fun m => sidV t * g m := ⟨_, rfl⟩
  rw [← hWv]
  have hst := Lib.hid (fun k (h : k < M.length) => show chF Wv (M.take (k + 1)) = chS Wv (chF Wv (M.take k)) M[k] by rw [List.take_succ_eq_append_getElem h, chF_snoc])
  have hlen := Lib.hid (fun k => show (chF Wv (M.take k)).1.length ≤ 1048576 by
    have h1 : ∀ xs : List Mv, (chF Wv xs).1.length ≤ xs.length := fun xs => by
      induction xs using snoc_ind with
      | h0 => exact Nat.le_refl _
      | h1 xs x ih =>
        rw [chF_snoc, List.length_append]
        unfold chS
        split
        · simp
        · split
          · simp; exact ih
          · simp; omega
    have := h1 (M.take k)
    rw [List.length_take] at this
    omega)
  have hwv := Lib.hid (fun m => show Wv m = sidV t * g m by rw [hWv])
  rw [← List.take_length (l := M)]
  clear hF hS hR hg gp hM hWv
  go_enter Tryz.func61, Tryz.ntmps61
  go_wp2_with fail
  obtain ⟨w0, hw0⟩ : ∃ w0, w0 = w.alloc (.cells #[.slice AF F.length cF, .slice AS S.length cS, .slice AR R.length cR, .int .i64 t, .int .i64 u, .iface 82 (.agg #[])] 80) := ⟨_, rfl⟩
  rw [← hw0]
  have ba0 : BoxAt w0 w.heap.size (.slice AF F.length cF) (.slice AS S.length cS) (.slice AR R.length cR) (.int .i64 t) (.int .i64 u) := by rw [hw0]; exact ⟨by simp, by simp, by simp, by simp, by simp, frozen_freshG w _ _⟩
  have p0 : w0.cell? ⟨w.heap.size, 5, none⟩ = some (.iface 82 (.agg #[])) := by rw [hw0]; simp
  have hb0 : Below w.heap.size w w0 := by rw [hw0]; go_grown
  clear hw0
  refine (conM.out w0 hb0).mono ?_
  rintro e w2 ⟨A2, c2, rfl, o2, h2⟩
  have hb2 := bstep hb0 h2
  have ba2 := ba0.keep h2
  have p2 := keepc h2 p0
  have r2 := RdE.of_own encI_len o2
  clear ba0 p0 o2 conM
  go_wp2
  go_loopw [3, 4, 12] (fun v mx i wr => ∃ (k : Nat) (A' : Option Addr) (c' : Nat), k ≤ M.length ∧ i = .int .i64 k ∧ v = .slice A' (chF Wv (M.take k)).1.length c' ∧ mx = .int .i64 (chF Wv (M.take k)).2 ∧ wr.ownsRow w2.heap.size 64 3 (.slice A' (chF Wv (M.take k)).1.length c') (chF Wv (M.take k)).1.length (cellsE encI (chF Wv (M.take k)).1) ∧ Below w2.heap.size w2 wr) (fun _ _ i _ => M.length - (intOf i).toNat)
  case atStart => exact ⟨0, none, 0, Nat.zero_le _, rfl, rfl, rfl, World.ownsRow_nil _ _ _ _, Below.refl _ _⟩
  case round =>
    obtain ⟨k, A', c', hk, rfl, rfl, rfl, hown, hb⟩ := hrel
    by_cases hlt : k < M.length
    · obtain ⟨bm, om, rfl, hbm, hcm⟩ := r2.at_ hlt
      have g0 := keepc hb (hcm k hlt 0 _ rfl)
      have g1 := keepc hb (hcm k hlt 1 _ rfl)
      have g2 := keepc hb (hcm k hlt 2 _ rfl)
      rw [Nat.add_zero] at g0
      have hs := hst.out k hlt
      have hlX := hlen.out k
      have hmem : M[k] ∈ M := List.getElem_mem hlt
      have hwb := hbd.out _ hmem
      have hwe := hwv.out M[k]
      have htn := hturn.out M[k]
      generalize M[k] = m at *
      rw [← hwe] at hwb htn
      have bar := ba2.keep hb
      have pr := keepc hb p2
      have x0 := bar.c0
      have x1 := bar.c1
      have x2 := bar.c2
      have x3 := bar.c3
      have x4 := bar.c4
      have hlw := bar.lt
      have hbr := bstep hb2 hb
      have conW2' := fun W hb => conW.out m hmem W hb
      rw [htn] at conW2'
      have conW2 := Lib.hid conW2'
      have HS := Lib.hid hs
      generalize chF Wv (M.take k) = p at *
      obtain ⟨X, mx⟩ := p
      simp only at hlX hown
      have Hchs := Lib.hid (show chS Wv (X, mx) m = if mx < Wv m then ([m], Wv m) else if Wv m = mx then (X ++ [m], mx) else (X, mx) from rfl)
      generalize Wv m = y at *
      have Ho := Lib.hid hown
      have Hb := Lib.hid hb
      have hsz := hb.size
      have hw2 := hb2.size
      clear hcm hs hwe htn conW2' hown hb hwb
      go_wp2_with fail
      refine (conW2.out _ (hbr.alloc (by omega) _)).mono ?_
      rintro e w5 ⟨rfl, h5⟩
      have HB5 := Lib.hid (bstep ((Hb.out).alloc hsz (.cells #[.int .i64 m.1, .int .i64 m.2.1, .string (endS m.2.2)] 64)) h5)
      have HO5 := Lib.hid (own_keep (own_keep Ho.out ((Below.refl _ _).alloc (Nat.le_refl _) (.cells #[.int .i64 m.1, .int .i64 m.2.1, .string (endS m.2.2)] 64))) h5)
      have q0 : w5.cell? ⟨wr.heap.size, 0, none⟩ = some (.int .i64 m.1) := keepc h5 (by simp)
      have q1 : w5.cell? ⟨wr.heap.size, 1, none⟩ = some (.int .i64 m.2.1) := keepc h5 (by simp)
      have q2 : w5.cell? ⟨wr.heap.size, 2, none⟩ = some (.string (endS m.2.2)) := keepc h5 (by simp)
      have hs5 := HB5.out.size
      have hs6 : wr.heap.size + 1 ≤ w5.heap.size := by have := h5.size; simpa using this
      clear h5 x0 x1 x2 x3 x4 pr bar g0 g1 g2
      rcases Int.lt_trichotomy mx y with c | c | c
      · have hT : chS Wv (X, mx) m = ([m], y) := by rw [Hchs.out, if_pos c]
        go_upto_region 9 with (fail)
        generalize hz : (none : Option Addr) = z
        have hN : w5.ownsRow w2.heap.size 64 3 (.slice z 0 0) ([] : List Mv).length (cellsE encI []) := by rw [← hz]; exact World.ownsRow_nil _ _ _ _
        have HN := Lib.hid hN
        clear hN
        go_wp2_with (first | (at_builtin; refine wp_append_M rfl _ _ rfl w2.heap.size _ [] rfl (own_keep HN.out ((Below.refl _ _).alloc (Nat.le_refl _) _)) m w5.heap.size rfl (by simp) (by simp) (by simp) (by decide) (by (try simp); omega) ?_; intro A6 c6 w6 o6 g6 h6; have hb6 := Below.grown (HB5.out.alloc hs5 _) g6 (by simp; omega) (fun g hg => (HN.out.lt g hg).1); clear g6 h6))
        subst hz
        go_roundw
        case rel => exact ⟨k + 1, A6, c6, by omega, by go_num, by rw [HS.out, hT]; rfl, by rw [HS.out, hT], by rw [HS.out, hT]; exact o6, hb6⟩
        case measure => first | omega | (simp [intOf]; done) | (simp [intOf]; omega)
      · have hT : chS Wv (X, mx) m = (X ++ [m], mx) := by rw [Hchs.out, if_neg (by omega), if_pos c.symm]
        subst c
        go_wp2_with (first | (at_builtin; refine wp_append_M rfl _ _ rfl w2.heap.size _ X rfl (own_keep HO5.out ((Below.refl _ _).alloc (Nat.le_refl _) _)) m w5.heap.size rfl (by simp) (by simp) (by simp) (by (try simp); omega) (by (try simp); omega) ?_; intro A6 c6 w6 o6 g6 h6; have hb6 := Below.grown (HB5.out.alloc hs5 _) g6 (by simp; omega) (fun g hg => (HO5.out.lt g hg).1); clear g6 h6))
        go_roundw
        case rel => exact ⟨k + 1, A6, c6, by omega, by go_num, by rw [HS.out, hT]; simp, by rw [HS.out, hT], by rw [HS.out, hT]; exact o6, hb6⟩
        case measure => first | omega | (simp [intOf]; done) | (simp [intOf]; omega)
      · have hT : chS Wv (X, mx) m = (X, mx) := by rw [Hchs.out, if_neg (by omega), if_neg (by omega)]
        go_wp2
        go_roundw
        case rel => exact ⟨k + 1, A', c', by omega, by go_num, by rw [HS.out, hT], by rw [HS.out, hT], by rw [HS.out, hT]; exact HO5.out, HB5.out⟩
        case measure => first | omega | (simp [intOf]; done) | (simp [intOf]; omega)
    · have : k = M.length := by omega
      subst this
      go_wp2
      go_ret
      exact ⟨A', c', rfl, own_base hown hb2.size, bstep hb2 hb⟩

theorem choices_eq {F S : List (Int × Int)} {R : List Int} {t u : Int} (n : Nat) (hg : gameB F S R t u = true) : (chF (fun m => sidV t * gB n F S R t u m) (movesL F S R t u)).1 = bmL n F S R t u := by
  cases ho : overB F.length S.length u
  · exact choices_are hg ho
  · have e : movesL F S R t u = [] := by unfold movesL; rw [ho]; rfl
    unfold bmL
    rw [e]
    rfl
theorem bmL_len (n : Nat) (F S : List (Int × Int)) (R : List Int) (t u : Int) : (bmL n F S R t u).length ≤ 220 := by
  have h1 := movesL_len F S R t u
  have h2 := List.length_filter_le (fun m => decide (gB n F S R t u m = bstN (n + 1) F S R t u)) (movesL F S R t u)
  unfold bmL
  omega
def bmT (F S : List (Int × Int)) (R : List Int) (t u : Int) : List ByteArray := (bmL 26 F S R t u).map mvTx
theorem bmT_len (F S : List (Int × Int)) (R : List Int) (t u : Int) (b : Bool) : (selW b (bmT F S R t u)).length ≤ 1048576 := by
  have := bmL_len 26 F S R t u
  unfold selW bmT
  split
  · rw [List.length_map]; omega
  · simp

set_option maxRecDepth 100000 in
set_option maxHeartbeats 2000000 in
theorem c_askBest (AF : Option Addr) (cF : Nat) (F : List (Int × Int)) (AS : Option Addr) (cS : Nat) (S : List (Int × Int)) (AR : Option Addr) (cR : Nat) (R : List Int) (t u : Int) (w : World) (hF : RdT w AF F) (hS : RdT w AS S) (hR : RdI w AR R) (hg : gameB F S R t u = true) (hz : sizG F S u < 27) :
    Calls Tryz.prog 56 #[.agg #[.slice AF F.length cF, .slice AS S.length cS, .slice AR R.length cR, .int .i64 t, .int .i64 u], .iface 82 (.agg #[]), .func (.func 61) #[] #[]] w (RetSt w (bmT F S R t u)) := by
  have conC' := fun W (hb : Below w.heap.size w W) => c_choices 26 AF cF F AS cS S AR cR R t u W (hF.below hb) (hS.below hb) (hR.below hb) hg hz (by omega)
  rw [choices_eq 26 hg] at conC'
  have ConC := Lib.hid conC'
  have ml := bmL_len 26 F S R t u
  have conX := Lib.hid (fun A c W hr => c_textsOf A c (bmL 26 F S R t u) W hr (by omega) (fun m hm => mov_num hg ((List.mem_filter.1 hm).1)))
  unfold bmT
  generalize bmL 26 F S R t u = M at *
  generalize hX : M.map mvTx = X at *
  clear conC' hg hF hS hR hX hz
  go_enter Tryz.func56, Tryz.ntmps56
  go_wp2_with fail
  obtain ⟨w0, hw0⟩ : ∃ w0, w0 = w.alloc (.cells #[.slice AF F.length cF, .slice AS S.length cS, .slice AR R.length cR, .int .i64 t, .int .i64 u] 32) := ⟨_, rfl⟩
  rw [← hw0]
  have ba0 : BoxAt w0 w.heap.size (.slice AF F.length cF) (.slice AS S.length cS) (.slice AR R.length cR) (.int .i64 t) (.int .i64 u) := by rw [hw0]; exact BoxAt.fresh w _ _ _ _ _ _
  have hb0 : Below w.heap.size w w0 := by rw [hw0]; go_grown
  clear hw0
  have x0 := ba0.c0
  have x1 := ba0.c1
  have x2 := ba0.c2
  have x3 := ba0.c3
  have x4 := ba0.c4
  go_wp2_with (go_at_call 61; refine (ConC.out w0 hb0).mono ?_; rintro e w2 ⟨A2, c2, rfl, o2, h2⟩; have hb2 := bstep hb0 h2; have r2 := RdE.of_own encI_len o2; clear o2; go_wp2_with fail; refine (conX.out A2 c2 w2 r2).mono ?_; rintro e w3 ⟨A3, c3, rfl, o3, h3⟩; have Ho := Lib.hid (own_base o3 hb2.size); have Hl := Lib.hid (bstep hb2 h3); clear o3)
  go_ret
  exact ⟨A3, c3, rfl, Ho.out, Hl.out⟩

set_option maxRecDepth 100000 in
set_option maxHeartbeats 2000000 in
theorem c_implBestMoves (AF : Option Addr) (cF : Nat) (F : List (Int × Int)) (AS : Option Addr) (cS : Nat) (S : List (Int × Int)) (AR : Option Addr) (cR : Nat) (R : List Int) (t u : Int) (w : World) (hF : RdT w AF F) (hS : RdT w AS S) (hR : RdI w AR R) (lFS : F.length + S.length ≤ 1048576) (lR : R.length ≤ 1048576) :
    Calls Tryz.prog 28 #[.agg #[.slice AF F.length cF, .slice AS S.length cS, .slice AR R.length cR, .int .i64 t, .int .i64 u]] w (RetStB w (selW (smallB F S R t u) (bmT F S R t u)) (smallB F S R t u)) := by
  have conG := fun W (hb : Below w.heap.size w W) => c_isHeld AF cF F AS cS S AR cR R t u W (hF.below hb) (hS.below hb) (hR.below hb) lFS lR
  cases hg : smallB F S R t u
  · simp only [hg] at conG
    have Con := Lib.hid conG
    clear conG hg hF hS hR
    go_enter Tryz.func28, Tryz.ntmps28
    go_wp2_with fail
    refine (Con.out _ ((Below.refl _ _).alloc (Nat.le_refl _) _)).mono ?_
    rintro e w1 ⟨rfl, h1⟩
    go_wp2
    go_ret2
    exact ⟨none, 0, rfl, World.ownsRow_nil _ _ _ _, bstep ((Below.refl _ _).alloc (Nat.le_refl _) _) h1⟩
  · simp only [hg] at conG
    have Con := Lib.hid conG
    obtain ⟨hG, hz⟩ := small_siz hg
    have conA := Lib.hid (fun W (hb : Below w.heap.size w W) => c_askBest AF cF F AS cS S AR cR R t u W (hF.below hb) (hS.below hb) (hR.below hb) hG hz)
    show Calls _ _ _ _ (RetStB w (bmT F S R t u) true)
    generalize bmT F S R t u = X at *
    clear conG hg hF hS hR hG hz
    go_enter Tryz.func28, Tryz.ntmps28
    go_wp2_with fail
    obtain ⟨w0, hw0⟩ : ∃ w0, w0 = w.alloc (.cells #[.slice AF F.length cF, .slice AS S.length cS, .slice AR R.length cR, .int .i64 t, .int .i64 u] 32) := ⟨_, rfl⟩
    rw [← hw0]
    have ba0 : BoxAt w0 w.heap.size (.slice AF F.length cF) (.slice AS S.length cS) (.slice AR R.length cR) (.int .i64 t) (.int .i64 u) := by rw [hw0]; exact BoxAt.fresh w _ _ _ _ _ _
    have hb0 : Below w.heap.size w w0 := by rw [hw0]; go_grown
    clear hw0
    refine (Con.out w0 hb0).mono ?_
    rintro e w1 ⟨rfl, h1⟩
    have hb1 := bstep hb0 h1
    have ba1 := ba0.keep h1
    clear ba0
    have x0 := ba1.c0
    have x1 := ba1.c1
    have x2 := ba1.c2
    have x3 := ba1.c3
    have x4 := ba1.c4
    go_wp2_with fail
    refine (conA.out w1 hb1).mono ?_
    rintro e w2 ⟨A2, c2, rfl, o2, h2⟩
    have Ho := Lib.hid (own_base o2 hb1.size)
    have Hl := Lib.hid (bstep hb1 h2)
    clear conA o2
    go_wp2
    go_ret2
    exact ⟨A2, c2, rfl, Ho.out, Hl.out⟩

set_option maxRecDepth 100000 in
set_option maxHeartbeats 2000000 in
theorem c_specBestMoves (AF : Option Addr) (cF : Nat) (F : List (Int × Int)) (AS : Option Addr) (cS : Nat) (S : List (Int × Int)) (AR : Option Addr) (cR : Nat) (R : List Int) (t u : Int) (w : World) (hF : RdT w AF F) (hS : RdT w AS S) (hR : RdI w AR R) (lFS : F.length + S.length ≤ 1048576) (lR : R.length ≤ 1048576) (kF : F.length ≤ cF) (kS : S.length ≤ cS) :
    Calls Tryz.prog 27 #[.agg #[.slice AF F.length cF, .slice AS S.length cS, .slice AR R.length cR, .int .i64 t, .int .i64 u]] w (RetStB w (selW (smallB F S R t u) (bmT F S R t u)) (smallB F S R t u)) := by
  have conG := fun W (hb : Below w.heap.size w W) => c_plSmall AF cF F AS cS S AR cR R t u W (hF.below hb) (hS.below hb) (hR.below hb) lFS lR kF kS
  cases hg : smallB F S R t u
  · simp only [hg] at conG
    have Con := Lib.hid conG
    clear conG hg hF hS hR
    go_enter Tryz.func27, Tryz.ntmps27
    go_wp2_with fail
    refine (Con.out _ ((Below.refl _ _).alloc (Nat.le_refl _) _)).mono ?_
    rintro e w1 ⟨rfl, h1⟩
    go_wp2
    go_ret2
    exact ⟨none, 0, rfl, World.ownsRow_nil _ _ _ _, bstep ((Below.refl _ _).alloc (Nat.le_refl _) _) h1⟩
  · simp only [hg] at conG
    have Con := Lib.hid conG
    obtain ⟨i0, hi, hz0, hz1, hz2⟩ := info_parts Tryz.info_text
    obtain ⟨hG, hz⟩ := small_siz hg
    obtain ⟨lF, lS, lR2, ht2⟩ := game_len hG
    have gp := gameB_parts hG
    have conB := Lib.hid (fun W (hb : Below w.heap.size w W) => c_plBest (26 + 1) AF cF F AS cS S AR cR R t u W (hF.below hb) (hS.below hb) (hR.below hb) hG hz (by omega))
    have conM := Lib.hid (fun W (hb : Below w.heap.size w W) => c_plMoves AF cF F AS cS S AR cR R t u W (hF.below hb) (hS.below hb) (hR.below hb) gp.2.2.1 gp.2.2.2.1 (by omega))
    have conK := Lib.hid (fun m (hm : m ∈ movesL F S R t u) W (hb : Below w.heap.size w W) => makeP AF cF F AS cS S AR cR R t u m W (hF.below hb) (hS.below hb) (hR.below hb) hG hm)
    have conI := Lib.hid (fun m (hm : m ∈ movesL F S R t u) (A1 : Option Addr) (c1 : Nat) (A2 : Option Addr) (c2 : Nat) (A3 : Option Addr) (c3 : Nat) W (rF : RdT W A1 (behF F t m)) (rS : RdT W A2 (behS S t m)) (rR : RdI W A3 (behR R m)) => show Calls Tryz.prog 59 #[.agg #[.slice A1 (behF F t m).length c1, .slice A2 (behS S t m).length c2, .slice A3 (behR R m).length c3, .int .i64 (1 - t), .int .i64 (behU u m)]] W (fun e w' => e = .returned (.int .i64 (gB 26 F S R t u m)) ∧ Below W.heap.size W w') from c_plBest 26 A1 c1 (behF F t m) A2 c2 (behS S t m) A3 c3 (behR R m) (1 - t) (behU u m) W rF rS rR (behind_good hG hm).1 (by have := (behind_good hG hm).2; omega) (by omega))
    have conT := Lib.hid (fun m (hm : m ∈ movesL F S R t u) W => c_plText m.1 m.2.1 m.2.2 (mov_num hG hm).1 (mov_num hG hm).2 W)
    have ml := movesL_len F S R t u
    show Calls _ _ _ _ (RetStB w (bmT F S R t u) true)
    unfold bmT bmL
    generalize gB 26 F S R t u = g at *
    generalize bstN (26 + 1) F S R t u = best at *
    generalize movesL F S R t u = M at *
    obtain ⟨f, hf⟩ : ∃ f : Nat → List ByteArray, f = fun k => ((M.take k).filter fun m => decide (g m = best)).map mvTx := ⟨_, rfl⟩
    have f0 : f 0 = [] := by rw [hf]; rfl
    have fE : ((M.filter fun m => decide (g m = best)).map mvTx) = f M.length := by rw [hf]; simp only [List.take_length]
    have fS := Lib.hid (fun k (h : k < M.length) => show f (k + 1) = f k ++ (if g M[k] = best then [mvTx M[k]] else []) by rw [hf]; simp only; rw [filter_take _ _ _ h, List.map_append]; by_cases h1 : g M[k] = best <;> simp [h1])
    have fL := Lib.hid (fun k => show (f k).length ≤ 1048576 by rw [hf]; simp only; rw [List.length_map]; have := List.length_filter_le (fun m => decide (g m = best)) (M.take k); rw [List.length_take] at this; omega)
    rw [fE]
    clear hf fE conG hg hF hS hR hG hz gp
    go_enter Tryz.func27, Tryz.ntmps27
    go_wp2_with fail
    obtain ⟨w0, hw0⟩ : ∃ w0, w0 = w.alloc (.cells #[.slice AF F.length cF, .slice AS S.length cS, .slice AR R.length cR, .int .i64 t, .int .i64 u] 32) := ⟨_, rfl⟩
    rw [← hw0]
    have ba0 : BoxAt w0 w.heap.size (.slice AF F.length cF) (.slice AS S.length cS) (.slice AR R.length cR) (.int .i64 t) (.int .i64 u) := by rw [hw0]; exact BoxAt.fresh w _ _ _ _ _ _
    have hb0 : Below w.heap.size w w0 := by rw [hw0]; go_grown
    clear hw0
    refine (Con.out w0 hb0).mono ?_
    rintro e w1 ⟨rfl, h1⟩
    have hb1 := bstep hb0 h1
    have ba1 := ba0.keep h1
    clear ba0
    have x0 := ba1.c0
    have x1 := ba1.c1
    have x2 := ba1.c2
    have x3 := ba1.c3
    have x4 := ba1.c4
    go_wp2_with fail
    refine (conB.out w1 hb1).mono ?_
    rintro e w2 ⟨rfl, h2⟩
    have hb2 := bstep hb1 h2
    have ba2 := ba1.keep h2
    clear ba1 x0 x1 x2 x3 x4 conB
    have x0 := ba2.c0
    have x1 := ba2.c1
    have x2 := ba2.c2
    have x3 := ba2.c3
    have x4 := ba2.c4
    go_wp2_with fail
    refine (conM.out w2 hb2).mono ?_
    rintro e w3 ⟨A3, c3, rfl, o3, h3⟩
    have hb3 := bstep hb2 h3
    have ba3 := ba2.keep h3
    have r3 := RdE.of_own encS_len o3
    clear x0 x1 x2 x3 x4 ba2 o3 conM Con
    go_wp2
    go_loopw [4, 16] (fun v i wr => ∃ (k : Nat) (A' : Option Addr) (c' : Nat), k ≤ M.length ∧ i = .int .i64 k ∧ v = .slice A' (f k).length c' ∧ wr.ownsRow w3.heap.size 9 1 (.slice A' (f k).length c') (f k).length (cellsE encW (f k)) ∧ Below w3.heap.size w3 wr) (fun _ i _ => M.length - (intOf i).toNat)
    case atStart => exact ⟨0, none, 0, Nat.zero_le _, rfl, by rw [f0]; rfl, by rw [f0]; exact World.ownsRow_nil _ _ _ _, Below.refl _ _⟩
    case round =>
      obtain ⟨k, A', c', hk, rfl, rfl, hown, hb⟩ := hrel
      by_cases hlt : k < M.length
      · obtain ⟨bm, om, rfl, hbm, hcm⟩ := r3.at_ hlt
        have g0 := keepc hb (hcm k hlt 0 _ rfl)
        have g1 := keepc hb (hcm k hlt 1 _ rfl)
        have g2 := keepc hb (hcm k hlt 2 _ rfl)
        have g3 := keepc hb (hcm k hlt 3 _ rfl)
        rw [Nat.add_zero] at g0
        have hs := fS.out k hlt
        have hX := fL.out k
        have hmem : M[k] ∈ M := List.getElem_mem hlt
        have conK2 := Lib.hid (conK.out _ hmem)
        have conI2 := Lib.hid (conI.out _ hmem)
        have conT2' := conT.out _ hmem
        generalize M[k] = m at *
        rw [show mvT m.1 m.2.1 m.2.2 = mvTx m from rfl] at conT2'
        have conT2 := Lib.hid conT2'
        generalize mvTx m = T at *
        generalize g m = y at *
        generalize f k = X at *
        have bar := ba3.keep hb
        have x0 := bar.c0
        have x1 := bar.c1
        have x2 := bar.c2
        have x3 := bar.c3
        have x4 := bar.c4
        have hlw := bar.lt
        have hbr := bstep hb3 hb
        have HS := Lib.hid hs
        have Ho := Lib.hid hown
        have Hb := Lib.hid hb
        have hsz := hb.size
        generalize (m.2.2 == 1) = p1 at *
        generalize (m.2.2 == 0) = p0 at *
        clear hcm conK conI conT conT2' hs hown hb fS fL
        go_wp2_with fail
        refine (conK2.out _ (hbr.alloc hbr.size _)).mono ?_
        rintro e w4 ⟨A4, c4, A5, c5, A6, c6, rfl, o4, h4⟩
        have hb4 := bstep ((Below.refl wr.heap.size wr).alloc (Nat.le_refl _) (.cells #[.int .i64 m.1, .int .i64 m.2.1, .bool p1, .bool p0] 70)) h4
        have k0 : w4.cell? ⟨wr.heap.size, 0, none⟩ = some (.int .i64 m.1) := keepc h4 (by simp)
        have k1 : w4.cell? ⟨wr.heap.size, 1, none⟩ = some (.int .i64 m.2.1) := keepc h4 (by simp)
        have k2 : w4.cell? ⟨wr.heap.size, 2, none⟩ = some (.bool p1) := keepc h4 (by simp)
        have k3 : w4.cell? ⟨wr.heap.size, 3, none⟩ = some (.bool p0) := keepc h4 (by simp)
        go_wp2_with fail
        refine (conI2.out A4 c4 A5 c5 A6 c6 w4 (RdT.of_own o4.f) (RdT.of_own o4.s) (RdI.of_own o4.r)).mono ?_
        rintro e w5 ⟨rfl, h5⟩
        have hb5 := bstep hb4 h5
        have q0 := keepc h5 k0
        have q1 := keepc h5 k1
        have q2 := keepc h5 k2
        have q3 := keepc h5 k3
        have Ho5 := Lib.hid (own_keep Ho.out hb5)
        have Hb5 := Lib.hid (bstep Hb.out hb5)
        have hs5 := hb5.size
        clear o4 conK2 conI2 x0 x1 x2 x3 x4 bar g0 g1 g2 g3 k0 k1 k2 k3 h4 h5 hb4 hb5
        by_cases hy : y = best
        · have hT : f (k + 1) = X ++ [T] := by rw [HS.out, if_pos hy]
          subst hy
          have HT := Lib.hid hT
          clear hT HS
          go_wp2_with (first | (go_at_call 54; refine (conT2.out _).mono ?_; rintro e w6 ⟨rfl, h6⟩; have ow6 := Lib.hid ((own_keep Ho5.out h6).alloc (.cells #[.string T] 9)); have Hb6 := Lib.hid (bstep Hb5.out h6); have hs6 := h6.size) | (at_builtin; refine wp_append_E encW_len encW_one Tryz.underlying27 hi hz0 hz1 hz2 rfl (by decide) (by decide) rfl _ _ rfl w3.heap.size _ X rfl ow6.out T w6.heap.size rfl (fun j u hu => by cases j with | zero => cases hu; simp | succ j => cases hu) hX (by simp; omega) ?_; intro A7 c7 w7 hown7 hg7 hat7))
          go_roundw
          case rel =>
            refine ⟨k + 1, A7, c7, by omega, by go_num, by rw [HT.out, List.length_append]; rfl, by rw [HT.out]; exact hown7, ?_⟩
            exact Below.grown (Hb6.out.alloc (by omega) _) hg7 (by simp; omega) (fun g hg => (Ho5.out.lt g hg).1)
          case measure => simp [intOf]; omega
        · have hT : f (k + 1) = X := by rw [HS.out, if_neg hy, List.append_nil]
          have HT := Lib.hid hT
          have ey : (y == best) = false := beq_eq_false_iff_ne.2 hy
          clear hT HS
          go_wp2
          go_roundw
          case rel => exact ⟨k + 1, A', c', by omega, by go_num, by rw [HT.out], by rw [HT.out]; exact Ho5.out, Hb5.out⟩
          case measure => simp [intOf]; omega
      · have : k = M.length := by omega
        subst this
        rw [cellsSt_E] at hown
        have Ho := Lib.hid (own_base hown hb3.size)
        have Hl := Lib.hid (bstep hb3 hb)
        clear hown
        go_wp2
        go_ret2
        exact ⟨A', c', rfl, Ho.out, Hl.out⟩

end Go.Proofs.YtgjdpiooocpmhabGreatDoor

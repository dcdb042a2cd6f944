/- HeavyLine: the mathematics and the program's side. -/
import Derived.Test.YtgjdpiooocpmhabGreatDoorLis
import Derived.Deep.Cut
import Derived.BigQuiet
namespace Go.Proofs.YtgjdpiooocpmhabGreatDoor
open Go.RowKit
set_option linter.unusedVariables false

def hvW (m : Mv) : Int := m.1 + m.2.1
def hvC : Ch := fun _ F S R t u => (chF hvW (movesL F S R t u)).1
theorem hv_bd {F S : List (Int × Int)} {R : List Int} {t u : Int} {m : Mv} (hg : gameB F S R t u = true) (hm : m ∈ movesL F S R t u) : -990 ≤ hvW m ∧ hvW m ≤ 990 := by
  obtain ⟨g1, g2, g3, g4, _, _, _⟩ := gameB_parts hg
  unfold hvW
  rcases (mem_moves hm).2 with rfl | ⟨hin, hk⟩
  · exact ⟨by decide, by decide⟩
  · have h := mov_num hg hm
    have h2 := h.2 (by omega)
    unfold numB at h2
    simp only [Bool.and_eq_true, decide_eq_true_eq] at h2
    omega
theorem hv_in {n : Nat} {F S : List (Int × Int)} {R : List Int} {t u : Int} {m : Mv} (hg : gameB F S R t u = true) (h : m ∈ hvC n F S R t u) : m ∈ movesL F S R t u := by
  have h1 := (chF_le hvW (movesL F S R t u) (fun m hm => by have := (hv_bd hg hm).1; unfold minI; omega)).2.1
  have h2 : m ∈ (chF hvW (movesL F S R t u)).1 := h
  rw [h1] at h2
  exact (List.mem_filter.1 h2).1
theorem hv_ne {n : Nat} {F S : List (Int × Int)} {R : List Int} {t u : Int} (hg : gameB F S R t u = true) (ho : overB F.length S.length u = false) : ∃ r, hvC n F S R t u = hdM (hvC n F S R t u) :: r := by
  have h := chF_ne hvW (movesL F S R t u) (fun m hm => by have := (hv_bd hg hm).1; unfold minI; omega) (moves_some ho)
  have h2 : hvC n F S R t u ≠ [] := h
  cases e : hvC n F S R t u with
  | nil => exact absurd e h2
  | cons a r => exact ⟨r, rfl⟩
def hvS (b m : Mv) : Mv := if hvW b < hvW m then m else b
theorem hv_fold : ∀ (ms : List Mv), (∀ m ∈ ms, minI < hvW m) → ms ≠ [] → (chF hvW ms).1 ≠ [] ∧ hdM (chF hvW ms).1 = ms.foldl hvS (hdM ms) ∧ (chF hvW ms).2 = hvW (ms.foldl hvS (hdM ms)) := by
  intro ms
  induction ms using snoc_ind with
  | h0 => exact fun _ h => absurd rfl h
  | h1 ms m ih =>
    intro h _
    have hm := h m (by simp)
    have i2 := ih (fun x hx => h x (by simp [hx]))
    rw [chF_snoc]
    cases ms with
    | nil =>
      rw [chF_nil]
      unfold chS
      rw [if_pos hm]
      have e : hvS m m = m := by unfold hvS; split <;> rfl
      exact ⟨by simp, e.symm, by show hvW m = hvW (hvS m m); rw [e]⟩
    | cons a ms =>
      obtain ⟨i3, i4, i5⟩ := i2 (by simp)
      have e : ((a :: ms) ++ [m]).foldl hvS (hdM ((a :: ms) ++ [m])) = hvS ((a :: ms).foldl hvS (hdM (a :: ms))) m := by rw [List.foldl_append]; rfl
      rw [e]
      generalize (a :: ms).foldl hvS (hdM (a :: ms)) = b at *
      generalize chF hvW (a :: ms) = p at *
      obtain ⟨X, mx⟩ := p
      simp only at i3 i4 i5
      subst i5
      unfold chS hvS
      dsimp only
      split
      · exact ⟨by simp, rfl, rfl⟩
      · split
        · cases X with
          | nil => exact absurd rfl i3
          | cons x X => exact ⟨by simp, i4, rfl⟩
        · exact ⟨i3, i4, rfl⟩
theorem game_siz2 {F S : List (Int × Int)} {R : List Int} {t u : Int} (h : gameB F S R t u = true) : gameB F S R t u = true ∧ sizG F S u < 400 := by
  have h1 := (gameB_parts h).1
  obtain ⟨lF, lS, _, _⟩ := game_len h
  unfold turnB at h1
  simp only [Bool.and_eq_true, decide_eq_true_eq] at h1
  refine ⟨h, ?_⟩
  unfold sizG
  omega
theorem line_numH : ∀ {n : Nat} {F S : List (Int × Int)} {R : List Int} {t u : Int}, gameB F S R t u = true → sizG F S u < n → ∀ m ∈ lineN hvC n F S R t u, m.2.2 ≤ 2 ∧ (m.2.2 ≠ 0 → numB m.1 = true ∧ numB m.2.1 = true)
  | 0, F, S, R, t, u, hg, hz, m, hm => by cases hm
  | n + 1, F, S, R, t, u, hg, hz, m, hm => by
    cases ho : overB F.length S.length u
    · rw [lineN_step hvC n R t ho] at hm
      obtain ⟨r, hr⟩ := hv_ne (n := n) (t := t) (R := R) hg ho
      have hmv := hv_in hg (hd_mem hr)
      rcases List.mem_cons.1 hm with rfl | h
      · exact mov_num hg hmv
      · have hb := behind_good hg hmv
        exact line_numH hb.1 (by omega) m h
    · rw [lineN_over hvC (n + 1) R t ho] at hm
      cases hm
def hlT (F S : List (Int × Int)) (R : List Int) (t u : Int) : List ByteArray := (lineN hvC 400 F S R t u).map mvTx
theorem hlT_len (F S : List (Int × Int)) (R : List Int) (t u : Int) (b : Bool) : (selW b (hlT F S R t u)).length ≤ 1048576 := by
  have := lineN_len hvC 400 F S R t u
  unfold selW hlT
  split
  · rw [List.length_map]; omega
  · simp

set_option maxRecDepth 100000 in
set_option maxHeartbeats 4000000 in
theorem c_worthH (AF : Option Addr) (cF : Nat) (F : List (Int × Int)) (AS : Option Addr) (cS : Nat) (S : List (Int × Int)) (AR : Option Addr) (cR : Nat) (R : List Int) (t u : Int) (m : Mv) (w : World) (hy : -990 ≤ hvW m ∧ hvW m ≤ 990) :
    Calls Tryz.prog 170 #[.agg #[], .agg #[.slice AF F.length cF, .slice AS S.length cS, .slice AR R.length cR, .int .i64 t, .int .i64 u], .agg #[.int .i64 m.1, .int .i64 m.2.1, .string (endS m.2.2)]] w fun e w' => e = .returned (.int .i64 (hvW m)) ∧ Below w.heap.size w w' := by
  unfold hvW at *
  generalize endS m.2.2 = es at *
  go_enter Tryz.func170, Tryz.ntmps170
  go_wp2
  go_ret
  exact ⟨(by first | rfl | (exact ret_i (by omega))), by go_grown⟩

set_option maxRecDepth 100000 in
set_option maxHeartbeats 2000000 in
theorem c_choicesH (n : Nat) (AF : Option Addr) (cF : Nat) (F : List (Int × Int)) (AS : Option Addr) (cS : Nat) (S : List (Int × Int)) (AR : Option Addr) (cR : Nat) (R : List Int) (t u : Int) (w : World) (hF : RdT w AF F) (hS : RdT w AS S) (hR : RdI w AR R) (hg : gameB F S R t u = true) (hz : sizG F S u < n + 1) (hn : n + 1 ≤ 1000000) :
    Calls Tryz.prog 61 #[.agg #[.slice AF F.length cF, .slice AS S.length cS, .slice AR R.length cR, .int .i64 t, .int .i64 u, .iface 75 (.agg #[])]] w (RetMv w (hvC n F S R t u)) := by
  show Calls _ _ _ _ (RetMv w (chF hvW (movesL F S R t u)).1)
  obtain ⟨lF, lS, lR, ht2⟩ := game_len hg
  have gp := gameB_parts hg
  have conM := Lib.hid (fun W (hb : Below w.heap.size w W) => c_gMoves AF cF F AS cS S AR cR R t u W (hF.below hb) (hS.below hb) (hR.below hb) gp.2.2.1 gp.2.2.2.1 (by omega) ht2)
  have conW := Lib.hid (fun m (hm : m ∈ movesL F S R t u) W (hb : Below w.heap.size w W) => c_worthH AF cF F AS cS S AR cR R t u m W (hv_bd hg hm))
  have hbd := Lib.hid (fun m (hm : m ∈ movesL F S R t u) => hv_bd hg hm)
  have ml := movesL_len F S R t u
  generalize hM : movesL F S R t u = M at *
  obtain ⟨Wv, hWv⟩ : ∃ Wv : Mv → Int, Wv = hvW := ⟨_, rfl⟩
  rw [← hWv]
  have hst := Lib.hid (fun k (h : k < M.length) => show chF Wv (M.take (k + 1)) = chS Wv (chF Wv (M.take k)) M[k] by rw [List.take_succ_eq_append_getElem h, chF_snoc])
  have hlen := Lib.hid (fun k => show (chF Wv (M.take k)).1.length ≤ 1048576 by
    have h1 : ∀ xs : List Mv, (chF Wv xs).1.length ≤ xs.length := fun xs => by
      induction xs using snoc_ind with
      | h0 => exact Nat.le_refl _
      | h1 xs x ih =>
        rw [chF_snoc, List.length_append]
        unfold chS
        split
        · simp
        · split
          · simp; exact ih
          · simp; omega
    have := h1 (M.take k)
    rw [List.length_take] at this
    omega)
  have hwv := Lib.hid (fun m => show hvW m = Wv m by rw [hWv])
  rw [← List.take_length (l := M)]
  clear hF hS hR hg gp hM hWv
  go_enter Tryz.func61, Tryz.ntmps61
  go_wp2_with fail
  obtain ⟨w0, hw0⟩ : ∃ w0, w0 = w.alloc (.cells #[.slice AF F.length cF, .slice AS S.length cS, .slice AR R.length cR, .int .i64 t, .int .i64 u, .iface 75 (.agg #[])] 80) := ⟨_, rfl⟩
  rw [← hw0]
  have ba0 : BoxAt w0 w.heap.size (.slice AF F.length cF) (.slice AS S.length cS) (.slice AR R.length cR) (.int .i64 t) (.int .i64 u) := by rw [hw0]; exact ⟨by simp, by simp, by simp, by simp, by simp, frozen_freshG w _ _⟩
  have p0 : w0.cell? ⟨w.heap.size, 5, none⟩ = some (.iface 75 (.agg #[])) := by rw [hw0]; simp
  have hb0 : Below w.heap.size w w0 := by rw [hw0]; go_grown
  clear hw0
  refine (conM.out w0 hb0).mono ?_
  rintro e w2 ⟨A2, c2, rfl, o2, h2⟩
  have hb2 := bstep hb0 h2
  have ba2 := ba0.keep h2
  have p2 := keepc h2 p0
  have r2 := RdE.of_own encI_len o2
  clear ba0 p0 o2 conM
  go_wp2
  go_loopw [3, 4, 12] (fun v mx i wr => ∃ (k : Nat) (A' : Option Addr) (c' : Nat), k ≤ M.length ∧ i = .int .i64 k ∧ v = .slice A' (chF Wv (M.take k)).1.length c' ∧ mx = .int .i64 (chF Wv (M.take k)).2 ∧ wr.ownsRow w2.heap.size 64 3 (.slice A' (chF Wv (M.take k)).1.length c') (chF Wv (M.take k)).1.length (cellsE encI (chF Wv (M.take k)).1) ∧ Below w2.heap.size w2 wr) (fun _ _ i _ => M.length - (intOf i).toNat)
  case atStart => exact ⟨0, none, 0, Nat.zero_le _, rfl, rfl, rfl, World.ownsRow_nil _ _ _ _, Below.refl _ _⟩
  case round =>
    obtain ⟨k, A', c', hk, rfl, rfl, rfl, hown, hb⟩ := hrel
    by_cases hlt : k < M.length
    · obtain ⟨bm, om, rfl, hbm, hcm⟩ := r2.at_ hlt
      have g0 := keepc hb (hcm k hlt 0 _ rfl)
      have g1 := keepc hb (hcm k hlt 1 _ rfl)
      have g2 := keepc hb (hcm k hlt 2 _ rfl)
      rw [Nat.add_zero] at g0
      have hs := hst.out k hlt
      have hlX := hlen.out k
      have hmem : M[k] ∈ M := List.getElem_mem hlt
      have hwb := hbd.out _ hmem
      have hwe := hwv.out M[k]
      generalize M[k] = m at *
      rw [hwe] at hwb
      have bar := ba2.keep hb
      have pr := keepc hb p2
      have x0 := bar.c0
      have x1 := bar.c1
      have x2 := bar.c2
      have x3 := bar.c3
      have x4 := bar.c4
      have hlw := bar.lt
      have hbr := bstep hb2 hb
      have conW2' := fun W hb => conW.out m hmem W hb
      rw [hwe] at conW2'
      have conW2 := Lib.hid conW2'
      have HS := Lib.hid hs
      generalize chF Wv (M.take k) = p at *
      obtain ⟨X, mx⟩ := p
      simp only at hlX hown
      have Hchs := Lib.hid (show chS Wv (X, mx) m = if mx < Wv m then ([m], Wv m) else if Wv m = mx then (X ++ [m], mx) else (X, mx) from rfl)
      generalize Wv m = y at *
      have Ho := Lib.hid hown
      have Hb := Lib.hid hb
      have hsz := hb.size
      have hw2 := hb2.size
      clear hcm hs hwe conW2' hown hb hwb
      go_wp2_with fail
      refine (conW2.out _ (hbr.alloc (by omega) _)).mono ?_
      rintro e w5 ⟨rfl, h5⟩
      have HB5 := Lib.hid (bstep ((Hb.out).alloc hsz (.cells #[.int .i64 m.1, .int .i64 m.2.1, .string (endS m.2.2)] 64)) h5)
      have HO5 := Lib.hid (own_keep (own_keep Ho.out ((Below.refl _ _).alloc (Nat.le_refl _) (.cells #[.int .i64 m.1, .int .i64 m.2.1, .string (endS m.2.2)] 64))) h5)
      have q0 : w5.cell? ⟨wr.heap.size, 0, none⟩ = some (.int .i64 m.1) := keepc h5 (by simp)
      have q1 : w5.cell? ⟨wr.heap.size, 1, none⟩ = some (.int .i64 m.2.1) := keepc h5 (by simp)
      have q2 : w5.cell? ⟨wr.heap.size, 2, none⟩ = some (.string (endS m.2.2)) := keepc h5 (by simp)
      have hs5 := HB5.out.size
      have hs6 : wr.heap.size + 1 ≤ w5.heap.size := by have := h5.size; simpa using this
      clear h5 x0 x1 x2 x3 x4 pr bar g0 g1 g2
      rcases Int.lt_trichotomy mx y with c | c | c
      · have hT : chS Wv (X, mx) m = ([m], y) := by rw [Hchs.out, if_pos c]
        go_upto_region 9 with (fail)
        generalize hz : (none : Option Addr) = z
        have hN : w5.ownsRow w2.heap.size 64 3 (.slice z 0 0) ([] : List Mv).length (cellsE encI []) := by rw [← hz]; exact World.ownsRow_nil _ _ _ _
        have HN := Lib.hid hN
        clear hN
        go_wp2_with (first | (at_builtin; refine wp_append_M rfl _ _ rfl w2.heap.size _ [] rfl (own_keep HN.out ((Below.refl _ _).alloc (Nat.le_refl _) _)) m w5.heap.size rfl (by simp) (by simp) (by simp) (by decide) (by (try simp); omega) ?_; intro A6 c6 w6 o6 g6 h6; have hb6 := Below.grown (HB5.out.alloc hs5 _) g6 (by simp; omega) (fun g hg => (HN.out.lt g hg).1); clear g6 h6))
        subst hz
        go_roundw
        case rel => exact ⟨k + 1, A6, c6, by omega, by go_num, by rw [HS.out, hT]; rfl, by rw [HS.out, hT], by rw [HS.out, hT]; exact o6, hb6⟩
        case measure => first | omega | (simp [intOf]; done) | (simp [intOf]; omega)
      · have hT : chS Wv (X, mx) m = (X ++ [m], mx) := by rw [Hchs.out, if_neg (by omega), if_pos c.symm]
        subst c
        go_wp2_with (first | (at_builtin; refine wp_append_M rfl _ _ rfl w2.heap.size _ X rfl (own_keep HO5.out ((Below.refl _ _).alloc (Nat.le_refl _) _)) m w5.heap.size rfl (by simp) (by simp) (by simp) (by (try simp); omega) (by (try simp); omega) ?_; intro A6 c6 w6 o6 g6 h6; have hb6 := Below.grown (HB5.out.alloc hs5 _) g6 (by simp; omega) (fun g hg => (HO5.out.lt g hg).1); clear g6 h6))
        go_roundw
        case rel => exact ⟨k + 1, A6, c6, by omega, by go_num, by rw [HS.out, hT]; simp, by rw [HS.out, hT], by rw [HS.out, hT]; exact o6, hb6⟩
        case measure => first | omega | (simp [intOf]; done) | (simp [intOf]; omega)
      · have hT : chS Wv (X, mx) m = (X, mx) := by rw [Hchs.out, if_neg (by omega), if_neg (by omega)]
        go_wp2
        go_roundw
        case rel => exact ⟨k + 1, A', c', by omega, by go_num, by rw [HS.out, hT], by rw [HS.out, hT], by rw [HS.out, hT]; exact HO5.out, HB5.out⟩
        case measure => first | omega | (simp [intOf]; done) | (simp [intOf]; omega)
    · have : k = M.length := by omega
      subst this
      go_wp2
      go_ret
      exact ⟨A', c', rfl, own_base hown hb2.size, bstep hb2 hb⟩

set_option maxRecDepth 100000 in
set_option maxHeartbeats 4000000 in
theorem c_lineHeavy (n : Nat) (AF : Option Addr) (cF : Nat) (F : List (Int × Int)) (AS : Option Addr) (cS : Nat) (S : List (Int × Int)) (AR : Option Addr) (cR : Nat) (R : List Int) (t u : Int) (w : World) (hF : RdT w AF F) (hS : RdT w AS S) (hR : RdI w AR R) (hg : gameB F S R t u = true) (hz : sizG F S u < n) (hn : n ≤ 1000000) :
    Calls Tryz.prog 57 #[.agg #[.slice AF F.length cF, .slice AS S.length cS, .slice AR R.length cR, .int .i64 t, .int .i64 u, .iface 75 (.agg #[])]] w (RetMv w (lineN hvC n F S R t u)) := by
  obtain ⟨T, hT⟩ : ∃ T, T = lineN hvC n F S R t u := ⟨_, rfl⟩
  have lT : T.length ≤ 1048576 := by rw [hT]; exact Nat.le_trans (lineN_len _ _ _ _ _ _ _) (by omega)
  rw [← hT]
  have HT := Lib.hid hT
  have RA := Lib.hid (fun W' (hb : Below w.heap.size w W') => RdG.arg (P := fun g => g = w.heap.size ∨ (Value.slice none 0 0).ownBlock = some g) hF hS hR hb (fun g h => by
    rcases h with h | h
    · omega
    · simp [Value.ownBlock] at h))
  clear hT hF hS hR
  go_enter Tryz.func57, Tryz.ntmps57
  go_wp2_with fail
  obtain ⟨w0, hw0⟩ : ∃ w0, w0 = w.alloc (.cells #[.slice AF F.length cF, .slice AS S.length cS, .slice AR R.length cR, .int .i64 t, .int .i64 u, .iface 75 (.agg #[])] 80) := ⟨_, rfl⟩
  rw [← hw0]
  have ba0 : BoxAt w0 w.heap.size (.slice AF F.length cF) (.slice AS S.length cS) (.slice AR R.length cR) (.int .i64 t) (.int .i64 u) := by rw [hw0]; exact ⟨by simp, by simp, by simp, by simp, by simp, frozen_freshG w _ _⟩
  have p0 : w0.cell? ⟨w.heap.size, 5, none⟩ = some (.iface 75 (.agg #[])) := by rw [hw0]; simp
  have hb0 : Below w.heap.size w w0 := by rw [hw0]; go_grown
  clear hw0
  go_loopw [3] (fun v wr => ∃ (n2 : Nat) (AF2 : Option Addr) (cF2 : Nat) (F2 : List (Int × Int)) (AS2 : Option Addr) (cS2 : Nat) (S2 : List (Int × Int)) (AR2 : Option Addr) (cR2 : Nat) (R2 : List Int) (t2 u2 : Int) (L : List Mv) (A' : Option Addr) (c' : Nat), v = .slice A' L.length c' ∧ L ++ lineN hvC n2 F2 S2 R2 t2 u2 = T ∧ gameB F2 S2 R2 t2 u2 = true ∧ sizG F2 S2 u2 < n2 ∧ n2 ≤ n ∧ BoxAt wr w.heap.size (.slice AF2 F2.length cF2) (.slice AS2 S2.length cS2) (.slice AR2 R2.length cR2) (.int .i64 t2) (.int .i64 u2) ∧ wr.cell? ⟨w.heap.size, 5, none⟩ = some (.iface 75 (.agg #[])) ∧
      RdG wr (fun g => g = w.heap.size ∨ (Value.slice A' L.length c').ownBlock = some g) AF2 F2 AS2 S2 AR2 R2 ∧ wr.ownsRow (w.heap.size + 1) 64 3 (.slice A' L.length c') L.length (cellsE encI L) ∧ Below w.heap.size w wr) (fun v _ => T.length - lenV v)
  case atStart => exact ⟨n, AF, cF, F, AS, cS, S, AR, cR, R, t, u, [], none, 0, rfl, HT.out.symm, hg, hz, Nat.le_refl _, ba0, p0, RA.out w0 hb0, World.ownsRow_nil _ _ _ _, hb0⟩
  case round =>
    clear ba0 p0 hb0 RA HT hg hz
    obtain ⟨n2, AF2, cF2, F2, AS2, cS2, S2, AR2, cR2, R2, t2, u2, L, A', c', rfl, hL, hg2, hz2, hn2, ba, p5, rg, hown, hb⟩ := hrel
    have conO := fun W => c_isOver AF2 F2.length cF2 AS2 S2.length cS2 AR2 R2.length cR2 t2 u2 W
    have x0 := ba.c0
    have x1 := ba.c1
    have x2 := ba.c2
    have x3 := ba.c3
    have x4 := ba.c4
    have hlw := ba.lt
    cases ho : overB F2.length S2.length u2
    · obtain ⟨n3, rfl⟩ : ∃ k, n2 = k + 1 := ⟨n2 - 1, by omega⟩
      rw [lineN_step hvC n3 R2 t2 ho] at hL
      simp only [ho] at conO
      have ConO := Lib.hid conO
      obtain ⟨r, hr⟩ := hv_ne (n := n3) (t := t2) (R := R2) hg2 ho
      have hmv := hv_in hg2 (hd_mem hr)
      have hbg := behind_good hg2 hmv
      have conC := fun W (hb : Below wr.heap.size wr W) => c_choicesH n3 AF2 cF2 F2 AS2 cS2 S2 AR2 cR2 R2 t2 u2 W (rg.keep hb).now.1 (rg.keep hb).now.2.1 (rg.keep hb).now.2.2 hg2 hz2 (by omega)
      skip
      have conB := fun W (rF : RdT W AF2 F2) (rS : RdT W AS2 S2) (rR : RdI W AR2 R2) => c_behind AF2 cF2 F2 AS2 cS2 S2 AR2 cR2 R2 t2 u2 (hdM (hvC n3 F2 S2 R2 t2 u2)) W rF rS rR hg2 hmv
      generalize hvC n3 F2 S2 R2 t2 u2 = C at *
      generalize hdM C = m at *
      subst hr
      have hbz : sizG (behF F2 t2 m) (behS S2 t2 m) (behU u2 m) < n3 := by omega
      have hbg1 := hbg.1
      generalize behF F2 t2 m = F3 at *
      generalize behS S2 t2 m = S3 at *
      generalize behR R2 m = R3 at *
      generalize 1 - t2 = t3 at *
      generalize behU u2 m = u3 at *
      have hLl : L.length + 1 ≤ T.length := by rw [← hL]; simp
      have HL := Lib.hid hL
      have ConC := Lib.hid conC
      have ConB := Lib.hid conB
      have Hg := Lib.hid hbg1
      have Hz := Lib.hid hbz
      clear hL conC conB hbg hbg1 hbz hmv hg2 hz2 conO ho
      go_wp2_with fail
      refine (ConO.out _).mono ?_
      rintro e w1 ⟨rfl, h1⟩
      have ba1 := ba.keep h1
      have p1 := keepc h1 p5
      have rg1 := rg.keep h1
      have o1 := own_keep hown h1
      have hb1 := bstep hb h1
      clear x0 x1 x2 x3 x4 p5 rg hown hb ConO ba
      have x0 := ba1.c0
      have x1 := ba1.c1
      have x2 := ba1.c2
      have x3 := ba1.c3
      have x4 := ba1.c4
      go_wp2_with fail
      refine (ConC.out w1 h1).mono ?_
      rintro e w2 ⟨A2, c2, rfl, o2, h2⟩
      have r2 := RdE.of_own encI_len o2
      obtain ⟨bm, om, rfl, hbm, hcm⟩ := r2.at_ (k := 0) (by simp)
      have g0 : w2.cell? ⟨bm, om, none⟩ = some (.int .i64 m.1) := by have := hcm 0 (by simp) 0 _ rfl; simpa using this
      have g1 : w2.cell? ⟨bm, om + 1, none⟩ = some (.int .i64 m.2.1) := by have := hcm 0 (by simp) 1 _ rfl; simpa using this
      have g2 : w2.cell? ⟨bm, om + 2, none⟩ = some (.string (endS m.2.2)) := by have := hcm 0 (by simp) 2 _ rfl; simpa using this
      have ba2 := ba1.keep h2
      have p2 := keepc h2 p1
      have rg2 := rg1.keep h2
      have hN2 := fun g hg => (o1.lt g hg).2
      have s2 := h2.size
      have ow2 := own_keep o1 h2
      have hb2 := bstep hb1 h2
      clear x0 x1 x2 x3 x4 p1 rg1 hb1 ConC ba1 hcm o2 r2 o1
      go_upto_region 4 with (fail)
      obtain ⟨w3, hw3⟩ : ∃ w3, w3 = w2.alloc (.cells #[.int .i64 m.1, .int .i64 m.2.1, .string (endS m.2.2)] 64) := ⟨_, rfl⟩
      rw [← hw3]
      have q0 : w3.cell? ⟨w2.heap.size, 0, none⟩ = some (.int .i64 m.1) := by rw [hw3]; simp
      have q1 : w3.cell? ⟨w2.heap.size, 1, none⟩ = some (.int .i64 m.2.1) := by rw [hw3]; simp
      have q2 : w3.cell? ⟨w2.heap.size, 2, none⟩ = some (.string (endS m.2.2)) := by rw [hw3]; simp
      have h3 : Below w2.heap.size w2 w3 := by rw [hw3]; exact (Below.refl _ _).alloc (Nat.le_refl _) _
      have s3 : w2.heap.size < w3.heap.size := by rw [hw3]; simp
      clear hw3
      have ba3 := ba2.keep h3
      have p3 := keepc h3 p2
      have rg3 := rg2.keep h3
      have HO3 := Lib.hid (own_keep ow2 h3)
      have HB3 := Lib.hid (bstep hb2 h3)
      have hl3 := ba3.lt
      have hs3 := HB3.out.size
      clear ba2 p2 rg2 ow2 hb2 g0 g1 g2 h3
      go_upto_region 5 with (first | (at_builtin; refine wp_append_M rfl _ _ rfl (w.heap.size + 1) _ L rfl (own_keep HO3.out ((Below.refl _ _).alloc (Nat.le_refl _) _)) m w3.heap.size rfl (by simp) (by simp) (by simp) (by omega) (by (try simp); omega) ?_; intro A6 c6 w6 o6 gr6 h6))
      have bA : Below w3.heap.size w3 (w3.alloc (.cells #[.int .i64 m.1, .int .i64 m.2.1, .string (endS m.2.2)] 64)) := (Below.refl _ _).alloc (Nat.le_refl _) _
      have hb6 := Below.grown (HB3.out.alloc hs3 _) gr6 (by simp; omega) (fun g hg => by have := (HO3.out.lt g hg).1; omega)
      have e6 := gr6.block w.heap.size (by simp; omega) (fun e => by have := (HO3.out.lt _ e.symm).1; omega)
      have e7 := gr6.block w2.heap.size (by simp; omega) (fun e => by have := hN2 _ e.symm; omega)
      have ba6 := (ba3.more _).of_block e6
      have p6 := (World.cell?_of_block (a := ⟨w.heap.size, 5, none⟩) e6).trans (keepc bA p3)
      have q60 := (World.cell?_of_block (a := ⟨w2.heap.size, 0, none⟩) e7).trans (keepc bA q0)
      have q61 := (World.cell?_of_block (a := ⟨w2.heap.size, 1, none⟩) e7).trans (keepc bA q1)
      have q62 := (World.cell?_of_block (a := ⟨w2.heap.size, 2, none⟩) e7).trans (keepc bA q2)
      have rg6 : RdG w6 (fun g => g = w.heap.size ∨ (Value.slice A6 (L ++ [m]).length c6).ownBlock = some g) AF2 F2 AS2 S2 AR2 R2 := RdG.grown (rg3.keep bA) gr6 (fun g h => .inr h) (fun g h => by
        rcases h with h | h
        · exact .inl (.inl h)
        · rcases h6 with h7 | h7
          · exact .inl (.inr (h7 ▸ h))
          · rw [h7] at h; exact .inr (Nat.le_of_eq (Option.some.inj h)))
      have hl6 := ba6.lt
      have HO6 := Lib.hid o6
      have rr := rg6.now
      clear ba3 p3 rg3 HO3 q0 q1 q2 e6 e7 gr6 h6 o6 bA rg6
      have x0 := ba6.c0
      have x1 := ba6.c1
      have x2 := ba6.c2
      have x3 := ba6.c3
      have x4 := ba6.c4
      go_wp2_with fail
      refine (ConB.out w6 rr.1 rr.2.1 rr.2.2).mono ?_
      rintro e w7 ⟨A3, c3, A4, c4, A5, c5, rfl, o7, h7⟩
      have ba7 := ba6.keep h7
      have p7 := keepc h7 p6
      have rg7 : RdG w7 (fun g => g = w.heap.size ∨ (Value.slice A6 (L ++ [m]).length c6).ownBlock = some g) A3 F3 A4 S3 A5 R3 := RdG.own o7 (fun g h => by
        rcases h with h | h
        · omega
        · exact (HO6.out.lt g h).2)
      have HO7 := Lib.hid (own_keep HO6.out h7)
      have HB7 := Lib.hid (bstep hb6 h7)
      have Rg7 := Lib.hid rg7
      have hl7 := ba7.lt
      clear x0 x1 x2 x3 x4 rg7 o7 ba6 p6 q60 q61 q62 hb6 HO6 rr
      have x0 := ba7.c0
      have x1 := ba7.c1
      have x2 := ba7.c2
      have x3 := ba7.c3
      have x4 := ba7.c4
      have z0 := ba7.fz 0
      have z1 := ba7.fz 1
      have z2 := ba7.fz 2
      have z3 := ba7.fz 3
      have z4 := ba7.fz 4
      have z5 := ba7.fz 5
      go_wp2
      go_roundw
      case rel =>
        refine ⟨n3, A3, c3, F3, A4, c4, S3, A5, c5, R3, t3, u3, L ++ [m], A6, c6, by first | rfl | simp, by rw [← HL.out]; simp, Hg.out, Hz.out, by omega, ((((ba7.set0 _).set1 _).set2 _).set3 _).set4 _, samG (by omega) (samG (by omega) (samG (by omega) (samG (by omega) (samG (by omega) p7)))), ((((Rg7.out.set (.inl rfl)).set (.inl rfl)).set (.inl rfl)).set (.inl rfl)).set (.inl rfl), own_box (own_box (own_box (own_box (own_box HO7.out (by omega)) (by omega)) (by omega)) (by omega)) (by omega), below_box (below_box (below_box (below_box (below_box HB7.out (by omega)) (by omega)) (by omega)) (by omega)) (by omega)⟩
      case measure => simp [lenV]; omega
    · rw [lineN_over hvC n2 R2 t2 ho, List.append_nil] at hL
      simp only [ho] at conO
      have ConO := Lib.hid conO
      subst hL
      have Ho := Lib.hid hown
      have Hb := Lib.hid hb
      clear conO rg hown hb ho
      go_wp2_with fail
      refine (ConO.out _).mono ?_
      rintro e w1 ⟨rfl, h1⟩
      have Ho1 := Lib.hid (own_base (own_keep Ho.out h1) (Nat.le_succ _))
      have Hb1 := Lib.hid (bstep Hb.out h1)
      go_wp2
      go_ret
      exact ⟨A', c', rfl, Ho1.out, Hb1.out⟩

set_option maxRecDepth 100000 in
set_option maxHeartbeats 4000000 in
theorem c_askHeavy (AF : Option Addr) (cF : Nat) (F : List (Int × Int)) (AS : Option Addr) (cS : Nat) (S : List (Int × Int)) (AR : Option Addr) (cR : Nat) (R : List Int) (t u : Int) (w : World) (hF : RdT w AF F) (hS : RdT w AS S) (hR : RdI w AR R) (hg : gameB F S R t u = true) (hz : sizG F S u < 400) :
    Calls Tryz.prog 56 #[.agg #[.slice AF F.length cF, .slice AS S.length cS, .slice AR R.length cR, .int .i64 t, .int .i64 u], .iface 75 (.agg #[]), .func (.func 57) #[] #[]] w (RetSt w (hlT F S R t u)) := by
  have ConC := Lib.hid (fun W (hb : Below w.heap.size w W) => c_lineHeavy 400 AF cF F AS cS S AR cR R t u W (hF.below hb) (hS.below hb) (hR.below hb) hg hz (by omega))
  have ml := lineN_len hvC 400 F S R t u
  have conX := Lib.hid (fun A c W hr => c_textsOf A c (lineN hvC 400 F S R t u) W hr (by omega) (line_numH hg hz))
  unfold hlT
  generalize lineN hvC 400 F S R t u = M at *
  generalize hX : M.map mvTx = X at *
  clear hg hF hS hR hX hz
  go_enter Tryz.func56, Tryz.ntmps56
  go_wp2_with fail
  obtain ⟨w0, hw0⟩ : ∃ w0, w0 = w.alloc (.cells #[.slice AF F.length cF, .slice AS S.length cS, .slice AR R.length cR, .int .i64 t, .int .i64 u] 32) := ⟨_, rfl⟩
  rw [← hw0]
  have ba0 : BoxAt w0 w.heap.size (.slice AF F.length cF) (.slice AS S.length cS) (.slice AR R.length cR) (.int .i64 t) (.int .i64 u) := by rw [hw0]; exact BoxAt.fresh w _ _ _ _ _ _
  have hb0 : Below w.heap.size w w0 := by rw [hw0]; go_grown
  clear hw0
  have x0 := ba0.c0
  have x1 := ba0.c1
  have x2 := ba0.c2
  have x3 := ba0.c3
  have x4 := ba0.c4
  go_wp2_with (go_at_call 57; refine (ConC.out w0 hb0).mono ?_; rintro e w2 ⟨A2, c2, rfl, o2, h2⟩; have hb2 := bstep hb0 h2; have r2 := RdE.of_own encI_len o2; clear o2; go_wp2_with fail; refine (conX.out A2 c2 w2 r2).mono ?_; rintro e w3 ⟨A3, c3, rfl, o3, h3⟩; have Ho := Lib.hid (own_base o3 hb2.size); have Hl := Lib.hid (bstep hb2 h3); clear o3)
  go_ret
  exact ⟨A3, c3, rfl, Ho.out, Hl.out⟩

set_option maxRecDepth 100000 in
set_option maxHeartbeats 4000000 in
theorem c_implHeavyLine (AF : Option Addr) (cF : Nat) (F : List (Int × Int)) (AS : Option Addr) (cS : Nat) (S : List (Int × Int)) (AR : Option Addr) (cR : Nat) (R : List Int) (t u : Int) (w : World) (hF : RdT w AF F) (hS : RdT w AS S) (hR : RdI w AR R) (lFS : F.length + S.length ≤ 1048576) (lR : R.length ≤ 1048576) :
    Calls Tryz.prog 26 #[.agg #[.slice AF F.length cF, .slice AS S.length cS, .slice AR R.length cR, .int .i64 t, .int .i64 u]] w (RetStB w (selW (gameB F S R t u) (hlT F S R t u)) (gameB F S R t u)) := by
  have conG := fun W (hb : Below w.heap.size w W) => c_implIsGame AF cF F AS cS S AR cR R t u W (hF.below hb) (hS.below hb) (hR.below hb) lFS lR
  cases hg : gameB F S R t u
  · simp only [hg] at conG
    have Con := Lib.hid conG
    clear conG hg hF hS hR
    go_enter Tryz.func26, Tryz.ntmps26
    go_wp2_with fail
    refine (Con.out _ ((Below.refl _ _).alloc (Nat.le_refl _) _)).mono ?_
    rintro e w1 ⟨rfl, h1⟩
    go_wp2
    go_ret2
    exact ⟨none, 0, rfl, World.ownsRow_nil _ _ _ _, bstep ((Below.refl _ _).alloc (Nat.le_refl _) _) h1⟩
  · simp only [hg] at conG
    have Con := Lib.hid conG
    obtain ⟨hG, hz⟩ := game_siz2 hg
    have conA := Lib.hid (fun W (hb : Below w.heap.size w W) => c_askHeavy AF cF F AS cS S AR cR R t u W (hF.below hb) (hS.below hb) (hR.below hb) hG hz)
    show Calls _ _ _ _ (RetStB w (hlT F S R t u) true)
    generalize hlT F S R t u = X at *
    clear conG hg hF hS hR hG hz
    go_enter Tryz.func26, Tryz.ntmps26
    go_wp2_with fail
    obtain ⟨w0, hw0⟩ : ∃ w0, w0 = w.alloc (.cells #[.slice AF F.length cF, .slice AS S.length cS, .slice AR R.length cR, .int .i64 t, .int .i64 u] 32) := ⟨_, rfl⟩
    rw [← hw0]
    have ba0 : BoxAt w0 w.heap.size (.slice AF F.length cF) (.slice AS S.length cS) (.slice AR R.length cR) (.int .i64 t) (.int .i64 u) := by rw [hw0]; exact BoxAt.fresh w _ _ _ _ _ _
    have hb0 : Below w.heap.size w w0 := by rw [hw0]; go_grown
    clear hw0
    refine (Con.out w0 hb0).mono ?_
    rintro e w1 ⟨rfl, h1⟩
    have hb1 := bstep hb0 h1
    have ba1 := ba0.keep h1
    clear ba0
    have x0 := ba1.c0
    have x1 := ba1.c1
    have x2 := ba1.c2
    have x3 := ba1.c3
    have x4 := ba1.c4
    go_wp2_with fail
    refine (conA.out w1 hb1).mono ?_
    rintro e w2 ⟨A2, c2, rfl, o2, h2⟩
    have Ho := Lib.hid (own_base o2 hb1.size)
    have Hl := Lib.hid (bstep hb1 h2)
    clear conA o2
    go_wp2
    go_ret2
    exact ⟨A2, c2, rfl, Ho.out, Hl.out⟩

end Go.Proofs.YtgjdpiooocpmhabGreatDoor

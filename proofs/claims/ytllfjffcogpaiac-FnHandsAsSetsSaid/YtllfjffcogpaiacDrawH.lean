/- Hands that the specification draws. -/
import Derived.Test.YtllfjffcogpaiacDraw
namespace Go.Proofs.Ytllfjffcogpaiac
open Go.RowKit
set_option linter.unusedVariables false

theorem Cur.codeLt {w : World} {g n c t : Nat} {A : Option Addr} (h : Cur w g A n c t) : 0 < n → ∀ a, A = some a → a.block < w.heap.size := fun h0 a ha => by
  obtain ⟨b, off, h1, h2⟩ := h.bytes
  have h3 := h1 h0
  rw [ha] at h3
  injection h3 with h3
  subst h3
  obtain ⟨x, hx, _⟩ := h2 0 h0
  exact block_lt hx
/-- The cursor stays where another block is written. -/
theorem Cur.away {w w' : World} {g n c t B : Nat} {A : Option Addr} {row : Option Nat} (h : Cur w g A n c t) (hg : w.grownBy w' row) (hr : ∀ b, row = some b → B ≤ b) (hgB : g < B) (hA : 0 < n → ∀ a, A = some a → a.block < B) : Cur w' g A n c t := by
  have hne : some g ≠ row := fun e => by have := hr g e.symm; omega
  obtain ⟨s, hs⟩ := h.seed
  refine ⟨hg.cell h.code hne, hg.cell h.place hne, ⟨s, hg.cell hs hne⟩, fun m => (World.frozen?_of_block (hg.block g (block_lt h.code) hne)).trans (h.live m), ?_, h.apart⟩
  obtain ⟨b, off, h1, h2⟩ := h.bytes
  refine ⟨b, off, h1, fun k hk => ?_⟩
  obtain ⟨x, hx, h3⟩ := h2 k hk
  refine ⟨x, hg.cell hx (fun e => ?_), h3⟩
  have := hr b e.symm
  have := hA (by omega) _ (h1 (by omega))
  simp only at this
  omega
theorem g_app {a w w' : World} {g : Option Nat} {row : Option Nat} (h : a.grownBy w g) (hg : w.grownBy w' row) (hr : ∀ b, row = some b → a.heap.size ≤ b) : a.grownBy w' g :=
  ⟨hg.os.trans h.os, hg.tape.trans h.tape, hg.output.trans h.output, Nat.le_trans h.size hg.size, fun k hk hne => (hg.block k (Nat.lt_of_lt_of_le hk h.size) (fun e => by have := hr k e.symm; omega)).trans (h.block k hk hne)⟩

/-- A hand drawn: a new slice, the cursor some places on. -/
def DrawH (w : World) (g : Nat) (A : Option Addr) (n c tm L : Nat) (e : Ending) (w' : World) : Prop :=
  ∃ (A' : Option Addr) (c' : Nat) (ts : List (Int × Int)) (t' : Nat), e = .returned (.slice A' ts.length c') ∧ w'.ownsRow w.heap.size 35 2 (.slice A' ts.length c') ts.length (cellsT ts) ∧ ts.length ≤ L ∧ Cur w' g A n c t' ∧ t' ≤ tm ∧ w.grownBy w' (some g)

set_option maxRecDepth 100000 in
set_option maxHeartbeats 2000000 in
theorem c_sureHand (M : Nat) (q : Int) (hM1 : 1 ≤ M) (hM : M ≤ 100) (hq1 : 1 ≤ q) (hq : q ≤ 100) (g n c t : Nat) (A : Option Addr) (w : World) (h : Cur w g A n c t) (ht : t ≤ 800000) (hn : n ≤ 1048576) :
    Calls Try.prog 42 #[.pointer (some ⟨g, 0, none⟩), .int .i64 (M : Int), .int .i64 q] w (DrawH w g A n c (t + 1 + 2 * M) M) := by
  have hgw : g < w.heap.size := block_lt h.code
  have hcl := Lib.hid h.codeLt
  have iw1 : IntKind.i64.wrap ((M : Int) + 1) = (M : Int) + 1 := IntWalk.i64_in _ (by omega)
  have iw2 : IntKind.i64.wrap (q + 1) = q + 1 := IntWalk.i64_in _ (by omega)
  have con := Lib.hid (c_pick ((M : Int) + 1) (by omega) (by omega) g n c t A w h (by omega) hn)
  clear h
  go_enter Try.func42, Try.ntmps42
  go_wp2_with (go_at_call 43; refine con.out.mono ?_; rintro e w1 ⟨r, rfl, ⟨hr0, hr1⟩, hcur1, hg1⟩)
  obtain ⟨j0, rfl⟩ : ∃ j0 : Nat, r = j0 := ⟨r.toNat, by omega⟩
  clear con
  go_loopw [7, 8] (fun v i wr => ∃ (j : Nat) (A' : Option Addr) (c' : Nat) (ts : List (Int × Int)) (t' : Nat), i = .int .i64 j ∧ v = .slice A' ts.length c' ∧ wr.ownsRow w.heap.size 35 2 (.slice A' ts.length c') ts.length (cellsT ts) ∧ ts.length + j ≤ M ∧ Cur wr g A n c t' ∧ t' + 2 * j ≤ t + 1 + 2 * M ∧ w.grownBy wr (some g)) (fun _ i _ => (intOf i).toNat)
  case atStart => exact ⟨j0, none, 0, [], t + 1, rfl, rfl, World.ownsRow_nil _ _ _ _, by simp; omega, hcur1, by omega, hg1⟩
  case round =>
    obtain ⟨j, A', c', ts, t', rfl, rfl, hown, hlen, hcur, htt, hg⟩ := hrel
    clear hcur1 hg1
    have hsz := hg.size
    by_cases hj : 0 < j
    · have hj' : (0 : Int) < (j : Int) := by omega
      have iw3 : IntKind.i64.wrap ((j : Int) - 1) = (j : Int) - 1 := IntWalk.i64_in _ (by omega)
      have con := Lib.hid (c_pick (q + 1) (by omega) (by omega) g n c t' A wr hcur (by omega) hn)
      have Hown := Lib.hid hown
      have Hg := Lib.hid hg
      clear hcur hown hg
      go_wp2_with fail
      refine con.out.mono ?_
      rintro e w2 ⟨r1, rfl, ⟨ha0, ha1⟩, hcur2, hg2⟩
      have con2 := Lib.hid (c_pick (q + 1) (by omega) (by omega) g n c (t' + 1) A w2 hcur2 (by omega) hn)
      clear hcur2 con
      go_wp2_with fail
      refine con2.out.mono ?_
      rintro e w3 ⟨r2, rfl, ⟨hb0, hb1⟩, hcur3, hg3⟩
      clear con2
      go_wp2_with fail
      refine (c_tiOf r1 r2 _).mono ?_
      rintro e w4 ⟨rfl, hb4⟩
      obtain ⟨lo, hlo⟩ : ∃ lo, lo = min r1 r2 := ⟨_, rfl⟩
      obtain ⟨hi, hhi⟩ : ∃ hi, hi = max r1 r2 := ⟨_, rfl⟩
      rw [← hlo, ← hhi]
      have hgr : wr.grownBy w3 (some g) := g_trans hg2 hg3
      have hrow : ∀ b, (Value.slice A' ts.length c').ownBlock = some b → b ≠ g := fun b hb => by have := (Hown.out.lt b hb).1; omega
      have ho3 : w3.ownsRow w.heap.size 35 2 (.slice A' ts.length c') ts.length (cellsT ts) := Hown.out.kept hgr (by
        cases hb : (Value.slice A' ts.length c').ownBlock with
        | none => exact .inl rfl
        | some b => exact .inr (fun e => hrow b hb (by injection e)))
      have ho4 := own_keep ho3 hb4
      have hG4 : w.grownBy w4 (some g) := g_trans (g_trans Hg.out hgr) (g_below hb4)
      have hc4 := hcur3.below hb4
      have ho5 := ho4.alloc (.cells #[.int .i64 lo, .int .i64 hi] 35)
      have hba : Below w4.heap.size w4 (w4.alloc (.cells #[.int .i64 lo, .int .i64 hi] 35)) := (Below.refl _ _).alloc (Nat.le_refl _) _
      have hc5 := hc4.below hba
      have x0 : (w4.alloc (.cells #[.int .i64 lo, .int .i64 hi] 35)).cell? ⟨w4.heap.size, 0, none⟩ = some (.int .i64 lo) := by simp
      have x1 : (w4.alloc (.cells #[.int .i64 lo, .int .i64 hi] 35)).cell? ⟨w4.heap.size, 1, none⟩ = some (.int .i64 hi) := by simp
      have hs4 : w.heap.size ≤ w4.heap.size := hG4.size
      have conT := c_tiPlace A' c' ts lo hi _ (RdT.of_own ho5) (by omega)
      have Ho5 := Lib.hid ho5
      have Hc5 := Lib.hid hc5
      have HG5 := Lib.hid (g_trans hG4 (g_below hba))
      have ConT := Lib.hid conT
      clear hcur3 hg2 hg3 hb4 hgr ho3 ho4 ho5 hc4 hc5 hG4 hba conT hlo hhi hrow Hown Hg
      by_cases hp : placeI ts (lo, hi) < 0
      · go_wp2_with (first | (go_at_call 49; refine ConT.out.mono ?_; rintro e w6 ⟨rfl, hb6⟩; have y0 := keepc hb6 x0; have y1 := keepc hb6 x1; have hz6 := hb6.size; rw [World.size_alloc] at hz6; have Ho6 := Lib.hid ((own_keep Ho5.out hb6).alloc (.cells #[.int .i64 lo, .int .i64 hi] 35))) | (at_builtin; refine wp_append_tile rfl _ _ rfl w.heap.size _ ts rfl Ho6.out lo hi w6.heap.size rfl (by simp) (by simp) (by omega) (by simp; omega) ?_; intro A2 c2 w7 hown7 hg7))
        go_roundw
        case rel =>
          refine ⟨j - 1, A2, c2, ts ++ [(lo, hi)], t' + 1 + 1, ?_, by rw [List.length_append]; rfl, by rw [List.length_append]; exact hown7, by simp; omega, ?_, by omega, ?_⟩
          · rw [show ((j - 1 : Nat) : Int) = (j : Int) - 1 from by omega]
          · exact ((Hc5.out.below hb6).below ((Below.refl _ _).alloc (Nat.le_refl _) _)).away hg7 (fun b hb => (Ho6.out.lt b hb).1) hgw hcl.out
          · exact g_app (g_trans HG5.out (g_below (hb6.trans ((Below.refl w6.heap.size w6).alloc (Nat.le_refl _) _ |>.mono hb6.size)))) hg7 (fun b hb => (Ho6.out.lt b hb).1)
        case measure => simp [intOf]; omega
      · go_wp2_with (first | (go_at_call 49; refine ConT.out.mono ?_; rintro e w6 ⟨rfl, hb6⟩))
        go_roundw
        case rel =>
          refine ⟨j - 1, A', c', ts, t' + 1 + 1, ?_, rfl, own_keep Ho5.out hb6, by omega, Hc5.out.below hb6, by omega, g_trans HG5.out (g_below hb6)⟩
          rw [show ((j - 1 : Nat) : Int) = (j : Int) - 1 from by omega]
        case measure => simp [intOf]; omega
    · have : j = 0 := by omega
      subst this
      go_wp2
      go_ret
      exact ⟨A', c', ts, t', rfl, hown, by omega, hcur, by omega, hg⟩

theorem own_grown {w w' : World} {B e size n g : Nat} {v : Value} {cs : List Value} (h : w.ownsRow B e size v n cs) (hg : w.grownBy w' (some g)) (hgB : g < B) : w'.ownsRow B e size v n cs :=
  h.kept hg (by
    cases hb : v.ownBlock with
    | none => exact .inl rfl
    | some b => exact .inr (fun e => by injection e with e; have := (h.lt b hb).1; omega))

set_option maxRecDepth 100000 in
set_option maxHeartbeats 2000000 in
theorem c_hand (M : Nat) (q : Int) (hM1 : 1 ≤ M) (hM : M ≤ 100) (hq1 : 1 ≤ q) (hq : q ≤ 100) (g n c t : Nat) (A : Option Addr) (w : World) (h : Cur w g A n c t) (ht : t ≤ 700000) (hn : n ≤ 1048576) :
    Calls Try.prog 27 #[.pointer (some ⟨g, 0, none⟩), .int .i64 (M : Int), .int .i64 q] w (DrawH w g A n c (t + 5 + 2 * M) 111) := by
  have hgw : g < w.heap.size := block_lt h.code
  have hcl := Lib.hid h.codeLt
  have con := Lib.hid (c_sureHand M q hM1 hM hq1 hq g n c t A w h (by omega) hn)
  clear h
  go_enter Try.func27, Try.ntmps27
  go_wp2_with fail
  refine con.out.mono ?_
  rintro e w1 ⟨A1, c1, ts, t1, rfl, ho1, hl1, hcur1, ht1, hg1⟩
  have con2 := Lib.hid (c_pick 18 (by omega) (by omega) g n c t1 A w1 hcur1 (by omega) hn)
  clear con hcur1
  go_wp2_with fail
  refine con2.out.mono ?_
  rintro e w2 ⟨r, rfl, ⟨hr0, hr1⟩, hcur2, hg2⟩
  have ho2 := own_grown ho1 hg2 hgw
  have hG2 := g_trans hg1 hg2
  have hs2 : w.heap.size ≤ w2.heap.size := hG2.size
  clear con2 ho1 hg1 hg2
  by_cases e0 : r = 0
  · have q0 : (r == 0) = true := by simp [e0]
    have conT := Lib.hid (c_drawTile g n c (t1 + 1) A w2 hcur2 (by omega) hn)
    have Ho := Lib.hid ho2
    have HG := Lib.hid hG2
    clear e0 hcur2 ho2 hG2
    go_wp2_with fail
    refine conT.out.mono ?_
    rintro e w3 ⟨a, b, rfl, ha, hb, hcur3, hg3⟩
    have Ho3 := Lib.hid ((own_grown Ho.out hg3 hgw).alloc (.cells #[.int .i64 a, .int .i64 b] 35))
    have hs3 : w2.heap.size ≤ w3.heap.size := hg3.size
    have HG3 := Lib.hid (g_trans HG.out hg3)
    have Hc3 := Lib.hid hcur3
    clear hg3 hcur3 conT
    go_wp2_with (at_builtin; refine wp_append_tile rfl _ _ rfl w.heap.size _ ts rfl Ho3.out a b w3.heap.size rfl (by simp) (by simp) (by omega) (by simp; omega) ?_; intro A4 c4 w4 ho4 hg4)
    go_ret
    refine ⟨A4, c4, ts ++ [(a, b)], t1 + 1 + 3, by rw [List.length_append]; rfl, by rw [List.length_append]; exact ho4, ?_, ?_, by omega, ?_⟩
    · simp; omega
    · exact (Hc3.out.below ((Below.refl _ _).alloc (Nat.le_refl _) _)).away hg4 (fun b hb => (Ho3.out.lt b hb).1) hgw hcl.out
    · exact g_app (g_trans HG3.out (g_below ((Below.refl _ _).alloc (Nat.le_refl _) _))) hg4 (fun b hb => (Ho3.out.lt b hb).1)
  · have q0 : (r == 0) = false := by simp [e0]
    by_cases e1 : r = 1
    · have q1 : (r == 1) = true := by simp [e1]
      by_cases hp : 0 < ts.length
      · have hp' : (0 : Int) < (ts.length : Int) := by omega
        have hru := RdT.of_own ho2
        obtain ⟨bk, off, rfl, hbk, hc⟩ := hru.at_ hp
        have g1 := (hc 0 hp).1
        have g2 := (hc 0 hp).2
        rw [Nat.zero_mul, Nat.add_zero] at g1 g2
        have Ho3 := Lib.hid (ho2.alloc (.cells #[.int .i64 ts[0].1, .int .i64 ts[0].2] 35))
        have HG := Lib.hid hG2
        have Hc2 := Lib.hid hcur2
        clear e0 e1 hcur2 ho2 hG2 hc hru
        go_wp2_with (at_builtin; refine wp_append_tile rfl _ _ rfl w.heap.size _ ts rfl Ho3.out ts[0].1 ts[0].2 w2.heap.size rfl (by simp) (by simp) (by omega) (by simp; omega) ?_; intro A4 c4 w4 ho4 hg4)
        go_ret
        refine ⟨A4, c4, ts ++ [ts[0]], t1 + 1, by rw [List.length_append]; rfl, by rw [List.length_append]; exact ho4, ?_, ?_, by omega, ?_⟩
        · simp; omega
        · exact (Hc2.out.below ((Below.refl _ _).alloc (Nat.le_refl _) _)).away hg4 (fun b hb => (Ho3.out.lt b hb).1) hgw hcl.out
        · exact g_app (g_trans HG.out (g_below ((Below.refl _ _).alloc (Nat.le_refl _) _))) hg4 (fun b hb => (Ho3.out.lt b hb).1)
      · have hp' : ¬ (0 : Int) < (ts.length : Int) := by omega
        have Ho := Lib.hid ho2
        clear e0 e1 hp ho2
        go_wp2
        go_ret
        exact ⟨A1, c1, ts, t1 + 1, rfl, Ho.out, by omega, hcur2, by omega, hG2⟩
    · have q1 : (r == 1) = false := by simp [e1]
      by_cases e2 : r = 2
      · have q2 : (r == 2) = true := by simp [e2]
        have conP := Lib.hid (c_pick 10 (by omega) (by omega) g n c (t1 + 1) A w2 hcur2 (by omega) hn)
        clear e0 e1 e2 hcur2 ho2
        go_wp2_with fail
        refine conP.out.mono ?_
        rintro e w3 ⟨r2, rfl, ⟨ha0, ha1⟩, hcur3, hg3⟩
        obtain ⟨m, rfl⟩ : ∃ m : Nat, r2 = m := ⟨r2.toNat, by omega⟩
        have hsl := setL_len (n := m) (by omega)
        go_wp2_with fail
        refine (c_tiSet m (by omega) _).mono ?_
        rintro e w4 ⟨A4, c4, rfl, ho4, hb4⟩
        have hs3 : w2.heap.size ≤ w3.heap.size := hg3.size
        have hcur4 := hcur3.below hb4
        go_wp2
        go_ret
        exact ⟨A4, c4, setL m, t1 + 1 + 1, rfl, own_base ho4 (by omega), by omega, hcur4, by omega, g_trans (g_trans hG2 hg3) (g_below hb4)⟩
      · have q2 : (r == 2) = false := by simp [e2]
        by_cases e3 : r = 3
        · have q3 : (r == 3) = true := by simp [e3]
          have hsl := setL_len (n := 9) (by omega)
          have Hc2 := Lib.hid hcur2
          clear e0 e1 e2 e3 hcur2 ho2
          go_wp2_with fail
          refine (c_tiSet 9 (by omega) _).mono ?_
          rintro e w4 ⟨A4, c4, rfl, ho4, hb4⟩
          have hs4 := hb4.size
          have Hb4 := Lib.hid hb4
          obtain ⟨us, hus⟩ : ∃ us, us = setL 9 := ⟨_, rfl⟩
          rw [← hus] at ho4 hsl ⊢
          have Ho5 := Lib.hid ((own_base ho4 hs2).alloc (.cells #[.int .i64 0, .int .i64 0] 35))
          clear hus ho4 hb4
          go_wp2_with (at_builtin; refine wp_append_tile rfl _ _ rfl w.heap.size _ us rfl Ho5.out 0 0 w4.heap.size rfl (by simp) (by simp) (by omega) (by simp; omega) ?_; intro A6 c6 w6 ho6 hg6)
          go_ret
          refine ⟨A6, c6, us ++ [(0, 0)], t1 + 1, by rw [List.length_append]; rfl, by rw [List.length_append]; exact ho6, ?_, ?_, by omega, ?_⟩
          · simp; omega
          · exact ((Hc2.out.below Hb4.out).below ((Below.refl _ _).alloc (Nat.le_refl _) _)).away hg6 (fun b hb => (Ho5.out.lt b hb).1) hgw hcl.out
          · exact g_app (g_trans (g_trans hG2 (g_below Hb4.out)) (g_below ((Below.refl _ _).alloc (Nat.le_refl _) _))) hg6 (fun b hb => (Ho5.out.lt b hb).1)
        · have q3 : (r == 3) = false := by simp [e3]
          have Ho := Lib.hid ho2
          clear e0 e1 e2 e3 ho2
          go_wp2
          go_ret
          exact ⟨A1, c1, ts, t1 + 1, rfl, Ho.out, by omega, hcur2, by omega, hG2⟩

set_option maxRecDepth 100000 in
set_option maxHeartbeats 1000000 in
theorem c_DrawJoinHands (n c : Nat) (A : Option Addr) (w : World) (h : RdB w A n) (hn : n ≤ 1048576) :
    Calls Try.prog 5 #[.slice A n c] w fun e w' => ∃ (A1 : Option Addr) (c1 : Nat) (ts : List (Int × Int)) (A2 : Option Addr) (c2 : Nat) (us : List (Int × Int)), e = .returned (.tuple #[.slice A1 ts.length c1, .slice A2 us.length c2]) ∧
      w'.ownsRow w.heap.size 35 2 (.slice A1 ts.length c1) ts.length (cellsT ts) ∧ ts.length ≤ 111 ∧ w'.ownsRow w.heap.size 35 2 (.slice A2 us.length c2) us.length (cellsT us) ∧ us.length ≤ 111 ∧ Below w.heap.size w w' := by
  have con := Lib.hid (c_hand 10 4 (by omega) (by omega) (by omega) (by omega) _ n c 0 A _ (cur_new (c := c) h) (by omega) hn)
  have hb1 := Lib.hid ((Below.refl w.heap.size w).alloc (o := .cells #[.slice A n c, .int .i64 0, .int .u64 0] 47) (Nat.le_refl _))
  clear h
  go_enter Try.func5, Try.ntmps5
  go_wp2_with fail
  refine con.out.mono ?_
  rintro e w2 ⟨A1, c1, ts, t1, rfl, ho1, hl1, hcur2, ht1, hg2⟩
  have con2 := Lib.hid (c_hand 10 4 (by omega) (by omega) (by omega) (by omega) _ n c t1 A _ hcur2 (by omega) hn)
  clear con hcur2
  go_wp2_with fail
  refine con2.out.mono ?_
  rintro e w3 ⟨A2, c2, us, t2, rfl, ho2, hl2, hcur3, ht2, hg3⟩
  have hz2 : (w.alloc (.cells #[.slice A n c, .int .i64 0, .int .u64 0] 47)).heap.size ≤ w2.heap.size := hg2.size
  rw [World.size_alloc] at hz2
  have ho1' := own_grown ho1 hg3 (by rw [World.size_alloc]; omega)
  have hG := g_trans hg2 hg3
  clear ho1 con2
  go_wp2
  go_ret2
  refine ⟨A1, c1, ts, A2, c2, us, rfl, own_base ho1' (by rw [World.size_alloc]; omega), hl1, own_base ho2 (by omega), hl2, ?_⟩
  exact hb1.out.trans (below_of_grown hG hb1.out.size (fun g hg => by injection hg with hg; omega))

set_option maxRecDepth 100000 in
set_option maxHeartbeats 1000000 in
theorem c_DrawIsHand (n c : Nat) (A : Option Addr) (w : World) (h : RdB w A n) (hn : n ≤ 1048576) :
    Calls Try.prog 40 #[.slice A n c] w fun e w' => ∃ (A1 : Option Addr) (c1 : Nat) (ts : List (Int × Int)), e = .returned (.slice A1 ts.length c1) ∧ w'.ownsRow w.heap.size 35 2 (.slice A1 ts.length c1) ts.length (cellsT ts) ∧ ts.length ≤ 111 ∧ Below w.heap.size w w' := by
  have con := Lib.hid (c_hand 10 6 (by omega) (by omega) (by omega) (by omega) _ n c 0 A _ (cur_new (c := c) h) (by omega) hn)
  have hb1 := Lib.hid ((Below.refl w.heap.size w).alloc (o := .cells #[.slice A n c, .int .i64 0, .int .u64 0] 47) (Nat.le_refl _))
  clear h
  go_enter Try.func40, Try.ntmps40
  go_wp2_with fail
  refine con.out.mono ?_
  rintro e w2 ⟨A1, c1, ts, t1, rfl, ho1, hl1, hcur2, ht1, hg2⟩
  clear con
  go_wp2
  go_ret
  exact ⟨A1, c1, ts, rfl, own_base ho1 (by rw [World.size_alloc]; omega), hl1, hb1.out.trans (below_of_grown hg2 hb1.out.size (fun g hg => by injection hg with hg; omega))⟩

set_option maxHeartbeats 1000000 in
theorem c_DrawSortHand (n c : Nat) (A : Option Addr) (w : World) (h : RdB w A n) (hn : n ≤ 1048576) :
    Calls Try.prog 23 #[.slice A n c] w fun e w' => ∃ (A1 : Option Addr) (c1 : Nat) (ts : List (Int × Int)), e = .returned (.slice A1 ts.length c1) ∧ w'.ownsRow w.heap.size 35 2 (.slice A1 ts.length c1) ts.length (cellsT ts) ∧ ts.length ≤ 111 ∧ Below w.heap.size w w' := by
  have con := Lib.hid (c_DrawIsHand n c A w h hn)
  clear h
  go_enter Try.func23, Try.ntmps23
  go_wp2_with fail
  refine con.out.mono ?_
  rintro e w2 ⟨A1, c1, ts, rfl, ho1, hl1, hb⟩
  go_wp2
  go_ret
  exact ⟨A1, c1, ts, rfl, ho1, hl1, hb⟩

set_option maxRecDepth 100000 in
set_option maxHeartbeats 1000000 in
theorem c_DrawTimesOf (n c : Nat) (A : Option Addr) (w : World) (h : RdB w A n) (hn : n ≤ 1048576) :
    Calls Try.prog 35 #[.slice A n c] w fun e w' => ∃ (A1 : Option Addr) (c1 : Nat) (ts : List (Int × Int)) (r : Int), e = .returned (.tuple #[.slice A1 ts.length c1, .int .i64 r]) ∧ w'.ownsRow w.heap.size 35 2 (.slice A1 ts.length c1) ts.length (cellsT ts) ∧ ts.length ≤ 111 ∧ bigI r ∧ Below w.heap.size w w' := by
  have con := Lib.hid (c_hand 10 6 (by omega) (by omega) (by omega) (by omega) _ n c 0 A _ (cur_new (c := c) h) (by omega) hn)
  have hb1 := Lib.hid ((Below.refl w.heap.size w).alloc (o := .cells #[.slice A n c, .int .i64 0, .int .u64 0] 47) (Nat.le_refl _))
  clear h
  go_enter Try.func35, Try.ntmps35
  go_wp2_with fail
  refine con.out.mono ?_
  rintro e w2 ⟨A1, c1, ts, t1, rfl, ho1, hl1, hcur2, ht1, hg2⟩
  have con2 := Lib.hid (c_number _ n c t1 A _ hcur2 (by omega) hn)
  clear con hcur2
  go_wp2_with fail
  refine con2.out.mono ?_
  rintro e w3 ⟨r, rfl, hr, hcur3, hg3⟩
  have ho1' := own_grown ho1 hg3 (by rw [World.size_alloc]; omega)
  have hG := g_trans hg2 hg3
  clear ho1 con2
  go_wp2
  go_ret2
  exact ⟨A1, c1, ts, r, rfl, own_base ho1' (by rw [World.size_alloc]; omega), hl1, hr, hb1.out.trans (below_of_grown hG hb1.out.size (fun g hg => by injection hg with hg; omega))⟩

set_option maxHeartbeats 1000000 in
theorem c_DrawMissingFrom (n c : Nat) (A : Option Addr) (w : World) (h : RdB w A n) (hn : n ≤ 1048576) :
    Calls Try.prog 18 #[.slice A n c] w fun e w' => ∃ (A1 : Option Addr) (c1 : Nat) (ts : List (Int × Int)) (r : Int), e = .returned (.tuple #[.slice A1 ts.length c1, .int .i64 r]) ∧ w'.ownsRow w.heap.size 35 2 (.slice A1 ts.length c1) ts.length (cellsT ts) ∧ ts.length ≤ 111 ∧ bigI r ∧ Below w.heap.size w w' := by
  have con := Lib.hid (c_DrawTimesOf n c A w h hn)
  clear h
  go_enter Try.func18, Try.ntmps18
  go_wp2_with fail
  refine con.out.mono ?_
  rintro e w2 ⟨A1, c1, ts, r, rfl, ho1, hl1, hr, hb⟩
  go_wp2
  go_ret2
  exact ⟨A1, c1, ts, r, rfl, ho1, hl1, hr, hb⟩

end Go.Proofs.Ytllfjffcogpaiac

/- What the specification draws: tiles, numbers, ranks. -/
import Derived.Test.YteiiiceajpmndabCur
namespace Go.Proofs.Yteiiiceajpmndab
open Go.RowKit
set_option linter.unusedVariables false

theorem frozen_new' (w : World) (cs : Array Value) (t : TypeId) (m : Nat) : (w.alloc (.cells cs t)).frozen? ⟨w.heap.size, m, none⟩ = false := by
  unfold World.frozen? World.alloc
  simp
/-- A drawn number, of which P holds. -/
def DrawnI (w : World) (P : Int → Prop) (e : Ending) (w' : World) : Prop := ∃ r : Int, e = .returned (.int .i64 r) ∧ P r ∧ Below w.heap.size w w'
def bigI (r : Int) : Prop := -1 ≤ r ∧ r ≤ 4611686018427387904
def DrawnT (w : World) (e : Ending) (w' : World) : Prop := ∃ a b : Int, e = .returned (.agg #[.int .i64 a, .int .i64 b]) ∧ bigI a ∧ bigI b ∧ Below w.heap.size w w'
/-- A new cursor, at the beginning of its bytes. -/
theorem cur_new {w : World} {A : Option Addr} {n c : Nat} (h : RdB w A n) :
    Cur (w.alloc (.cells #[.slice A n c, .int .i64 0, .int .u64 0] 110)) w.heap.size A n c 0 :=
  ⟨by simp, by simp, ⟨0, by simp⟩, fun m => frozen_new' w _ _ m, h.below ((Below.refl _ _).alloc (Nat.le_refl _) _), fun h0 a ha => by
    obtain ⟨b, off, h1, h2⟩ := h
    have h3 := h1 h0
    rw [ha] at h3
    injection h3 with h3
    subst h3
    obtain ⟨x, hx, _⟩ := h2 0 h0
    exact Nat.ne_of_lt (block_lt hx)⟩
theorem cur_set2 {w : World} {g n c t k : Nat} {A : Option Addr} (h : Cur w g A n c t) (hk : k ≠ g) (u v : Value) (hb : RdB ((w.setCell ⟨k, 0, none⟩ u).setCell ⟨k, 1, none⟩ v) A n) :
    Cur ((w.setCell ⟨k, 0, none⟩ u).setCell ⟨k, 1, none⟩ v) g A n c t := by
  have e : ∀ o, ((w.setCell ⟨k, 0, none⟩ u).setCell ⟨k, 1, none⟩ v).cell? ⟨g, o, none⟩ = w.cell? ⟨g, o, none⟩ := fun o => by
    rw [World.cell?_setCell_other _ _ _ _ (fun e => hk (by injection e)), World.cell?_setCell_other _ _ _ _ (fun e => hk (by injection e))]
  obtain ⟨s, hs⟩ := h.seed
  exact ⟨(e 0).trans h.code, (e 1).trans h.place, ⟨s, (e 2).trans hs⟩, fun m => by rw [World.frozen?_setCell, World.frozen?_setCell]; exact h.live m, hb, h.apart⟩
theorem g_set2 {a w : World} {r : Option Nat} (h : a.grownBy w r) (k : Nat) (hk : a.heap.size ≤ k) (u v : Value) : a.grownBy ((w.setCell ⟨k, 0, none⟩ u).setCell ⟨k, 1, none⟩ v) r :=
  ⟨h.os, h.tape, h.output, by simpa [World.setCell] using h.size, fun j hj hne => (Below.heap_setCell _ ⟨k, 1, none⟩ v j (fun e => by simp only at e; omega)).trans ((Below.heap_setCell w ⟨k, 0, none⟩ u j (fun e => by simp only at e; omega)).trans (h.block j hj hne))⟩

/-- .. and a tile. -/
def DrawT (w : World) (g : Nat) (A : Option Addr) (n c t : Nat) (e : Ending) (w' : World) : Prop := ∃ a b : Int, e = .returned (.agg #[.int .i64 a, .int .i64 b]) ∧ bigI a ∧ bigI b ∧ Cur w' g A n c t ∧ w.grownBy w' (some g)

set_option maxRecDepth 100000 in
set_option maxHeartbeats 1000000 in
theorem c_drawTile (g n c t : Nat) (A : Option Addr) (w : World) (h : Cur w g A n c t) (ht : t ≤ 900000) (hn : n ≤ 1048576) :
    Calls Try.prog 170 #[.pointer (some ⟨g, 0, none⟩)] w (DrawT w g A n c (t + 3)) := by
  have hg0 : g < w.heap.size := block_lt h.code
  have hcur0 := h.below ((Below.refl _ w).alloc (o := .cells #[.int .i64 0, .int .i64 0] 46) (Nat.le_refl _))
  have con := Lib.hid (c_one 10 (by omega) (by omega) g n c t A _ hcur0 (by omega) hn)
  have x0 : (w.alloc (.cells #[.int .i64 0, .int .i64 0] 46)).cell? ⟨w.heap.size, 0, none⟩ = some (.int .i64 0) := by simp
  have x1 : (w.alloc (.cells #[.int .i64 0, .int .i64 0] 46)).cell? ⟨w.heap.size, 1, none⟩ = some (.int .i64 0) := by simp
  have xf := frozen_new' w #[.int .i64 0, .int .i64 0] 46
  have hwa : w.grownBy (w.alloc (.cells #[.int .i64 0, .int .i64 0] 46)) (some g) := g_below ((Below.refl _ _).alloc (Nat.le_refl _) _)
  have hsw : w.heap.size < (w.alloc (.cells #[.int .i64 0, .int .i64 0] 46)).heap.size := by simp
  have hbytes := Lib.hid (And.intro h.bytes h.apart)
  have hne : w.heap.size ≠ g := by omega
  clear h hcur0
  go_enter Try.func170, Try.ntmps170
  go_wp2_with (first | (go_at_call 153; refine con.out.mono ?_; rintro e w1 ⟨b, rfl, hcur, hg⟩; have Hcur := Lib.hid hcur; clear hcur) | fail)
  · refine (c_among _ 4 [-1, 3, 9, 10] g n c (t + 1) A _ (lit4 w1 (-1) 3 9 10 g (block_lt Hcur.out.code)).1 (by simp) (by simp) (lit4 w1 (-1) 3 9 10 g (block_lt Hcur.out.code)).2 (Hcur.out.below ((Below.refl _ _).alloc (Nat.le_refl _) _)) (by omega) hn).mono ?_
    rintro e w2 ⟨r, rfl, hr, hcur2, hg2⟩
    have Hcur2 := Lib.hid hcur2
    clear hcur2
    go_wp2_with fail
    refine (c_among _ 4 [2, 9, 10, 4611686018427387904] g n c (t + 2) A _ (lit4 w2 2 9 10 4611686018427387904 g (block_lt Hcur2.out.code)).1 (by simp) (by simp) (lit4 w2 2 9 10 4611686018427387904 g (block_lt Hcur2.out.code)).2 (Hcur2.out.below ((Below.refl _ _).alloc (Nat.le_refl _) _)) (by omega) hn).mono ?_
    rintro e w3 ⟨r', rfl, hr', hcur3, hg3⟩
    have Hcur3 := Lib.hid hcur3
    have H := g_trans hg (g_trans (g_below ((Below.refl _ w1).alloc (o := .cells #[.int .i64 (-1), .int .i64 3, .int .i64 9, .int .i64 10] 3) (Nat.le_refl _))) (g_trans hg2 (g_trans (g_below ((Below.refl _ w2).alloc (o := .cells #[.int .i64 2, .int .i64 9, .int .i64 10, .int .i64 4611686018427387904] 3) (Nat.le_refl _))) hg3)))
    have y0 := H.cell x0 (fun e => hne (by injection e))
    have y1 := H.cell x1 (fun e => hne (by injection e))
    have hf : ∀ m, w3.frozen? ⟨w.heap.size, m, none⟩ = false := fun m => (World.frozen?_of_block (H.block w.heap.size hsw (fun e => hne (by injection e)))).trans (xf m)
    have f0 := hf 0
    have f1 := hf 1
    have HG := Lib.hid (g_trans hwa H)
    clear hcur3 H hf x0 x1 xf hg hg2 hg3
    go_wp2
    refine bodyPost_ret (v := .agg #[.int .i64 r, .int .i64 r']) (by simp [results, Try.results170, go_sem, y0, y1]) rfl ⟨r, r', rfl, ?_, ?_, ?_, ?_⟩
    · simp at hr; unfold bigI; omega
    · simp at hr'; unfold bigI; omega
    · have hG2 := g_set2 HG.out w.heap.size (Nat.le_refl _) (.int .i64 r) (.int .i64 r')
      exact cur_set2 Hcur3.out hne _ _ (hbytes.out.1.grown hG2 hbytes.out.2)
    · exact g_set2 HG.out w.heap.size (Nat.le_refl _) _ _
  · refine (c_pick 10 (by omega) (by omega) g n c (t + 1) A _ Hcur.out (by omega) hn).mono ?_
    rintro e w2 ⟨r, rfl, ⟨hr0, hr1⟩, hcur2, hg2⟩
    have Hcur2 := Lib.hid hcur2
    clear hcur2
    go_wp2_with fail
    refine (c_pick 10 (by omega) (by omega) g n c (t + 2) A _ Hcur2.out (by omega) hn).mono ?_
    rintro e w3 ⟨r', rfl, ⟨hr2, hr3⟩, hcur3, hg3⟩
    go_wp2_with fail
    refine (c_tiOf _ _ _).mono ?_
    rintro e w4 ⟨rfl, hb4⟩
    have Hcur4 := Lib.hid (hcur3.below hb4)
    have H := g_trans hg (g_trans hg2 (g_trans hg3 (g_below hb4)))
    have y0 := H.cell x0 (fun e => hne (by injection e))
    have y1 := H.cell x1 (fun e => hne (by injection e))
    have hf : ∀ m, w4.frozen? ⟨w.heap.size, m, none⟩ = false := fun m => (World.frozen?_of_block (H.block w.heap.size hsw (fun e => hne (by injection e)))).trans (xf m)
    have f0 := hf 0
    have f1 := hf 1
    have HG := Lib.hid (g_trans hwa H)
    clear hcur3 H hf x0 x1 xf hg hg2 hg3 hb4
    go_wp2
    refine bodyPost_ret (v := .agg #[.int .i64 (min r r'), .int .i64 (max r r')]) (by simp [results, Try.results170, go_sem, y0, y1]) rfl ⟨min r r', max r r', rfl, ?_, ?_, ?_, ?_⟩
    · unfold bigI; omega
    · unfold bigI; omega
    · have hG2 := g_set2 HG.out w.heap.size (Nat.le_refl _) (.int .i64 (min r r')) (.int .i64 (max r r'))
      exact cur_set2 Hcur4.out hne _ _ (hbytes.out.1.grown hG2 hbytes.out.2)
    · exact g_set2 HG.out w.heap.size (Nat.le_refl _) _ _

set_option maxRecDepth 100000 in
set_option maxHeartbeats 1000000 in
theorem c_DrawIsTile (n c : Nat) (A : Option Addr) (w : World) (h : RdB w A n) (hn : n ≤ 1048576) :
    Calls Try.prog 121 #[.slice A n c] w (DrawnT w) := by
  have hb0 : Below w.heap.size w (w.alloc (.cells #[.int .i64 0, .int .i64 0] 46)) := (Below.refl _ _).alloc (Nat.le_refl _) _
  have hsz : (w.alloc (.cells #[.int .i64 0, .int .i64 0] 46)).heap.size = w.heap.size + 1 := by simp
  have hcur := cur_new (c := c) (h.below hb0)
  have con := Lib.hid (c_drawTile _ n c 0 A _ hcur (by omega) hn)
  have x0 : ((w.alloc (.cells #[.int .i64 0, .int .i64 0] 46)).alloc (.cells #[.slice A n c, .int .i64 0, .int .u64 0] 110)).cell? ⟨w.heap.size, 0, none⟩ = some (.int .i64 0) := by simp
  have x1 : ((w.alloc (.cells #[.int .i64 0, .int .i64 0] 46)).alloc (.cells #[.slice A n c, .int .i64 0, .int .u64 0] 110)).cell? ⟨w.heap.size, 1, none⟩ = some (.int .i64 0) := by simp
  have xf : ∀ m, ((w.alloc (.cells #[.int .i64 0, .int .i64 0] 46)).alloc (.cells #[.slice A n c, .int .i64 0, .int .u64 0] 110)).frozen? ⟨w.heap.size, m, none⟩ = false := fun m =>
    (((Below.refl _ (w.alloc (.cells #[.int .i64 0, .int .i64 0] 46))).alloc (o := .cells #[.slice A n c, .int .i64 0, .int .u64 0] 110) (Nat.le_refl _)).frozen (p := ⟨w.heap.size, m, none⟩) (by simp)).trans (frozen_new' w _ _ m)
  have hb1 := Lib.hid (hb0.alloc (o := .cells #[.slice A n c, .int .i64 0, .int .u64 0] 110) hb0.size)
  have hsz2 : w.heap.size < ((w.alloc (.cells #[.int .i64 0, .int .i64 0] 46)).alloc (.cells #[.slice A n c, .int .i64 0, .int .u64 0] 110)).heap.size := by simp; omega
  have hsz3 : w.heap.size ≤ ((w.alloc (.cells #[.int .i64 0, .int .i64 0] 46)).alloc (.cells #[.slice A n c, .int .i64 0, .int .u64 0] 110)).heap.size := by omega
  rw [hsz] at con
  clear h hcur hb0 hsz
  go_enter Try.func121, Try.ntmps121
  go_wp2_with (go_at_call 170; refine con.out.mono ?_; rintro e w3 ⟨a, b, rfl, ha, hb, _, hg⟩; have y0 := hg.cell x0 (fun e => by injection e with e; simp only at e; omega); have y1 := hg.cell x1 (fun e => by injection e with e; simp only at e; omega); have f0 : w3.frozen? ⟨w.heap.size, 0, none⟩ = false := (World.frozen?_of_block (hg.block w.heap.size hsz2 (fun e => by injection e with e; omega))).trans (xf 0); have f1 : w3.frozen? ⟨w.heap.size, 1, none⟩ = false := (World.frozen?_of_block (hg.block w.heap.size hsz2 (fun e => by injection e with e; omega))).trans (xf 1))
  refine bodyPost_ret (v := .agg #[.int .i64 a, .int .i64 b]) (by simp [results, Try.results121, go_sem, y0, y1]) rfl ⟨a, b, rfl, ha, hb, ?_⟩
  exact (((hb1.out).trans (below_of_grown hg hsz3 (fun g hg => by injection hg with hg; omega))).setCell (Nat.le_refl _) _).setCell (Nat.le_refl _) _

set_option maxRecDepth 100000 in
set_option maxHeartbeats 1000000 in
theorem c_DrawRankOf (n c : Nat) (A : Option Addr) (w : World) (h : RdB w A n) (hn : n ≤ 1048576) :
    Calls Try.prog 36 #[.slice A n c] w (DrawnT w) := by
  have hb0 : Below w.heap.size w (w.alloc (.cells #[.int .i64 0, .int .i64 0] 46)) := (Below.refl _ _).alloc (Nat.le_refl _) _
  have con := Lib.hid (c_DrawIsTile n c A _ (h.below hb0) hn)
  have x0 : (w.alloc (.cells #[.int .i64 0, .int .i64 0] 46)).cell? ⟨w.heap.size, 0, none⟩ = some (.int .i64 0) := by simp
  have x1 : (w.alloc (.cells #[.int .i64 0, .int .i64 0] 46)).cell? ⟨w.heap.size, 1, none⟩ = some (.int .i64 0) := by simp
  have xf := frozen_new' w #[.int .i64 0, .int .i64 0] 46
  have hsw : w.heap.size < (w.alloc (.cells #[.int .i64 0, .int .i64 0] 46)).heap.size := by simp
  have Hb0 := Lib.hid hb0
  clear h hb0
  go_enter Try.func36, Try.ntmps36
  go_wp2_with (go_at_call 121; refine con.out.mono ?_; rintro e w3 ⟨a, b, rfl, ha, hb, hb3⟩; have y0 := keepc hb3 x0; have y1 := keepc hb3 x1; have f0 : w3.frozen? ⟨w.heap.size, 0, none⟩ = false := (hb3.frozen (p := ⟨w.heap.size, 0, none⟩) hsw).trans (xf 0); have f1 : w3.frozen? ⟨w.heap.size, 1, none⟩ = false := (hb3.frozen (p := ⟨w.heap.size, 1, none⟩) hsw).trans (xf 1))
  refine bodyPost_ret (v := .agg #[.int .i64 a, .int .i64 b]) (by simp [results, Try.results36, go_sem, y0, y1]) rfl ⟨a, b, rfl, ha, hb, ?_⟩
  exact ((bstep Hb0.out hb3).setCell (Nat.le_refl _) _).setCell (Nat.le_refl _) _

set_option maxRecDepth 100000 in
set_option maxHeartbeats 1000000 in
theorem c_DrawTileOf (n c : Nat) (A : Option Addr) (w : World) (h : RdB w A n) (hn : n ≤ 1048576) :
    Calls Try.prog 45 #[.slice A n c] w fun e w' => ∃ a b : Int, e = .returned (.tuple #[.int .i64 a, .int .i64 b]) ∧ bigI a ∧ bigI b ∧ Below w.heap.size w w' := by
  have con := Lib.hid (c_number _ n c 0 A _ (cur_new (c := c) h) (by omega) hn)
  have hb1 := Lib.hid ((Below.refl w.heap.size w).alloc (o := .cells #[.slice A n c, .int .i64 0, .int .u64 0] 110) (Nat.le_refl _))
  clear h
  go_enter Try.func45, Try.ntmps45
  go_wp2_with fail
  refine con.out.mono ?_
  rintro e w2 ⟨r, rfl, hr, hcur2, hg2⟩
  have Hcur2 := Lib.hid hcur2
  clear hcur2
  go_wp2_with fail
  refine (c_number _ n c 2 A _ Hcur2.out (by omega) hn).mono ?_
  rintro e w3 ⟨r', rfl, hr', hcur3, hg3⟩
  have hG := g_trans hg2 hg3
  go_wp2
  go_ret2
  exact ⟨r, r', rfl, hr, hr', hb1.out.trans (below_of_grown hG hb1.out.size (fun g hg => by injection hg with hg; omega))⟩

set_option maxRecDepth 100000 in
set_option maxHeartbeats 1000000 in
theorem c_DrawSetOf (n c : Nat) (A : Option Addr) (w : World) (h : RdB w A n) (hn : n ≤ 1048576) :
    Calls Try.prog 47 #[.slice A n c] w (DrawnI w bigI) := by
  have con := Lib.hid (c_number _ n c 0 A _ (cur_new (c := c) h) (by omega) hn)
  have hb1 := Lib.hid ((Below.refl w.heap.size w).alloc (o := .cells #[.slice A n c, .int .i64 0, .int .u64 0] 110) (Nat.le_refl _))
  clear h
  go_enter Try.func47, Try.ntmps47
  go_wp2_with fail
  refine con.out.mono ?_
  rintro e w2 ⟨r, rfl, hr, hcur2, hg2⟩
  go_wp2
  go_ret
  exact ⟨r, rfl, hr, hb1.out.trans (below_of_grown hg2 hb1.out.size (fun g hg => by injection hg with hg; omega))⟩

theorem lit8 (w : World) (a b c d e f x y : Int) (g : Nat) (hg : g < w.heap.size) : RdI (w.alloc (.cells #[.int .i64 a, .int .i64 b, .int .i64 c, .int .i64 d, .int .i64 e, .int .i64 f, .int .i64 x, .int .i64 y] 3)) (some ⟨w.heap.size, 0, none⟩) [a, b, c, d, e, f, x, y] ∧ ∀ z : Addr, some (⟨w.heap.size, 0, none⟩ : Addr) = some z → z.block ≠ g := by
  refine ⟨⟨w.heap.size, 0, fun _ => rfl, fun k hk => ?_⟩, fun x hx => by injection hx with hx; subst hx; exact fun e => by simp only at e; omega⟩
  match k, hk with
  | 0, _ => simp
  | 1, _ => simp
  | 2, _ => simp
  | 3, _ => simp
  | 4, _ => simp
  | 5, _ => simp
  | 6, _ => simp
  | 7, _ => simp

set_option maxRecDepth 100000 in
set_option maxHeartbeats 1000000 in
theorem c_DrawTileOfRank (n c : Nat) (A : Option Addr) (w : World) (h : RdB w A n) (hn : n ≤ 1048576) :
    Calls Try.prog 43 #[.slice A n c] w (DrawnI w (fun r => -1 ≤ r ∧ r ≤ 55)) := by
  have con := Lib.hid (c_pick 55 (by omega) (by omega) _ n c 0 A _ (cur_new (c := c) h) (by omega) hn)
  have hb1 := Lib.hid ((Below.refl w.heap.size w).alloc (o := .cells #[.slice A n c, .int .i64 0, .int .u64 0] 110) (Nat.le_refl _))
  clear h
  go_enter Try.func43, Try.ntmps43
  go_wp2_with fail
  refine con.out.mono ?_
  rintro e w2 ⟨r, rfl, ⟨hr0, hr1⟩, hcur2, hg2⟩
  have Hcur2 := Lib.hid hcur2
  clear hcur2
  go_wp2_with fail
  refine (c_pick 55 (by omega) (by omega) _ n c 1 A _ Hcur2.out (by omega) hn).mono ?_
  rintro e w3 ⟨r', rfl, ⟨hr2, hr3⟩, hcur3, hg3⟩
  have Hcur3 := Lib.hid hcur3
  clear hcur3
  go_wp2_with fail
  refine (c_among _ 8 [0, 9, 10, 54, 55, -1, r, r'] _ n c 2 A _ (lit8 w3 0 9 10 54 55 (-1) r r' _ (block_lt Hcur3.out.code)).1 (by simp) (by simp) (lit8 w3 0 9 10 54 55 (-1) r r' _ (block_lt Hcur3.out.code)).2 (Hcur3.out.below ((Below.refl _ _).alloc (Nat.le_refl _) _)) (by omega) hn).mono ?_
  rintro e w4 ⟨r2, rfl, hm, hcur4, hg4⟩
  have hG := g_trans hg2 (g_trans hg3 (g_trans (g_below ((Below.refl _ w3).alloc (o := .cells #[.int .i64 0, .int .i64 9, .int .i64 10, .int .i64 54, .int .i64 55, .int .i64 (-1), .int .i64 r, .int .i64 r'] 3) (Nat.le_refl _))) hg4))
  go_wp2
  go_ret
  exact ⟨r2, rfl, by simp at hm; omega, hb1.out.trans (below_of_grown hG hb1.out.size (fun g hg => by injection hg with hg; omega))⟩

end Go.Proofs.Yteiiiceajpmndab

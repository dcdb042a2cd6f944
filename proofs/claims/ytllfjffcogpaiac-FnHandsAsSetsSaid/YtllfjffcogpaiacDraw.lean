/- What the specification draws: tiles, numbers, ranks. -/
import Derived.Test.YtllfjffcogpaiacCur
namespace Go.Proofs.Ytllfjffcogpaiac
open Go.RowKit
set_option linter.unusedVariables false

theorem frozen_new' (w : World) (cs : Array Value) (t : TypeId) (m : Nat) : (w.alloc (.cells cs t)).frozen? ⟨w.heap.size, m, none⟩ = false := by
  unfold World.frozen? World.alloc
  simp
/-- A drawn number, of which P holds. -/
def DrawnI (w : World) (P : Int → Prop) (e : Ending) (w' : World) : Prop := ∃ r : Int, e = .returned (.int .i64 r) ∧ P r ∧ Below w.heap.size w w'
def bigI (r : Int) : Prop := -1 ≤ r ∧ r ≤ 4611686018427387904
def DrawnT (w : World) (e : Ending) (w' : World) : Prop := ∃ a b : Int, e = .returned (.agg #[.int .i64 a, .int .i64 b]) ∧ bigI a ∧ bigI b ∧ Below w.heap.size w w'
/-- A new cursor, at the beginning of its bytes. -/
theorem cur_new {w : World} {A : Option Addr} {n c : Nat} (h : RdB w A n) :
    Cur (w.alloc (.cells #[.slice A n c, .int .i64 0, .int .u64 0] 47)) w.heap.size A n c 0 :=
  ⟨by simp, by simp, ⟨0, by simp⟩, fun m => frozen_new' w _ _ m, h.below ((Below.refl _ _).alloc (Nat.le_refl _) _), fun h0 a ha => by
    obtain ⟨b, off, h1, h2⟩ := h
    have h3 := h1 h0
    rw [ha] at h3
    injection h3 with h3
    subst h3
    obtain ⟨x, hx, _⟩ := h2 0 h0
    exact Nat.ne_of_lt (block_lt hx)⟩
theorem cur_set2 {w : World} {g n c t k : Nat} {A : Option Addr} (h : Cur w g A n c t) (hk : k ≠ g) (u v : Value) (hb : RdB ((w.setCell ⟨k, 0, none⟩ u).setCell ⟨k, 1, none⟩ v) A n) :
    Cur ((w.setCell ⟨k, 0, none⟩ u).setCell ⟨k, 1, none⟩ v) g A n c t := by
  have e : ∀ o, ((w.setCell ⟨k, 0, none⟩ u).setCell ⟨k, 1, none⟩ v).cell? ⟨g, o, none⟩ = w.cell? ⟨g, o, none⟩ := fun o => by
    rw [World.cell?_setCell_other _ _ _ _ (fun e => hk (by injection e)), World.cell?_setCell_other _ _ _ _ (fun e => hk (by injection e))]
  obtain ⟨s, hs⟩ := h.seed
  exact ⟨(e 0).trans h.code, (e 1).trans h.place, ⟨s, (e 2).trans hs⟩, fun m => by rw [World.frozen?_setCell, World.frozen?_setCell]; exact h.live m, hb, h.apart⟩
theorem g_set2 {a w : World} {r : Option Nat} (h : a.grownBy w r) (k : Nat) (hk : a.heap.size ≤ k) (u v : Value) : a.grownBy ((w.setCell ⟨k, 0, none⟩ u).setCell ⟨k, 1, none⟩ v) r :=
  ⟨h.os, h.tape, h.output, by simpa [World.setCell] using h.size, fun j hj hne => (Below.heap_setCell _ ⟨k, 1, none⟩ v j (fun e => by simp only at e; omega)).trans ((Below.heap_setCell w ⟨k, 0, none⟩ u j (fun e => by simp only at e; omega)).trans (h.block j hj hne))⟩

/-- .. and a tile. -/
def DrawT (w : World) (g : Nat) (A : Option Addr) (n c t : Nat) (e : Ending) (w' : World) : Prop := ∃ a b : Int, e = .returned (.agg #[.int .i64 a, .int .i64 b]) ∧ bigI a ∧ bigI b ∧ Cur w' g A n c t ∧ w.grownBy w' (some g)

set_option maxRecDepth 100000 in
set_option maxHeartbeats 1000000 in
theorem c_drawTile (g n c t : Nat) (A : Option Addr) (w : World) (h : Cur w g A n c t) (ht : t ≤ 900000) (hn : n ≤ 1048576) :
    Calls Try.prog 44 #[.pointer (some ⟨g, 0, none⟩)] w (DrawT w g A n c (t + 3)) := by
  have hg0 : g < w.heap.size := block_lt h.code
  have hcur0 := h.below ((Below.refl _ w).alloc (o := .cells #[.int .i64 0, .int .i64 0] 35) (Nat.le_refl _))
  have con := Lib.hid (c_one 10 (by omega) (by omega) g n c t A _ hcur0 (by omega) hn)
  have x0 : (w.alloc (.cells #[.int .i64 0, .int .i64 0] 35)).cell? ⟨w.heap.size, 0, none⟩ = some (.int .i64 0) := by simp
  have x1 : (w.alloc (.cells #[.int .i64 0, .int .i64 0] 35)).cell? ⟨w.heap.size, 1, none⟩ = some (.int .i64 0) := by simp
  have xf := frozen_new' w #[.int .i64 0, .int .i64 0] 35
  have hwa : w.grownBy (w.alloc (.cells #[.int .i64 0, .int .i64 0] 35)) (some g) := g_below ((Below.refl _ _).alloc (Nat.le_refl _) _)
  have hsw : w.heap.size < (w.alloc (.cells #[.int .i64 0, .int .i64 0] 35)).heap.size := by simp
  have hbytes := Lib.hid (And.intro h.bytes h.apart)
  have hne : w.heap.size ≠ g := by omega
  clear h hcur0
  go_enter Try.func44, Try.ntmps44
  go_wp2_with (first | (go_at_call 54; refine con.out.mono ?_; rintro e w1 ⟨b, rfl, hcur, hg⟩; have Hcur := Lib.hid hcur; clear hcur) | fail)
  · refine (c_among _ 4 [-1, 3, 9, 10] g n c (t + 1) A _ (lit4 w1 (-1) 3 9 10 g (block_lt Hcur.out.code)).1 (by simp) (by simp) (lit4 w1 (-1) 3 9 10 g (block_lt Hcur.out.code)).2 (Hcur.out.below ((Below.refl _ _).alloc (Nat.le_refl _) _)) (by omega) hn).mono ?_
    rintro e w2 ⟨r, rfl, hr, hcur2, hg2⟩
    have Hcur2 := Lib.hid hcur2
    clear hcur2
    go_wp2_with fail
    refine (c_among _ 4 [2, 9, 10, 4611686018427387904] g n c (t + 2) A _ (lit4 w2 2 9 10 4611686018427387904 g (block_lt Hcur2.out.code)).1 (by simp) (by simp) (lit4 w2 2 9 10 4611686018427387904 g (block_lt Hcur2.out.code)).2 (Hcur2.out.below ((Below.refl _ _).alloc (Nat.le_refl _) _)) (by omega) hn).mono ?_
    rintro e w3 ⟨r', rfl, hr', hcur3, hg3⟩
    have Hcur3 := Lib.hid hcur3
    have H := g_trans hg (g_trans (g_below ((Below.refl _ w1).alloc (o := .cells #[.int .i64 (-1), .int .i64 3, .int .i64 9, .int .i64 10] 3) (Nat.le_refl _))) (g_trans hg2 (g_trans (g_below ((Below.refl _ w2).alloc (o := .cells #[.int .i64 2, .int .i64 9, .int .i64 10, .int .i64 4611686018427387904] 3) (Nat.le_refl _))) hg3)))
    have y0 := H.cell x0 (fun e => hne (by injection e))
    have y1 := H.cell x1 (fun e => hne (by injection e))
    have hf : ∀ m, w3.frozen? ⟨w.heap.size, m, none⟩ = false := fun m => (World.frozen?_of_block (H.block w.heap.size hsw (fun e => hne (by injection e)))).trans (xf m)
    have f0 := hf 0
    have f1 := hf 1
    have HG := Lib.hid (g_trans hwa H)
    clear hcur3 H hf x0 x1 xf hg hg2 hg3
    go_wp2
    refine bodyPost_ret (v := .agg #[.int .i64 r, .int .i64 r']) (by simp [results, Try.results44, go_sem, y0, y1]) rfl ⟨r, r', rfl, ?_, ?_, ?_, ?_⟩
    · simp at hr; unfold bigI; omega
    · simp at hr'; unfold bigI; omega
    · have hG2 := g_set2 HG.out w.heap.size (Nat.le_refl _) (.int .i64 r) (.int .i64 r')
      exact cur_set2 Hcur3.out hne _ _ (hbytes.out.1.grown hG2 hbytes.out.2)
    · exact g_set2 HG.out w.heap.size (Nat.le_refl _) _ _
  · refine (c_pick 10 (by omega) (by omega) g n c (t + 1) A _ Hcur.out (by omega) hn).mono ?_
    rintro e w2 ⟨r, rfl, ⟨hr0, hr1⟩, hcur2, hg2⟩
    have Hcur2 := Lib.hid hcur2
    clear hcur2
    go_wp2_with fail
    refine (c_pick 10 (by omega) (by omega) g n c (t + 2) A _ Hcur2.out (by omega) hn).mono ?_
    rintro e w3 ⟨r', rfl, ⟨hr2, hr3⟩, hcur3, hg3⟩
    go_wp2_with fail
    refine (c_tiOf _ _ _).mono ?_
    rintro e w4 ⟨rfl, hb4⟩
    have Hcur4 := Lib.hid (hcur3.below hb4)
    have H := g_trans hg (g_trans hg2 (g_trans hg3 (g_below hb4)))
    have y0 := H.cell x0 (fun e => hne (by injection e))
    have y1 := H.cell x1 (fun e => hne (by injection e))
    have hf : ∀ m, w4.frozen? ⟨w.heap.size, m, none⟩ = false := fun m => (World.frozen?_of_block (H.block w.heap.size hsw (fun e => hne (by injection e)))).trans (xf m)
    have f0 := hf 0
    have f1 := hf 1
    have HG := Lib.hid (g_trans hwa H)
    clear hcur3 H hf x0 x1 xf hg hg2 hg3 hb4
    go_wp2
    refine bodyPost_ret (v := .agg #[.int .i64 (min r r'), .int .i64 (max r r')]) (by simp [results, Try.results44, go_sem, y0, y1]) rfl ⟨min r r', max r r', rfl, ?_, ?_, ?_, ?_⟩
    · unfold bigI; omega
    · unfold bigI; omega
    · have hG2 := g_set2 HG.out w.heap.size (Nat.le_refl _) (.int .i64 (min r r')) (.int .i64 (max r r'))
      exact cur_set2 Hcur4.out hne _ _ (hbytes.out.1.grown hG2 hbytes.out.2)
    · exact g_set2 HG.out w.heap.size (Nat.le_refl _) _ _

end Go.Proofs.Ytllfjffcogpaiac

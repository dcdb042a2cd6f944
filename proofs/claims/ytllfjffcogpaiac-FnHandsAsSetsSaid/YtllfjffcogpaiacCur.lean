/- Choices drawn from bytes. -/
import Derived.Test.YtllfjffcogpaiacChain
import Derived.Laws.Bits64b
namespace Go.Proofs.Ytllfjffcogpaiac
open Go.RowKit
set_option linter.unusedVariables false

/-- A slice value at A of n bytes. -/
def RdB (w : World) (A : Option Addr) (n : Nat) : Prop := ∃ b off, (0 < n → A = some ⟨b, off, none⟩) ∧ ∀ k, k < n → ∃ x : Int, w.cell? ⟨b, off + k, none⟩ = some (.int .u8 x) ∧ 0 ≤ x ∧ x ≤ 255
theorem RdB.below {w w' : World} {A : Option Addr} {n : Nat} (h : RdB w A n) (hb : Below w.heap.size w w') : RdB w' A n := by
  obtain ⟨b, off, h1, h2⟩ := h
  refine ⟨b, off, h1, fun k hk => ?_⟩
  obtain ⟨x, hx, h3⟩ := h2 k hk
  exact ⟨x, keepc hb hx, h3⟩
theorem RdB.grown {w w' : World} {A : Option Addr} {n g : Nat} (h : RdB w A n) (hg : w.grownBy w' (some g)) (hA : 0 < n → ∀ a, A = some a → a.block ≠ g) : RdB w' A n := by
  obtain ⟨b, off, h1, h2⟩ := h
  refine ⟨b, off, h1, fun k hk => ?_⟩
  obtain ⟨x, hx, h3⟩ := h2 k hk
  exact ⟨x, hg.cell hx (fun e => by injection e with e; exact hA (by omega) _ (h1 (by omega)) e), h3⟩
/-- Block g is a cursor over n bytes at A that has come to place t. -/
structure Cur (w : World) (g : Nat) (A : Option Addr) (n c t : Nat) : Prop where
  code : w.cell? ⟨g, 0, none⟩ = some (.slice A n c)
  place : w.cell? ⟨g, 1, none⟩ = some (.int .i64 t)
  seed : ∃ s : Int, w.cell? ⟨g, 2, none⟩ = some (.int .u64 s)
  live : ∀ m, w.frozen? ⟨g, m, none⟩ = false
  bytes : RdB w A n
  apart : 0 < n → ∀ a, A = some a → a.block ≠ g
theorem Cur.below {w w' : World} {g n c t : Nat} {A : Option Addr} (h : Cur w g A n c t) (hb : Below w.heap.size w w') : Cur w' g A n c t := by
  obtain ⟨s, hs⟩ := h.seed
  have hg : g < w.heap.size := block_lt h.code
  exact ⟨keepc hb h.code, keepc hb h.place, ⟨s, keepc hb hs⟩, fun m => (hb.frozen (p := ⟨g, m, none⟩) hg).trans (h.live m), h.bytes.below hb, h.apart⟩
/-- What a choice leaves: a number, and the cursor one or more places on. -/
def Drawn (w : World) (g : Nat) (A : Option Addr) (n c t : Nat) (w' : World) : Prop := ∃ t', t' ≤ t + 2 ∧ Cur w' g A n c t' ∧ w.grownBy w' (some g)

theorem u64_lo (y : Int) : 0 ≤ IntKind.u64.wrap y ∧ IntKind.u64.wrap y < 18446744073709551616 := by
  have : IntKind.u64.wrap y = y % 18446744073709551616 := rfl
  omega
theorem low_byte (y : Int) : 0 ≤ wrap64 (bits BinOp.and IntKind.u64 (IntKind.u64.wrap y / 1099511627776) 255) ∧ wrap64 (bits BinOp.and IntKind.u64 (IntKind.u64.wrap y / 1099511627776) 255) ≤ 255 := by
  have h := u64_lo y
  generalize IntKind.u64.wrap y = z at *
  obtain ⟨m, rfl⟩ : ∃ m : Nat, z = m := ⟨z.toNat, by omega⟩
  have e : ((m : Int) / 1099511627776) = ((m / 1099511627776 : Nat) : Int) := by omega
  rw [e]
  have h2 := bits_and_u64_nat (m / 1099511627776) 255 (by omega) (by omega)
  have h3 : ((255 : Nat) : Int) = 255 := rfl
  rw [h3] at h2
  rw [h2]
  have h4 : (m / 1099511627776) &&& 255 ≤ 255 := Nat.and_le_right
  unfold wrap64
  omega
theorem cur_next {w : World} {g n c t : Nat} {A : Option Addr} (h : Cur w g A n c t) (v : Int) (a b : Nat) :
    Cur ((((w.drewN a).setCell ⟨g, 1, none⟩ (.int .i64 ((t : Int) + 1))).setCell ⟨g, 2, none⟩ (.int .u64 v)).drewN b) g A n c (t + 1) ∧
      w.grownBy ((((w.drewN a).setCell ⟨g, 1, none⟩ (.int .i64 ((t : Int) + 1))).setCell ⟨g, 2, none⟩ (.int .u64 v)).drewN b) (some g) := by
  have hg := grown_set (grown_set (World.grownBy.refl w (some g)) 1 (.int .i64 ((t : Int) + 1))) 2 (.int .u64 v)
  have hg' : w.grownBy ((((w.drewN a).setCell ⟨g, 1, none⟩ (.int .i64 ((t : Int) + 1))).setCell ⟨g, 2, none⟩ (.int .u64 v)).drewN b) (some g) := ⟨hg.os, hg.tape, hg.output, hg.size, hg.block⟩
  obtain ⟨s, hs⟩ := h.seed
  have hs1 : (w.setCell ⟨g, 1, none⟩ (.int .i64 ((t : Int) + 1))).cell? ⟨g, 2, none⟩ = some (.int .u64 s) := by rw [World.cell?_setCell_other _ _ _ _ (by simp)]; exact hs
  have k0 : ((w.setCell ⟨g, 1, none⟩ (.int .i64 ((t : Int) + 1))).setCell ⟨g, 2, none⟩ (.int .u64 v)).cell? ⟨g, 0, none⟩ = some (.slice A n c) := by
    rw [World.cell?_setCell_other _ _ _ _ (by simp), World.cell?_setCell_other _ _ _ _ (by simp)]; exact h.code
  have k1 : ((w.setCell ⟨g, 1, none⟩ (.int .i64 ((t : Int) + 1))).setCell ⟨g, 2, none⟩ (.int .u64 v)).cell? ⟨g, 1, none⟩ = some (.int .i64 ((t : Int) + 1)) := by
    rw [World.cell?_setCell_other _ _ _ _ (by simp), World.cell?_setCell_same _ _ _ h.place]
  have k2 : ((w.setCell ⟨g, 1, none⟩ (.int .i64 ((t : Int) + 1))).setCell ⟨g, 2, none⟩ (.int .u64 v)).cell? ⟨g, 2, none⟩ = some (.int .u64 v) := World.cell?_setCell_same _ _ _ hs1
  refine ⟨⟨k0, ?_, ⟨v, k2⟩, fun m => ?_, h.bytes.grown hg' h.apart, h.apart⟩, hg'⟩
  · have : (((t + 1 : Nat) : Int)) = (t : Int) + 1 := by omega
    rw [this]
    exact k1
  · have : ((w.setCell ⟨g, 1, none⟩ (.int .i64 ((t : Int) + 1))).setCell ⟨g, 2, none⟩ (.int .u64 v)).frozen? ⟨g, m, none⟩ = false := by
      rw [World.frozen?_setCell, World.frozen?_setCell]; exact h.live m
    exact this

set_option maxRecDepth 100000 in
set_option maxHeartbeats 1000000 in
theorem c_next (g n c t : Nat) (A : Option Addr) (w : World) (h : Cur w g A n c t) (ht : t ≤ 1000000) (hn : n ≤ 1048576) :
    Calls Try.prog 53 #[.pointer (some ⟨g, 0, none⟩)] w fun e w' => ∃ r : Int, e = .returned (.int .i64 r) ∧ (0 ≤ r ∧ r ≤ 255) ∧ Cur w' g A n c (t + 1) ∧ w.grownBy w' (some g) := by
  have c0 := h.code
  have c1 := h.place
  obtain ⟨s, c2⟩ := h.seed
  have f1 := h.live 1
  have f2 := h.live 2
  by_cases hlt : t < n
  · have hbytes := h.bytes
    obtain ⟨b, off, hA, hx⟩ := hbytes
    obtain rfl := hA (by omega)
    obtain ⟨x, g1, hx0, hx1⟩ := hx t hlt
    have H := Lib.hid h
    have i0 : (t : Int) < (n : Int) := by omega
    have i1 : (0 : Int) ≤ (t : Int) := by omega
    have hbg : b ≠ g := h.apart (by omega) _ rfl
    clear h hx hA
    go_enter Try.func53, Try.ntmps53
    go_wp2
    go_quiet (fail)
    go_wp2
    go_quiet (fail)
    go_wp2
    go_quiet (fail)
    go_wp2
    go_ret
    exact ⟨x, rfl, ⟨hx0, hx1⟩, cur_next H.out _ _ _⟩
  · have i0 : ¬ (t : Int) < (n : Int) := by omega
    have H := Lib.hid h
    clear h
    go_enter Try.func53, Try.ntmps53
    go_wp2
    go_quiet (fail)
    go_wp2
    go_quiet (fail)
    go_wp2
    go_ret
    exact ⟨_, rfl, low_byte _, cur_next H.out _ _ _⟩

theorem g_trans {a b c : World} {r : Option Nat} (h1 : a.grownBy b r) (h2 : b.grownBy c r) : a.grownBy c r :=
  ⟨h2.os.trans h1.os, h2.tape.trans h1.tape, h2.output.trans h1.output, Nat.le_trans h1.size h2.size, fun k hk hne => (h2.block k (Nat.lt_of_lt_of_le hk h1.size) hne).trans (h1.block k hk hne)⟩
theorem g_below {a b : World} {r : Option Nat} (h : Below a.heap.size a b) : a.grownBy b r := ⟨h.os, h.tape, h.output, h.size, fun k hk _ => h.block k hk⟩
theorem RdI.grown {w w' : World} {A : Option Addr} {xs : List Int} {g : Nat} (h : RdI w A xs) (hg : w.grownBy w' (some g)) (hA : ∀ a, A = some a → a.block ≠ g) : RdI w' A xs := by
  obtain ⟨b, off, h1, h2⟩ := h
  exact ⟨b, off, h1, fun k hk => hg.cell (h2 k hk) (fun e => by injection e with e; exact hA _ (h1 (by rintro rfl; simp at hk)) e)⟩
/-- A number comes back, of which P holds; the cursor has gone d places on. -/
def DrawI (w : World) (g : Nat) (A : Option Addr) (n c t : Nat) (P : Int → Prop) (e : Ending) (w' : World) : Prop := ∃ r : Int, e = .returned (.int .i64 r) ∧ P r ∧ Cur w' g A n c t ∧ w.grownBy w' (some g)

set_option maxRecDepth 100000 in
set_option maxHeartbeats 1000000 in
theorem c_pick (m : Int) (hm : 2 ≤ m) (hm2 : m ≤ 200) (g n c t : Nat) (A : Option Addr) (w : World) (h : Cur w g A n c t) (ht : t ≤ 1000000) (hn : n ≤ 1048576) :
    Calls Try.prog 43 #[.pointer (some ⟨g, 0, none⟩), .int .i64 m] w (DrawI w g A n c (t + 1) (fun r => 0 ≤ r ∧ r < m)) := by
  have con := Lib.hid (c_next g n c t A w h ht hn)
  clear h
  have i1 : ¬ m ≤ 1 := by omega
  have i2 : ¬ (200 : Int) < m := by omega
  have i3 : (m == 0) = false := by simp; omega
  have i4 : m ≠ 0 := by omega
  go_enter Try.func43, Try.ntmps43
  go_wp2_with (go_at_call 53; refine con.out.mono ?_; rintro e w1 ⟨r, rfl, ⟨hr0, hr1⟩, hcur, hg⟩)
  go_ret
  exact ⟨_, rfl, ⟨by first | exact Int.emod_nonneg _ i4 | exact Int.tmod_nonneg _ hr0, by first | exact Int.emod_lt_of_pos _ (by omega) | exact Int.tmod_lt_of_pos _ (by omega)⟩, hcur, hg⟩

set_option maxRecDepth 100000 in
set_option maxHeartbeats 1000000 in
theorem c_one (m : Int) (hm : 2 ≤ m) (hm2 : m ≤ 200) (g n c t : Nat) (A : Option Addr) (w : World) (h : Cur w g A n c t) (ht : t ≤ 1000000) (hn : n ≤ 1048576) :
    Calls Try.prog 54 #[.pointer (some ⟨g, 0, none⟩), .int .i64 m] w fun e w' => ∃ b : Bool, e = .returned (.bool b) ∧ Cur w' g A n c (t + 1) ∧ w.grownBy w' (some g) := by
  have con := Lib.hid (c_pick m hm hm2 g n c t A w h ht hn)
  clear h
  go_enter Try.func54, Try.ntmps54
  go_wp2_with (go_at_call 43; refine con.out.mono ?_; rintro e w1 ⟨r, rfl, ⟨hr0, hr1⟩, hcur, hg⟩)
  go_ret
  exact ⟨_, rfl, hcur, hg⟩

set_option maxRecDepth 100000 in
set_option maxHeartbeats 1000000 in
theorem c_among (L : Option Addr) (cl : Nat) (xs : List Int) (g n c t : Nat) (A : Option Addr) (w : World) (hx : RdI w L xs) (hl : 2 ≤ xs.length) (hl2 : xs.length ≤ 200) (hL : ∀ a, L = some a → a.block ≠ g) (h : Cur w g A n c t) (ht : t ≤ 1000000) (hn : n ≤ 1048576) :
    Calls Try.prog 55 #[.pointer (some ⟨g, 0, none⟩), .slice L xs.length cl] w (DrawI w g A n c (t + 1) (fun r => r ∈ xs)) := by
  have con := Lib.hid (c_pick (xs.length : Int) (by omega) (by omega) g n c t A w h ht hn)
  have hx' := Lib.hid (fun w' (hg : w.grownBy w' (some g)) => hx.grown hg hL)
  clear h hx
  go_enter Try.func55, Try.ntmps55
  go_wp2_with (go_at_call 43; refine con.out.mono ?_; rintro e w1 ⟨r, rfl, ⟨hr0, hr1⟩, hcur, hg⟩; obtain ⟨k, rfl⟩ : ∃ k : Nat, r = k := ⟨r.toNat, by omega⟩; have hk : k < xs.length := (by omega); obtain ⟨b, off, rfl, hb, hc⟩ := (hx'.out _ hg).at_ hk; have g1 := hc k hk; have hmem := Lib.hid (List.getElem_mem hk); clear hc)
  go_ret
  exact ⟨_, rfl, hmem.out, hcur, hg⟩

theorem lit4 (w : World) (a b c d : Int) (g : Nat) (hg : g < w.heap.size) : RdI (w.alloc (.cells #[.int .i64 a, .int .i64 b, .int .i64 c, .int .i64 d] 3)) (some ⟨w.heap.size, 0, none⟩) [a, b, c, d] ∧ ∀ x : Addr, some (⟨w.heap.size, 0, none⟩ : Addr) = some x → x.block ≠ g := by
  refine ⟨⟨w.heap.size, 0, fun _ => rfl, fun k hk => ?_⟩, fun x hx => by injection hx with hx; subst hx; exact fun e => by simp only at e; omega⟩
  match k, hk with
  | 0, _ => simp
  | 1, _ => simp
  | 2, _ => simp
  | 3, _ => simp

set_option maxRecDepth 100000 in
set_option maxHeartbeats 1000000 in
theorem c_number (g n c t : Nat) (A : Option Addr) (w : World) (h : Cur w g A n c t) (ht : t ≤ 900000) (hn : n ≤ 1048576) :
    Calls Try.prog 50 #[.pointer (some ⟨g, 0, none⟩)] w (DrawI w g A n c (t + 2) (fun r => -1 ≤ r ∧ r ≤ 4611686018427387904)) := by
  have con := Lib.hid (c_one 12 (by omega) (by omega) g n c t A w h (by omega) hn)
  clear h
  go_enter Try.func50, Try.ntmps50
  go_wp2_with (first | (go_at_call 54; refine con.out.mono ?_; rintro e w1 ⟨b, rfl, hcur, hg⟩; have Hcur := Lib.hid hcur; clear hcur) | (go_at_call 43; refine (c_pick 8 (by omega) (by omega) g n c (t + 1) A _ Hcur.out (by omega) hn).mono ?_; rintro e w2 ⟨r, rfl, ⟨hr0, hr1⟩, hcur2, hg2⟩) | (go_at_call 55; refine (c_among _ 4 [-1, 9, 10, 4611686018427387904] g n c (t + 1) A _ (lit4 w1 (-1) 9 10 4611686018427387904 g (block_lt Hcur.out.code)).1 (by simp) (by simp) (lit4 w1 (-1) 9 10 4611686018427387904 g (block_lt Hcur.out.code)).2 (Hcur.out.below ((Below.refl _ _).alloc (Nat.le_refl _) _)) (by omega) hn).mono ?_; rintro e w2 ⟨r, rfl, hr, hcur2, hg2⟩))
  · go_ret
    exact ⟨_, rfl, by simp at hr; omega, hcur2, g_trans hg (g_trans (g_below ((Below.refl _ _).alloc (Nat.le_refl _) _)) hg2)⟩
  · go_ret
    exact ⟨_, rfl, by omega, hcur2, g_trans hg hg2⟩

end Go.Proofs.Ytllfjffcogpaiac

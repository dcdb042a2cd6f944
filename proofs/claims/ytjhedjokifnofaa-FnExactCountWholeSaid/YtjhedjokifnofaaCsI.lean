/- The search for chains: what the program does with its memory. -/
import Derived.Test.YtjhedjokifnofaaCsS
import Derived.Test.YtjhedjokifnofaaIter
import Derived.Test.YtjhedjokifnofaaBx2
import Derived.Test.YtjhedjokifnofaaClr
import Derived.Deep.Cut
import Derived.BigQuiet
import Derived.Maps.AppendAt
import Derived.Deep.RegionHeld3
namespace Go.Proofs.Ytjhedjokifnofaa
open Go.RowKit
set_option linter.unusedVariables false

set_option maxRecDepth 100000 in
set_option maxHeartbeats 1000000 in
theorem c_csEnd (lo g : Nat) (c : List Int) (w : World) (h : ChAt lo g c w) (h0 : c.length ≠ 0) (hl : c.length ≤ 56) :
    Calls Try.prog 75 #[.pointer (some ⟨g, 0, none⟩)] w fun e w' => e = .returned (.int .i64 (lastC c)) ∧ Below w.heap.size w w' := by
  obtain ⟨A, cap, x0, ho, hne⟩ := h
  obtain ⟨m, hm⟩ : ∃ m, c.length = m + 1 := ⟨c.length - 1, by omega⟩
  have hr := RdI.of_own ho
  have hlt : m < c.length := by omega
  obtain ⟨bk, off, rfl, hbk, hc⟩ := hr.at_ hlt
  have g1 := hc m hlt
  have hz : c[m] = lastC c := by
    unfold lastC
    rw [List.getD_eq_getElem?_getD, show c.length - 1 = m from by omega, List.getElem?_eq_getElem hlt]
    rfl
  rw [hz] at g1
  generalize lastC c = z at *
  have i0 : IntKind.i64.wrap ((c.length : Int) - 1) = (m : Int) := by rw [IntWalk.i64_in _ (by omega)]; omega
  have i1 : (0 : Int) ≤ (m : Int) := by omega
  have i2 : (m : Int) < (c.length : Int) := by omega
  have ng := block_lt x0
  have nb := block_lt g1
  have hb0 : Below w.heap.size w w.drew := (Below.refl _ _).drew
  clear hc hr ho hne hz hm h0
  go_enter Try.func75, Try.ntmps75
  go_wp2
  go_quiet (fail)
  go_wp2
  go_ret
  exact ⟨rfl, belowN (Below.refl _ _) _⟩

set_option maxRecDepth 100000 in
set_option maxHeartbeats 1000000 in
theorem c_csFits (H : List (Int × Int)) (lo g : Nat) (c : List Int) (x : Nat) (w : World) (h : CsAt H lo g c w) (ho : OkC H c) (hl : c.length ≤ 56) (hx : x ≤ 9) :
    Calls Try.prog 58 #[.pointer (some ⟨g, 0, none⟩), .int .i64 (x : Int)] w fun e w' => e = .returned (.bool (fitC H c (x : Int))) ∧ Below w.heap.size w w' := by
  obtain ⟨A, cap, x0, ow, hne⟩ := h.ch
  have ng := block_lt x0
  by_cases h0 : c.length = 0
  · have hf : fitC H c (x : Int) = true := by unfold fitC; rw [decide_eq_true h0]; rfl
    rw [hf]
    have e0 : ((c.length : Int) == 0) = true := by rw [h0]; rfl
    clear h ho ow hne hf h0
    go_enter Try.func58, Try.ntmps58
    go_wp2
    go_quiet (fail)
    go_wp2
    go_ret
    exact ⟨rfl, belowN (Below.refl _ _) _⟩
  · obtain ⟨l, hl9, hlc⟩ := lastC_num ho
    rw [fit_fM h0 hlc]
    have con := fun W (h : CsAt H lo g c W) => c_csEnd lo g c W h.ch h0 hl
    rw [hlc] at con
    have Con := Lib.hid con
    have q1 := h.mks.m l x hl9 hx
    rw [← Nat.add_assoc] at q1
    have e0 : ((c.length : Int) == 0) = false := by rw [beq_eq_false_iff_ne]; omega
    have i0 : (0 : Int) ≤ (l : Int) := by omega
    have i1 : (l : Int) < 10 := by omega
    have i2 : (0 : Int) ≤ (x : Int) := by omega
    have i3 : (x : Int) < 10 := by omega
    have Hd := Lib.hid h.drew
    generalize fM H c l x = b at *
    clear h ho ow hne h0 hlc con
    go_enter Try.func58, Try.ntmps58
    go_wp2
    go_region_held3 (fun w' => w'.cell? ⟨g, 0, none⟩ = some (.slice A c.length cap) ∧ w'.cell? ⟨g, 1 + l * 10 + x, none⟩ = some (.bool b)) (first | exact ⟨y0, y1⟩ | exact ⟨x0, q1⟩ | go_keep) (first | (go_at_call 75; refine (Con.out _ Hd.out).mono ?_; rintro e w2 ⟨rfl, hb2⟩; have y0 := keepc hb2 (g1d _ x0); have y1 := keepc hb2 (g1d _ q1)))
    go_wp2
    go_ret
    exact ⟨rfl, bstep (Below.refl _ _).drew hb2⟩

/-- One number appended, and where the row lies then. -/
theorem wp_append_int_at {w : World} {ops : Array Oper} {rest : List Oper} {o : Oper} {a : Act} {Q : Exit → Act → World → Prop} (hgd : o.guard = none) (s x : Operand)
    (ho : o.op = .call { callee := .builtin .append, args := #[s, x], argTypes := #[34, 34] }) (base : Nat) (v : Value) (xs : List Int) (hs : a.eval s = v)
    (hown : w.ownsRow base 3 1 v xs.length (cellsI xs)) (p : Int) (g : Nat) (hx : a.eval x = .slice (some ⟨g, 0, none⟩) 1 1)
    (h0 : w.cell? ⟨g, 0, none⟩ = some (.int .i64 p)) (hlen : xs.length ≤ 4194304) (hbase : base ≤ w.heap.size)
    (h : ∀ A c w', w'.ownsRow base 3 1 (.slice A (xs.length + 1) c) (xs.length + 1) (cellsI (xs ++ [p])) → w.grownBy w' v.ownBlock → ((Value.slice A (xs.length + 1) c).ownBlock = v.ownBlock ∨ (Value.slice A (xs.length + 1) c).ownBlock = some w.heap.size) → wpList Try.prog ops Q rest (a.put o.dst (.slice A (xs.length + 1) c)) w') :
    wpList Try.prog ops Q (o :: rest) a w := by
  obtain ⟨i0, hi, hz0, hz1, hz2⟩ := info_parts Try.info_int
  refine wpList_append_own_at w hgd s x 34 ho base 3 i0 _ 1 8 Try.underlying34 hi hz0 hz1 hz2 rfl (by decide) v xs.length (cellsI xs) hs (by simpa using hown) ⟨g, 0, none⟩ 1 1 [.int .i64 p] hx rfl ?_ ?_ (by unfold maxLen; omega) (by omega) hbase ?_
  · intro j u hj
    match j, hj with
    | 0, hj => simp at hj; subst hj; simpa [Addr.add] using h0
  · intro u hu
    simp at hu
    rcases hu with rfl; rfl
  · intro v' w' h1 h2 _ hat
    have h1' := h1
    obtain ⟨_, ⟨_, hn⟩ | ⟨g', cap, cur, rfl, _⟩⟩ := h1'
    · omega
    refine h _ _ w' ?_ h2 hat
    rw [cellsI_append]
    exact h1

theorem MkAt.at1 {g off : Nat} {f : Nat → Nat → Bool} {w : World} (h : MkAt g off f w) {a b : Nat} (ha : a ≤ 9) (hb : b ≤ 9) : w.cell? ⟨g, off + a * 10 + b, none⟩ = some (.bool (f a b)) := by
  rw [Nat.add_assoc]; exact h.m a b ha hb
theorem MkAt.set1 {g off : Nat} {f f' : Nat → Nat → Bool} {w : World} {p q : Nat} {v : Bool} (h : MkAt g off f w) (hp : p ≤ 9) (hq : q ≤ 9)
    (hf : ∀ a b : Nat, f' a b = if tile2 (a : Int) b = tile2 (p : Int) q then v else f a b) :
    MkAt g off f' ((w.setCell ⟨g, off + p * 10 + q, none⟩ (.bool v)).setCell ⟨g, off + q * 10 + p, none⟩ (.bool v)).drew := by
  have := h.set hp hq hf
  rw [← Nat.add_assoc, ← Nat.add_assoc] at this
  exact ⟨this.m, this.fz⟩

set_option maxRecDepth 100000 in
set_option maxHeartbeats 2000000 in
theorem c_marksSet1 (g a b : Nat) (ha : a ≤ 9) (hb : b ≤ 9) (v u1 u2 : Bool) (w : World) (h1 : w.cell? ⟨g, 1 + a * 10 + b, none⟩ = some (.bool u1)) (h2 : w.cell? ⟨g, 1 + b * 10 + a, none⟩ = some (.bool u2)) (hf : ∀ m, w.frozen? ⟨g, m, none⟩ = false) :
    Calls Try.prog 74 #[.pointer (some ⟨g, 1, none⟩), .int .i64 a, .int .i64 b, .bool v] w fun e w' => e = .returned (.tuple #[]) ∧ w' = ((w.setCell ⟨g, 1 + a * 10 + b, none⟩ (.bool v)).setCell ⟨g, 1 + b * 10 + a, none⟩ (.bool v)).drew := by
  have i0 : (0 : Int) ≤ (a : Int) := by omega
  have i1 : (a : Int) < 10 := by omega
  have i2 : (0 : Int) ≤ (b : Int) := by omega
  have i3 : (b : Int) < 10 := by omega
  have f1 := hf (1 + a * 10 + b)
  have f2 := hf (1 + b * 10 + a)
  obtain ⟨v', hy⟩ := cell?_setCell_some (w := w.drew) (p := ⟨g, 1 + a * 10 + b, none⟩) (x := .bool v) (q := ⟨g, 1 + b * 10 + a, none⟩) (v := .bool u2) h2
  obtain ⟨v2, hy2⟩ := cell?_setCell_some (w := w) (p := ⟨g, 1 + a * 10 + b, none⟩) (x := .bool v) (q := ⟨g, 1 + b * 10 + a, none⟩) (v := .bool u2) h2
  go_enter Try.func74, Try.ntmps74
  go_wp2
  go_region
  all_goals
    go_end0
    exact ⟨rfl, rfl⟩

set_option maxRecDepth 100000 in
set_option maxHeartbeats 4000000 in
theorem c_csLay (H : List (Int × Int)) (lo g : Nat) (c : List Int) (x : Nat) (w : World) (h : CsAt H lo g c w) (ho : OkC H c) (hl : c.length ≤ 56) (hx : x ≤ 9) (hlo : lo ≤ w.heap.size) :
    Calls Try.prog 59 #[.pointer (some ⟨g, 0, none⟩), .int .i64 (x : Int)] w fun e w' => e = .returned (.tuple #[]) ∧ CsAt H lo g (c ++ [(x : Int)]) w' ∧ Turn (OwnK g w) w w' ∧ ∀ k, OwnK g w' k → OwnK g w k ∨ w.heap.size ≤ k := by
  obtain ⟨A, cap, x0, ow, hne⟩ := h.ch
  have ng := block_lt x0
  by_cases h0 : c.length = 0
  · have r0 : ¬ (0 : Int) < (c.length : Int) := by omega
    have mkW : MkAt g 1 (fM H (c ++ [(x : Int)])) w := ⟨fun a b ha hb => by rw [fM_one (c := c ++ [(x : Int)]) (by rw [List.length_append, List.length_singleton]; omega), ← fM_one (c := c) (by omega)]; exact h.mks.m a b ha hb, h.mks.fz⟩
    have H0 := Lib.hid h0
    have owW := ow
    have tW : Turn (OwnK g w) w w := Turn.refl _ _
    have nW := ng
    go_enter Try.func59, Try.ntmps59
    have e1 : (c ++ [(x : Int)]).length = c.length + 1 := by simp
    have kA : ∀ b, (Value.slice A c.length cap).ownBlock = some b → OwnK g w b := fun b hb => .inr ⟨_, x0, hb⟩
    have f0 := mkW.fz 0
    have OW := Lib.hid (own_keep owW ((Below.refl w.heap.size w).alloc (Nat.le_refl _) (.cells #[.int .i64 (x : Int)] 3)))
    have MW := Lib.hid mkW
    have TW := Lib.hid tW
    clear h ho mkW owW tW ow h0
    go_wp2_with (at_builtin; refine wp_append_int_at rfl _ _ rfl lo _ c rfl OW.out (x : Int) w.heap.size rfl (by simp) (by omega) (by simp; omega) ?_; intro A2 c2 w3 own3 gr3 hat; have bk3 : ∀ b, b < w.heap.size → (Value.slice A c.length cap).ownBlock ≠ some b → w3.heap[b]? = w.heap[b]? := fun b hb hn => (gr3.block b (by simp; omega) (fun e => hn e.symm)).trans (((Below.refl w.heap.size w).alloc (Nat.le_refl _) (.cells #[.int .i64 (x : Int)] 3)).block b hb); have bg := bk3 g nW (fun e => hne g e rfl); have z0 : w3.cell? ⟨g, 0, none⟩ = some (.slice A c.length cap) := (World.cell?_of_block (a := ⟨g, 0, none⟩) bg).trans x0; have f3 := (MW.out.of_block bg).fz 0; have n3 := block_lt z0)
    go_wp2
    go_end0
    have m3 := MW.out.of_block bg
    have s3 := gr3.size
    rw [World.size_alloc] at s3
    have hat2 : ∀ b, (Value.slice A2 (c.length + 1) c2).ownBlock = some b → b ≠ g := by
      intro b hb
      rcases hat with h | h
      · exact hne b (h ▸ hb)
      · rw [hb] at h
        have := Option.some.inj h
        rw [World.size_alloc] at this
        omega
    have t3 : Turn (OwnK g w) w w3 := ⟨gr3.os, gr3.tape, gr3.output, by omega, fun k hk hn => bk3 k hk (fun e => hn (kA k e))⟩
    refine ⟨rfl, ⟨⟨A2, c2, ?_, ?_, ?_⟩, ?_⟩, ?_, ?_⟩
    · rw [e1]; exact World.cell?_setCell_same _ _ _ z0
    · rw [e1]; exact own_off2 own3 hat2
    · rw [e1]; exact hat2
    · exact ⟨fun a b ha hb => (World.cell?_setCell_other _ _ _ _ (by first | (simp; omega) | simp)).trans (m3.m a b ha hb), fun m => by simp [m3.fz]⟩
    · exact (TW.out.trans t3 (fun k _ h => h)).trans (Turn.setCell _ _ (.inl rfl)) (fun k _ h => h)
    · rintro k (rfl | ⟨v, hv, hb⟩)
      · exact .inl (.inl rfl)
      · rw [World.cell?_setCell_same _ _ _ z0] at hv
        cases hv
        rcases hat with h | h
        · exact .inl (kA k (h ▸ hb))
        · rw [hb] at h
          have := Option.some.inj h
          rw [World.size_alloc] at this
          have := TW.out.size
          omega
  · have r0 : (0 : Int) < (c.length : Int) := by omega
    obtain ⟨l, hl9, hlc⟩ := lastC_num ho
    have con := fun W (h : CsAt H lo g c W) => c_csEnd lo g c W h.ch h0 hl
    rw [hlc] at con
    have Con := Lib.hid con
    have Hd := Lib.hid h.drew
    have hf : ∀ a b : Nat, fM H (c ++ [(x : Int)]) a b = if tile2 (a : Int) b = tile2 (l : Int) x then false else fM H c a b := fun a b => by rw [fM_lay H h0, hlc]
    have Hf := Lib.hid hf
    clear con hf
    go_enter Try.func59, Try.ntmps59
    go_wp2
    go_region_held3 (fun w' => True) (first | exact trivial | go_keep) (first | (go_at_call 75; refine (Con.out _ Hd.out).mono ?_; rintro e' w2 ⟨rfl, hb2⟩; have k2 := Hd.out.keep hb2) | (go_at_call 74; refine (c_marksSet1 g l x hl9 hx false _ _ _ (k2.mks.at1 hl9 hx) (k2.mks.at1 hx hl9) k2.mks.fz).mono ?_; rintro e' w4 ⟨rfl, rfl⟩))
    obtain ⟨W, hw4⟩ : ∃ W, W = ((w2.setCell ⟨g, 1 + l * 10 + x, none⟩ (.bool false)).setCell ⟨g, 1 + x * 10 + l, none⟩ (.bool false)).drew := ⟨_, rfl⟩
    rw [← hw4]
    have mkW : MkAt g 1 (fM H (c ++ [(x : Int)])) W := by rw [hw4]; exact k2.mks.set1 hl9 hx Hf.out
    have yw2 : w2.cell? ⟨g, 0, none⟩ = some (.slice A c.length cap) := keepc hb2 (g1d _ x0)
    have yW : W.cell? ⟨g, 0, none⟩ = some (.slice A c.length cap) := by rw [hw4]; exact g1d _ ((World.cell?_setCell_other _ _ _ _ (by first | (simp; omega) | simp)).trans ((World.cell?_setCell_other _ _ _ _ (by first | (simp; omega) | simp)).trans yw2))
    have owW : W.ownsRow lo 3 1 (.slice A c.length cap) c.length (cellsI c) := by rw [hw4]; exact own_drew (own_off2 (own_off2 (own_keep (own_drew ow) hb2) hne) hne)
    have tW : Turn (OwnK g w) w W := by
      rw [hw4]
      exact (((Turn.of_below (bstep (Below.refl _ w).drew hb2)).trans (Turn.setCell _ _ (.inl rfl)) (fun k _ h => h)).trans (Turn.setCell _ _ (.inl rfl)) (fun k _ h => h)).trans ⟨rfl, rfl, rfl, Nat.le_refl _, fun _ _ _ => rfl⟩ (fun k _ h => h)
    have nW : g < W.heap.size := block_lt yW
    have sW : w.heap.size ≤ W.heap.size := tW.size
    clear hw4 k2 hb2 yw2 Con Hd Hf hlc
    have e1 : (c ++ [(x : Int)]).length = c.length + 1 := by simp
    have kA : ∀ b, (Value.slice A c.length cap).ownBlock = some b → OwnK g w b := fun b hb => .inr ⟨_, x0, hb⟩
    have f0 := mkW.fz 0
    have OW := Lib.hid (own_keep owW ((Below.refl W.heap.size W).alloc (Nat.le_refl _) (.cells #[.int .i64 (x : Int)] 3)))
    have MW := Lib.hid mkW
    have TW := Lib.hid tW
    clear h ho mkW owW tW ow h0
    go_wp2_with (at_builtin; refine wp_append_int_at rfl _ _ rfl lo _ c rfl OW.out (x : Int) W.heap.size rfl (by simp) (by omega) (by simp; omega) ?_; intro A2 c2 w3 own3 gr3 hat; have bk3 : ∀ b, b < W.heap.size → (Value.slice A c.length cap).ownBlock ≠ some b → w3.heap[b]? = W.heap[b]? := fun b hb hn => (gr3.block b (by simp; omega) (fun e => hn e.symm)).trans (((Below.refl W.heap.size W).alloc (Nat.le_refl _) (.cells #[.int .i64 (x : Int)] 3)).block b hb); have bg := bk3 g nW (fun e => hne g e rfl); have z0 : w3.cell? ⟨g, 0, none⟩ = some (.slice A c.length cap) := (World.cell?_of_block (a := ⟨g, 0, none⟩) bg).trans yW; have f3 := (MW.out.of_block bg).fz 0; have n3 := block_lt z0)
    go_wp2
    go_end0
    have m3 := MW.out.of_block bg
    have s3 := gr3.size
    rw [World.size_alloc] at s3
    have hat2 : ∀ b, (Value.slice A2 (c.length + 1) c2).ownBlock = some b → b ≠ g := by
      intro b hb
      rcases hat with h | h
      · exact hne b (h ▸ hb)
      · rw [hb] at h
        have := Option.some.inj h
        rw [World.size_alloc] at this
        omega
    have t3 : Turn (OwnK g w) W w3 := ⟨gr3.os, gr3.tape, gr3.output, by omega, fun k hk hn => bk3 k hk (fun e => hn (kA k e))⟩
    refine ⟨rfl, ⟨⟨A2, c2, ?_, ?_, ?_⟩, ?_⟩, ?_, ?_⟩
    · rw [e1]; exact World.cell?_setCell_same _ _ _ z0
    · rw [e1]; exact own_off2 own3 hat2
    · rw [e1]; exact hat2
    · exact ⟨fun a b ha hb => (World.cell?_setCell_other _ _ _ _ (by first | (simp; omega) | simp)).trans (m3.m a b ha hb), fun m => by simp [m3.fz]⟩
    · exact (TW.out.trans t3 (fun k _ h => h)).trans (Turn.setCell _ _ (.inl rfl)) (fun k _ h => h)
    · rintro k (rfl | ⟨v, hv, hb⟩)
      · exact .inl (.inl rfl)
      · rw [World.cell?_setCell_same _ _ _ z0] at hv
        cases hv
        rcases hat with h | h
        · exact .inl (kA k (h ▸ hb))
        · rw [hb] at h
          have := Option.some.inj h
          rw [World.size_alloc] at this
          have := TW.out.size
          omega

set_option maxRecDepth 100000 in
set_option maxHeartbeats 4000000 in
theorem c_csTake (H : List (Int × Int)) (lo g : Nat) (c : List Int) (w : World) (h : CsAt H lo g c w) (ho : OkC H c) (h0 : c.length ≠ 0) (hl : c.length ≤ 56) :
    Calls Try.prog 60 #[.pointer (some ⟨g, 0, none⟩)] w fun e w' => e = .returned (.int .i64 (lastC c)) ∧ CsAt H lo g c.dropLast w' ∧ Turn (OwnK g w) w w' ∧ ∀ k, OwnK g w' k → OwnK g w k := by
  have con := c_csEnd lo g c w h.ch h0 hl
  have Con := Lib.hid con
  obtain ⟨A, cap, x0, ow, hne⟩ := h.ch
  obtain ⟨m, hm⟩ : ∃ m, c.length = m + 1 := ⟨c.length - 1, by omega⟩
  have hcap := own_cap ow
  obtain ⟨ga, rfl⟩ : ∃ ga, A = some ⟨ga, 0, none⟩ := by
    obtain ⟨_, ⟨hv, hn⟩ | ⟨g', cap', cur, hv, _⟩⟩ := id ow
    · omega
    · injection hv with e1 e2 e3; exact ⟨g', e1⟩
  have hdl : c.dropLast.length = m := by rw [List.length_dropLast]; omega
  have i1 : IntKind.i64.wrap ((c.length : Int) - 1) = (m : Int) := by rw [IntWalk.i64_in _ (by omega)]; omega
  have i2 : (0 : Int) ≤ (m : Int) := by omega
  have i3 : (m : Int) ≤ (cap : Int) := by omega
  have ng := block_lt x0
  have fz := h.mks.fz
  have HC := Lib.hid h
  have HO := Lib.hid ho
  have OW := Lib.hid ow
  have HM := Lib.hid hm
  have HN := Lib.hid hne
  obtain ⟨q, hq9, hz⟩ := lastC_num ho
  have HZ := Lib.hid hz
  have con2 := Con.out
  rw [hz] at con2
  have Con2 := Lib.hid con2
  have HD := Lib.hid hdl
  clear con con2 Con h ho ow hm hne h0 hz hdl
  go_enter Try.func60, Try.ntmps60
  go_wp2_with fail
  refine Con2.out.mono ?_
  rintro e w1 ⟨rfl, hb1⟩
  have x1 := keepc hb1 x0
  have f1 : w1.frozen? ⟨g, 0, none⟩ = false := (hb1.frozen (p := ⟨g, 0, none⟩) ng).trans (fz 0)
  have n1 : g < w1.heap.size := block_lt x1
  go_wp2
  go_region
  obtain ⟨w2, hw2⟩ : ∃ w2, w2 = (w1.setCell ⟨g, 0, none⟩ (.slice (some ⟨ga, 0, none⟩) m cap)).drew := ⟨_, rfl⟩
  rw [← hw2]
  have x2 : w2.cell? ⟨g, 0, none⟩ = some (.slice (some ⟨ga, 0, none⟩) m cap) := by rw [hw2]; exact g1d _ (World.cell?_setCell_same _ _ _ x1)
  have hne2 : ∀ b, (Value.slice (some ⟨ga, 0, none⟩) m cap).ownBlock = some b → b ≠ g := fun b hb => HN.out b hb
  have ow2 : w2.ownsRow lo 3 1 (.slice (some ⟨ga, 0, none⟩) m cap) m (cellsI c.dropLast) := by
    have h1 := own_shrink (own_keep OW.out hb1) (m := m) (by have := HM.out; omega)
    have h2 : (cellsI c).take (m * 1) = cellsI c.dropLast := by
      unfold cellsI
      rw [Nat.mul_one, ← List.map_take, List.dropLast_eq_take, HM.out]
      rfl
    rw [h2] at h1
    rw [hw2]
    exact own_drew (own_off2 h1 hne2)
  have mk2 : MkAt g 1 (fM H c) w2 := by
    have h1 := HC.out.mks.of_block (hb1.block g ng)
    rw [hw2]
    exact ⟨fun a b ha hb => g1d _ ((World.cell?_setCell_other _ _ _ _ (by first | (simp; omega) | simp)).trans (h1.m a b ha hb)), fun m => by have := h1.fz m; simpa using this⟩
  have t2 : Turn (OwnK g w) w w2 := by
    rw [hw2]
    exact ((Turn.of_below hb1).trans (Turn.setCell _ _ (.inl rfl)) (fun k _ h => h)).trans ⟨rfl, rfl, rfl, Nat.le_refl _, fun _ _ _ => rfl⟩ (fun k _ h => h)
  have n2 : g < w2.heap.size := block_lt x2
  have kk : ∀ (W : World), W.cell? ⟨g, 0, none⟩ = some (.slice (some ⟨ga, 0, none⟩) m cap) → ∀ k, OwnK g W k → OwnK g w k := by
    rintro W hW k (rfl | ⟨v, hv, hb⟩)
    · exact .inl rfl
    · rw [hW] at hv
      cases hv
      exact .inr ⟨_, x0, hb⟩
  have KK := Lib.hid kk
  have MK := Lib.hid mk2
  have OW2 := Lib.hid ow2
  have T2 := Lib.hid t2
  have CH : Hid (∀ W : World, W.cell? ⟨g, 0, none⟩ = some (.slice (some ⟨ga, 0, none⟩) m cap) → W.ownsRow lo 3 1 (.slice (some ⟨ga, 0, none⟩) m cap) m (cellsI c.dropLast) → ChAt lo g c.dropLast W) := Lib.hid fun W h1 h2 => ⟨some ⟨ga, 0, none⟩, cap, by rw [HD.out]; exact h1, by rw [HD.out]; exact h2, by rw [HD.out]; exact hne2⟩
  have HN2 := Lib.hid hne2
  clear kk mk2 ow2 t2 hw2 x0 x1 f1 n1 hb1 fz i1 i3 hcap hne2
  by_cases h0 : m = 0
  · have r0 : ¬ (0 : Int) < (m : Int) := by omega
    have H0 := Lib.hid h0
    clear h0
    go_wp2
    go_ret
    refine ⟨by rw [HZ.out]; rfl, ⟨CH.out w2 x2 OW2.out, ⟨fun a b ha hb => ?_, MK.out.fz⟩⟩, T2.out, KK.out w2 x2⟩
    rw [fM_one (c := c.dropLast) (by rw [HD.out, H0.out]; omega), ← fM_one (c := c) (by rw [HM.out, H0.out]; omega)]
    exact MK.out.m a b ha hb
  · have r0 : (0 : Int) < (m : Int) := by omega
    obtain ⟨l, hl9, hlc⟩ := lastC_num HO.out.pop
    have con := fun W (h : ChAt lo g c.dropLast W) => c_csEnd lo g c.dropLast W h (by rw [HD.out]; exact h0) (by rw [HD.out]; have := HM.out; omega)
    rw [hlc] at con
    have Con := Lib.hid con
    have hf : ∀ a b : Nat, fM H c.dropLast a b = if tile2 (a : Int) b = tile2 (l : Int) q then true else fM H c a b := fun a b => by rw [fM_take HO.out (by rw [HD.out]; exact h0), hlc, HZ.out]
    have Hf := Lib.hid hf
    have C2 := Lib.hid (CH.out w2.drew (g1d _ x2) (own_drew OW2.out))
    have M2 : Hid (MkAt g 1 (fM H c) w2.drew) := Lib.hid ⟨MK.out.m, MK.out.fz⟩
    clear con hf hlc h0
    go_wp2
    go_region_held3 (fun w' => True) (first | exact trivial | go_keep) (first | (go_at_call 75; refine (Con.out _ C2.out).mono ?_; rintro e' w3 ⟨rfl, hb3⟩; have k3 := M2.out.of_block (hb3.block g n2)) | (go_at_call 74; refine (c_marksSet1 g l q hl9 hq9 true _ _ _ (k3.at1 hl9 hq9) (k3.at1 hq9 hl9) k3.fz).mono ?_; rintro e' w4 ⟨rfl, rfl⟩))
    obtain ⟨W, hw4⟩ : ∃ W, W = ((w3.setCell ⟨g, 1 + l * 10 + q, none⟩ (.bool true)).setCell ⟨g, 1 + q * 10 + l, none⟩ (.bool true)).drew := ⟨_, rfl⟩
    rw [← hw4]
    have mkW := Lib.hid (show MkAt g 1 (fM H c.dropLast) W by rw [hw4]; exact k3.set1 hl9 hq9 Hf.out)
    have y3 : w3.cell? ⟨g, 0, none⟩ = some (.slice (some ⟨ga, 0, none⟩) m cap) := keepc hb3 (g1d _ x2)
    have yW : W.cell? ⟨g, 0, none⟩ = some (.slice (some ⟨ga, 0, none⟩) m cap) := by rw [hw4]; exact g1d _ ((World.cell?_setCell_other _ _ _ _ (by first | (simp; omega) | simp)).trans ((World.cell?_setCell_other _ _ _ _ (by first | (simp; omega) | simp)).trans y3))
    have owW := Lib.hid (show W.ownsRow lo 3 1 (.slice (some ⟨ga, 0, none⟩) m cap) m (cellsI c.dropLast) by rw [hw4]; exact own_drew (own_off2 (own_off2 (own_keep (own_drew OW2.out) hb3) HN2.out) HN2.out))
    have tW := Lib.hid (show Turn (OwnK g w) w W by
      rw [hw4]
      exact (((T2.out.trans (Turn.of_below (bstep (Below.refl _ w2).drew hb3)) (fun k _ h => h)).trans (Turn.setCell _ _ (.inl rfl)) (fun k _ h => h)).trans (Turn.setCell _ _ (.inl rfl)) (fun k _ h => h)).trans ⟨rfl, rfl, rfl, Nat.le_refl _, fun _ _ _ => rfl⟩ (fun k _ h => h))
    clear hw4 k3 hb3 y3 Con C2 M2 Hf x2 n2
    go_wp2
    go_ret
    exact ⟨by rw [HZ.out]; rfl, ⟨CH.out W yW owW.out, mkW.out⟩, tW.out, KK.out W yW⟩

end Go.Proofs.Ytjhedjokifnofaa

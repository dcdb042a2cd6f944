/- All chains of a hand by the specification: what it keeps in memory, the list of full chains with it. -/
import Derived.Test.YtjhedjokifnofaaLkS
import Derived.Test.YtjhedjokifnofaaOwnP
namespace Go.Proofs.Ytjhedjokifnofaa
open Go.RowKit
set_option linter.unusedVariables false

def stepV (M m : Nat) (ls : List (List Int)) (c : List Int) : List (List Int) := if c.length = m + 1 then (if ls.length ≤ M then ls ++ [c] else ls) else ls
def foldV (M m : Nat) (ls : List (List Int)) (L : List (List Int)) : List (List Int) := L.foldl (stepV M m) ls
theorem foldV_app (M m : Nat) (ls L L' : List (List Int)) : foldV M m ls (L ++ L') = foldV M m (foldV M m ls L) L' := List.foldl_append
abbrev LkU (pb gc gu : Nat) (AL : Option Addr) (k : Nat) : Prop := LkT pb gc gu k ∨ ∃ a, AL = some a ∧ a.block = k
/-- From w to w' only the search's blocks turn, and the list's. -/
structure Rl (pb gc gu : Nat) (AL AL' : Option Addr) (w w' : World) : Prop where
  tu : Turn (LkU pb gc gu AL) w w'
  pl : ∀ a', AL' = some a' → (∃ a, AL = some a ∧ a.block = a'.block) ∨ w.heap.size ≤ a'.block
section
variable {pb gc gu : Nat} {AL AL' AL'' : Option Addr} {w w' w'' : World}
theorem Rl.refl (AL : Option Addr) (w : World) : Rl pb gc gu AL AL w w := ⟨Turn.refl _ _, fun a h => .inl ⟨a, h, rfl⟩⟩
theorem Rl.trans (h : Rl pb gc gu AL AL' w w') (g : Rl pb gc gu AL' AL'' w' w'') : Rl pb gc gu AL AL'' w w'' := by
  refine ⟨h.tu.trans g.tu (fun k hk hu => ?_), fun a2 h2 => ?_⟩
  · rcases hu with hu | ⟨a, ha, hb⟩
    · exact .inl hu
    · rcases h.pl a ha with ⟨a0, h0, h1⟩ | h1
      · exact .inr ⟨a0, h0, h1.trans hb⟩
      · omega
  · rcases g.pl a2 h2 with ⟨a1, h1, e1⟩ | e1
    · rcases h.pl a1 h1 with ⟨a0, h0, e0⟩ | e0
      · exact .inl ⟨a0, h0, e0.trans e1⟩
      · exact .inr (by omega)
    · exact .inr (Nat.le_trans h.tu.size e1)
theorem Rl.below (h : Below w.heap.size w w') : Rl pb gc gu AL AL w w' := ⟨Turn.of_below h, fun a h => .inl ⟨a, h, rfl⟩⟩
theorem Rl.setCell (p : Addr) (u : Value) (hp : LkT pb gc gu p.block) : Rl pb gc gu AL AL w (w.setCell p u) := ⟨Turn.setCell _ _ (.inl hp), fun a h => .inl ⟨a, h, rfl⟩⟩
theorem Rl.append {n c n' c' : Nat} (hg : w.grownBy w' (Value.slice AL n c).ownBlock) (hat : (Value.slice AL' n' c').ownBlock = (Value.slice AL n c).ownBlock ∨ (Value.slice AL' n' c').ownBlock = some w.heap.size) : Rl pb gc gu AL AL' w w' := by
  refine ⟨Turn.of_grown hg (fun k e => ?_), fun a' h' => ?_⟩
  · cases AL with
    | none => cases e
    | some a => cases e; exact .inr ⟨a, rfl, rfl⟩
  · subst h'
    rcases hat with e | e
    · cases AL with
      | none => cases e
      | some a => injection e with e; exact .inl ⟨a, rfl, e.symm⟩
    · injection e with e; exact .inr (by omega)
end
/-- The search's struct (block pb), its counts (gc), the marks of the tiles used (gu), and the list of full chains. -/
structure Lo2 (H : List (Int × Int)) (lo pb gc gu M : Nat) (AH : Option Addr) (cH : Nat) (c : List Int) (s : S3) (ls : List (List Int)) (AL : Option Addr) (cL : Nat) (w : World) : Prop where
  h1 : lo ≤ pb
  h2 : lo ≤ gc
  h3 : lo ≤ gu
  n1 : pb ≠ gc
  n2 : pb ≠ gu
  n3 : gc ≠ gu
  c0 : w.cell? ⟨pb, 0, none⟩ = some (.slice AH H.length cH)
  c1 : w.cell? ⟨pb, 1, none⟩ = some (.int .i64 (M : Int))
  c2 : w.cell? ⟨pb, 2, none⟩ = some (.int .i64 (s.n : Int))
  c3 : w.cell? ⟨pb, 3, none⟩ = some (.slice (some ⟨gc, 0, none⟩) H.length H.length)
  c4 : w.cell? ⟨pb, 4, none⟩ = some (.slice AL ls.length cL)
  c5 : ∃ AG cG, w.cell? ⟨pb, 5, none⟩ = some (.slice AG s.L.length cG)
  fz : ∀ m, w.frozen? ⟨pb, m, none⟩ = false
  len : s.C.length = H.length
  cnt : w.ownsRow lo 3 1 (.slice (some ⟨gc, 0, none⟩) H.length H.length) H.length (cellsI s.C)
  usd : ∀ i (h : i < H.length), w.cell? ⟨gu, i, none⟩ = some (.bool (decide (H[i] ∈ tilesC c)))
  fu : ∀ m, w.frozen? ⟨gu, m, none⟩ = false
  lst : OwnPP 34 3 1 cellsI w lo (fun g => ¬ LkT pb gc gu g) (.slice AL ls.length cL) ls
section
variable {H : List (Int × Int)} {lo pb gc gu M cH cL : Nat} {AH AL : Option Addr} {c : List Int} {s : S3} {ls : List (List Int)} {w w' : World}
theorem Lo2.lt (h : Lo2 H lo pb gc gu M AH cH c s ls AL cL w) : pb < w.heap.size := block_lt h.c0
theorem Lo2.ltc (h : Lo2 H lo pb gc gu M AH cH c s ls AL cL w) : gc < w.heap.size := (h.cnt.lt gc rfl).2
theorem Lo2.low (h : Lo2 H lo pb gc gu M AH cH c s ls AL cL w) : ∀ k, LkU pb gc gu AL k → lo ≤ k := by
  have g1 := h.h1
  have g2 := h.h2
  have g3 := h.h3
  rintro k ((rfl | rfl | rfl) | ⟨a, rfl, rfl⟩)
  · omega
  · omega
  · omega
  · exact (h.lst.lt a.block rfl).1
theorem Lo2.keep (h : Lo2 H lo pb gc gu M AH cH c s ls AL cL w) (hb : Below w.heap.size w w') (hu : gu < w.heap.size) : Lo2 H lo pb gc gu M AH cH c s ls AL cL w' := by
  obtain ⟨AG, cG, k3⟩ := h.c5
  exact { h with
    c0 := keepc hb h.c0, c1 := keepc hb h.c1, c2 := keepc hb h.c2, c3 := keepc hb h.c3, c4 := keepc hb h.c4, c5 := ⟨AG, cG, keepc hb k3⟩
    fz := fun m => (hb.frozen (p := ⟨pb, m, none⟩) h.lt).trans (h.fz m), cnt := own_keep h.cnt hb, usd := fun i hi => keepc hb (h.usd i hi), fu := fun m => (hb.frozen (p := ⟨gu, m, none⟩) hu).trans (h.fu m), lst := h.lst.keep hb }
theorem Lo2.mark (h : Lo2 H lo pb gc gu M AH cH c s ls AL cL w) {c' : List Int} {i : Nat} {v : Bool} (hi : i < H.length) (hv : ∀ j (hj : j < H.length), decide (H[j] ∈ tilesC c') = if j = i then v else decide (H[j] ∈ tilesC c)) :
    Lo2 H lo pb gc gu M AH cH c' s ls AL cL (w.setCell ⟨gu, i, none⟩ (.bool v)) := by
  obtain ⟨AG, cG, k3⟩ := h.c5
  have e : ∀ (j : Nat) (x : Value), w.cell? ⟨pb, j, none⟩ = some x → (w.setCell ⟨gu, i, none⟩ (.bool v)).cell? ⟨pb, j, none⟩ = some x := fun j x hx => (World.cell?_setCell_other _ _ _ _ (by simp; exact fun e => absurd e.symm h.n2)).trans hx
  exact { h with
    c0 := e _ _ h.c0, c1 := e _ _ h.c1, c2 := e _ _ h.c2, c3 := e _ _ h.c3, c4 := e _ _ h.c4, c5 := ⟨AG, cG, e _ _ k3⟩
    fz := fun m => by simp [h.fz], cnt := own_off2 h.cnt (fun g hg => by cases hg; exact h.n3), fu := fun m => by simp [h.fu], lst := h.lst.set (fun hn => hn (.inr (.inr rfl)))
    usd := fun j hj => by
      rw [hv j hj]
      by_cases e2 : j = i
      · subst e2
        rw [if_pos rfl]
        exact World.cell?_setCell_same _ _ _ (h.usd j hj)
      · rw [if_neg e2]
        exact (World.cell?_setCell_other _ _ _ _ (by first | (simp; done) | (simp; exact e2) | (simp; omega) | simp [e2])).trans (h.usd j hj) }
theorem Lo2.count (h : Lo2 H lo pb gc gu M AH cH c s ls AL cL w) (n : Nat) : Lo2 H lo pb gc gu M AH cH c ⟨n, s.C, s.L⟩ ls AL cL (w.setCell ⟨pb, 2, none⟩ (.int .i64 (n : Int))) := by
  obtain ⟨AG, cG, k3⟩ := h.c5
  exact { h with
    c0 := pb_other rfl (.inr (by decide)) h.c0, c1 := pb_other rfl (.inr (by decide)) h.c1, c2 := World.cell?_setCell_same _ _ _ h.c2, c3 := pb_other rfl (.inr (by decide)) h.c3
    c4 := pb_other rfl (.inr (by decide)) h.c4, c5 := ⟨AG, cG, pb_other rfl (.inr (by decide)) k3⟩
    fz := fun m => by simp [h.fz], cnt := own_off2 h.cnt (fun g hg => by cases hg; exact fun e => h.n1 e.symm), fu := fun m => by simp [h.fu], lst := h.lst.set (fun hn => hn (.inl rfl))
    usd := fun j hj => pb_other rfl (.inl (fun e => h.n2 e.symm)) (h.usd j hj) }
theorem Lo2.longest (h : Lo2 H lo pb gc gu M AH cH c s ls AL cL w) (L : List Int) (AG : Option Addr) (cG : Nat) :
    Lo2 H lo pb gc gu M AH cH c ⟨s.n, s.C, L⟩ ls AL cL (w.setCell ⟨pb, 5, none⟩ (.slice AG L.length cG)) := by
  obtain ⟨AG', cG', k3⟩ := h.c5
  exact { h with
    c0 := pb_other rfl (.inr (by decide)) h.c0, c1 := pb_other rfl (.inr (by decide)) h.c1, c2 := pb_other rfl (.inr (by decide)) h.c2, c3 := pb_other rfl (.inr (by decide)) h.c3
    c4 := pb_other rfl (.inr (by decide)) h.c4, c5 := ⟨AG, cG, World.cell?_setCell_same _ _ _ k3⟩
    fz := fun m => by simp [h.fz], cnt := own_off2 h.cnt (fun g hg => by cases hg; exact fun e => h.n1 e.symm), fu := fun m => by simp [h.fu], lst := h.lst.set (fun hn => hn (.inl rfl))
    usd := fun j hj => pb_other rfl (.inl (fun e => h.n2 e.symm)) (h.usd j hj) }
theorem Lo2.counts (h : Lo2 H lo pb gc gu M AH cH c s ls AL cL w) {k : Nat} (hk : k < H.length) (v : Int) : Lo2 H lo pb gc gu M AH cH c ⟨s.n, s.C.set k v, s.L⟩ ls AL cL (w.setCell ⟨gc, k, none⟩ (.int .i64 v)) := by
  obtain ⟨AG, cG, k3⟩ := h.c5
  have hs : (cellsI s.C).set k (.int .i64 v) = cellsI (s.C.set k v) := by unfold cellsI; rw [List.map_set]
  exact { h with
    c0 := pb_other rfl (.inl h.n1) h.c0, c1 := pb_other rfl (.inl h.n1) h.c1, c2 := pb_other rfl (.inl h.n1) h.c2, c3 := pb_other rfl (.inl h.n1) h.c3
    c4 := pb_other rfl (.inl h.n1) h.c4, c5 := ⟨AG, cG, pb_other rfl (.inl h.n1) k3⟩
    fz := fun m => by simp [h.fz], len := by simp [h.len], cnt := by rw [← hs]; exact (h.cnt.stored k _).1, fu := fun m => by simp [h.fu], lst := h.lst.set (fun hn => hn (.inr (.inl rfl)))
    usd := fun j hj => pb_other rfl (.inl (fun e => h.n3 e.symm)) (h.usd j hj) }
/-- The list has grown. -/
theorem Lo2.list (h : Lo2 H lo pb gc gu M AH cH c s ls AL cL w) (hu : gu < w.heap.size) {ls' : List (List Int)} {AL' : Option Addr} {cL' : Nat} (hg : w.grownBy w' (Value.slice AL ls.length cL).ownBlock) (hn : OwnPP 34 3 1 cellsI w' lo (fun g => ¬ LkT pb gc gu g) (.slice AL' ls'.length cL') ls') :
    Lo2 H lo pb gc gu M AH cH c s ls' AL' cL' (w'.setCell ⟨pb, 4, none⟩ (.slice AL' ls'.length cL')) := by
  obtain ⟨AG, cG, k3⟩ := h.c5
  have ht : Turn (fun k => (Value.slice AL ls.length cL).ownBlock = some k) w w' := Turn.of_grown hg (fun k e => e)
  have hno : ∀ k, LkT pb gc gu k → ¬ (Value.slice AL ls.length cL).ownBlock = some k := fun k hk e => h.lst.has k e hk
  have e : ∀ (j : Nat) (x : Value), w.cell? ⟨pb, j, none⟩ = some x → w'.cell? ⟨pb, j, none⟩ = some x := fun j x hx => ht.cell (hno _ (.inl rfl)) hx
  have ep := ht.block pb h.lt (hno _ (.inl rfl))
  have eg := ht.block gc h.ltc (hno _ (.inr (.inl rfl)))
  have eu := ht.block gu hu (hno _ (.inr (.inr rfl)))
  have hc : w'.ownsRow lo 3 1 (.slice (some ⟨gc, 0, none⟩) H.length H.length) H.length (cellsI s.C) := own_blockG h.cnt (fun g hg => by cases hg; exact eg)
  exact { h with
    c0 := pb_other rfl (.inr (by decide)) (e _ _ h.c0), c1 := pb_other rfl (.inr (by decide)) (e _ _ h.c1), c2 := pb_other rfl (.inr (by decide)) (e _ _ h.c2), c3 := pb_other rfl (.inr (by decide)) (e _ _ h.c3)
    c4 := World.cell?_setCell_same _ _ _ (e _ _ h.c4), c5 := ⟨AG, cG, pb_other rfl (.inr (by decide)) (e _ _ k3)⟩
    fz := fun m => by simp [(frozen_of_blk ep).trans (h.fz m)], cnt := own_off2 hc (fun g hg => by cases hg; exact fun e => h.n1 e.symm), fu := fun m => by simp [(frozen_of_blk eu).trans (h.fu m)], lst := hn.set (fun hp => hp (.inl rfl))
    usd := fun j hj => pb_other rfl (.inl (fun e => h.n2 e.symm)) ((World.cell?_of_block (a := ⟨gu, j, none⟩) eu).trans (h.usd j hj)) }
end
/-- What a call of the search leaves. -/
def LkP (H : List (Int × Int)) (lo pb gc gu M : Nat) (AH : Option Addr) (cH : Nat) (c : List Int) (s : S3) (ls : List (List Int)) (AL : Option Addr) (w : World) (e : Ending) (w' : World) : Prop :=
  e = .returned (.tuple #[]) ∧ ∃ AL' cL', Lo2 H lo pb gc gu M AH cH c s ls AL' cL' w' ∧ Rl pb gc gu AL AL' w w'
end Go.Proofs.Ytjhedjokifnofaa

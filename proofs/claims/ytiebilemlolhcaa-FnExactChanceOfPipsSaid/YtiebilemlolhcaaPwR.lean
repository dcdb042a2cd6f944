/- Hands counted by their pips: rows of maps and rows of numbers in memory. No function of the program is named here. -/
import Derived.Test.YtiebilemlolhcaaPwM
import Derived.Test.YtiebilemlolhcaaBx2
namespace Go.Proofs.Ytiebilemlolhcaa
open Go.RowKit Go.Maps Go.ChangeMaps
set_option linter.unusedVariables false

theorem wrap_in {x y : Int} (h : x = y) (hy : -9223372036854775808 ≤ y ∧ y ≤ 9223372036854775807) : IntKind.i64.wrap x = y := by
  subst h
  exact IntWalk.i64_in _ (by omega)
theorem Bx2.kept {w w' : World} {row : Option Nat} {b : Nat} {v0 v1 : Value} (h : Bx2 w b v0 v1) (hg : w.grownBy w' row) (hne : some b ≠ row) : Bx2 w' b v0 v1 :=
  ⟨hg.cell h.c0 hne, hg.cell h.c1 hne, fun m => (World.frozen?_of_block (a := ⟨b, m, none⟩) (hg.block b h.lt hne)).trans (h.fz m)⟩
theorem cell_gr {w w' : World} {row : Option Nat} {a : Addr} {v : Value} (h : w.cell? a = some v) (hg : w.grownBy w' row) (hne : some a.block ≠ row) : w'.cell? a = some v := hg.cell h hne
theorem frz_gr {w w' : World} {row : Option Nat} {b m : Nat} {v : Value} (h : w.frozen? ⟨b, m, none⟩ = false) (hl : b < w.heap.size) (hg : w.grownBy w' row) (hne : some b ≠ row) : w'.frozen? ⟨b, m, none⟩ = false :=
  (World.frozen?_of_block (a := ⟨b, m, none⟩) (hg.block b hl hne)).trans h

/-- 'make([]E, n)', elements of one cell: a new block, and nothing else. -/
theorem wp_make_one {w : World} {ops : Array Oper} {rest : List Oper} {o : Oper} {a : Act} {Q : Exit → Act → World → Prop}
    (hg : o.guard = none) (l c : Operand) (t : TypeId) (hop : o.op = Op.makeSlice t l c) (e : TypeId) (i : TypeInfo) (z u : Value) (h1 : Try.prog.underlying t = some (.slice e)) (h2 : Try.prog.info? e = some i) (h3 : i.zero = some z) (h4 : i.size = 1) (hz : z.cells = #[u])
    (kl kc : IntKind) (L : Int) (n : Nat) (hl : a.eval l = .int kl L) (hc : a.eval c = .int kc L) (hL : L = (n : Int)) (b2 : (i.bytes : Int) * (n : Int) ≤ 281474976710656) (b3 : n ≤ 9223372036854775807)
    (hK : ∀ w', w'.heap.size = w.heap.size + 1 → (∀ j, j < n → w'.cell? ⟨w.heap.size, j, none⟩ = some u) → (∀ m, w'.frozen? ⟨w.heap.size, m, none⟩ = false) → Below w.heap.size w w' → wpList Try.prog ops Q rest (a.put o.dst (.slice (some ⟨w.heap.size, 0, none⟩) n n)) w') :
    wpList Try.prog ops Q (o :: rest) a w := by
  refine wpList_plain hg fun K hK' => ?_
  subst hL
  have hrun := run_make (P := Try.prog) w t e i z h1 h2 h3 kl kc n n (by omega) (Int.le_refl _) b2 (by omega)
  simp only [Int.toNat_natCast] at hrun
  unfold Oper.wp
  simp [execOp, hop, hl, hc, hrun, Result.andThen]
  refine hK' _ _ (hK _ (by simp) ?_ (fun m => bx2_frozen _ _ _ m) ((Below.refl _ _).alloc (Nat.le_refl _) _))
  intro j hj
  rw [hz, h4]
  simp [madeCells, hj, Nat.mod_one]

def mix {α : Type} (s : Nat) (f1 f2 : Nat → α) (j : Nat) : α := if s < j then f2 j else f1 j
theorem mix_top {α : Type} {s j : Nat} {f1 f2 : Nat → α} (h : j ≤ s) : mix s f1 f2 j = f1 j := if_neg (by omega)
theorem mix_at {α : Type} {s j : Nat} {f1 f2 : Nat → α} (h : s < j) : mix s f1 f2 j = f2 j := if_pos h

/-- Block g and the maps behind it, while they are made. -/
structure MMk (w : World) (g K i : Nat) : Prop where
  size : w.heap.size = g + 1 + i
  cell : ∀ j, j ≤ K → w.cell? ⟨g, j, none⟩ = some (.map (if j < i then some (g + 1 + j) else none))
  map : ∀ j, j < i → MI w (g + 1 + j) 0 (fun _ => 0)
  fz : ∀ m, w.frozen? ⟨g, m, none⟩ = false
theorem MMk.start {w : World} {g K : Nat} (hs : w.heap.size = g + 1) (hc : ∀ j, j < K + 1 → w.cell? ⟨g, j, none⟩ = some (.map none)) (hf : ∀ m, w.frozen? ⟨g, m, none⟩ = false) : MMk w g K 0 :=
  ⟨hs, fun j hj => by rw [hc j (by omega)]; simp, fun j hj => by omega, hf⟩
theorem MMk.step {w : World} {g K i : Nat} (h : MMk w g K i) (hi : i ≤ K) : MMk ((w.alloc (.map #[] 0)).setCell ⟨g, i, none⟩ (.map (some w.heap.size))) g K (i + 1) := by
  have hs := h.size
  have hb : Below w.heap.size w (w.alloc (.map #[] 0)) := (Below.refl _ _).alloc (Nat.le_refl _) _
  have hgr := grown_set2 (w.alloc (.map #[] 0)) g i (.map (some w.heap.size))
  refine ⟨by simp; omega, fun j hj => ?_, fun j hj => ?_, fun m => ?_⟩
  · have c0 := keepc hb (h.cell j hj)
    by_cases e : j = i
    · subst e
      rw [World.cell?_setCell_same _ _ _ c0, if_pos (by omega), hs]
    · rw [World.cell?_setCell_other _ _ _ _ (by simp <;> omega), c0]
      by_cases e' : j < i
      · rw [if_pos e', if_pos (by omega)]
      · rw [if_neg e', if_neg (by omega)]
  · by_cases e : j = i
    · subst e
      have := MI.made w
      rw [hs] at this
      rw [hs] at hgr ⊢
      exact this.kept hgr (by simp <;> omega)
    · exact ((h.map j (by omega)).keep hb).kept hgr (by simp <;> omega)
  · rw [World.frozen?_setCell]
    exact (hb.frozen (p := ⟨g, m, none⟩) (by simp <;> omega)).trans (h.fz m)

/-- Block g holds maps, the next ones behind it; map j has at most n j entries and reads as f j. -/
structure MRow (w : World) (g K : Nat) (n : Nat → Nat) (f : Nat → Int → Nat) : Prop where
  cell : ∀ j, j ≤ K → w.cell? ⟨g, j, none⟩ = some (.map (some (g + 1 + j)))
  map : ∀ j, j ≤ K → MI w (g + 1 + j) (n j) (f j)
theorem MRow.put {w w' : World} {g K s m : Nat} {n n' : Nat → Nat} {f f' : Nat → Int → Nat} {h : Int → Nat} (hr : MRow w g K n f) (hg : w.grownBy w' (some (g + 1 + s))) (hm : MI w' (g + 1 + s) m h)
    (hn : ∀ j, j ≤ K → j ≠ s → n j ≤ n' j) (hns : m ≤ n' s) (hf : ∀ j, j ≤ K → j ≠ s → ∀ p, f j p = f' j p) (hfs : ∀ p, h p = f' s p) : MRow w' g K n' f' := by
  refine ⟨fun j hj => hg.cell (hr.cell j hj) (by simp <;> omega), fun j hj => ?_⟩
  by_cases e : j = s
  · subst e
    exact (hm.mono hns).eq hfs
  · exact (((hr.map j hj).kept hg (by simp <;> omega)).mono (hn j hj e)).eq (hf j hj e)
theorem MRow.keep {w w' : World} {g K : Nat} {n : Nat → Nat} {f : Nat → Int → Nat} (hr : MRow w g K n f) (hb : Below w.heap.size w w') : MRow w' g K n f :=
  ⟨fun j hj => keepc hb (hr.cell j hj), fun j hj => (hr.map j hj).keep hb⟩
theorem MRow.drew {w : World} {g K : Nat} {n : Nat → Nat} {f : Nat → Int → Nat} (hr : MRow w g K n f) : MRow w.drew g K n f := ⟨hr.cell, fun j hj => (hr.map j hj).drew⟩
theorem MRow.to {w : World} {g K : Nat} {n n' : Nat → Nat} {f f' : Nat → Int → Nat} (hr : MRow w g K n f) (hn : ∀ j, j ≤ K → n j ≤ n' j) (hf : ∀ j, j ≤ K → ∀ p, f j p = f' j p) : MRow w g K n' f' :=
  ⟨hr.cell, fun j hj => ((hr.map j hj).mono (hn j hj)).eq (hf j hj)⟩

/-- Block g holds rows, the next blocks behind it, while they are made. -/
structure IMk (w : World) (g K m i : Nat) : Prop where
  size : w.heap.size = g + 1 + i
  top : ∀ j, j ≤ K → w.cell? ⟨g, j, none⟩ = some (if j < i then .slice (some ⟨g + 1 + j, 0, none⟩) (m + 1) (m + 1) else .slice none 0 0)
  at_ : ∀ j, j < i → ∀ p, p ≤ m → w.cell? ⟨g + 1 + j, p, none⟩ = some (.int .i64 0)
  fz : ∀ m, w.frozen? ⟨g, m, none⟩ = false
  fz1 : ∀ j, j < i → ∀ m, w.frozen? ⟨g + 1 + j, m, none⟩ = false
theorem IMk.start {w : World} {g K m : Nat} (hs : w.heap.size = g + 1) (hc : ∀ j, j < K + 1 → w.cell? ⟨g, j, none⟩ = some (.slice none 0 0)) (hf : ∀ m, w.frozen? ⟨g, m, none⟩ = false) : IMk w g K m 0 :=
  ⟨hs, fun j hj => by rw [hc j (by omega)]; simp, fun j hj => by omega, hf, fun j hj => by omega⟩
theorem IMk.step {w w1 : World} {g K m i : Nat} (h : IMk w g K m i) (hi : i ≤ K) (hs1 : w1.heap.size = w.heap.size + 1) (hc : ∀ j, j < m + 1 → w1.cell? ⟨w.heap.size, j, none⟩ = some (.int .i64 0)) (hf : ∀ j, w1.frozen? ⟨w.heap.size, j, none⟩ = false) (hb : Below w.heap.size w w1) :
    IMk (w1.setCell ⟨g, i, none⟩ (.slice (some ⟨w.heap.size, 0, none⟩) (m + 1) (m + 1))) g K m (i + 1) := by
  have hs := h.size
  refine ⟨by simp; omega, fun j hj => ?_, fun j hj p hp => ?_, fun j => ?_, fun j hj q => ?_⟩
  · have c0 := keepc hb (h.top j hj)
    by_cases e : j = i
    · subst e
      rw [World.cell?_setCell_same _ _ _ c0, if_pos (by omega), hs]
    · rw [World.cell?_setCell_other _ _ _ _ (by simp <;> omega), c0]
      by_cases e' : j < i
      · rw [if_pos e', if_pos (by omega)]
      · rw [if_neg e', if_neg (by omega)]
  · rw [World.cell?_setCell_other _ _ _ _ (by simp <;> omega)]
    by_cases e : j = i
    · subst e
      rw [← hs]
      exact hc p (by omega)
    · exact keepc hb (h.at_ j (by omega) p hp)
  · rw [World.frozen?_setCell]
    exact (hb.frozen (p := ⟨g, j, none⟩) (by simp <;> omega)).trans (h.fz j)
  · rw [World.frozen?_setCell]
    by_cases e : j = i
    · subst e
      rw [← hs]
      exact hf q
    · exact (hb.frozen (p := ⟨g + 1 + j, q, none⟩) (by simp <;> omega)).trans (h.fz1 j (by omega) q)

/-- Rows of m + 1 numbers: row j reads as f j. -/
structure IRow (w : World) (g K m : Nat) (f : Nat → Int → Nat) : Prop where
  top : ∀ j, j ≤ K → w.cell? ⟨g, j, none⟩ = some (.slice (some ⟨g + 1 + j, 0, none⟩) (m + 1) (m + 1))
  at_ : ∀ j, j ≤ K → ∀ p : Nat, p ≤ m → w.cell? ⟨g + 1 + j, p, none⟩ = some (.int .i64 (f j p : Int))
  fz1 : ∀ j, j ≤ K → ∀ m, w.frozen? ⟨g + 1 + j, m, none⟩ = false
theorem IMk.done {w : World} {g K m : Nat} (h : IMk w g K m (K + 1)) : IRow w g K m (fun _ _ => 0) :=
  ⟨fun j hj => by rw [h.top j hj, if_pos (by omega)], fun j hj p hp => h.at_ j (by omega) p hp, fun j hj => h.fz1 j (by omega)⟩
theorem IRow.lt {w : World} {g K m : Nat} {f : Nat → Int → Nat} (h : IRow w g K m f) {j : Nat} (hj : j ≤ K) : g + 1 + j < w.heap.size := block_lt (h.at_ j hj 0 (Nat.zero_le _))
theorem IRow.set {w : World} {g K m s v p : Nat} {f f' : Nat → Int → Nat} (h : IRow w g K m f) (hs : s ≤ K) (hp : p ≤ m) (hf : ∀ j r, j ≤ K → ¬ (j = s ∧ r = (p : Int)) → f j r = f' j r) (hv : v = f' s p) : IRow (w.setCell ⟨g + 1 + s, p, none⟩ (.int .i64 (v : Int))) g K m f' := by
  refine ⟨fun j hj => ?_, fun j hj r hr => ?_, fun j hj q => ?_⟩
  · rw [World.cell?_setCell_other _ _ _ _ (by simp <;> omega)]
    exact h.top j hj
  · by_cases e : j = s ∧ r = p
    · obtain ⟨rfl, rfl⟩ := e
      rw [World.cell?_setCell_same _ _ _ (h.at_ j hj r hr), hv]
    · rw [World.cell?_setCell_other _ _ _ _ (by simp <;> omega), h.at_ j hj r hr, hf j r hj (by omega)]
  · rw [World.frozen?_setCell]
    exact h.fz1 j hj q
theorem IRow.keep {w w' : World} {g K m : Nat} {f : Nat → Int → Nat} (hr : IRow w g K m f) (hb : Below w.heap.size w w') : IRow w' g K m f :=
  ⟨fun j hj => keepc hb (hr.top j hj), fun j hj p hp => keepc hb (hr.at_ j hj p hp), fun j hj q => (hb.frozen (p := ⟨g + 1 + j, q, none⟩) (hr.lt hj)).trans (hr.fz1 j hj q)⟩
theorem IRow.drew {w : World} {g K m : Nat} {f : Nat → Int → Nat} (hr : IRow w g K m f) : IRow w.drew g K m f := ⟨hr.top, hr.at_, hr.fz1⟩
theorem IRow.to {w : World} {g K m : Nat} {f f' : Nat → Int → Nat} (hr : IRow w g K m f) (hf : ∀ j, j ≤ K → ∀ p : Nat, p ≤ m → f j p = f' j p) : IRow w g K m f' :=
  ⟨hr.top, fun j hj p hp => by rw [← hf j hj p hp]; exact hr.at_ j hj p hp, hr.fz1⟩
end Go.Proofs.Ytiebilemlolhcaa

/- Boxes of five cells, and games that the call owns: two rows of tiles and a row of numbers, apart from each other. -/
import Derived.Test.YtbanpgifhnbjoaaHelp
namespace Go.Proofs.Ytbanpgifhnbjoaa
open Go.RowKit
set_option linter.unusedVariables false

theorem samG {w : World} {g i j : Nat} {u v : Value} (h : j ≠ i) (hc : w.cell? ⟨g, j, none⟩ = some v) : (w.setCell ⟨g, i, none⟩ u).cell? ⟨g, j, none⟩ = some v := (World.cell?_setCell_other _ _ _ _ (by simp <;> omega)).trans hc

theorem frozen_freshG (w : World) (cs : Array Value) (t : TypeId) (m : Nat) : (w.alloc (.cells cs t)).frozen? ⟨w.heap.size, m, none⟩ = false := by
  unfold World.frozen? World.alloc
  simp

theorem gdG {w : World} (a : Addr) {v : Value} (h : w.cell? a = some v) : w.drew.cell? a = some v := h

structure BoxAt (w : World) (b : Nat) (v0 v1 v2 v3 v4 : Value) : Prop where
  c0 : w.cell? ⟨b, 0, none⟩ = some v0
  c1 : w.cell? ⟨b, 1, none⟩ = some v1
  c2 : w.cell? ⟨b, 2, none⟩ = some v2
  c3 : w.cell? ⟨b, 3, none⟩ = some v3
  c4 : w.cell? ⟨b, 4, none⟩ = some v4
  fz : ∀ m, w.frozen? ⟨b, m, none⟩ = false

section
variable {w w' : World} {b : Nat} {v0 v1 v2 v3 v4 : Value}
theorem own_capG {base e size n c : Nat} {A : Option Addr} {cs : List Value} (h : w.ownsRow base e size (.slice A n c) n cs) : n ≤ c := by
  rcases h.2 with ⟨hv, hn⟩ | ⟨g, cap, cur, hv, _, _, hnc, _⟩
  · omega
  · injection hv with e1 e2 e3; omega
theorem BoxAt.lt (h : BoxAt w b v0 v1 v2 v3 v4) : b < w.heap.size := block_lt h.c0
theorem BoxAt.keep (h : BoxAt w b v0 v1 v2 v3 v4) (hb : Below w.heap.size w w') : BoxAt w' b v0 v1 v2 v3 v4 :=
  ⟨keepc hb h.c0, keepc hb h.c1, keepc hb h.c2, keepc hb h.c3, keepc hb h.c4, fun m => (hb.frozen (p := ⟨b, m, none⟩) h.lt).trans (h.fz m)⟩
theorem BoxAt.of_block (h : BoxAt w b v0 v1 v2 v3 v4) (hb : w'.heap[b]? = w.heap[b]?) : BoxAt w' b v0 v1 v2 v3 v4 :=
  ⟨(World.cell?_of_block (a := ⟨b, 0, none⟩) hb).trans h.c0, (World.cell?_of_block (a := ⟨b, 1, none⟩) hb).trans h.c1, (World.cell?_of_block (a := ⟨b, 2, none⟩) hb).trans h.c2, (World.cell?_of_block (a := ⟨b, 3, none⟩) hb).trans h.c3, (World.cell?_of_block (a := ⟨b, 4, none⟩) hb).trans h.c4,
    fun m => (by have := h.fz m; unfold World.frozen? at this ⊢; simp only [hb]; exact this)⟩
theorem BoxAt.fresh (w : World) (v0 v1 v2 v3 v4 : Value) (t : TypeId) : BoxAt (w.alloc (.cells #[v0, v1, v2, v3, v4] t)) w.heap.size v0 v1 v2 v3 v4 :=
  ⟨by simp, by simp, by simp, by simp, by simp, frozen_freshG w _ t⟩
theorem BoxAt.more (h : BoxAt w b v0 v1 v2 v3 v4) (o : Obj) : BoxAt (w.alloc o) b v0 v1 v2 v3 v4 := h.keep ((Below.refl _ _).alloc (Nat.le_refl _) _)
theorem BoxAt.far (h : BoxAt w b v0 v1 v2 v3 v4) {a j : Nat} (u : Value) (hne : b ≠ a) : BoxAt (w.setCell ⟨a, j, none⟩ u) b v0 v1 v2 v3 v4 :=
  h.of_block (Below.heap_setCell w ⟨a, j, none⟩ u b hne)
theorem BoxAt.drew (h : BoxAt w b v0 v1 v2 v3 v4) : BoxAt w.drew b v0 v1 v2 v3 v4 := ⟨h.c0, h.c1, h.c2, h.c3, h.c4, h.fz⟩
theorem BoxAt.fzs (h : BoxAt w b v0 v1 v2 v3 v4) (j : Nat) (u : Value) (m : Nat) : (w.setCell ⟨b, j, none⟩ u).frozen? ⟨b, m, none⟩ = false := by simp [h.fz m]
theorem BoxAt.set0 (h : BoxAt w b v0 v1 v2 v3 v4) (u : Value) : BoxAt (w.setCell ⟨b, 0, none⟩ u) b u v1 v2 v3 v4 :=
  ⟨World.cell?_setCell_same _ _ _ h.c0, samG (by omega) h.c1, samG (by omega) h.c2, samG (by omega) h.c3, samG (by omega) h.c4, h.fzs _ _⟩
theorem BoxAt.set1 (h : BoxAt w b v0 v1 v2 v3 v4) (u : Value) : BoxAt (w.setCell ⟨b, 1, none⟩ u) b v0 u v2 v3 v4 :=
  ⟨samG (by omega) h.c0, World.cell?_setCell_same _ _ _ h.c1, samG (by omega) h.c2, samG (by omega) h.c3, samG (by omega) h.c4, h.fzs _ _⟩
theorem BoxAt.set2 (h : BoxAt w b v0 v1 v2 v3 v4) (u : Value) : BoxAt (w.setCell ⟨b, 2, none⟩ u) b v0 v1 u v3 v4 :=
  ⟨samG (by omega) h.c0, samG (by omega) h.c1, World.cell?_setCell_same _ _ _ h.c2, samG (by omega) h.c3, samG (by omega) h.c4, h.fzs _ _⟩
theorem BoxAt.set3 (h : BoxAt w b v0 v1 v2 v3 v4) (u : Value) : BoxAt (w.setCell ⟨b, 3, none⟩ u) b v0 v1 v2 u v4 :=
  ⟨samG (by omega) h.c0, samG (by omega) h.c1, samG (by omega) h.c2, World.cell?_setCell_same _ _ _ h.c3, samG (by omega) h.c4, h.fzs _ _⟩
theorem BoxAt.set4 (h : BoxAt w b v0 v1 v2 v3 v4) (u : Value) : BoxAt (w.setCell ⟨b, 4, none⟩ u) b v0 v1 v2 v3 u :=
  ⟨samG (by omega) h.c0, samG (by omega) h.c1, samG (by omega) h.c2, samG (by omega) h.c3, World.cell?_setCell_same _ _ _ h.c4, h.fzs _ _⟩

theorem own_blockG {base e size n : Nat} {v : Value} {cs : List Value} (h : w.ownsRow base e size v n cs) (heq : ∀ g, v.ownBlock = some g → w'.heap[g]? = w.heap[g]?) : w'.ownsRow base e size v n cs := by
  obtain ⟨h1, h2⟩ := h
  refine ⟨h1, ?_⟩
  rcases h2 with h2 | ⟨g, cap, cur, hv, hg, hh, r⟩
  · exact .inl h2
  · exact .inr ⟨g, cap, cur, hv, hg, (heq g (by subst hv; rfl)).trans hh, r⟩
/-- A row of the call's own stays where a box below it is written. -/
theorem own_box {base e size n a j : Nat} {v u : Value} {cs : List Value} (h : w.ownsRow base e size v n cs) (ha : a < base) : (w.setCell ⟨a, j, none⟩ u).ownsRow base e size v n cs :=
  own_blockG h (fun g hg => Below.heap_setCell w ⟨a, j, none⟩ u g (by have := (h.lt g hg).1; simp; omega))
end

theorem below_box {N b j : Nat} {a w : World} {u : Value} (h : Below N a w) (hb : N ≤ b) : Below N a (w.setCell ⟨b, j, none⟩ u) := h.setCell hb _

def ApG (u v : Value) : Prop := ∀ g, u.ownBlock = some g → v.ownBlock = some g → False
theorem ApG.symm {u v : Value} (h : ApG u v) : ApG v u := fun g h1 h2 => h g h2 h1
theorem ApG.kept {u v : Value} (h : ApG u v) : u.ownBlock = none ∨ u.ownBlock ≠ v.ownBlock := by
  cases hu : u.ownBlock with
  | none => exact .inl rfl
  | some g => exact .inr fun e => h g hu e.symm
theorem ApG.of_lt {u v : Value} {m : Nat} (hu : ∀ g, u.ownBlock = some g → g < m) (hv : ∀ g, v.ownBlock = some g → m ≤ g) : ApG u v := fun g h1 h2 => by
  have := hu g h1; have := hv g h2; omega
theorem ApG.nil_ {v : Value} {n c : Nat} : ApG (.slice none n c) v := fun g h => by simp [Value.ownBlock] at h
theorem ApG.nil' {v : Value} {n c : Nat} : ApG v (.slice none n c) := fun g _ h => by simp [Value.ownBlock] at h

theorem own_notG {v : Value} {m : Nat} (h : ∀ g, v.ownBlock = some g → g < m) : v.ownBlock = none ∨ v.ownBlock ≠ some m := by
  cases hv : v.ownBlock with
  | none => exact .inl rfl
  | some g => exact .inr fun e => by have := h g hv; have := Option.some.inj e; omega

/-- A game's three rows, owned, from lo on and below hi, no two in one block. -/
structure OwnG (w : World) (lo hi : Nat) (vF : Value) (nF : Nat) (F : List (Int × Int)) (vS : Value) (nS : Nat) (S : List (Int × Int)) (vR : Value) (nR : Nat) (R : List Int) : Prop where
  f : w.ownsRow lo 50 2 vF nF (cellsT F)
  s : w.ownsRow lo 50 2 vS nS (cellsT S)
  r : w.ownsRow lo 3 1 vR nR (cellsI R)
  hf : ∀ g, vF.ownBlock = some g → g < hi
  hs : ∀ g, vS.ownBlock = some g → g < hi
  hr : ∀ g, vR.ownBlock = some g → g < hi
  fs : ApG vF vS
  fr : ApG vF vR
  sr : ApG vS vR

section
variable {w w' : World} {lo hi nF nS nR : Nat} {vF vS vR : Value} {F S : List (Int × Int)} {R : List Int}
theorem OwnG.none_ (w : World) (lo hi : Nat) : OwnG w lo hi (.slice none 0 0) 0 [] (.slice none 0 0) 0 [] (.slice none 0 0) 0 [] :=
  ⟨World.ownsRow_nil _ _ _ _, World.ownsRow_nil _ _ _ _, World.ownsRow_nil _ _ _ _, fun g h => by simp [Value.ownBlock] at h, fun g h => by simp [Value.ownBlock] at h, fun g h => by simp [Value.ownBlock] at h, ApG.nil_, ApG.nil_, ApG.nil_⟩
theorem OwnG.below {N : Nat} (h : OwnG w lo hi vF nF F vS nS S vR nR R) (hb : Below N w w') (hN : hi ≤ N) : OwnG w' lo hi vF nF F vS nS S vR nR R :=
  { h with f := own_below h.f hb (fun g hg => Nat.lt_of_lt_of_le (h.hf g hg) hN), s := own_below h.s hb (fun g hg => Nat.lt_of_lt_of_le (h.hs g hg) hN), r := own_below h.r hb (fun g hg => Nat.lt_of_lt_of_le (h.hr g hg) hN) }
theorem OwnG.base {lo' : Nat} (h : OwnG w lo hi vF nF F vS nS S vR nR R) (hb : lo' ≤ lo) : OwnG w lo' hi vF nF F vS nS S vR nR R :=
  { h with f := own_base h.f hb, s := own_base h.s hb, r := own_base h.r hb }
theorem OwnG.top {hi' : Nat} (h : OwnG w lo hi vF nF F vS nS S vR nR R) (hb : hi ≤ hi') : OwnG w lo hi' vF nF F vS nS S vR nR R :=
  { h with hf := fun g hg => Nat.lt_of_lt_of_le (h.hf g hg) hb, hs := fun g hg => Nat.lt_of_lt_of_le (h.hs g hg) hb, hr := fun g hg => Nat.lt_of_lt_of_le (h.hr g hg) hb }
theorem OwnG.fit (h : OwnG w lo hi vF nF F vS nS S vR nR R) : OwnG w lo w.heap.size vF nF F vS nS S vR nR R :=
  { h with hf := fun g hg => (h.f.lt g hg).2, hs := fun g hg => (h.s.lt g hg).2, hr := fun g hg => (h.r.lt g hg).2 }
theorem OwnG.keep (h : OwnG w lo hi vF nF F vS nS S vR nR R) (hb : Below w.heap.size w w') : OwnG w' lo w'.heap.size vF nF F vS nS S vR nR R := (h.fit.below hb (Nat.le_refl _)).fit
theorem OwnG.moved (h : OwnG w lo hi vF nF F vS nS S vR nR R) (heq : ∀ g, lo ≤ g → g < w.heap.size → w'.heap[g]? = w.heap[g]?) : OwnG w' lo hi vF nF F vS nS S vR nR R :=
  { h with f := own_blockG h.f (fun g hg => heq g (h.f.lt g hg).1 (h.f.lt g hg).2), s := own_blockG h.s (fun g hg => heq g (h.s.lt g hg).1 (h.s.lt g hg).2), r := own_blockG h.r (fun g hg => heq g (h.r.lt g hg).1 (h.r.lt g hg).2) }
theorem OwnG.box {a j : Nat} {u : Value} (h : OwnG w lo hi vF nF F vS nS S vR nR R) (ha : a < lo) : OwnG (w.setCell ⟨a, j, none⟩ u) lo hi vF nF F vS nS S vR nR R :=
  { h with f := own_box h.f ha, s := own_box h.s ha, r := own_box h.r ha }
theorem own_boxHi {base e size n a j hi : Nat} {v u : Value} {cs : List Value} (h : w.ownsRow base e size v n cs) (hv : ∀ g, v.ownBlock = some g → g < hi) (ha : hi ≤ a) : (w.setCell ⟨a, j, none⟩ u).ownsRow base e size v n cs :=
  own_blockG h (fun g hg => Below.heap_setCell w ⟨a, j, none⟩ u g (by have := hv g hg; simp; omega))
theorem OwnG.boxHi {a j : Nat} {u : Value} (h : OwnG w lo hi vF nF F vS nS S vR nR R) (ha : hi ≤ a) : OwnG (w.setCell ⟨a, j, none⟩ u) lo hi vF nF F vS nS S vR nR R :=
  { h with f := own_boxHi h.f h.hf ha, s := own_boxHi h.s h.hs ha, r := own_boxHi h.r h.hr ha }
theorem OwnG.grown {row : Option Nat} (h : OwnG w lo hi vF nF F vS nS S vR nR R) (hg : w.grownBy w' row) (hne : ∀ g, row = some g → g < lo ∨ hi ≤ g) : OwnG w' lo hi vF nF F vS nS S vR nR R := by
  have ap : ∀ (v : Value), (∀ g, v.ownBlock = some g → lo ≤ g ∧ g < hi) → v.ownBlock = none ∨ v.ownBlock ≠ row := fun v hv => by
    cases hv' : v.ownBlock with
    | none => exact .inl rfl
    | some g => exact .inr fun e => by have h1 := hv g hv'; have h2 := hne g e.symm; omega
  exact { h with f := h.f.kept hg (ap _ fun g hg => ⟨(h.f.lt g hg).1, h.hf g hg⟩), s := h.s.kept hg (ap _ fun g hg => ⟨(h.s.lt g hg).1, h.hs g hg⟩), r := h.r.kept hg (ap _ fun g hg => ⟨(h.r.lt g hg).1, h.hr g hg⟩) }
theorem OwnG.drew (h : OwnG w lo hi vF nF F vS nS S vR nR R) : OwnG w.drew lo hi vF nF F vS nS S vR nR R := ⟨h.f, h.s, h.r, h.hf, h.hs, h.hr, h.fs, h.fr, h.sr⟩
theorem OwnG.swap (h : OwnG w lo hi vF nF F vS nS S vR nR R) : OwnG w lo hi vS nS S vF nF F vR nR R :=
  { f := h.s, s := h.f, r := h.r, hf := h.hs, hs := h.hf, hr := h.hr, fs := h.fs.symm, fr := h.sr, sr := h.fr }
end

/-- A new game comes back. -/
def RetG (w : World) (F S : List (Int × Int)) (R : List Int) (t u : Int) (e : Ending) (w' : World) : Prop :=
  ∃ AF cF AS cS AR cR, e = .returned (.agg #[.slice AF F.length cF, .slice AS S.length cS, .slice AR R.length cR, .int .i64 t, .int .i64 u]) ∧
    OwnG w' w.heap.size w'.heap.size (.slice AF F.length cF) F.length F (.slice AS S.length cS) S.length S (.slice AR R.length cR) R.length R ∧ Below w.heap.size w w'
/-- .. and a bool. -/
def RetGB (w : World) (F S : List (Int × Int)) (R : List Int) (t u : Int) (ok : Bool) (e : Ending) (w' : World) : Prop :=
  ∃ AF cF AS cS AR cR, e = .returned (.tuple #[.agg #[.slice AF F.length cF, .slice AS S.length cS, .slice AR R.length cR, .int .i64 t, .int .i64 u], .bool ok]) ∧
    OwnG w' w.heap.size w'.heap.size (.slice AF F.length cF) F.length F (.slice AS S.length cS) S.length S (.slice AR R.length cR) R.length R ∧ Below w.heap.size w w'
end Go.Proofs.Ytbanpgifhnbjoaa

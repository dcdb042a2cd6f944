/- Boxes of two cells. No function of the program is named here. Boxes of two cells that are stored to, and puzzles that the call owns: a row of tiles and a row of numbers, apart from each other. The laws' own small functions over puzzles. -/
import Derived.Test.YtlnfialfkipdjaaBase
import Derived.Test.YtlnfialfkipdjaaGames
namespace Go.Proofs.Ytlnfialfkipdjaa
open Go.RowKit
set_option linter.unusedVariables false

structure Bx2 (w : World) (b : Nat) (v0 v1 : Value) : Prop where
  c0 : w.cell? ⟨b, 0, none⟩ = some v0
  c1 : w.cell? ⟨b, 1, none⟩ = some v1
  fz : ∀ m, w.frozen? ⟨b, m, none⟩ = false

theorem bx2_frozen (w : World) (cs : Array Value) (t : TypeId) (m : Nat) : (w.alloc (.cells cs t)).frozen? ⟨w.heap.size, m, none⟩ = false := by
  unfold World.frozen? World.alloc
  simp

theorem cell_drew {w : World} (a : Addr) {v : Value} (h : w.cell? a = some v) : w.drew.cell? a = some v := h

section
variable {w w' : World} {b : Nat} {v0 v1 : Value}
theorem Bx2.lt (h : Bx2 w b v0 v1) : b < w.heap.size := block_lt h.c0
theorem Bx2.keep (h : Bx2 w b v0 v1) (hb : Below w.heap.size w w') : Bx2 w' b v0 v1 :=
  ⟨keepc hb h.c0, keepc hb h.c1, fun m => (hb.frozen (p := ⟨b, m, none⟩) h.lt).trans (h.fz m)⟩
theorem Bx2.fresh (w : World) (v0 v1 : Value) (t : TypeId) : Bx2 (w.alloc (.cells #[v0, v1] t)) w.heap.size v0 v1 := ⟨by simp, by simp, bx2_frozen w _ t⟩
theorem Bx2.more (h : Bx2 w b v0 v1) (o : Obj) : Bx2 (w.alloc o) b v0 v1 := h.keep ((Below.refl _ _).alloc (Nat.le_refl _) _)
theorem Bx2.drew (h : Bx2 w b v0 v1) : Bx2 w.drew b v0 v1 := ⟨h.c0, h.c1, h.fz⟩
theorem Bx2.stored {a : World} {b : Nat} {W : World} {u0 u1 : Value} (h : Below b a W) : Below b a ((W.setCell ⟨b, 0, none⟩ u0).setCell ⟨b, 1, none⟩ u1) := (h.setCell (Nat.le_refl _) _).setCell (Nat.le_refl _) _
end

theorem far2 {w : World} {a b i j j' : Nat} {v u u' : Value} (h : b ≠ a) (hc : w.cell? ⟨b, i, none⟩ = some v) : ((w.setCell ⟨a, j, none⟩ u).setCell ⟨a, j', none⟩ u').cell? ⟨b, i, none⟩ = some v :=
  (World.cell?_setCell_other _ _ _ _ (by simp <;> omega)).trans ((World.cell?_setCell_other _ _ _ _ (by simp <;> omega)).trans hc)

theorem grown_set2 (w : World) (b j : Nat) (u : Value) : w.grownBy (w.setCell ⟨b, j, none⟩ u) (some b) := ⟨rfl, rfl, rfl, by simp, fun k _ hk => Below.heap_setCell w ⟨b, j, none⟩ u k (fun e => hk (by simp [e]))⟩
theorem own_off2 {w : World} {base e sz n nb j : Nat} {v u : Value} {cs : List Value} (h : w.ownsRow base e sz v n cs) (hn : ∀ g, v.ownBlock = some g → g ≠ nb) : (w.setCell ⟨nb, j, none⟩ u).ownsRow base e sz v n cs := by
  refine World.ownsRow.kept h (grown_set2 w nb j u) ?_
  cases hv : v.ownBlock with
  | none => exact .inl rfl
  | some g => exact .inr fun e => hn g hv (Option.some.inj e)
end Go.Proofs.Ytlnfialfkipdjaa

namespace Go.Proofs.Ytlnfialfkipdjaa
open Go.RowKit
set_option linter.unusedVariables false

section
variable {w w' : World} {b : Nat} {v0 v1 : Value}
theorem Bx2.of_block (h : Bx2 w b v0 v1) (hb : w'.heap[b]? = w.heap[b]?) : Bx2 w' b v0 v1 :=
  ⟨(World.cell?_of_block (a := ⟨b, 0, none⟩) hb).trans h.c0, (World.cell?_of_block (a := ⟨b, 1, none⟩) hb).trans h.c1, fun m => (by have := h.fz m; unfold World.frozen? at this ⊢; simp only [hb]; exact this)⟩
theorem Bx2.far (h : Bx2 w b v0 v1) {a j : Nat} (u : Value) (hne : b ≠ a) : Bx2 (w.setCell ⟨a, j, none⟩ u) b v0 v1 :=
  h.of_block (Below.heap_setCell w ⟨a, j, none⟩ u b hne)
theorem Bx2.fzs (h : Bx2 w b v0 v1) (j : Nat) (u : Value) (m : Nat) : (w.setCell ⟨b, j, none⟩ u).frozen? ⟨b, m, none⟩ = false := by simp [h.fz m]
theorem Bx2.set0 (h : Bx2 w b v0 v1) (u : Value) : Bx2 (w.setCell ⟨b, 0, none⟩ u) b u v1 := ⟨World.cell?_setCell_same _ _ _ h.c0, samG (by omega) h.c1, h.fzs _ _⟩
theorem Bx2.set1 (h : Bx2 w b v0 v1) (u : Value) : Bx2 (w.setCell ⟨b, 1, none⟩ u) b v0 u := ⟨samG (by omega) h.c0, World.cell?_setCell_same _ _ _ h.c1, h.fzs _ _⟩
end

/-- A puzzle's two rows, owned, from lo on and below hi, not in one block. -/
structure OwnP (w : World) (lo hi : Nat) (vT : Value) (nT : Nat) (T : List (Int × Int)) (vC : Value) (nC : Nat) (C : List Int) : Prop where
  f : w.ownsRow lo 95 2 vT nT (cellsT T)
  r : w.ownsRow lo 3 1 vC nC (cellsI C)
  hf : ∀ g, vT.ownBlock = some g → g < hi
  hr : ∀ g, vC.ownBlock = some g → g < hi
  fr : ApG vT vC

section
variable {w w' : World} {lo hi nT nC : Nat} {vT vC : Value} {T : List (Int × Int)} {C : List Int}
theorem OwnP.none_ (w : World) (lo hi : Nat) : OwnP w lo hi (.slice none 0 0) 0 [] (.slice none 0 0) 0 [] :=
  ⟨World.ownsRow_nil _ _ _ _, World.ownsRow_nil _ _ _ _, fun g h => by simp [Value.ownBlock] at h, fun g h => by simp [Value.ownBlock] at h, ApG.nil_⟩
theorem OwnP.below {M : Nat} (h : OwnP w lo hi vT nT T vC nC C) (hb : Below M w w') (hN : hi ≤ M) : OwnP w' lo hi vT nT T vC nC C :=
  { h with f := own_below h.f hb (fun g hg => Nat.lt_of_lt_of_le (h.hf g hg) hN), r := own_below h.r hb (fun g hg => Nat.lt_of_lt_of_le (h.hr g hg) hN) }
theorem OwnP.base {lo' : Nat} (h : OwnP w lo hi vT nT T vC nC C) (hb : lo' ≤ lo) : OwnP w lo' hi vT nT T vC nC C :=
  { h with f := own_base h.f hb, r := own_base h.r hb }
theorem OwnP.top {hi' : Nat} (h : OwnP w lo hi vT nT T vC nC C) (hb : hi ≤ hi') : OwnP w lo hi' vT nT T vC nC C :=
  { h with hf := fun g hg => Nat.lt_of_lt_of_le (h.hf g hg) hb, hr := fun g hg => Nat.lt_of_lt_of_le (h.hr g hg) hb }
theorem OwnP.fit (h : OwnP w lo hi vT nT T vC nC C) : OwnP w lo w.heap.size vT nT T vC nC C :=
  { h with hf := fun g hg => (h.f.lt g hg).2, hr := fun g hg => (h.r.lt g hg).2 }
theorem OwnP.keep (h : OwnP w lo hi vT nT T vC nC C) (hb : Below w.heap.size w w') : OwnP w' lo w'.heap.size vT nT T vC nC C := (h.fit.below hb (Nat.le_refl _)).fit
theorem OwnP.moved (h : OwnP w lo hi vT nT T vC nC C) (heq : ∀ g, lo ≤ g → g < w.heap.size → w'.heap[g]? = w.heap[g]?) : OwnP w' lo hi vT nT T vC nC C :=
  { h with f := own_blockG h.f (fun g hg => heq g (h.f.lt g hg).1 (h.f.lt g hg).2), r := own_blockG h.r (fun g hg => heq g (h.r.lt g hg).1 (h.r.lt g hg).2) }
theorem OwnP.box {a j : Nat} {u : Value} (h : OwnP w lo hi vT nT T vC nC C) (ha : a < lo) : OwnP (w.setCell ⟨a, j, none⟩ u) lo hi vT nT T vC nC C :=
  { h with f := own_box h.f ha, r := own_box h.r ha }
theorem OwnP.boxHi {a j : Nat} {u : Value} (h : OwnP w lo hi vT nT T vC nC C) (ha : hi ≤ a) : OwnP (w.setCell ⟨a, j, none⟩ u) lo hi vT nT T vC nC C :=
  { h with f := own_boxHi h.f h.hf ha, r := own_boxHi h.r h.hr ha }
theorem OwnP.grown {row : Option Nat} (h : OwnP w lo hi vT nT T vC nC C) (hg : w.grownBy w' row) (hne : ∀ g, row = some g → g < lo ∨ hi ≤ g) : OwnP w' lo hi vT nT T vC nC C := by
  have ap : ∀ (v : Value), (∀ g, v.ownBlock = some g → lo ≤ g ∧ g < hi) → v.ownBlock = none ∨ v.ownBlock ≠ row := fun v hv => by
    cases hv' : v.ownBlock with
    | none => exact .inl rfl
    | some g => exact .inr fun e => by have h1 := hv g hv'; have h2 := hne g e.symm; omega
  exact { h with f := h.f.kept hg (ap _ fun g hg => ⟨(h.f.lt g hg).1, h.hf g hg⟩), r := h.r.kept hg (ap _ fun g hg => ⟨(h.r.lt g hg).1, h.hr g hg⟩) }
theorem OwnP.drew (h : OwnP w lo hi vT nT T vC nC C) : OwnP w.drew lo hi vT nT T vC nC C := { h with f := h.f, r := h.r }
end

/-- What a call gives back: a new puzzle. -/
def RetP (w : World) (T : List (Int × Int)) (C : List Int) (e : Ending) (w' : World) : Prop :=
  ∃ AT cT AC cC, e = .returned (.agg #[.slice AT T.length cT, .slice AC C.length cC]) ∧ OwnP w' w.heap.size w'.heap.size (.slice AT T.length cT) T.length T (.slice AC C.length cC) C.length C ∧ Below w.heap.size w w'
/-- .. and a bool. -/
def RetPB (w : World) (T : List (Int × Int)) (C : List Int) (ok : Bool) (e : Ending) (w' : World) : Prop :=
  ∃ AT cT AC cC, e = .returned (.tuple #[.agg #[.slice AT T.length cT, .slice AC C.length cC], .bool ok]) ∧ OwnP w' w.heap.size w'.heap.size (.slice AT T.length cT) T.length T (.slice AC C.length cC) C.length C ∧ Below w.heap.size w w'
/-- The puzzle itself, or none. -/
def selPT (ok : Bool) (T : List (Int × Int)) : List (Int × Int) := if ok then T else []
def selPI (ok : Bool) (C : List Int) : List Int := if ok then C else []
theorem sel_len2 (ok : Bool) (T : List (Int × Int)) (C : List Int) {n : Nat} (h : T.length + C.length ≤ n) : (selPT ok T).length + (selPI ok C).length ≤ n := by
  cases ok
  · simp [selPT, selPI]
  · simpa [selPT, selPI] using h
end Go.Proofs.Ytlnfialfkipdjaa

namespace Go.Proofs.Ytlnfialfkipdjaa
open Go.RowKit
set_option linter.unusedVariables false

set_option maxHeartbeats 400000 in
theorem c_szIntSp (A : Option Addr) (c n : Nat) (q : Int) (w : World) (hn : n ≤ 9223372036854775807) (h0 : 0 ≤ q) (h1 : q ≤ 9223372036854775807) :
    Calls Try.prog 95 #[.slice A n c, .int .i64 q] w fun e w' => e = .returned (.int .i64 (if q - n < 0 then -1 else q - n)) ∧ w = w' := by
  by_cases h : q - n < 0
  all_goals
    go_enter Try.func95, Try.ntmps95
    go_wp2
    go_ret
    exact ⟨ret_i (by first | omega | (split <;> omega)), rfl⟩

end Go.Proofs.Ytlnfialfkipdjaa

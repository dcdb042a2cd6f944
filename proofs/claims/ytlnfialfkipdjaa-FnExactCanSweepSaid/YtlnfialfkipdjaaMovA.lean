/- Rows of structs told by what their cells are: enc x lists the n cells of x. Moves of games: the mathematics. Moves of games: the specification's. -/
import Derived.Test.YtlnfialfkipdjaaGames
import Derived.Maps.AppendAt
import Derived.Test.YtlnfialfkipdjaaGameL
import Derived.Test.YtlnfialfkipdjaaSets
import Derived.Deep.Cut
import Derived.BigQuiet
namespace Go.Proofs.Ytlnfialfkipdjaa
open Go.RowKit
set_option linter.unusedVariables false

section
variable {α : Type} {enc : α → List Value} {n : Nat}

def cellsE (enc : α → List Value) (ts : List α) : List Value := ts.flatMap enc
theorem cellsE_nil : cellsE enc [] = [] := rfl
theorem cellsE_append (xs ys : List α) : cellsE enc (xs ++ ys) = cellsE enc xs ++ cellsE enc ys := by simp [cellsE]
theorem cellsE_one (x : α) : cellsE enc [x] = enc x := by simp [cellsE]
theorem cellsE_len (he : ∀ x, (enc x).length = n) (ts : List α) : (cellsE enc ts).length = ts.length * n := by
  induction ts with
  | nil => simp [cellsE]
  | cons t ts ih =>
    have : cellsE enc (t :: ts) = enc t ++ cellsE enc ts := by simp [cellsE]
    rw [this, List.length_append, he, ih, List.length_cons, Nat.add_mul, Nat.one_mul]; omega
theorem cellsE_get (he : ∀ x, (enc x).length = n) : ∀ (ts : List α) (k : Nat) (h : k < ts.length) (j : Nat), j < n → (cellsE enc ts)[k * n + j]? = (enc ts[k])[j]?
  | [], k, h, _, _ => by simp at h
  | t :: ts, 0, h, j, hj => by
    have : cellsE enc (t :: ts) = enc t ++ cellsE enc ts := by simp [cellsE]
    rw [this, Nat.zero_mul, Nat.zero_add, List.getElem?_append_left (by rw [he]; exact hj)]
    rfl
  | t :: ts, k + 1, h, j, hj => by
    have : cellsE enc (t :: ts) = enc t ++ cellsE enc ts := by simp [cellsE]
    rw [this, List.getElem?_append_right (by rw [he, Nat.add_mul]; omega), he, show (k + 1) * n + j - n = k * n + j from by rw [Nat.add_mul]; omega, cellsE_get he ts k (by simpa using h) j hj]
    rfl

/-- A slice value at A reads as a list. -/
def RdE (enc : α → List Value) (n : Nat) (w : World) (A : Option Addr) (ts : List α) : Prop :=
  ∃ b off, (ts ≠ [] → A = some ⟨b, off, none⟩ ∧ b < w.heap.size) ∧ ∀ k (h : k < ts.length) j u, (enc ts[k])[j]? = some u → w.cell? ⟨b, off + k * n + j, none⟩ = some u

variable {w w' : World} {A : Option Addr} {ts : List α}
theorem RdE.nil_ : RdE enc n w A [] := ⟨0, 0, fun h => absurd rfl h, fun k h => by simp at h⟩
theorem RdE.below (h : RdE enc n w A ts) (hb : Below w.heap.size w w') : RdE enc n w' A ts := by
  obtain ⟨b, off, h1, h2⟩ := h
  exact ⟨b, off, fun hne => ⟨(h1 hne).1, Nat.lt_of_lt_of_le (h1 hne).2 hb.size⟩, fun k hk j u hu => keepc hb (h2 k hk j u hu)⟩
theorem RdE.at_ (h : RdE enc n w A ts) {k : Nat} (hk : k < ts.length) : ∃ b off, A = some ⟨b, off, none⟩ ∧ b < w.heap.size ∧ ∀ k (h : k < ts.length) j u, (enc ts[k])[j]? = some u → w.cell? ⟨b, off + k * n + j, none⟩ = some u := by
  obtain ⟨b, off, h1, h2⟩ := h
  obtain ⟨e1, e2⟩ := h1 (by rintro rfl; simp at hk)
  exact ⟨b, off, e1, e2, h2⟩
theorem RdE.of_own {base e m c : Nat} (he : ∀ x, (enc x).length = n) (h : w.ownsRow base e n (.slice A ts.length c) m (cellsE enc ts)) : RdE enc n w A ts := by
  have h0 := h
  obtain ⟨_, ⟨hv, hn⟩ | ⟨g, cap, cur, hv, _⟩⟩ := h0
  · injection hv with h1 h2 h3
    have : ts = [] := List.eq_nil_of_length_eq_zero h2
    subst this
    exact RdE.nil_
  · injection hv with h1 h2 h3
    subst h1
    refine ⟨g, 0, fun _ => ⟨rfl, (h.lt g rfl).2⟩, fun k hk j u hu => ?_⟩
    have hj : j < n := by rw [← he ts[k]]; exact (List.getElem?_eq_some_iff.1 hu).1
    have := World.ownsRow.cells h (g := g) rfl (k * n + j) u (by rw [cellsE_get he ts k hk j hj]; exact hu)
    rw [show (⟨g, 0, none⟩ : Addr).add (k * n + j) = ⟨g, 0 + k * n + j, none⟩ from by unfold Addr.add; split <;> simp_all] at this
    exact this

/-- A new slice comes back. -/
def RetE (enc : α → List Value) (n e : Nat) (w : World) (ts : List α) (en : Ending) (w' : World) : Prop :=
  ∃ A c, en = .returned (.slice A ts.length c) ∧ w'.ownsRow w.heap.size e n (.slice A ts.length c) ts.length (cellsE enc ts) ∧ Below w.heap.size w w'

/-- One more, out of a block of its own. -/
theorem wp_append_E {P : Program} {w : World} {ops : Array Oper} {rest : List Oper} {o : Oper} {a : Act} {Q : Exit → Act → World → Prop} {t e bytes : Nat} {i0 : TypeInfo} {z : Value}
    (he : ∀ x, (enc x).length = n) (h1c : ∀ x, ∀ u ∈ enc x, u.oneCell' = true) (ht : P.underlying t = some (.slice e)) (hi : P.info? e = some i0) (hz0 : i0.zero = some z) (hz1 : i0.size = n) (hz2 : i0.bytes = bytes) (hzs : z.cells.size = n) (hn : 0 < n) (hby : bytes ≤ 32)
    (hgd : o.guard = none) (s x : Operand) (ho : o.op = .call { callee := .builtin .append, args := #[s, x], argTypes := #[t, t] }) (base : Nat) (v : Value) (ts : List α) (hs : a.eval s = v)
    (hown : w.ownsRow base e n v ts.length (cellsE enc ts)) (y : α) (g : Nat) (hx : a.eval x = .slice (some ⟨g, 0, none⟩) 1 1) (hc : ∀ j u, (enc y)[j]? = some u → w.cell? ⟨g, j, none⟩ = some u) (hlen : ts.length ≤ 1048576) (hbase : base ≤ w.heap.size)
    (h : ∀ A c w', w'.ownsRow base e n (.slice A (ts ++ [y]).length c) (ts ++ [y]).length (cellsE enc (ts ++ [y])) → w.grownBy w' v.ownBlock → ((Value.slice A (ts ++ [y]).length c).ownBlock = v.ownBlock ∨ (Value.slice A (ts ++ [y]).length c).ownBlock = some w.heap.size) → wpList P ops Q rest (a.put o.dst (.slice A (ts ++ [y]).length c)) w') :
    wpList P ops Q (o :: rest) a w := by
  refine wpList_append_own_at w hgd s x t ho base e i0 z n bytes ht hi hz0 hz1 hz2 hzs hn v ts.length (cellsE enc ts) hs hown ⟨g, 0, none⟩ 1 1 (enc y) hx (by rw [he, Nat.one_mul]) ?_ (h1c y) (by unfold maxLen; omega) ?_ hbase ?_
  · intro j u hu
    rw [show (⟨g, 0, none⟩ : Addr).add j = ⟨g, j, none⟩ from by unfold Addr.add; split <;> simp_all]
    exact hc j u hu
  · calc (ts.length + 1) * bytes ≤ (ts.length + 1) * 32 := Nat.mul_le_mul_left _ hby
      _ ≤ 140737488355328 := by omega
  · intro v' w' h1 h2 _ h3
    have e1 : ts.length + 1 = (ts ++ [y]).length := by simp
    have e2 : cellsE enc ts ++ enc y = cellsE enc (ts ++ [y]) := by rw [cellsE_append, cellsE_one]
    rw [e1, e2] at h1
    have h1' := h1
    obtain ⟨_, ⟨_, hn0⟩ | ⟨g', cap, cur, rfl, _⟩⟩ := h1'
    · simp at hn0
    · exact h _ _ w' h1 h2 h3

/-- A row of moves under way, beside a game's box and a tile's. -/
structure SMov (gb tb : Nat) (v0 v1 v2 v3 v4 : Value) (a b : Int) (e n : Nat) (enc : α → List Value) (w2 : World) (A' : Option Addr) (c' : Nat) (ms : List α) (W : World) : Prop where
  ba : BoxAt W gb v0 v1 v2 v3 v4
  p0 : W.cell? ⟨tb, 0, none⟩ = some (.int .i64 a)
  p1 : W.cell? ⟨tb, 1, none⟩ = some (.int .i64 b)
  own : W.ownsRow w2.heap.size e n (.slice A' ms.length c') ms.length (cellsE enc ms)
  off : ∀ g, (Value.slice A' ms.length c').ownBlock = some g → g ≠ tb
  hb : Below w2.heap.size w2 W
  glt : gb < w2.heap.size
theorem SMov.app {gb tb e : Nat} {v0 v1 v2 v3 v4 : Value} {a b : Int} {w2 W : World} {A' A5 : Option Addr} {c' c5 : Nat} {ms : List α} {y : α} {O : Obj} (h : SMov gb tb v0 v1 v2 v3 v4 a b e n enc w2 A' c' ms W)
    (ho : w'.ownsRow w2.heap.size e n (.slice A5 (ms ++ [y]).length c5) (ms ++ [y]).length (cellsE enc (ms ++ [y]))) (hg : (W.alloc O).grownBy w' (Value.slice A' ms.length c').ownBlock)
    (hat : (Value.slice A5 (ms ++ [y]).length c5).ownBlock = (Value.slice A' ms.length c').ownBlock ∨ (Value.slice A5 (ms ++ [y]).length c5).ownBlock = some (W.alloc O).heap.size) :
    SMov gb tb v0 v1 v2 v3 v4 a b e n enc w2 A5 c5 (ms ++ [y]) w' := by
  have hz := h.hb.size
  have ht := block_lt h.p0
  simp only at ht
  have bA : Below W.heap.size W (W.alloc O) := (Below.refl _ _).alloc (Nat.le_refl _) _
  have et := hg.block tb (by simp; omega) (fun e => h.off _ e.symm rfl)
  refine ⟨(h.ba.more O).of_block (hg.block gb (by have := h.glt; simp; omega) (fun e => by have := (h.own.lt _ e.symm).1; have := h.glt; omega)), (World.cell?_of_block (a := ⟨tb, 0, none⟩) et).trans (keepc bA h.p0), (World.cell?_of_block (a := ⟨tb, 1, none⟩) et).trans (keepc bA h.p1), ho, fun g hg' => ?_, Below.grown (h.hb.alloc hz _) hg (by simp; omega) (fun g hg => (h.own.lt g hg).1), h.glt⟩
  rcases hat with hat | hat
  · rw [hat] at hg'; exact h.off g hg'
  · rw [hat] at hg'
    have := Option.some.inj hg'
    simp at this
    omega
end
end Go.Proofs.Ytlnfialfkipdjaa

namespace Go.Proofs.Ytlnfialfkipdjaa
open Go.RowKit
set_option linter.unusedVariables false

/-- A move: a tile's numbers, and 0 for a pass, 1 for the left end, 2 for the right one. -/
abbrev Mv : Type := Int × Int × Nat

def endS (k : Nat) : ByteArray := if k = 0 then ⟨#[]⟩ else if k = 1 then ⟨#[108]⟩ else ⟨#[114]⟩
def encS (m : Mv) : List Value := [.int .i64 m.1, .int .i64 m.2.1, .bool (m.2.2 == 1), .bool (m.2.2 == 0)]
def encI (m : Mv) : List Value := [.int .i64 m.1, .int .i64 m.2.1, .string (endS m.2.2)]
theorem encS_len (m : Mv) : (encS m).length = 4 := rfl
theorem encI_len (m : Mv) : (encI m).length = 3 := rfl
theorem encS_one (m : Mv) : ∀ u ∈ encS m, u.oneCell' = true := by
  intro u hu
  simp only [encS, List.mem_cons, List.not_mem_nil, or_false] at hu
  rcases hu with rfl | rfl | rfl | rfl <;> rfl
theorem encI_one (m : Mv) : ∀ u ∈ encI m, u.oneCell' = true := by
  intro u hu
  simp only [encI, List.mem_cons, List.not_mem_nil, or_false] at hu
  rcases hu with rfl | rfl | rfl <;> rfl

def hasB (a b q : Int) : Bool := (a == q) || (b == q)
/-- The first number of a row, and the last one. -/
def fstI (R : List Int) : Int := R.getD 0 0
def lstI (R : List Int) : Int := R.getD (R.length - 1) 0
def leftB (R : List Int) (a b : Int) : Bool := decide (R.length = 0) || hasB a b (fstI R)
def rightB (R : List Int) (a b : Int) : Bool := decide (0 < R.length) && hasB a b (lstI R)
def layOf (R : List Int) (t : Int × Int) : List Mv := (if leftB R t.1 t.2 then [(t.1, t.2, 1)] else []) ++ (if rightB R t.1 t.2 then [(t.1, t.2, 2)] else [])
theorem layOf_len (R : List Int) (t : Int × Int) : (layOf R t).length ≤ 2 := by
  unfold layOf
  split <;> split <;> simp
/-- The moves that lay one of the first k tiles. -/
def laysTo (R : List Int) (H : List (Int × Int)) (k : Nat) : List Mv := (H.take k).flatMap (layOf R)
theorem laysTo_zero (R : List Int) (H : List (Int × Int)) : laysTo R H 0 = [] := by simp [laysTo]
theorem laysTo_step {R : List Int} {H : List (Int × Int)} {k : Nat} (h : k < H.length) : laysTo R H (k + 1) = laysTo R H k ++ layOf R H[k] := by
  unfold laysTo
  rw [List.take_succ_eq_append_getElem h, List.flatMap_append]
  simp
theorem laysTo_len (R : List Int) (H : List (Int × Int)) (k : Nat) : (laysTo R H k).length ≤ 2 * H.length := by
  have : ∀ (L : List (Int × Int)), (L.flatMap (layOf R)).length ≤ 2 * L.length := fun L => by
    induction L with
    | nil => simp
    | cons t L ih =>
      rw [List.flatMap_cons, List.length_append, List.length_cons]
      have := layOf_len R t
      omega
  have h1 := this (H.take k)
  have h2 : (H.take k).length ≤ H.length := List.length_take_le' _ _
  unfold laysTo
  omega
def laysL (R : List Int) (H : List (Int × Int)) : List Mv := laysTo R (sortL H) (sortL H).length
theorem laysL_len (R : List Int) (H : List (Int × Int)) : (laysL R H).length ≤ 220 := by
  have h1 := laysTo_len R (sortL H) (sortL H).length
  have h2 := sortL_len H
  unfold laysL
  omega
def handG (F S : List (Int × Int)) (t : Int) : List (Int × Int) := if t = 1 then S else F
def movesL (F S : List (Int × Int)) (R : List Int) (t u : Int) : List Mv :=
  if overB F.length S.length u then [] else if (laysL R (handG F S t)).length = 0 then [(0, 0, 0)] else laysL R (handG F S t)
theorem movesL_len (F S : List (Int × Int)) (R : List Int) (t u : Int) : (movesL F S R t u).length ≤ 220 := by
  unfold movesL
  split
  · simp
  · split
    · simp
    · exact laysL_len _ _
end Go.Proofs.Ytlnfialfkipdjaa

namespace Go.Proofs.Ytlnfialfkipdjaa
open Go.RowKit
set_option linter.unusedVariables false

theorem hcS {w : World} {g : Nat} (m : Mv) (h0 : w.cell? ⟨g, 0, none⟩ = some (.int .i64 m.1)) (h1 : w.cell? ⟨g, 1, none⟩ = some (.int .i64 m.2.1)) (h2 : w.cell? ⟨g, 2, none⟩ = some (.bool (m.2.2 == 1))) (h3 : w.cell? ⟨g, 3, none⟩ = some (.bool (m.2.2 == 0))) :
    ∀ j u, (encS m)[j]? = some u → w.cell? ⟨g, j, none⟩ = some u := fun j u hj => by
  match j, hj with
  | 0, hj => simp [encS] at hj; subst hj; exact h0
  | 1, hj => simp [encS] at hj; subst hj; exact h1
  | 2, hj => simp [encS] at hj; subst hj; exact h2
  | 3, hj => simp [encS] at hj; subst hj; exact h3

theorem SMov.drew {α : Type} {enc : α → List Value} {n gb tb e : Nat} {v0 v1 v2 v3 v4 : Value} {a b : Int} {w2 W : World} {A' : Option Addr} {c' : Nat} {ms : List α} (h : SMov gb tb v0 v1 v2 v3 v4 a b e n enc w2 A' c' ms W) (q : Nat) :
    SMov gb tb v0 v1 v2 v3 v4 a b e n enc w2 A' c' ms (W.drewN q) := ⟨h.ba.keep (belowN (Below.refl _ _) q), h.p0, h.p1, h.own, h.off, belowN h.hb q, h.glt⟩
theorem hasB_cases (a b q : Int) : ((a == q) = true ∧ hasB a b q = true) ∨ ((a == q) = false ∧ (b == q) = true ∧ hasB a b q = true) ∨ ((a == q) = false ∧ (b == q) = false ∧ hasB a b q = false) := by
  unfold hasB
  cases a == q <;> cases b == q <;> simp
theorem hasB_eq {a b q : Int} {x y : Bool} (h1 : (a == q) = x) (h2 : (b == q) = y) : hasB a b q = (x || y) := by unfold hasB; rw [h1, h2]

end Go.Proofs.Ytlnfialfkipdjaa

/- Rows of structs told by what their cells are: enc x lists the n cells of x. Moves of games: the mathematics. Moves of games: the specification's. -/
import Derived.Test.YtgjdpiooocpmhabGreatDoorGames
import Derived.Maps.AppendAt
import Derived.Test.YtgjdpiooocpmhabGreatDoorGameL
import Derived.Test.YtgjdpiooocpmhabGreatDoorSets
import Derived.Deep.Cut
import Derived.BigQuiet
namespace Go.Proofs.YtgjdpiooocpmhabGreatDoor
open Go.RowKit
set_option linter.unusedVariables false

section
variable {α : Type} {enc : α → List Value} {n : Nat}

def cellsE (enc : α → List Value) (ts : List α) : List Value := ts.flatMap enc
theorem cellsE_nil : cellsE enc [] = [] := rfl
theorem cellsE_append (xs ys : List α) : cellsE enc (xs ++ ys) = cellsE enc xs ++ cellsE enc ys := by simp [cellsE]
theorem cellsE_one (x : α) : cellsE enc [x] = enc x := by simp [cellsE]
theorem cellsE_len (he : ∀ x, (enc x).length = n) (ts : List α) : (cellsE enc ts).length = ts.length * n := by
  induction ts with
  | nil => simp [cellsE]
  | cons t ts ih =>
    have : cellsE enc (t :: ts) = enc t ++ cellsE enc ts := by simp [cellsE]
    rw [this, List.length_append, he, ih, List.length_cons, Nat.add_mul, Nat.one_mul]; omega
theorem cellsE_get (he : ∀ x, (enc x).length = n) : ∀ (ts : List α) (k : Nat) (h : k < ts.length) (j : Nat), j < n → (cellsE enc ts)[k * n + j]? = (enc ts[k])[j]?
  | [], k, h, _, _ => by simp at h
  | t :: ts, 0, h, j, hj => by
    have : cellsE enc (t :: ts) = enc t ++ cellsE enc ts := by simp [cellsE]
    rw [this, Nat.zero_mul, Nat.zero_add, List.getElem?_append_left (by rw [he]; exact hj)]
    rfl
  | t :: ts, k + 1, h, j, hj => by
    have : cellsE enc (t :: ts) = enc t ++ cellsE enc ts := by simp [cellsE]
    rw [this, List.getElem?_append_right (by rw [he, Nat.add_mul]; omega), he, show (k + 1) * n + j - n = k * n + j from by rw [Nat.add_mul]; omega, cellsE_get he ts k (by simpa using h) j hj]
    rfl

/-- A slice value at A reads as a list. -/
def RdE (enc : α → List Value) (n : Nat) (w : World) (A : Option Addr) (ts : List α) : Prop :=
  ∃ b off, (ts ≠ [] → A = some ⟨b, off, none⟩ ∧ b < w.heap.size) ∧ ∀ k (h : k < ts.length) j u, (enc ts[k])[j]? = some u → w.cell? ⟨b, off + k * n + j, none⟩ = some u

variable {w w' : World} {A : Option Addr} {ts : List α}
theorem RdE.nil_ : RdE enc n w A [] := ⟨0, 0, fun h => absurd rfl h, fun k h => by simp at h⟩
theorem RdE.below (h : RdE enc n w A ts) (hb : Below w.heap.size w w') : RdE enc n w' A ts := by
  obtain ⟨b, off, h1, h2⟩ := h
  exact ⟨b, off, fun hne => ⟨(h1 hne).1, Nat.lt_of_lt_of_le (h1 hne).2 hb.size⟩, fun k hk j u hu => keepc hb (h2 k hk j u hu)⟩
theorem RdE.at_ (h : RdE enc n w A ts) {k : Nat} (hk : k < ts.length) : ∃ b off, A = some ⟨b, off, none⟩ ∧ b < w.heap.size ∧ ∀ k (h : k < ts.length) j u, (enc ts[k])[j]? = some u → w.cell? ⟨b, off + k * n + j, none⟩ = some u := by
  obtain ⟨b, off, h1, h2⟩ := h
  obtain ⟨e1, e2⟩ := h1 (by rintro rfl; simp at hk)
  exact ⟨b, off, e1, e2, h2⟩
theorem RdE.of_own {base e m c : Nat} (he : ∀ x, (enc x).length = n) (h : w.ownsRow base e n (.slice A ts.length c) m (cellsE enc ts)) : RdE enc n w A ts := by
  have h0 := h
  obtain ⟨_, ⟨hv, hn⟩ | ⟨g, cap, cur, hv, _⟩⟩ := h0
  · injection hv with h1 h2 h3
    have : ts = [] := List.eq_nil_of_length_eq_zero h2
    subst this
    exact RdE.nil_
  · injection hv with h1 h2 h3
    subst h1
    refine ⟨g, 0, fun _ => ⟨rfl, (h.lt g rfl).2⟩, fun k hk j u hu => ?_⟩
    have hj : j < n := by rw [← he ts[k]]; exact (List.getElem?_eq_some_iff.1 hu).1
    have := World.ownsRow.cells h (g := g) rfl (k * n + j) u (by rw [cellsE_get he ts k hk j hj]; exact hu)
    rw [show (⟨g, 0, none⟩ : Addr).add (k * n + j) = ⟨g, 0 + k * n + j, none⟩ from by unfold Addr.add; split <;> simp_all] at this
    exact this

/-- A new slice comes back. -/
def RetE (enc : α → List Value) (n e : Nat) (w : World) (ts : List α) (en : Ending) (w' : World) : Prop :=
  ∃ A c, en = .returned (.slice A ts.length c) ∧ w'.ownsRow w.heap.size e n (.slice A ts.length c) ts.length (cellsE enc ts) ∧ Below w.heap.size w w'

/-- One more, out of a block of its own. -/
theorem wp_append_E {P : Program} {w : World} {ops : Array Oper} {rest : List Oper} {o : Oper} {a : Act} {Q : Exit → Act → World → Prop} {t e bytes : Nat} {i0 : TypeInfo} {z : Value}
    (he : ∀ x, (enc x).length = n) (h1c : ∀ x, ∀ u ∈ enc x, u.oneCell' = true) (ht : P.underlying t = some (.slice e)) (hi : P.info? e = some i0) (hz0 : i0.zero = some z) (hz1 : i0.size = n) (hz2 : i0.bytes = bytes) (hzs : z.cells.size = n) (hn : 0 < n) (hby : bytes ≤ 32)
    (hgd : o.guard = none) (s x : Operand) (ho : o.op = .call { callee := .builtin .append, args := #[s, x], argTypes := #[t, t] }) (base : Nat) (v : Value) (ts : List α) (hs : a.eval s = v)
    (hown : w.ownsRow base e n v ts.length (cellsE enc ts)) (y : α) (g : Nat) (hx : a.eval x = .slice (some ⟨g, 0, none⟩) 1 1) (hc : ∀ j u, (enc y)[j]? = some u → w.cell? ⟨g, j, none⟩ = some u) (hlen : ts.length ≤ 1048576) (hbase : base ≤ w.heap.size)
    (h : ∀ A c w', w'.ownsRow base e n (.slice A (ts ++ [y]).length c) (ts ++ [y]).length (cellsE enc (ts ++ [y])) → w.grownBy w' v.ownBlock → ((Value.slice A (ts ++ [y]).length c).ownBlock = v.ownBlock ∨ (Value.slice A (ts ++ [y]).length c).ownBlock = some w.heap.size) → wpList P ops Q rest (a.put o.dst (.slice A (ts ++ [y]).length c)) w') :
    wpList P ops Q (o :: rest) a w := by
  refine wpList_append_own_at w hgd s x t ho base e i0 z n bytes ht hi hz0 hz1 hz2 hzs hn v ts.length (cellsE enc ts) hs hown ⟨g, 0, none⟩ 1 1 (enc y) hx (by rw [he, Nat.one_mul]) ?_ (h1c y) (by unfold maxLen; omega) ?_ hbase ?_
  · intro j u hu
    rw [show (⟨g, 0, none⟩ : Addr).add j = ⟨g, j, none⟩ from by unfold Addr.add; split <;> simp_all]
    exact hc j u hu
  · calc (ts.length + 1) * bytes ≤ (ts.length + 1) * 32 := Nat.mul_le_mul_left _ hby
      _ ≤ 140737488355328 := by omega
  · intro v' w' h1 h2 _ h3
    have e1 : ts.length + 1 = (ts ++ [y]).length := by simp
    have e2 : cellsE enc ts ++ enc y = cellsE enc (ts ++ [y]) := by rw [cellsE_append, cellsE_one]
    rw [e1, e2] at h1
    have h1' := h1
    obtain ⟨_, ⟨_, hn0⟩ | ⟨g', cap, cur, rfl, _⟩⟩ := h1'
    · simp at hn0
    · exact h _ _ w' h1 h2 h3

/-- A row of moves under way, beside a game's box and a tile's. -/
structure SMov (gb tb : Nat) (v0 v1 v2 v3 v4 : Value) (a b : Int) (e n : Nat) (enc : α → List Value) (w2 : World) (A' : Option Addr) (c' : Nat) (ms : List α) (W : World) : Prop where
  ba : BoxAt W gb v0 v1 v2 v3 v4
  p0 : W.cell? ⟨tb, 0, none⟩ = some (.int .i64 a)
  p1 : W.cell? ⟨tb, 1, none⟩ = some (.int .i64 b)
  own : W.ownsRow w2.heap.size e n (.slice A' ms.length c') ms.length (cellsE enc ms)
  off : ∀ g, (Value.slice A' ms.length c').ownBlock = some g → g ≠ tb
  hb : Below w2.heap.size w2 W
  glt : gb < w2.heap.size
theorem SMov.app {gb tb e : Nat} {v0 v1 v2 v3 v4 : Value} {a b : Int} {w2 W : World} {A' A5 : Option Addr} {c' c5 : Nat} {ms : List α} {y : α} {O : Obj} (h : SMov gb tb v0 v1 v2 v3 v4 a b e n enc w2 A' c' ms W)
    (ho : w'.ownsRow w2.heap.size e n (.slice A5 (ms ++ [y]).length c5) (ms ++ [y]).length (cellsE enc (ms ++ [y]))) (hg : (W.alloc O).grownBy w' (Value.slice A' ms.length c').ownBlock)
    (hat : (Value.slice A5 (ms ++ [y]).length c5).ownBlock = (Value.slice A' ms.length c').ownBlock ∨ (Value.slice A5 (ms ++ [y]).length c5).ownBlock = some (W.alloc O).heap.size) :
    SMov gb tb v0 v1 v2 v3 v4 a b e n enc w2 A5 c5 (ms ++ [y]) w' := by
  have hz := h.hb.size
  have ht := block_lt h.p0
  simp only at ht
  have bA : Below W.heap.size W (W.alloc O) := (Below.refl _ _).alloc (Nat.le_refl _) _
  have et := hg.block tb (by simp; omega) (fun e => h.off _ e.symm rfl)
  refine ⟨(h.ba.more O).of_block (hg.block gb (by have := h.glt; simp; omega) (fun e => by have := (h.own.lt _ e.symm).1; have := h.glt; omega)), (World.cell?_of_block (a := ⟨tb, 0, none⟩) et).trans (keepc bA h.p0), (World.cell?_of_block (a := ⟨tb, 1, none⟩) et).trans (keepc bA h.p1), ho, fun g hg' => ?_, Below.grown (h.hb.alloc hz _) hg (by simp; omega) (fun g hg => (h.own.lt g hg).1), h.glt⟩
  rcases hat with hat | hat
  · rw [hat] at hg'; exact h.off g hg'
  · rw [hat] at hg'
    have := Option.some.inj hg'
    simp at this
    omega
end
end Go.Proofs.YtgjdpiooocpmhabGreatDoor

namespace Go.Proofs.YtgjdpiooocpmhabGreatDoor
open Go.RowKit
set_option linter.unusedVariables false

/-- A move: a tile's numbers, and 0 for a pass, 1 for the left end, 2 for the right one. -/
abbrev Mv : Type := Int × Int × Nat

def endS (k : Nat) : ByteArray := if k = 0 then ⟨#[]⟩ else if k = 1 then ⟨#[108]⟩ else ⟨#[114]⟩
def encS (m : Mv) : List Value := [.int .i64 m.1, .int .i64 m.2.1, .bool (m.2.2 == 1), .bool (m.2.2 == 0)]
def encI (m : Mv) : List Value := [.int .i64 m.1, .int .i64 m.2.1, .string (endS m.2.2)]
theorem encS_len (m : Mv) : (encS m).length = 4 := rfl
theorem encI_len (m : Mv) : (encI m).length = 3 := rfl
theorem encS_one (m : Mv) : ∀ u ∈ encS m, u.oneCell' = true := by
  intro u hu
  simp only [encS, List.mem_cons, List.not_mem_nil, or_false] at hu
  rcases hu with rfl | rfl | rfl | rfl <;> rfl
theorem encI_one (m : Mv) : ∀ u ∈ encI m, u.oneCell' = true := by
  intro u hu
  simp only [encI, List.mem_cons, List.not_mem_nil, or_false] at hu
  rcases hu with rfl | rfl | rfl <;> rfl

def hasB (a b q : Int) : Bool := (a == q) || (b == q)
/-- The first number of a row, and the last one. -/
def fstI (R : List Int) : Int := R.getD 0 0
def lstI (R : List Int) : Int := R.getD (R.length - 1) 0
def leftB (R : List Int) (a b : Int) : Bool := decide (R.length = 0) || hasB a b (fstI R)
def rightB (R : List Int) (a b : Int) : Bool := decide (0 < R.length) && hasB a b (lstI R)
def layOf (R : List Int) (t : Int × Int) : List Mv := (if leftB R t.1 t.2 then [(t.1, t.2, 1)] else []) ++ (if rightB R t.1 t.2 then [(t.1, t.2, 2)] else [])
theorem layOf_len (R : List Int) (t : Int × Int) : (layOf R t).length ≤ 2 := by
  unfold layOf
  split <;> split <;> simp
/-- The moves that lay one of the first k tiles. -/
def laysTo (R : List Int) (H : List (Int × Int)) (k : Nat) : List Mv := (H.take k).flatMap (layOf R)
theorem laysTo_zero (R : List Int) (H : List (Int × Int)) : laysTo R H 0 = [] := by simp [laysTo]
theorem laysTo_step {R : List Int} {H : List (Int × Int)} {k : Nat} (h : k < H.length) : laysTo R H (k + 1) = laysTo R H k ++ layOf R H[k] := by
  unfold laysTo
  rw [List.take_succ_eq_append_getElem h, List.flatMap_append]
  simp
theorem laysTo_len (R : List Int) (H : List (Int × Int)) (k : Nat) : (laysTo R H k).length ≤ 2 * H.length := by
  have : ∀ (L : List (Int × Int)), (L.flatMap (layOf R)).length ≤ 2 * L.length := fun L => by
    induction L with
    | nil => simp
    | cons t L ih =>
      rw [List.flatMap_cons, List.length_append, List.length_cons]
      have := layOf_len R t
      omega
  have h1 := this (H.take k)
  have h2 : (H.take k).length ≤ H.length := List.length_take_le' _ _
  unfold laysTo
  omega
def laysL (R : List Int) (H : List (Int × Int)) : List Mv := laysTo R (sortL H) (sortL H).length
theorem laysL_len (R : List Int) (H : List (Int × Int)) : (laysL R H).length ≤ 220 := by
  have h1 := laysTo_len R (sortL H) (sortL H).length
  have h2 := sortL_len H
  unfold laysL
  omega
def handG (F S : List (Int × Int)) (t : Int) : List (Int × Int) := if t = 1 then S else F
def movesL (F S : List (Int × Int)) (R : List Int) (t u : Int) : List Mv :=
  if overB F.length S.length u then [] else if (laysL R (handG F S t)).length = 0 then [(0, 0, 0)] else laysL R (handG F S t)
theorem movesL_len (F S : List (Int × Int)) (R : List Int) (t u : Int) : (movesL F S R t u).length ≤ 220 := by
  unfold movesL
  split
  · simp
  · split
    · simp
    · exact laysL_len _ _
end Go.Proofs.YtgjdpiooocpmhabGreatDoor

namespace Go.Proofs.YtgjdpiooocpmhabGreatDoor
open Go.RowKit
set_option linter.unusedVariables false

theorem hcS {w : World} {g : Nat} (m : Mv) (h0 : w.cell? ⟨g, 0, none⟩ = some (.int .i64 m.1)) (h1 : w.cell? ⟨g, 1, none⟩ = some (.int .i64 m.2.1)) (h2 : w.cell? ⟨g, 2, none⟩ = some (.bool (m.2.2 == 1))) (h3 : w.cell? ⟨g, 3, none⟩ = some (.bool (m.2.2 == 0))) :
    ∀ j u, (encS m)[j]? = some u → w.cell? ⟨g, j, none⟩ = some u := fun j u hj => by
  match j, hj with
  | 0, hj => simp [encS] at hj; subst hj; exact h0
  | 1, hj => simp [encS] at hj; subst hj; exact h1
  | 2, hj => simp [encS] at hj; subst hj; exact h2
  | 3, hj => simp [encS] at hj; subst hj; exact h3

theorem Tryz.info_plLay : (Tryz.prog.info? 70).map (fun i => (i.zero, i.size, i.bytes)) = some (some (.agg #[.int .i64 0, .int .i64 0, .bool false, .bool false]), 4, 24) := by kernel_rfl

abbrev RetS (w : World) (ms : List Mv) : Ending → World → Prop := RetE encS 4 70 w ms

theorem wp_append_S {w : World} {ops : Array Oper} {rest : List Oper} {o : Oper} {a : Act} {Q : Exit → Act → World → Prop} (hgd : o.guard = none) (s x : Operand)
    (ho : o.op = .call { callee := .builtin .append, args := #[s, x], argTypes := #[49, 49] }) (base : Nat) (v : Value) (ts : List Mv) (hs : a.eval s = v)
    (hown : w.ownsRow base 70 4 v ts.length (cellsE encS ts)) (y : Mv) (g : Nat) (hx : a.eval x = .slice (some ⟨g, 0, none⟩) 1 1)
    (h0 : w.cell? ⟨g, 0, none⟩ = some (.int .i64 y.1)) (h1 : w.cell? ⟨g, 1, none⟩ = some (.int .i64 y.2.1)) (h2 : w.cell? ⟨g, 2, none⟩ = some (.bool (y.2.2 == 1))) (h3 : w.cell? ⟨g, 3, none⟩ = some (.bool (y.2.2 == 0))) (hlen : ts.length ≤ 1048576) (hbase : base ≤ w.heap.size)
    (h : ∀ A c w', w'.ownsRow base 70 4 (.slice A (ts ++ [y]).length c) (ts ++ [y]).length (cellsE encS (ts ++ [y])) → w.grownBy w' v.ownBlock → ((Value.slice A (ts ++ [y]).length c).ownBlock = v.ownBlock ∨ (Value.slice A (ts ++ [y]).length c).ownBlock = some w.heap.size) → wpList Tryz.prog ops Q rest (a.put o.dst (.slice A (ts ++ [y]).length c)) w') :
    wpList Tryz.prog ops Q (o :: rest) a w := by
  obtain ⟨i0, hi, hz0, hz1, hz2⟩ := info_parts Tryz.info_plLay
  exact wp_append_E encS_len encS_one Tryz.underlying49 hi hz0 hz1 hz2 rfl (by decide) (by decide) hgd s x ho base v ts hs hown y g hx (hcS y h0 h1 h2 h3) hlen hbase h

theorem SMov.drew {α : Type} {enc : α → List Value} {n gb tb e : Nat} {v0 v1 v2 v3 v4 : Value} {a b : Int} {w2 W : World} {A' : Option Addr} {c' : Nat} {ms : List α} (h : SMov gb tb v0 v1 v2 v3 v4 a b e n enc w2 A' c' ms W) (q : Nat) :
    SMov gb tb v0 v1 v2 v3 v4 a b e n enc w2 A' c' ms (W.drewN q) := ⟨h.ba.keep (belowN (Below.refl _ _) q), h.p0, h.p1, h.own, h.off, belowN h.hb q, h.glt⟩
theorem hasB_cases (a b q : Int) : ((a == q) = true ∧ hasB a b q = true) ∨ ((a == q) = false ∧ (b == q) = true ∧ hasB a b q = true) ∨ ((a == q) = false ∧ (b == q) = false ∧ hasB a b q = false) := by
  unfold hasB
  cases a == q <;> cases b == q <;> simp
theorem hasB_eq {a b q : Int} {x y : Bool} (h1 : (a == q) = x) (h2 : (b == q) = y) : hasB a b q = (x || y) := by unfold hasB; rw [h1, h2]

set_option maxRecDepth 100000 in
set_option maxHeartbeats 4000000 in
theorem c_plMoves (AF : Option Addr) (cF : Nat) (F : List (Int × Int)) (AS : Option Addr) (cS : Nat) (S : List (Int × Int)) (AR : Option Addr) (cR : Nat) (R : List Int) (t u : Int) (w : World) (hF : RdT w AF F) (hS : RdT w AS S) (hR : RdI w AR R) (gF : handB F = true) (gS : handB S = true) (lR : R.length ≤ 1048576) :
    Calls Tryz.prog 35 #[.agg #[.slice AF F.length cF, .slice AS S.length cS, .slice AR R.length cR, .int .i64 t, .int .i64 u]] w (RetS w (movesL F S R t u)) := by
  have conO := fun W => c_plOver AF F.length cF AS S.length cS AR R.length cR t u W
  cases ho : overB F.length S.length u
  · simp only [ho] at conO
    have ConO := Lib.hid conO
    have em : movesL F S R t u = if (laysL R (handG F S t)).length = 0 then [(0, 0, 0)] else laysL R (handG F S t) := by unfold movesL; rw [ho]; rfl
    rw [em]
    clear conO em ho
    by_cases ht : t = 1
    · have eh : handG F S t = S := if_pos ht
      have ConS := Lib.hid (fun W (hb : Below w.heap.size w W) => c_tiSort AS cS S W (hS.below hb) (by have := (handB_good gS).1; omega))
      have et : (t == 1) = true := by simp [ht]
      have hl : laysL R S = laysTo R (sortL S) (sortL S).length := rfl
      have hll := sortL_len S
      rw [eh, hl]
      clear eh hl ht gF gS hF hS
      generalize sortL S = L at *
      obtain ⟨M, hM⟩ : ∃ M, M = (if (laysTo R L L.length).length = 0 then [(0, 0, 0)] else laysTo R L L.length) := ⟨_, rfl⟩
      rw [← hM]
      have HM := Lib.hid hM
      clear hM
      go_enter Tryz.func35, Tryz.ntmps35
      go_wp2_with fail
      obtain ⟨w0, hw0⟩ : ∃ w0, w0 = w.alloc (.cells #[.slice AF F.length cF, .slice AS S.length cS, .slice AR R.length cR, .int .i64 t, .int .i64 u] 32) := ⟨_, rfl⟩
      rw [← hw0]
      have ba0 : BoxAt w0 w.heap.size (.slice AF F.length cF) (.slice AS S.length cS) (.slice AR R.length cR) (.int .i64 t) (.int .i64 u) := by rw [hw0]; exact BoxAt.fresh w _ _ _ _ _ _
      have hb0 : Below w.heap.size w w0 := by rw [hw0]; go_grown
      clear hw0
      refine (ConO.out w0).mono ?_
      rintro e w1 ⟨rfl, h1⟩
      have hb1 := bstep hb0 h1
      have ba1 := ba0.keep h1
      clear ba0
      have x0 := ba1.c0
      have x1 := ba1.c1
      have x2 := ba1.c2
      have x3 := ba1.c3
      have x4 := ba1.c4
      go_wp2_with fail
      refine (ConS.out w1 hb1).mono ?_
      rintro e w2 ⟨A2, c2, rfl, o2, h2⟩
      have hb2 := bstep hb1 h2
      have ba2 := ba1.keep h2
      clear x0 x1 x2 x3 x4 ba1
      have glt := ba2.lt
      have r2 := RdT.of_own o2
      have hrR2 := hR.below hb2
      clear hR o2
      go_wp2
      go_loopw [4, 21] (fun v i wr => ∃ (k : Nat) (A' : Option Addr) (c' : Nat), k ≤ L.length ∧ i = .int .i64 k ∧ v = .slice A' (laysTo R L k).length c' ∧ wr.ownsRow w2.heap.size 70 4 (.slice A' (laysTo R L k).length c') (laysTo R L k).length (cellsE encS (laysTo R L k)) ∧ BoxAt wr w.heap.size (.slice AF F.length cF) (.slice AS S.length cS) (.slice AR R.length cR) (.int .i64 t) (.int .i64 u) ∧ Below w2.heap.size w2 wr) (fun _ i _ => L.length - (intOf i).toNat)
      case atStart => exact ⟨0, none, 0, Nat.zero_le _, rfl, by rw [laysTo_zero]; rfl, by rw [laysTo_zero]; exact World.ownsRow_nil _ _ _ _, ba2, Below.refl _ _⟩
      case round =>
        obtain ⟨k, A', c', hk, rfl, rfl, hown, hba, hb⟩ := hrel
        clear ba2
        have hz := hb.size
        have hms := laysTo_len R L k
        by_cases hlt : k < L.length
        · obtain ⟨bl, ol, rfl, hbl, hcl⟩ := r2.at_ hlt
          have g0 := keepc hb (hcl k hlt).1
          have g1 := keepc hb (hcl k hlt).2
          have Hst := Lib.hid (laysTo_step (R := R) hlt)
          obtain ⟨a, hL0⟩ : ∃ a, L[k].1 = a := ⟨_, rfl⟩
          obtain ⟨b, hL1⟩ : ∃ b, L[k].2 = b := ⟨_, rfl⟩
          rw [hL0] at g0
          rw [hL1] at g1
          have x0 := hba.c0
          have x2 := hba.c2
          clear hcl r2
          go_upto_region 10 with (fail)
          obtain ⟨v1, hv1⟩ : ∃ v1, v1 = wr.alloc (.cells #[.int .i64 a, .int .i64 b] 61) := ⟨_, rfl⟩
          rw [← hv1]
          have b1 : Below wr.heap.size wr v1 := by rw [hv1]; exact (Below.refl _ _).alloc (Nat.le_refl _) _
          have R1 : SMov w.heap.size wr.heap.size (.slice AF F.length cF) (.slice AS S.length cS) (.slice AR R.length cR) (.int .i64 t) (.int .i64 u) a b 70 4 encS w2 A' c' (laysTo R L k) v1 := ⟨hba.keep b1, by rw [hv1]; simp, by rw [hv1]; simp, own_keep hown b1, fun g hg => by have := (hown.lt g hg).2; omega, hb.trans (b1.mono hz), glt⟩
          clear x0 x2 g0 g1
          have x2 := R1.ba.c2
          have q01 := R1.p0
          have q11 := R1.p1
          have hrR := hrR2.below R1.hb
          clear hv1 hown hba
          by_cases hR0 : R.length = 0
          · have e0 : ((R.length : Int) == 0) = true := by simp [hR0]
            have hlay : layOf R L[k] = [(L[k].1, L[k].2, 1)] := by unfold layOf leftB rightB; simp [hR0]
            rw [hL0, hL1] at hlay
            clear hR0 hL0 hL1 hrR
            go_wp2_with (first | (at_builtin; refine wp_append_S rfl _ _ rfl w2.heap.size _ (laysTo R L k) rfl (own_keep R1.own ((Below.refl _ _).alloc (Nat.le_refl _) _)) (a, b, 1) v1.heap.size rfl (by simp) (by simp) (by simp) (by simp) (by (try simp); omega) (by have := R1.hb.size; (try simp); omega) ?_; intro A5 c5 w5 o5 g5 h5; have R5 := R1.app o5 g5 h5; clear o5 g5 h5; obtain ⟨T5, hT5⟩ : ∃ T, T = laysTo R L k ++ [(a, b, 1)] := ⟨_, rfl⟩; have hl5 : T5.length ≤ 2 * L.length + 5 := (by rw [hT5]; (try simp); omega); rw [← hT5] at R5 ⊢; have HT5 := Lib.hid hT5; clear hT5; have q05 := R5.p0; have q15 := R5.p1))
            go_roundw
            case rel =>
              have hst : laysTo R L (k + 1) = T5 := by rw [HT5.out, Hst.out, hlay]; (try simp)
              exact ⟨k + 1, A5, c5, by omega, by go_num, by rw [hst], by rw [hst]; exact R5.own, R5.ba, R5.hb⟩
            case measure => first | omega | (simp [intOf]; done) | (simp [intOf]; omega)
          · have e0 : ((R.length : Int) == 0) = false := by rw [beq_eq_false_iff_ne]; omega
            obtain ⟨br, orr, hAR, hbr, hcR⟩ := hrR.at_ (k := 0) (by omega)
            subst hAR
            have y0 : v1.cell? ⟨br, orr, none⟩ = some (.int .i64 (fstI R)) := by
              have := hcR 0 (by omega)
              rw [Nat.add_zero] at this
              rw [this]; unfold fstI; rw [List.getD_eq_getElem?_getD, List.getElem?_eq_getElem (by omega)]; rfl
            have y1 : v1.cell? ⟨br, orr + (R.length - 1), none⟩ = some (.int .i64 (lstI R)) := by
              rw [hcR (R.length - 1) (by omega)]; unfold lstI; rw [List.getD_eq_getElem?_getD, List.getElem?_eq_getElem (by omega)]; rfl
            obtain ⟨n, hn⟩ : ∃ n, R.length = n + 1 := ⟨R.length - 1, by omega⟩
            have hL : layOf R L[k] = (if hasB a b (fstI R) then [(a, b, 1)] else []) ++ (if hasB a b (lstI R) then [(a, b, 2)] else []) := by
              unfold layOf leftB rightB; rw [decide_eq_false hR0, decide_eq_true (show 0 < R.length by omega), hL0, hL1]; simp
            rw [show R.length - 1 = n from by omega] at y1
            generalize fstI R = q1 at *
            generalize lstI R = q2 at *
            have l1 : (0 : Int) < (R.length : Int) := by omega
            have iw : IntKind.i64.wrap ((R.length : Int) - 1) = (n : Int) := by rw [IntWalk.i64_in _ (by omega)]; omega
            have i0 : (0 : Int) ≤ (n : Int) := by omega
            have i1 : (n : Int) < (R.length : Int) := by omega
            clear hL0 hL1 hR0 hcR hrR
            go_upto_region 12 with (fail)
            go_quiet (fail)
            obtain ⟨v2, hv2⟩ : ∃ v2, v2 = v1.drewN nq := ⟨_, rfl⟩
            rw [← hv2]
            have R2 := R1.drew nq
            rw [← hv2] at R2
            clear hv2 x2 q01 q11 y0 y1 l1 iw i0 i1 hn
            have x2 := R2.ba.c2
            have q01 := R2.p0
            have q11 := R2.p1
            clear R1
            rcases hasB_cases a b q1 with ⟨p1, z1⟩ | ⟨p1, p2, z1⟩ | ⟨p1, p2, z1⟩
            · rcases hasB_cases a b q2 with ⟨p3, z2⟩ | ⟨p3, p4, z2⟩ | ⟨p3, p4, z2⟩
              · have hlay := hL
                rw [z1, z2] at hlay
                clear hL z1 z2
                go_wp2_with (first | (at_builtin; refine wp_append_S rfl _ _ rfl w2.heap.size _ (laysTo R L k) rfl (own_keep R2.own ((Below.refl _ _).alloc (Nat.le_refl _) _)) (a, b, 1) v2.heap.size rfl (by simp) (by simp) (by simp) (by simp) (by (try simp); omega) (by have := R2.hb.size; (try simp); omega) ?_; intro A5 c5 w5 o5 g5 h5; have R5 := R2.app o5 g5 h5; clear o5 g5 h5; obtain ⟨T5, hT5⟩ : ∃ T, T = laysTo R L k ++ [(a, b, 1)] := ⟨_, rfl⟩; have hl5 : T5.length ≤ 2 * L.length + 5 := (by rw [hT5]; (try simp); omega); rw [← hT5] at R5 ⊢; have HT5 := Lib.hid hT5; clear hT5; have q05 := R5.p0; have q15 := R5.p1) | (at_builtin; refine wp_append_S rfl _ _ rfl w2.heap.size _ (T5) rfl (own_keep R5.own ((Below.refl _ _).alloc (Nat.le_refl _) _)) (a, b, 2) w5.heap.size rfl (by simp) (by simp) (by simp) (by simp) (by (try simp); omega) (by have := R5.hb.size; (try simp); omega) ?_; intro A6 c6 w6 o6 g6 h6; have R6 := R5.app o6 g6 h6; clear o6 g6 h6; obtain ⟨T6, hT6⟩ : ∃ T, T = T5 ++ [(a, b, 2)] := ⟨_, rfl⟩; have hl6 : T6.length ≤ 2 * L.length + 6 := (by rw [hT6]; (try simp); omega); rw [← hT6] at R6 ⊢; have HT6 := Lib.hid hT6; clear hT6; have q06 := R6.p0; have q16 := R6.p1))
                go_roundw
                case rel =>
                  have hst : laysTo R L (k + 1) = T6 := by rw [HT6.out, HT5.out, Hst.out, hlay]; simp
                  exact ⟨k + 1, A6, c6, by omega, by go_num, by rw [hst], by rw [hst]; exact R6.own, R6.ba, R6.hb⟩
                case measure => first | omega | (simp [intOf]; done) | (simp [intOf]; omega)
              · have hlay := hL
                rw [z1, z2] at hlay
                clear hL z1 z2
                go_wp2_with (first | (at_builtin; refine wp_append_S rfl _ _ rfl w2.heap.size _ (laysTo R L k) rfl (own_keep R2.own ((Below.refl _ _).alloc (Nat.le_refl _) _)) (a, b, 1) v2.heap.size rfl (by simp) (by simp) (by simp) (by simp) (by (try simp); omega) (by have := R2.hb.size; (try simp); omega) ?_; intro A5 c5 w5 o5 g5 h5; have R5 := R2.app o5 g5 h5; clear o5 g5 h5; obtain ⟨T5, hT5⟩ : ∃ T, T = laysTo R L k ++ [(a, b, 1)] := ⟨_, rfl⟩; have hl5 : T5.length ≤ 2 * L.length + 5 := (by rw [hT5]; (try simp); omega); rw [← hT5] at R5 ⊢; have HT5 := Lib.hid hT5; clear hT5; have q05 := R5.p0; have q15 := R5.p1) | (at_builtin; refine wp_append_S rfl _ _ rfl w2.heap.size _ (T5) rfl (own_keep R5.own ((Below.refl _ _).alloc (Nat.le_refl _) _)) (a, b, 2) w5.heap.size rfl (by simp) (by simp) (by simp) (by simp) (by (try simp); omega) (by have := R5.hb.size; (try simp); omega) ?_; intro A6 c6 w6 o6 g6 h6; have R6 := R5.app o6 g6 h6; clear o6 g6 h6; obtain ⟨T6, hT6⟩ : ∃ T, T = T5 ++ [(a, b, 2)] := ⟨_, rfl⟩; have hl6 : T6.length ≤ 2 * L.length + 6 := (by rw [hT6]; (try simp); omega); rw [← hT6] at R6 ⊢; have HT6 := Lib.hid hT6; clear hT6; have q06 := R6.p0; have q16 := R6.p1))
                go_roundw
                case rel =>
                  have hst : laysTo R L (k + 1) = T6 := by rw [HT6.out, HT5.out, Hst.out, hlay]; simp
                  exact ⟨k + 1, A6, c6, by omega, by go_num, by rw [hst], by rw [hst]; exact R6.own, R6.ba, R6.hb⟩
                case measure => first | omega | (simp [intOf]; done) | (simp [intOf]; omega)
              · have hlay := hL
                rw [z1, z2] at hlay
                clear hL z1 z2
                go_wp2_with (first | (at_builtin; refine wp_append_S rfl _ _ rfl w2.heap.size _ (laysTo R L k) rfl (own_keep R2.own ((Below.refl _ _).alloc (Nat.le_refl _) _)) (a, b, 1) v2.heap.size rfl (by simp) (by simp) (by simp) (by simp) (by (try simp); omega) (by have := R2.hb.size; (try simp); omega) ?_; intro A5 c5 w5 o5 g5 h5; have R5 := R2.app o5 g5 h5; clear o5 g5 h5; obtain ⟨T5, hT5⟩ : ∃ T, T = laysTo R L k ++ [(a, b, 1)] := ⟨_, rfl⟩; have hl5 : T5.length ≤ 2 * L.length + 5 := (by rw [hT5]; (try simp); omega); rw [← hT5] at R5 ⊢; have HT5 := Lib.hid hT5; clear hT5; have q05 := R5.p0; have q15 := R5.p1))
                go_roundw
                case rel =>
                  have hst : laysTo R L (k + 1) = T5 := by rw [HT5.out, Hst.out, hlay]; (try simp)
                  exact ⟨k + 1, A5, c5, by omega, by go_num, by rw [hst], by rw [hst]; exact R5.own, R5.ba, R5.hb⟩
                case measure => first | omega | (simp [intOf]; done) | (simp [intOf]; omega)
            · rcases hasB_cases a b q2 with ⟨p3, z2⟩ | ⟨p3, p4, z2⟩ | ⟨p3, p4, z2⟩
              · have hlay := hL
                rw [z1, z2] at hlay
                clear hL z1 z2
                go_wp2_with (first | (at_builtin; refine wp_append_S rfl _ _ rfl w2.heap.size _ (laysTo R L k) rfl (own_keep R2.own ((Below.refl _ _).alloc (Nat.le_refl _) _)) (a, b, 1) v2.heap.size rfl (by simp) (by simp) (by simp) (by simp) (by (try simp); omega) (by have := R2.hb.size; (try simp); omega) ?_; intro A5 c5 w5 o5 g5 h5; have R5 := R2.app o5 g5 h5; clear o5 g5 h5; obtain ⟨T5, hT5⟩ : ∃ T, T = laysTo R L k ++ [(a, b, 1)] := ⟨_, rfl⟩; have hl5 : T5.length ≤ 2 * L.length + 5 := (by rw [hT5]; (try simp); omega); rw [← hT5] at R5 ⊢; have HT5 := Lib.hid hT5; clear hT5; have q05 := R5.p0; have q15 := R5.p1) | (at_builtin; refine wp_append_S rfl _ _ rfl w2.heap.size _ (T5) rfl (own_keep R5.own ((Below.refl _ _).alloc (Nat.le_refl _) _)) (a, b, 2) w5.heap.size rfl (by simp) (by simp) (by simp) (by simp) (by (try simp); omega) (by have := R5.hb.size; (try simp); omega) ?_; intro A6 c6 w6 o6 g6 h6; have R6 := R5.app o6 g6 h6; clear o6 g6 h6; obtain ⟨T6, hT6⟩ : ∃ T, T = T5 ++ [(a, b, 2)] := ⟨_, rfl⟩; have hl6 : T6.length ≤ 2 * L.length + 6 := (by rw [hT6]; (try simp); omega); rw [← hT6] at R6 ⊢; have HT6 := Lib.hid hT6; clear hT6; have q06 := R6.p0; have q16 := R6.p1))
                go_roundw
                case rel =>
                  have hst : laysTo R L (k + 1) = T6 := by rw [HT6.out, HT5.out, Hst.out, hlay]; simp
                  exact ⟨k + 1, A6, c6, by omega, by go_num, by rw [hst], by rw [hst]; exact R6.own, R6.ba, R6.hb⟩
                case measure => first | omega | (simp [intOf]; done) | (simp [intOf]; omega)
              · have hlay := hL
                rw [z1, z2] at hlay
                clear hL z1 z2
                go_wp2_with (first | (at_builtin; refine wp_append_S rfl _ _ rfl w2.heap.size _ (laysTo R L k) rfl (own_keep R2.own ((Below.refl _ _).alloc (Nat.le_refl _) _)) (a, b, 1) v2.heap.size rfl (by simp) (by simp) (by simp) (by simp) (by (try simp); omega) (by have := R2.hb.size; (try simp); omega) ?_; intro A5 c5 w5 o5 g5 h5; have R5 := R2.app o5 g5 h5; clear o5 g5 h5; obtain ⟨T5, hT5⟩ : ∃ T, T = laysTo R L k ++ [(a, b, 1)] := ⟨_, rfl⟩; have hl5 : T5.length ≤ 2 * L.length + 5 := (by rw [hT5]; (try simp); omega); rw [← hT5] at R5 ⊢; have HT5 := Lib.hid hT5; clear hT5; have q05 := R5.p0; have q15 := R5.p1) | (at_builtin; refine wp_append_S rfl _ _ rfl w2.heap.size _ (T5) rfl (own_keep R5.own ((Below.refl _ _).alloc (Nat.le_refl _) _)) (a, b, 2) w5.heap.size rfl (by simp) (by simp) (by simp) (by simp) (by (try simp); omega) (by have := R5.hb.size; (try simp); omega) ?_; intro A6 c6 w6 o6 g6 h6; have R6 := R5.app o6 g6 h6; clear o6 g6 h6; obtain ⟨T6, hT6⟩ : ∃ T, T = T5 ++ [(a, b, 2)] := ⟨_, rfl⟩; have hl6 : T6.length ≤ 2 * L.length + 6 := (by rw [hT6]; (try simp); omega); rw [← hT6] at R6 ⊢; have HT6 := Lib.hid hT6; clear hT6; have q06 := R6.p0; have q16 := R6.p1))
                go_roundw
                case rel =>
                  have hst : laysTo R L (k + 1) = T6 := by rw [HT6.out, HT5.out, Hst.out, hlay]; simp
                  exact ⟨k + 1, A6, c6, by omega, by go_num, by rw [hst], by rw [hst]; exact R6.own, R6.ba, R6.hb⟩
                case measure => first | omega | (simp [intOf]; done) | (simp [intOf]; omega)
              · have hlay := hL
                rw [z1, z2] at hlay
                clear hL z1 z2
                go_wp2_with (first | (at_builtin; refine wp_append_S rfl _ _ rfl w2.heap.size _ (laysTo R L k) rfl (own_keep R2.own ((Below.refl _ _).alloc (Nat.le_refl _) _)) (a, b, 1) v2.heap.size rfl (by simp) (by simp) (by simp) (by simp) (by (try simp); omega) (by have := R2.hb.size; (try simp); omega) ?_; intro A5 c5 w5 o5 g5 h5; have R5 := R2.app o5 g5 h5; clear o5 g5 h5; obtain ⟨T5, hT5⟩ : ∃ T, T = laysTo R L k ++ [(a, b, 1)] := ⟨_, rfl⟩; have hl5 : T5.length ≤ 2 * L.length + 5 := (by rw [hT5]; (try simp); omega); rw [← hT5] at R5 ⊢; have HT5 := Lib.hid hT5; clear hT5; have q05 := R5.p0; have q15 := R5.p1))
                go_roundw
                case rel =>
                  have hst : laysTo R L (k + 1) = T5 := by rw [HT5.out, Hst.out, hlay]; (try simp)
                  exact ⟨k + 1, A5, c5, by omega, by go_num, by rw [hst], by rw [hst]; exact R5.own, R5.ba, R5.hb⟩
                case measure => first | omega | (simp [intOf]; done) | (simp [intOf]; omega)
            · rcases hasB_cases a b q2 with ⟨p3, z2⟩ | ⟨p3, p4, z2⟩ | ⟨p3, p4, z2⟩
              · have hlay := hL
                rw [z1, z2] at hlay
                clear hL z1 z2
                go_wp2_with (first | (at_builtin; refine wp_append_S rfl _ _ rfl w2.heap.size _ (laysTo R L k) rfl (own_keep R2.own ((Below.refl _ _).alloc (Nat.le_refl _) _)) (a, b, 2) v2.heap.size rfl (by simp) (by simp) (by simp) (by simp) (by (try simp); omega) (by have := R2.hb.size; (try simp); omega) ?_; intro A6 c6 w6 o6 g6 h6; have R6 := R2.app o6 g6 h6; clear o6 g6 h6; obtain ⟨T6, hT6⟩ : ∃ T, T = laysTo R L k ++ [(a, b, 2)] := ⟨_, rfl⟩; have hl6 : T6.length ≤ 2 * L.length + 6 := (by rw [hT6]; (try simp); omega); rw [← hT6] at R6 ⊢; have HT6 := Lib.hid hT6; clear hT6; have q06 := R6.p0; have q16 := R6.p1))
                go_roundw
                case rel =>
                  have hst : laysTo R L (k + 1) = T6 := by rw [HT6.out, Hst.out, hlay]; (try simp)
                  exact ⟨k + 1, A6, c6, by omega, by go_num, by rw [hst], by rw [hst]; exact R6.own, R6.ba, R6.hb⟩
                case measure => first | omega | (simp [intOf]; done) | (simp [intOf]; omega)
              · have hlay := hL
                rw [z1, z2] at hlay
                clear hL z1 z2
                go_wp2_with (first | (at_builtin; refine wp_append_S rfl _ _ rfl w2.heap.size _ (laysTo R L k) rfl (own_keep R2.own ((Below.refl _ _).alloc (Nat.le_refl _) _)) (a, b, 2) v2.heap.size rfl (by simp) (by simp) (by simp) (by simp) (by (try simp); omega) (by have := R2.hb.size; (try simp); omega) ?_; intro A6 c6 w6 o6 g6 h6; have R6 := R2.app o6 g6 h6; clear o6 g6 h6; obtain ⟨T6, hT6⟩ : ∃ T, T = laysTo R L k ++ [(a, b, 2)] := ⟨_, rfl⟩; have hl6 : T6.length ≤ 2 * L.length + 6 := (by rw [hT6]; (try simp); omega); rw [← hT6] at R6 ⊢; have HT6 := Lib.hid hT6; clear hT6; have q06 := R6.p0; have q16 := R6.p1))
                go_roundw
                case rel =>
                  have hst : laysTo R L (k + 1) = T6 := by rw [HT6.out, Hst.out, hlay]; (try simp)
                  exact ⟨k + 1, A6, c6, by omega, by go_num, by rw [hst], by rw [hst]; exact R6.own, R6.ba, R6.hb⟩
                case measure => first | omega | (simp [intOf]; done) | (simp [intOf]; omega)
              · have hlay := hL
                rw [z1, z2] at hlay
                clear hL z1 z2
                go_wp2
                go_roundw
                case rel =>
                  have hst : laysTo R L (k + 1) = laysTo R L k := by rw [Hst.out, hlay]; simp
                  exact ⟨k + 1, A', c', by omega, by go_num, by rw [hst], by rw [hst]; exact R2.own, R2.ba, R2.hb⟩
                case measure => first | omega | (simp [intOf]; done) | (simp [intOf]; omega)
        · have : k = L.length := by omega
          subst this
          have glen := laysTo_len R L L.length
          by_cases hz0 : (laysTo R L L.length).length = 0
          · have ez : (((laysTo R L L.length).length : Int) == 0) = true := by rw [hz0]; rfl
            have HM2 := HM.out
            rw [if_pos hz0] at HM2
            clear HM hz0
            subst HM2
            go_wp2
            go_ret
            exact ⟨some ⟨wr.heap.size, 0, none⟩, 1, rfl, World.ownsRow_lit wr #[.int .i64 0, .int .i64 0, .bool false, .bool true] 1 (by omega) (by unfold maxLen; omega) rfl, (bstep hb2 hb).alloc (by omega) _⟩
          · have ez : (((laysTo R L L.length).length : Int) == 0) = false := by rw [beq_eq_false_iff_ne]; omega
            have HM2 := HM.out
            rw [if_neg hz0] at HM2
            clear HM hz0
            rw [← HM2] at hown glen ez ⊢
            clear HM2
            go_wp2
            go_ret
            exact ⟨A', c', rfl, own_base hown (by omega), bstep hb2 hb⟩
    · have eh : handG F S t = F := if_neg ht
      have ConS := Lib.hid (fun W (hb : Below w.heap.size w W) => c_tiSort AF cF F W (hF.below hb) (by have := (handB_good gF).1; omega))
      have et : (t == 1) = false := by simp [ht]
      have hl : laysL R F = laysTo R (sortL F) (sortL F).length := rfl
      have hll := sortL_len F
      rw [eh, hl]
      clear eh hl ht gF gS hF hS
      generalize sortL F = L at *
      obtain ⟨M, hM⟩ : ∃ M, M = (if (laysTo R L L.length).length = 0 then [(0, 0, 0)] else laysTo R L L.length) := ⟨_, rfl⟩
      rw [← hM]
      have HM := Lib.hid hM
      clear hM
      go_enter Tryz.func35, Tryz.ntmps35
      go_wp2_with fail
      obtain ⟨w0, hw0⟩ : ∃ w0, w0 = w.alloc (.cells #[.slice AF F.length cF, .slice AS S.length cS, .slice AR R.length cR, .int .i64 t, .int .i64 u] 32) := ⟨_, rfl⟩
      rw [← hw0]
      have ba0 : BoxAt w0 w.heap.size (.slice AF F.length cF) (.slice AS S.length cS) (.slice AR R.length cR) (.int .i64 t) (.int .i64 u) := by rw [hw0]; exact BoxAt.fresh w _ _ _ _ _ _
      have hb0 : Below w.heap.size w w0 := by rw [hw0]; go_grown
      clear hw0
      refine (ConO.out w0).mono ?_
      rintro e w1 ⟨rfl, h1⟩
      have hb1 := bstep hb0 h1
      have ba1 := ba0.keep h1
      clear ba0
      have x0 := ba1.c0
      have x1 := ba1.c1
      have x2 := ba1.c2
      have x3 := ba1.c3
      have x4 := ba1.c4
      go_wp2_with fail
      refine (ConS.out w1 hb1).mono ?_
      rintro e w2 ⟨A2, c2, rfl, o2, h2⟩
      have hb2 := bstep hb1 h2
      have ba2 := ba1.keep h2
      clear x0 x1 x2 x3 x4 ba1
      have glt := ba2.lt
      have r2 := RdT.of_own o2
      have hrR2 := hR.below hb2
      clear hR o2
      go_wp2
      go_loopw [4, 21] (fun v i wr => ∃ (k : Nat) (A' : Option Addr) (c' : Nat), k ≤ L.length ∧ i = .int .i64 k ∧ v = .slice A' (laysTo R L k).length c' ∧ wr.ownsRow w2.heap.size 70 4 (.slice A' (laysTo R L k).length c') (laysTo R L k).length (cellsE encS (laysTo R L k)) ∧ BoxAt wr w.heap.size (.slice AF F.length cF) (.slice AS S.length cS) (.slice AR R.length cR) (.int .i64 t) (.int .i64 u) ∧ Below w2.heap.size w2 wr) (fun _ i _ => L.length - (intOf i).toNat)
      case atStart => exact ⟨0, none, 0, Nat.zero_le _, rfl, by rw [laysTo_zero]; rfl, by rw [laysTo_zero]; exact World.ownsRow_nil _ _ _ _, ba2, Below.refl _ _⟩
      case round =>
        obtain ⟨k, A', c', hk, rfl, rfl, hown, hba, hb⟩ := hrel
        clear ba2
        have hz := hb.size
        have hms := laysTo_len R L k
        by_cases hlt : k < L.length
        · obtain ⟨bl, ol, rfl, hbl, hcl⟩ := r2.at_ hlt
          have g0 := keepc hb (hcl k hlt).1
          have g1 := keepc hb (hcl k hlt).2
          have Hst := Lib.hid (laysTo_step (R := R) hlt)
          obtain ⟨a, hL0⟩ : ∃ a, L[k].1 = a := ⟨_, rfl⟩
          obtain ⟨b, hL1⟩ : ∃ b, L[k].2 = b := ⟨_, rfl⟩
          rw [hL0] at g0
          rw [hL1] at g1
          have x0 := hba.c0
          have x2 := hba.c2
          clear hcl r2
          go_upto_region 10 with (fail)
          obtain ⟨v1, hv1⟩ : ∃ v1, v1 = wr.alloc (.cells #[.int .i64 a, .int .i64 b] 61) := ⟨_, rfl⟩
          rw [← hv1]
          have b1 : Below wr.heap.size wr v1 := by rw [hv1]; exact (Below.refl _ _).alloc (Nat.le_refl _) _
          have R1 : SMov w.heap.size wr.heap.size (.slice AF F.length cF) (.slice AS S.length cS) (.slice AR R.length cR) (.int .i64 t) (.int .i64 u) a b 70 4 encS w2 A' c' (laysTo R L k) v1 := ⟨hba.keep b1, by rw [hv1]; simp, by rw [hv1]; simp, own_keep hown b1, fun g hg => by have := (hown.lt g hg).2; omega, hb.trans (b1.mono hz), glt⟩
          clear x0 x2 g0 g1
          have x2 := R1.ba.c2
          have q01 := R1.p0
          have q11 := R1.p1
          have hrR := hrR2.below R1.hb
          clear hv1 hown hba
          by_cases hR0 : R.length = 0
          · have e0 : ((R.length : Int) == 0) = true := by simp [hR0]
            have hlay : layOf R L[k] = [(L[k].1, L[k].2, 1)] := by unfold layOf leftB rightB; simp [hR0]
            rw [hL0, hL1] at hlay
            clear hR0 hL0 hL1 hrR
            go_wp2_with (first | (at_builtin; refine wp_append_S rfl _ _ rfl w2.heap.size _ (laysTo R L k) rfl (own_keep R1.own ((Below.refl _ _).alloc (Nat.le_refl _) _)) (a, b, 1) v1.heap.size rfl (by simp) (by simp) (by simp) (by simp) (by (try simp); omega) (by have := R1.hb.size; (try simp); omega) ?_; intro A5 c5 w5 o5 g5 h5; have R5 := R1.app o5 g5 h5; clear o5 g5 h5; obtain ⟨T5, hT5⟩ : ∃ T, T = laysTo R L k ++ [(a, b, 1)] := ⟨_, rfl⟩; have hl5 : T5.length ≤ 2 * L.length + 5 := (by rw [hT5]; (try simp); omega); rw [← hT5] at R5 ⊢; have HT5 := Lib.hid hT5; clear hT5; have q05 := R5.p0; have q15 := R5.p1))
            go_roundw
            case rel =>
              have hst : laysTo R L (k + 1) = T5 := by rw [HT5.out, Hst.out, hlay]; (try simp)
              exact ⟨k + 1, A5, c5, by omega, by go_num, by rw [hst], by rw [hst]; exact R5.own, R5.ba, R5.hb⟩
            case measure => first | omega | (simp [intOf]; done) | (simp [intOf]; omega)
          · have e0 : ((R.length : Int) == 0) = false := by rw [beq_eq_false_iff_ne]; omega
            obtain ⟨br, orr, hAR, hbr, hcR⟩ := hrR.at_ (k := 0) (by omega)
            subst hAR
            have y0 : v1.cell? ⟨br, orr, none⟩ = some (.int .i64 (fstI R)) := by
              have := hcR 0 (by omega)
              rw [Nat.add_zero] at this
              rw [this]; unfold fstI; rw [List.getD_eq_getElem?_getD, List.getElem?_eq_getElem (by omega)]; rfl
            have y1 : v1.cell? ⟨br, orr + (R.length - 1), none⟩ = some (.int .i64 (lstI R)) := by
              rw [hcR (R.length - 1) (by omega)]; unfold lstI; rw [List.getD_eq_getElem?_getD, List.getElem?_eq_getElem (by omega)]; rfl
            obtain ⟨n, hn⟩ : ∃ n, R.length = n + 1 := ⟨R.length - 1, by omega⟩
            have hL : layOf R L[k] = (if hasB a b (fstI R) then [(a, b, 1)] else []) ++ (if hasB a b (lstI R) then [(a, b, 2)] else []) := by
              unfold layOf leftB rightB; rw [decide_eq_false hR0, decide_eq_true (show 0 < R.length by omega), hL0, hL1]; simp
            rw [show R.length - 1 = n from by omega] at y1
            generalize fstI R = q1 at *
            generalize lstI R = q2 at *
            have l1 : (0 : Int) < (R.length : Int) := by omega
            have iw : IntKind.i64.wrap ((R.length : Int) - 1) = (n : Int) := by rw [IntWalk.i64_in _ (by omega)]; omega
            have i0 : (0 : Int) ≤ (n : Int) := by omega
            have i1 : (n : Int) < (R.length : Int) := by omega
            clear hL0 hL1 hR0 hcR hrR
            go_upto_region 12 with (fail)
            go_quiet (fail)
            obtain ⟨v2, hv2⟩ : ∃ v2, v2 = v1.drewN nq := ⟨_, rfl⟩
            rw [← hv2]
            have R2 := R1.drew nq
            rw [← hv2] at R2
            clear hv2 x2 q01 q11 y0 y1 l1 iw i0 i1 hn
            have x2 := R2.ba.c2
            have q01 := R2.p0
            have q11 := R2.p1
            clear R1
            rcases hasB_cases a b q1 with ⟨p1, z1⟩ | ⟨p1, p2, z1⟩ | ⟨p1, p2, z1⟩
            · rcases hasB_cases a b q2 with ⟨p3, z2⟩ | ⟨p3, p4, z2⟩ | ⟨p3, p4, z2⟩
              · have hlay := hL
                rw [z1, z2] at hlay
                clear hL z1 z2
                go_wp2_with (first | (at_builtin; refine wp_append_S rfl _ _ rfl w2.heap.size _ (laysTo R L k) rfl (own_keep R2.own ((Below.refl _ _).alloc (Nat.le_refl _) _)) (a, b, 1) v2.heap.size rfl (by simp) (by simp) (by simp) (by simp) (by (try simp); omega) (by have := R2.hb.size; (try simp); omega) ?_; intro A5 c5 w5 o5 g5 h5; have R5 := R2.app o5 g5 h5; clear o5 g5 h5; obtain ⟨T5, hT5⟩ : ∃ T, T = laysTo R L k ++ [(a, b, 1)] := ⟨_, rfl⟩; have hl5 : T5.length ≤ 2 * L.length + 5 := (by rw [hT5]; (try simp); omega); rw [← hT5] at R5 ⊢; have HT5 := Lib.hid hT5; clear hT5; have q05 := R5.p0; have q15 := R5.p1) | (at_builtin; refine wp_append_S rfl _ _ rfl w2.heap.size _ (T5) rfl (own_keep R5.own ((Below.refl _ _).alloc (Nat.le_refl _) _)) (a, b, 2) w5.heap.size rfl (by simp) (by simp) (by simp) (by simp) (by (try simp); omega) (by have := R5.hb.size; (try simp); omega) ?_; intro A6 c6 w6 o6 g6 h6; have R6 := R5.app o6 g6 h6; clear o6 g6 h6; obtain ⟨T6, hT6⟩ : ∃ T, T = T5 ++ [(a, b, 2)] := ⟨_, rfl⟩; have hl6 : T6.length ≤ 2 * L.length + 6 := (by rw [hT6]; (try simp); omega); rw [← hT6] at R6 ⊢; have HT6 := Lib.hid hT6; clear hT6; have q06 := R6.p0; have q16 := R6.p1))
                go_roundw
                case rel =>
                  have hst : laysTo R L (k + 1) = T6 := by rw [HT6.out, HT5.out, Hst.out, hlay]; simp
                  exact ⟨k + 1, A6, c6, by omega, by go_num, by rw [hst], by rw [hst]; exact R6.own, R6.ba, R6.hb⟩
                case measure => first | omega | (simp [intOf]; done) | (simp [intOf]; omega)
              · have hlay := hL
                rw [z1, z2] at hlay
                clear hL z1 z2
                go_wp2_with (first | (at_builtin; refine wp_append_S rfl _ _ rfl w2.heap.size _ (laysTo R L k) rfl (own_keep R2.own ((Below.refl _ _).alloc (Nat.le_refl _) _)) (a, b, 1) v2.heap.size rfl (by simp) (by simp) (by simp) (by simp) (by (try simp); omega) (by have := R2.hb.size; (try simp); omega) ?_; intro A5 c5 w5 o5 g5 h5; have R5 := R2.app o5 g5 h5; clear o5 g5 h5; obtain ⟨T5, hT5⟩ : ∃ T, T = laysTo R L k ++ [(a, b, 1)] := ⟨_, rfl⟩; have hl5 : T5.length ≤ 2 * L.length + 5 := (by rw [hT5]; (try simp); omega); rw [← hT5] at R5 ⊢; have HT5 := Lib.hid hT5; clear hT5; have q05 := R5.p0; have q15 := R5.p1) | (at_builtin; refine wp_append_S rfl _ _ rfl w2.heap.size _ (T5) rfl (own_keep R5.own ((Below.refl _ _).alloc (Nat.le_refl _) _)) (a, b, 2) w5.heap.size rfl (by simp) (by simp) (by simp) (by simp) (by (try simp); omega) (by have := R5.hb.size; (try simp); omega) ?_; intro A6 c6 w6 o6 g6 h6; have R6 := R5.app o6 g6 h6; clear o6 g6 h6; obtain ⟨T6, hT6⟩ : ∃ T, T = T5 ++ [(a, b, 2)] := ⟨_, rfl⟩; have hl6 : T6.length ≤ 2 * L.length + 6 := (by rw [hT6]; (try simp); omega); rw [← hT6] at R6 ⊢; have HT6 := Lib.hid hT6; clear hT6; have q06 := R6.p0; have q16 := R6.p1))
                go_roundw
                case rel =>
                  have hst : laysTo R L (k + 1) = T6 := by rw [HT6.out, HT5.out, Hst.out, hlay]; simp
                  exact ⟨k + 1, A6, c6, by omega, by go_num, by rw [hst], by rw [hst]; exact R6.own, R6.ba, R6.hb⟩
                case measure => first | omega | (simp [intOf]; done) | (simp [intOf]; omega)
              · have hlay := hL
                rw [z1, z2] at hlay
                clear hL z1 z2
                go_wp2_with (first | (at_builtin; refine wp_append_S rfl _ _ rfl w2.heap.size _ (laysTo R L k) rfl (own_keep R2.own ((Below.refl _ _).alloc (Nat.le_refl _) _)) (a, b, 1) v2.heap.size rfl (by simp) (by simp) (by simp) (by simp) (by (try simp); omega) (by have := R2.hb.size; (try simp); omega) ?_; intro A5 c5 w5 o5 g5 h5; have R5 := R2.app o5 g5 h5; clear o5 g5 h5; obtain ⟨T5, hT5⟩ : ∃ T, T = laysTo R L k ++ [(a, b, 1)] := ⟨_, rfl⟩; have hl5 : T5.length ≤ 2 * L.length + 5 := (by rw [hT5]; (try simp); omega); rw [← hT5] at R5 ⊢; have HT5 := Lib.hid hT5; clear hT5; have q05 := R5.p0; have q15 := R5.p1))
                go_roundw
                case rel =>
                  have hst : laysTo R L (k + 1) = T5 := by rw [HT5.out, Hst.out, hlay]; (try simp)
                  exact ⟨k + 1, A5, c5, by omega, by go_num, by rw [hst], by rw [hst]; exact R5.own, R5.ba, R5.hb⟩
                case measure => first | omega | (simp [intOf]; done) | (simp [intOf]; omega)
            · rcases hasB_cases a b q2 with ⟨p3, z2⟩ | ⟨p3, p4, z2⟩ | ⟨p3, p4, z2⟩
              · have hlay := hL
                rw [z1, z2] at hlay
                clear hL z1 z2
                go_wp2_with (first | (at_builtin; refine wp_append_S rfl _ _ rfl w2.heap.size _ (laysTo R L k) rfl (own_keep R2.own ((Below.refl _ _).alloc (Nat.le_refl _) _)) (a, b, 1) v2.heap.size rfl (by simp) (by simp) (by simp) (by simp) (by (try simp); omega) (by have := R2.hb.size; (try simp); omega) ?_; intro A5 c5 w5 o5 g5 h5; have R5 := R2.app o5 g5 h5; clear o5 g5 h5; obtain ⟨T5, hT5⟩ : ∃ T, T = laysTo R L k ++ [(a, b, 1)] := ⟨_, rfl⟩; have hl5 : T5.length ≤ 2 * L.length + 5 := (by rw [hT5]; (try simp); omega); rw [← hT5] at R5 ⊢; have HT5 := Lib.hid hT5; clear hT5; have q05 := R5.p0; have q15 := R5.p1) | (at_builtin; refine wp_append_S rfl _ _ rfl w2.heap.size _ (T5) rfl (own_keep R5.own ((Below.refl _ _).alloc (Nat.le_refl _) _)) (a, b, 2) w5.heap.size rfl (by simp) (by simp) (by simp) (by simp) (by (try simp); omega) (by have := R5.hb.size; (try simp); omega) ?_; intro A6 c6 w6 o6 g6 h6; have R6 := R5.app o6 g6 h6; clear o6 g6 h6; obtain ⟨T6, hT6⟩ : ∃ T, T = T5 ++ [(a, b, 2)] := ⟨_, rfl⟩; have hl6 : T6.length ≤ 2 * L.length + 6 := (by rw [hT6]; (try simp); omega); rw [← hT6] at R6 ⊢; have HT6 := Lib.hid hT6; clear hT6; have q06 := R6.p0; have q16 := R6.p1))
                go_roundw
                case rel =>
                  have hst : laysTo R L (k + 1) = T6 := by rw [HT6.out, HT5.out, Hst.out, hlay]; simp
                  exact ⟨k + 1, A6, c6, by omega, by go_num, by rw [hst], by rw [hst]; exact R6.own, R6.ba, R6.hb⟩
                case measure => first | omega | (simp [intOf]; done) | (simp [intOf]; omega)
              · have hlay := hL
                rw [z1, z2] at hlay
                clear hL z1 z2
                go_wp2_with (first | (at_builtin; refine wp_append_S rfl _ _ rfl w2.heap.size _ (laysTo R L k) rfl (own_keep R2.own ((Below.refl _ _).alloc (Nat.le_refl _) _)) (a, b, 1) v2.heap.size rfl (by simp) (by simp) (by simp) (by simp) (by (try simp); omega) (by have := R2.hb.size; (try simp); omega) ?_; intro A5 c5 w5 o5 g5 h5; have R5 := R2.app o5 g5 h5; clear o5 g5 h5; obtain ⟨T5, hT5⟩ : ∃ T, T = laysTo R L k ++ [(a, b, 1)] := ⟨_, rfl⟩; have hl5 : T5.length ≤ 2 * L.length + 5 := (by rw [hT5]; (try simp); omega); rw [← hT5] at R5 ⊢; have HT5 := Lib.hid hT5; clear hT5; have q05 := R5.p0; have q15 := R5.p1) | (at_builtin; refine wp_append_S rfl _ _ rfl w2.heap.size _ (T5) rfl (own_keep R5.own ((Below.refl _ _).alloc (Nat.le_refl _) _)) (a, b, 2) w5.heap.size rfl (by simp) (by simp) (by simp) (by simp) (by (try simp); omega) (by have := R5.hb.size; (try simp); omega) ?_; intro A6 c6 w6 o6 g6 h6; have R6 := R5.app o6 g6 h6; clear o6 g6 h6; obtain ⟨T6, hT6⟩ : ∃ T, T = T5 ++ [(a, b, 2)] := ⟨_, rfl⟩; have hl6 : T6.length ≤ 2 * L.length + 6 := (by rw [hT6]; (try simp); omega); rw [← hT6] at R6 ⊢; have HT6 := Lib.hid hT6; clear hT6; have q06 := R6.p0; have q16 := R6.p1))
                go_roundw
                case rel =>
                  have hst : laysTo R L (k + 1) = T6 := by rw [HT6.out, HT5.out, Hst.out, hlay]; simp
                  exact ⟨k + 1, A6, c6, by omega, by go_num, by rw [hst], by rw [hst]; exact R6.own, R6.ba, R6.hb⟩
                case measure => first | omega | (simp [intOf]; done) | (simp [intOf]; omega)
              · have hlay := hL
                rw [z1, z2] at hlay
                clear hL z1 z2
                go_wp2_with (first | (at_builtin; refine wp_append_S rfl _ _ rfl w2.heap.size _ (laysTo R L k) rfl (own_keep R2.own ((Below.refl _ _).alloc (Nat.le_refl _) _)) (a, b, 1) v2.heap.size rfl (by simp) (by simp) (by simp) (by simp) (by (try simp); omega) (by have := R2.hb.size; (try simp); omega) ?_; intro A5 c5 w5 o5 g5 h5; have R5 := R2.app o5 g5 h5; clear o5 g5 h5; obtain ⟨T5, hT5⟩ : ∃ T, T = laysTo R L k ++ [(a, b, 1)] := ⟨_, rfl⟩; have hl5 : T5.length ≤ 2 * L.length + 5 := (by rw [hT5]; (try simp); omega); rw [← hT5] at R5 ⊢; have HT5 := Lib.hid hT5; clear hT5; have q05 := R5.p0; have q15 := R5.p1))
                go_roundw
                case rel =>
                  have hst : laysTo R L (k + 1) = T5 := by rw [HT5.out, Hst.out, hlay]; (try simp)
                  exact ⟨k + 1, A5, c5, by omega, by go_num, by rw [hst], by rw [hst]; exact R5.own, R5.ba, R5.hb⟩
                case measure => first | omega | (simp [intOf]; done) | (simp [intOf]; omega)
            · rcases hasB_cases a b q2 with ⟨p3, z2⟩ | ⟨p3, p4, z2⟩ | ⟨p3, p4, z2⟩
              · have hlay := hL
                rw [z1, z2] at hlay
                clear hL z1 z2
                go_wp2_with (first | (at_builtin; refine wp_append_S rfl _ _ rfl w2.heap.size _ (laysTo R L k) rfl (own_keep R2.own ((Below.refl _ _).alloc (Nat.le_refl _) _)) (a, b, 2) v2.heap.size rfl (by simp) (by simp) (by simp) (by simp) (by (try simp); omega) (by have := R2.hb.size; (try simp); omega) ?_; intro A6 c6 w6 o6 g6 h6; have R6 := R2.app o6 g6 h6; clear o6 g6 h6; obtain ⟨T6, hT6⟩ : ∃ T, T = laysTo R L k ++ [(a, b, 2)] := ⟨_, rfl⟩; have hl6 : T6.length ≤ 2 * L.length + 6 := (by rw [hT6]; (try simp); omega); rw [← hT6] at R6 ⊢; have HT6 := Lib.hid hT6; clear hT6; have q06 := R6.p0; have q16 := R6.p1))
                go_roundw
                case rel =>
                  have hst : laysTo R L (k + 1) = T6 := by rw [HT6.out, Hst.out, hlay]; (try simp)
                  exact ⟨k + 1, A6, c6, by omega, by go_num, by rw [hst], by rw [hst]; exact R6.own, R6.ba, R6.hb⟩
                case measure => first | omega | (simp [intOf]; done) | (simp [intOf]; omega)
              · have hlay := hL
                rw [z1, z2] at hlay
                clear hL z1 z2
                go_wp2_with (first | (at_builtin; refine wp_append_S rfl _ _ rfl w2.heap.size _ (laysTo R L k) rfl (own_keep R2.own ((Below.refl _ _).alloc (Nat.le_refl _) _)) (a, b, 2) v2.heap.size rfl (by simp) (by simp) (by simp) (by simp) (by (try simp); omega) (by have := R2.hb.size; (try simp); omega) ?_; intro A6 c6 w6 o6 g6 h6; have R6 := R2.app o6 g6 h6; clear o6 g6 h6; obtain ⟨T6, hT6⟩ : ∃ T, T = laysTo R L k ++ [(a, b, 2)] := ⟨_, rfl⟩; have hl6 : T6.length ≤ 2 * L.length + 6 := (by rw [hT6]; (try simp); omega); rw [← hT6] at R6 ⊢; have HT6 := Lib.hid hT6; clear hT6; have q06 := R6.p0; have q16 := R6.p1))
                go_roundw
                case rel =>
                  have hst : laysTo R L (k + 1) = T6 := by rw [HT6.out, Hst.out, hlay]; (try simp)
                  exact ⟨k + 1, A6, c6, by omega, by go_num, by rw [hst], by rw [hst]; exact R6.own, R6.ba, R6.hb⟩
                case measure => first | omega | (simp [intOf]; done) | (simp [intOf]; omega)
              · have hlay := hL
                rw [z1, z2] at hlay
                clear hL z1 z2
                go_wp2
                go_roundw
                case rel =>
                  have hst : laysTo R L (k + 1) = laysTo R L k := by rw [Hst.out, hlay]; simp
                  exact ⟨k + 1, A', c', by omega, by go_num, by rw [hst], by rw [hst]; exact R2.own, R2.ba, R2.hb⟩
                case measure => first | omega | (simp [intOf]; done) | (simp [intOf]; omega)
        · have : k = L.length := by omega
          subst this
          have glen := laysTo_len R L L.length
          by_cases hz0 : (laysTo R L L.length).length = 0
          · have ez : (((laysTo R L L.length).length : Int) == 0) = true := by rw [hz0]; rfl
            have HM2 := HM.out
            rw [if_pos hz0] at HM2
            clear HM hz0
            subst HM2
            go_wp2
            go_ret
            exact ⟨some ⟨wr.heap.size, 0, none⟩, 1, rfl, World.ownsRow_lit wr #[.int .i64 0, .int .i64 0, .bool false, .bool true] 1 (by omega) (by unfold maxLen; omega) rfl, (bstep hb2 hb).alloc (by omega) _⟩
          · have ez : (((laysTo R L L.length).length : Int) == 0) = false := by rw [beq_eq_false_iff_ne]; omega
            have HM2 := HM.out
            rw [if_neg hz0] at HM2
            clear HM hz0
            rw [← HM2] at hown glen ez ⊢
            clear HM2
            go_wp2
            go_ret
            exact ⟨A', c', rfl, own_base hown (by omega), bstep hb2 hb⟩
  · simp only [ho] at conO
    have em : movesL F S R t u = [] := by unfold movesL; rw [ho]; rfl
    rw [em]
    clear em ho hF hS hR gF gS
    go_enter Tryz.func35, Tryz.ntmps35
    go_wp2_with fail
    obtain ⟨w0, hw0⟩ : ∃ w0, w0 = w.alloc (.cells #[.slice AF F.length cF, .slice AS S.length cS, .slice AR R.length cR, .int .i64 t, .int .i64 u] 32) := ⟨_, rfl⟩
    rw [← hw0]
    have ba0 : BoxAt w0 w.heap.size (.slice AF F.length cF) (.slice AS S.length cS) (.slice AR R.length cR) (.int .i64 t) (.int .i64 u) := by rw [hw0]; exact BoxAt.fresh w _ _ _ _ _ _
    have hb0 : Below w.heap.size w w0 := by rw [hw0]; go_grown
    clear hw0
    refine (conO w0).mono ?_
    rintro e w1 ⟨rfl, h1⟩
    have hb1 := bstep hb0 h1
    have ba1 := ba0.keep h1
    clear ba0
    have x0 := ba1.c0
    have x1 := ba1.c1
    have x2 := ba1.c2
    have x3 := ba1.c3
    have x4 := ba1.c4
    go_wp2
    go_ret
    exact ⟨none, 0, rfl, World.ownsRow_nil _ _ _ _, hb1⟩

end Go.Proofs.YtgjdpiooocpmhabGreatDoor

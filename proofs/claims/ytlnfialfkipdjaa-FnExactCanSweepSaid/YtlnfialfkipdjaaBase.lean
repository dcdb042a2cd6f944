/- Small facts on worlds that only grow, and on slices that read as lists. No function of the program is named here. Tiles by value: what the small functions on one tile and on two numbers answer. Where a tile stands in a hand. The laws' own small functions over slices: copies, sizes, marks. -/
import Derived.Test.YtlnfialfkipdjaaRows
import Derived.WalkKit
import Derived.Handy
import Derived.ProofKit
import Derived.OpenShut
import Derived.BigQuiet
import Derived.Deep.QuietTactic
import Derived.Deep.RegionHeld3
import Derived.Deep.Slices
import Derived.Lib.Hide
namespace Go.Proofs.Ytlnfialfkipdjaa
open Go.RowKit

theorem ret_b {a b : Bool} (h : a = b) : Ending.returned (.bool a) = .returned (.bool b) := by rw [h]
theorem ret_i {a b : Int} (h : a = b) : Ending.returned (.int .i64 a) = .returned (.int .i64 b) := by rw [h]

/-- One more call behind what has grown. -/
theorem bstep {a W w' : World} (h1 : Below a.heap.size a W) (h2 : Below W.heap.size W w') : Below a.heap.size a w' := h1.trans (h2.mono h1.size)

/-- Old cells and old marks behind a call. -/
theorem bold {W w1 : World} (hb : Below W.heap.size W w1) :
    (∀ b o, b < W.heap.size → w1.cell? ⟨b, o, none⟩ = W.cell? ⟨b, o, none⟩) ∧ (∀ b o, b < W.heap.size → w1.frozen? ⟨b, o, none⟩ = W.frozen? ⟨b, o, none⟩) :=
  ⟨fun b o h => hb.cell (p := ⟨b, o, none⟩) h, fun b o h => hb.frozen (p := ⟨b, o, none⟩) h⟩

/-- A cell that was there is there behind a call. -/
theorem keepc {W w1 : World} {a : Addr} {v : Value} (hb : Below W.heap.size W w1) (h : W.cell? a = some v) : w1.cell? a = some v := (hb.cell (World.block_lt_of_cell? _ _ h)).trans h

/-- A slice value at A reads as a list of tiles. -/
def RdT (w : World) (A : Option Addr) (ts : List (Int × Int)) : Prop :=
  ∃ b off, (ts ≠ [] → A = some ⟨b, off, none⟩) ∧ ∀ k (h : k < ts.length), w.cell? ⟨b, off + k * 2, none⟩ = some (.int .i64 ts[k].1) ∧ w.cell? ⟨b, off + k * 2 + 1, none⟩ = some (.int .i64 ts[k].2)

/-- A slice value at A reads as a list of numbers. -/
def RdI (w : World) (A : Option Addr) (xs : List Int) : Prop :=
  ∃ b off, (xs ≠ [] → A = some ⟨b, off, none⟩) ∧ ∀ k (h : k < xs.length), w.cell? ⟨b, off + k, none⟩ = some (.int .i64 xs[k])

theorem block_lt {w : World} {a : Addr} {v : Value} (h : w.cell? a = some v) : a.block < w.heap.size := World.block_lt_of_cell? _ _ h

section
variable {w w' : World} {A : Option Addr} {ts : List (Int × Int)} {xs : List Int}

theorem RdT.at_ (h : RdT w A ts) {k : Nat} (hk : k < ts.length) : ∃ b off, A = some ⟨b, off, none⟩ ∧ b < w.heap.size ∧
    ∀ k (h : k < ts.length), w.cell? ⟨b, off + k * 2, none⟩ = some (.int .i64 ts[k].1) ∧ w.cell? ⟨b, off + k * 2 + 1, none⟩ = some (.int .i64 ts[k].2) := by
  obtain ⟨b, off, h1, h2⟩ := h
  exact ⟨b, off, h1 (by rintro rfl; simp at hk), block_lt (h2 k hk).1, h2⟩
theorem RdI.at_ (h : RdI w A xs) {k : Nat} (hk : k < xs.length) : ∃ b off, A = some ⟨b, off, none⟩ ∧ b < w.heap.size ∧ ∀ k (h : k < xs.length), w.cell? ⟨b, off + k, none⟩ = some (.int .i64 xs[k]) := by
  obtain ⟨b, off, h1, h2⟩ := h
  exact ⟨b, off, h1 (by rintro rfl; simp at hk), block_lt (h2 k hk), h2⟩
theorem RdT.nil_ : RdT w A [] := ⟨0, 0, fun h => absurd rfl h, fun k h => by simp at h⟩
theorem RdI.nil_ : RdI w A [] := ⟨0, 0, fun h => absurd rfl h, fun k h => by simp at h⟩
theorem RdT.keep {B : Nat} (h : RdT w A ts) (hb : Below B w w') (hB : ∀ a, A = some a → a.block < B) : RdT w' A ts := by
  obtain ⟨b, off, h1, h2⟩ := h
  refine ⟨b, off, h1, fun k hk => ?_⟩
  have hlt : b < B := hB _ (h1 (by rintro rfl; simp at hk))
  exact ⟨(hb.cell (p := ⟨b, _, none⟩) hlt).trans (h2 k hk).1, (hb.cell (p := ⟨b, _, none⟩) hlt).trans (h2 k hk).2⟩
theorem RdI.keep {B : Nat} (h : RdI w A xs) (hb : Below B w w') (hB : ∀ a, A = some a → a.block < B) : RdI w' A xs := by
  obtain ⟨b, off, h1, h2⟩ := h
  refine ⟨b, off, h1, fun k hk => ?_⟩
  have hlt : b < B := hB _ (h1 (by rintro rfl; simp at hk))
  exact (hb.cell (p := ⟨b, _, none⟩) hlt).trans (h2 k hk)
theorem RdT.below (h : RdT w A ts) (hb : Below w.heap.size w w') : RdT w' A ts := by
  obtain ⟨b, off, h1, h2⟩ := h
  exact ⟨b, off, h1, fun k hk => ⟨(hb.cell (block_lt (h2 k hk).1)).trans (h2 k hk).1, (hb.cell (block_lt (h2 k hk).2)).trans (h2 k hk).2⟩⟩
theorem RdI.below (h : RdI w A xs) (hb : Below w.heap.size w w') : RdI w' A xs := by
  obtain ⟨b, off, h1, h2⟩ := h
  exact ⟨b, off, h1, fun k hk => (hb.cell (block_lt (h2 k hk))).trans (h2 k hk)⟩
end

/-- The cells of a list of tiles. -/
def cellsT (ts : List (Int × Int)) : List Value := ts.flatMap fun t => [.int .i64 t.1, .int .i64 t.2]
def cellsI (xs : List Int) : List Value := xs.map (Value.int .i64)

theorem cellsT_nil : cellsT [] = [] := rfl
theorem cellsT_cons (t : Int × Int) (ts : List (Int × Int)) : cellsT (t :: ts) = .int .i64 t.1 :: .int .i64 t.2 :: cellsT ts := rfl
theorem cellsT_append (xs ys : List (Int × Int)) : cellsT (xs ++ ys) = cellsT xs ++ cellsT ys := by simp [cellsT]
theorem cellsT_length (ts : List (Int × Int)) : (cellsT ts).length = ts.length * 2 := by
  induction ts with
  | nil => rfl
  | cons t ts ih => simp [cellsT_cons, ih]; omega
theorem cellsT_get (ts : List (Int × Int)) : ∀ (k : Nat) (h : k < ts.length), (cellsT ts)[k * 2]? = some (.int .i64 ts[k].1) ∧ (cellsT ts)[k * 2 + 1]? = some (.int .i64 ts[k].2) := by
  induction ts with
  | nil => intro k h; simp at h
  | cons t ts ih =>
    intro k h
    cases k with
    | zero => simp [cellsT_cons]
    | succ k =>
      have := ih k (by simpa using h)
      rw [cellsT_cons, show (k + 1) * 2 = k * 2 + 1 + 1 from by omega, show k * 2 + 1 + 1 + 1 = (k * 2 + 1) + 1 + 1 from rfl]
      simpa using this
theorem cellsT_one (ts : List (Int × Int)) : ∀ u ∈ cellsT ts, u.oneCell' = true := by
  induction ts with
  | nil => intro u h; simp [cellsT_nil] at h
  | cons t ts ih =>
    intro u h
    rw [cellsT_cons, List.mem_cons, List.mem_cons] at h
    rcases h with rfl | rfl | h
    · rfl
    · rfl
    · exact ih u h
theorem cellsT_set (xs ys : List (Int × Int)) (t : Int × Int) (a b : Int) : ((cellsT (xs ++ t :: ys)).set (xs.length * 2) (.int .i64 a)).set (xs.length * 2 + 1) (.int .i64 b) = cellsT (xs ++ (a, b) :: ys) := by
  simp only [cellsT_append, cellsT_cons]
  have h1 : xs.length * 2 = (cellsT xs).length := (cellsT_length xs).symm
  rw [h1, List.set_append_right _ _ (Nat.le_refl _), Nat.sub_self, List.set_append_right _ _ (by omega), show (cellsT xs).length + 1 - (cellsT xs).length = 1 from by omega]
  rfl
theorem cellsI_length (xs : List Int) : (cellsI xs).length = xs.length := by simp [cellsI]
theorem cellsI_one (xs : List Int) : ∀ u ∈ cellsI xs, u.oneCell' = true := ints_oneCell .i64 xs
theorem cellsI_append (xs ys : List Int) : cellsI (xs ++ ys) = cellsI xs ++ cellsI ys := by simp [cellsI]

section
variable {w w' : World} {base n c : Nat} {A : Option Addr} {ts : List (Int × Int)} {xs : List Int}
theorem RdT.of_own {e : Nat} (h : w.ownsRow base e 2 (.slice A ts.length c) n (cellsT ts)) : RdT w A ts := by
  have h0 := h
  obtain ⟨_, ⟨hv, hn⟩ | ⟨g, cap, cur, hv, _⟩⟩ := h0
  · injection hv with h1 h2 h3
    have : ts = [] := List.eq_nil_of_length_eq_zero h2
    subst this
    exact RdT.nil_
  · injection hv with h1 h2 h3
    subst h1
    refine ⟨g, 0, fun _ => rfl, fun k hk => ?_⟩
    have h := World.ownsRow.cells h (g := g) rfl
    have hg := cellsT_get ts k hk
    have e1 := h _ _ hg.1
    have e2 := h _ _ hg.2
    simp only [Addr.add] at e1 e2
    refine ⟨?_, ?_⟩
    · rw [← e1]
      by_cases hz : k * 2 = 0 <;> simp [hz]
    · rw [← e2]
      simp
theorem RdI.of_own {e : Nat} (h : w.ownsRow base e 1 (.slice A xs.length c) n (cellsI xs)) : RdI w A xs := by
  have h0 := h
  obtain ⟨_, ⟨hv, hn⟩ | ⟨g, cap, cur, hv, _⟩⟩ := h0
  · injection hv with h1 h2 h3
    have : xs = [] := List.eq_nil_of_length_eq_zero h2
    subst this
    exact RdI.nil_
  · injection hv with h1 h2 h3
    subst h1
    refine ⟨g, 0, fun _ => rfl, fun k hk => ?_⟩
    have h := World.ownsRow.cells h (g := g) rfl
    have e1 := h k (.int .i64 xs[k]) (by simp [cellsI, hk])
    simp only [Addr.add] at e1
    rw [← e1]
    by_cases hz : k = 0 <;> simp [hz]
/-- An owned row stays while only other blocks change. -/
theorem own_below {e B size : Nat} {v : Value} {cs : List Value} (h : w.ownsRow base e size v n cs) (hb : Below B w w') (hB : ∀ g, v.ownBlock = some g → g < B) : w'.ownsRow base e size v n cs := by
  obtain ⟨h1, h2⟩ := h
  refine ⟨h1, ?_⟩
  rcases h2 with h2 | ⟨g, cap, cur, hv, hg, hh, r⟩
  · exact .inl h2
  · exact .inr ⟨g, cap, cur, hv, hg, (hb.block g (hB g (by subst hv; rfl))).trans hh, r⟩
theorem own_keep {e size : Nat} {v : Value} {cs : List Value} (h : w.ownsRow base e size v n cs) (hb : Below w.heap.size w w') : w'.ownsRow base e size v n cs :=
  own_below h hb (fun g hg => (h.lt g hg).2)
theorem own_base {e b' size : Nat} {v : Value} {cs : List Value} (h : w.ownsRow base e size v n cs) (hb : b' ≤ base) : w.ownsRow b' e size v n cs := by
  obtain ⟨h1, h2⟩ := h
  refine ⟨h1, ?_⟩
  rcases h2 with h2 | ⟨g, cap, cur, hv, hg, r⟩
  · exact .inl h2
  · exact .inr ⟨g, cap, cur, hv, by omega, r⟩
end

/-- Two rows of which one was made behind the other lie apart. -/
theorem own_apart1 {w : World} {B e size n : Nat} {X Y : Value} {ys : List Value} (hx : ∀ g, X.ownBlock = some g → g < B) (hy : w.ownsRow B e size Y n ys) : Y.ownBlock = none ∨ Y.ownBlock ≠ X.ownBlock := by
  cases hX : Y.ownBlock with
  | none => exact .inl rfl
  | some g => exact .inr fun h => by have h1 := (hy.lt g hX).1; have h2 := hx g h.symm; omega
theorem own_apart2 {w : World} {B e size n : Nat} {X Y : Value} {ys : List Value} (hx : ∀ g, X.ownBlock = some g → g < B) (hy : w.ownsRow B e size Y n ys) : X.ownBlock = none ∨ X.ownBlock ≠ Y.ownBlock := by
  cases hX : X.ownBlock with
  | none => exact .inl rfl
  | some g => exact .inr fun h => by have h1 := (hy.lt g h.symm).1; have h2 := hx g hX; omega

theorem grown_set {a w : World} {g : Nat} (h : a.grownBy w (some g)) (j : Nat) (u : Value) : a.grownBy (w.setCell ⟨g, j, none⟩ u) (some g) :=
  ⟨h.os, h.tape, h.output, by simpa [World.setCell] using h.size, fun k hk hne => (Below.heap_setCell w ⟨g, j, none⟩ u k (fun e => hne (by rw [e]))).trans (h.block k hk hne)⟩
theorem grown_drew {a w : World} {r : Option Nat} (h : a.grownBy w r) : a.grownBy w.drew r := ⟨h.os, h.tape, h.output, h.size, h.block⟩
/-- What one block's turning leaves below it. -/
theorem below_of_grown {w w' : World} {r : Option Nat} {B : Nat} (h : w.grownBy w' r) (hB : B ≤ w.heap.size) (hr : ∀ g, r = some g → B ≤ g) : Below B w w' :=
  (Below.refl B w).grown h hB hr

/-- The first k of n tiles marked from q on. -/
def markL (q : Int) (k : Nat) (ts : List (Int × Int)) : List (Int × Int) := (List.range k).map (fun i : Nat => (q + 2 * (i : Int), q + 2 * (i : Int) + 1)) ++ ts.drop k
theorem markL_zero (q : Int) (ts : List (Int × Int)) : markL q 0 ts = ts := by simp [markL]
theorem markL_length (q : Int) {k : Nat} {ts : List (Int × Int)} (h : k ≤ ts.length) : (markL q k ts).length = ts.length := by simp [markL]; omega
theorem markL_step (q : Int) {k : Nat} {ts : List (Int × Int)} (h : k < ts.length) :
    ((cellsT (markL q k ts)).set (k * 2) (.int .i64 (q + 2 * (k : Int)))).set (k * 2 + 1) (.int .i64 (q + 2 * (k : Int) + 1)) = cellsT (markL q (k + 1) ts) := by
  have h1 := cellsT_set ((List.range k).map (fun i : Nat => (q + 2 * (i : Int), q + 2 * (i : Int) + 1))) (ts.drop (k + 1)) ts[k] (q + 2 * (k : Int)) (q + 2 * (k : Int) + 1)
  simp only [List.length_map, List.length_range] at h1
  unfold markL
  rw [List.drop_eq_getElem_cons h, h1, List.range_succ, List.map_append]
  simp
/-- All n tiles marked: what 'held' looks for. -/
def marks (q : Int) (n : Nat) : List (Int × Int) := (List.range n).map fun i : Nat => (q + 2 * (i : Int), q + 2 * (i : Int) + 1)
theorem markL_all (q : Int) (ts : List (Int × Int)) : markL q ts.length ts = marks q ts.length := by simp [markL, marks]
theorem marks_length (q : Int) (n : Nat) : (marks q n).length = n := by simp [marks]
theorem marks_get (q : Int) (n k : Nat) (h : k < (marks q n).length) : (marks q n)[k] = (q + 2 * (k : Int), q + 2 * (k : Int) + 1) := by simp [marks]

def markI (q : Int) (k : Nat) (xs : List Int) : List Int := (List.range k).map (fun i : Nat => q + (i : Int)) ++ xs.drop k
theorem markI_zero (q : Int) (xs : List Int) : markI q 0 xs = xs := by simp [markI]
theorem markI_length (q : Int) {k : Nat} {xs : List Int} (h : k ≤ xs.length) : (markI q k xs).length = xs.length := by simp [markI]; omega
theorem markI_step (q : Int) {k : Nat} {xs : List Int} (h : k < xs.length) : (cellsI (markI q k xs)).set k (.int .i64 (q + (k : Int))) = cellsI (markI q (k + 1) xs) := by
  unfold markI cellsI
  rw [List.drop_eq_getElem_cons h, List.range_succ, List.map_append, List.map_append, List.map_cons, List.set_append_right _ _ (by simp)]
  simp
def marksI (q : Int) (n : Nat) : List Int := (List.range n).map fun i : Nat => q + (i : Int)
theorem markI_all (q : Int) (xs : List Int) : markI q xs.length xs = marksI q xs.length := by simp [markI, marksI]
theorem marksI_length (q : Int) (n : Nat) : (marksI q n).length = n := by simp [marksI]
theorem marksI_get (q : Int) (n k : Nat) (h : k < (marksI q n).length) : (marksI q n)[k] = q + (k : Int) := by simp [marksI]

/-- The first k of a list copied, behind them nothing but zeros. -/
def copyL (k : Nat) (ts : List (Int × Int)) : List (Int × Int) := ts.take k ++ List.replicate (ts.length - k) (0, 0)
theorem copyL_all (ts : List (Int × Int)) : copyL ts.length ts = ts := by simp [copyL]
theorem copyL_length {k : Nat} {ts : List (Int × Int)} (h : k ≤ ts.length) : (copyL k ts).length = ts.length := by simp [copyL]; omega
theorem copyL_zero (ts : List (Int × Int)) : cellsT (copyL 0 ts) = (madeCells (Value.agg #[.int .i64 0, .int .i64 0]).cells (ts.length * 2)).toList := by
  simp only [copyL, List.take_zero, List.nil_append, Nat.sub_zero]
  apply List.ext_getElem?
  intro j
  rcases Nat.lt_or_ge j (ts.length * 2) with hj | hj
  · have h1 : j / 2 < (List.replicate ts.length ((0 : Int), (0 : Int))).length := by simp; omega
    have h2 := cellsT_get (List.replicate ts.length ((0 : Int), (0 : Int))) (j / 2) h1
    have h3 : j % 2 = 0 ∨ j % 2 = 1 := by omega
    have hr : (madeCells (Value.agg #[.int .i64 0, .int .i64 0]).cells (ts.length * 2)).toList[j]? = some (.int .i64 0) := by
      rcases h3 with h3 | h3 <;> simp [madeCells, hj, Value.cells, h3]
    rw [hr]
    rcases h3 with h3 | h3
    · rw [show j = j / 2 * 2 from by omega, h2.1]; simp
    · rw [show j = j / 2 * 2 + 1 from by omega, h2.2]; simp
  · rw [List.getElem?_eq_none (by rw [cellsT_length]; simp; omega), List.getElem?_eq_none (by simp [madeCells]; omega)]
theorem copyL_step {k : Nat} {ts : List (Int × Int)} (h : k < ts.length) :
    ((cellsT (copyL k ts)).set (k * 2) (.int .i64 ts[k].1)).set (k * 2 + 1) (.int .i64 ts[k].2) = cellsT (copyL (k + 1) ts) := by
  have h1 := cellsT_set (ts.take k) (List.replicate (ts.length - (k + 1)) (0, 0)) (0, 0) ts[k].1 ts[k].2
  rw [List.length_take, Nat.min_eq_left (by omega)] at h1
  unfold copyL
  rw [show ts.length - k = (ts.length - (k + 1)) + 1 from by omega, List.replicate_succ, h1, List.take_succ_eq_append_getElem h]
  simp only [List.append_assoc, List.cons_append, List.nil_append]
def copyI (k : Nat) (xs : List Int) : List Int := xs.take k ++ List.replicate (xs.length - k) 0
theorem copyI_all (xs : List Int) : copyI xs.length xs = xs := by simp [copyI]
theorem copyI_length {k : Nat} {xs : List Int} (h : k ≤ xs.length) : (copyI k xs).length = xs.length := by simp [copyI]; omega
theorem copyI_zero (xs : List Int) : cellsI (copyI 0 xs) = (madeCells (Value.int .i64 0).cells (xs.length * 1)).toList := by
  rw [Nat.mul_one]
  exact (by simp [copyI, cellsI] : cellsI (copyI 0 xs) = List.replicate xs.length (Value.int .i64 0)).trans (toList_madeCells_one (.int .i64 0) xs.length).symm
theorem copyI_step {k : Nat} {xs : List Int} (h : k < xs.length) : (cellsI (copyI k xs)).set k (.int .i64 xs[k]) = cellsI (copyI (k + 1) xs) := by
  unfold copyI cellsI
  rw [show xs.length - k = (xs.length - (k + 1)) + 1 from by omega, List.replicate_succ, List.map_append, List.map_cons, List.take_succ_eq_append_getElem h, List.map_append, List.map_append]
  rw [List.set_append_right _ _ (by simp; omega)]
  simp [Nat.min_eq_left (Nat.le_of_lt h)]

theorem rdmarksT {w : World} {base n c : Nat} {A : Option Addr} {q : Int} (h : w.ownsRow base 95 2 (.slice A n c) n (cellsT (marks q n))) : RdT w A (marks q n) :=
  RdT.of_own (base := base) (c := c) (n := n) (e := 95) (by rw [marks_length]; exact h)
theorem rdmarksI {w : World} {base n c : Nat} {A : Option Addr} {q : Int} (h : w.ownsRow base 3 1 (.slice A n c) n (cellsI (marksI q n))) : RdI w A (marksI q n) :=
  RdI.of_own (base := base) (c := c) (n := n) (e := 3) (by rw [marksI_length]; exact h)

/-- A new slice of tiles comes back. -/
def RetL (w : World) (ts : List (Int × Int)) (e : Ending) (w' : World) : Prop :=
  ∃ A c, e = .returned (.slice A ts.length c) ∧ w'.ownsRow w.heap.size 95 2 (.slice A ts.length c) ts.length (cellsT ts) ∧ Below w.heap.size w w'
/-- .. and a bool. -/
def RetT (w : World) (ts : List (Int × Int)) (ok : Bool) (e : Ending) (w' : World) : Prop :=
  ∃ A c, e = .returned (.tuple #[.slice A ts.length c, .bool ok]) ∧ w'.ownsRow w.heap.size 95 2 (.slice A ts.length c) ts.length (cellsT ts) ∧ Below w.heap.size w w'
/-- A new slice of numbers comes back. -/
def RetN (w : World) (xs : List Int) (e : Ending) (w' : World) : Prop :=
  ∃ A c, e = .returned (.slice A xs.length c) ∧ w'.ownsRow w.heap.size 3 1 (.slice A xs.length c) xs.length (cellsI xs) ∧ Below w.heap.size w w'
def RetI (w : World) (xs : List Int) (ok : Bool) (e : Ending) (w' : World) : Prop :=
  ∃ A c, e = .returned (.tuple #[.slice A xs.length c, .bool ok]) ∧ w'.ownsRow w.heap.size 3 1 (.slice A xs.length c) xs.length (cellsI xs) ∧ Below w.heap.size w w'

/-- The place of a tile in a list, or -1. -/
def placeI (ts : List (Int × Int)) (t : Int × Int) : Int := if t ∈ ts then (ts.idxOf t : Int) else -1
theorem placeI_found {ts : List (Int × Int)} {t : Int × Int} {k : Nat} (hk : k < ts.length) (h : ts[k] = t) (hn : ∀ j (hj : j < ts.length), j < k → ts[j] ≠ t) : placeI ts t = k := by
  have hm : t ∈ ts := h ▸ List.getElem_mem hk
  unfold placeI
  rw [if_pos hm]
  have h1 : ts.idxOf t < ts.length := List.idxOf_lt_length_iff.2 hm
  have h2 : ts[ts.idxOf t] = t := List.getElem_idxOf h1
  have h3 : ts.idxOf t ≤ k := by
    rcases Nat.lt_or_ge k (ts.idxOf t) with hlt | hge
    · have := List.not_of_lt_findIdx (xs := ts) (p := fun x => x == t) (i := k) (by simpa [List.idxOf] using hlt)
      simp [h] at this
    · exact hge
  rcases Nat.lt_or_ge (ts.idxOf t) k with hlt | hge
  · exact absurd h2 (hn _ h1 hlt)
  · omega
theorem placeI_none {ts : List (Int × Int)} {t : Int × Int} (hn : ∀ j (hj : j < ts.length), ts[j] ≠ t) : placeI ts t = -1 := by
  unfold placeI
  rw [if_neg]
  intro hm
  obtain ⟨j, hj, h⟩ := List.getElem_of_mem hm
  exact hn j hj h
theorem placeI_nonneg {ts : List (Int × Int)} {t : Int × Int} : (0 ≤ placeI ts t) ↔ t ∈ ts := by
  unfold placeI
  split <;> simp_all
end Go.Proofs.Ytlnfialfkipdjaa

namespace Go.Proofs.Ytlnfialfkipdjaa
open Go.RowKit
set_option linter.unusedVariables false

def numB (n : Int) : Bool := decide (0 ≤ n) && decide (n ≤ 9)
def sameB (a b c d : Int) : Bool := decide (a = c ∧ b = d)
def goodB (a b : Int) : Bool := numB a && (numB b && decide (a ≤ b))

set_option maxHeartbeats 400000 in
theorem c_isNumber (n : Int) (w : World) : Calls Try.prog 90 #[.int .i64 n] w fun e w' => e = .returned (.bool (numB n)) ∧ w = w' := by
  by_cases h0 : 0 ≤ n <;> by_cases h9 : n ≤ 9
  all_goals
    go_enter Try.func90, Try.ntmps90
    go_wp2
    go_ret
    exact ⟨by simp [numB, h0, h9], rfl⟩

set_option maxHeartbeats 400000 in
theorem c_l1In (n lo hi : Int) (w : World) : Calls Try.prog 111 #[.int .i64 n, .int .i64 lo, .int .i64 hi] w fun e w' => e = .returned (.bool (decide (lo ≤ n) && decide (n ≤ hi))) ∧ w = w' := by
  by_cases h0 : lo ≤ n <;> by_cases h9 : n ≤ hi
  all_goals
    go_enter Try.func111, Try.ntmps111
    go_wp2
    go_ret
    exact ⟨by simp [h0, h9], rfl⟩

set_option maxHeartbeats 400000 in
theorem c_implIsTile (a b : Int) (w : World) : Calls Try.prog 142 #[.agg #[.int .i64 a, .int .i64 b]] w fun e w' => e = .returned (.bool (goodB a b)) ∧ Below w.heap.size w w' := by
  go_enter Try.func142, Try.ntmps142
  go_wp2_with (go_at_call 90; refine (c_isNumber _ _).mono ?_; rintro e w' ⟨rfl, rfl⟩)
  all_goals
    go_ret
    exact ⟨by simp_all [goodB], by go_grown⟩

set_option maxHeartbeats 400000 in
theorem c_tiGood (a b : Int) (w : World) : Calls Try.prog 189 #[.agg #[.int .i64 a, .int .i64 b]] w fun e w' => e = .returned (.bool (goodB a b)) ∧ Below w.heap.size w w' := by
  go_enter Try.func189, Try.ntmps189
  go_wp2_with (go_at_call 111; refine (c_l1In _ _ _ _).mono ?_; rintro e w' ⟨rfl, rfl⟩)
  all_goals
    go_ret
    exact ⟨ret_b (by unfold goodB numB; rw [Bool.eq_iff_iff]; simp at *; omega), by go_grown⟩

set_option maxHeartbeats 400000 in
theorem c_toTile (a b : Int) (w : World) : Calls Try.prog 105 #[.agg #[.int .i64 a, .int .i64 b]] w fun e w' => e = .returned (.agg #[.int .i64 a, .int .i64 b]) ∧ Below w.heap.size w w' := by
  go_enter Try.func105, Try.ntmps105
  go_wp2
  go_returns
  exact ⟨rfl, by go_grown⟩

set_option maxHeartbeats 400000 in
theorem c_eqTile (a b c d : Int) (w : World) : Calls Try.prog 109 #[.agg #[.int .i64 a, .int .i64 b], .agg #[.int .i64 c, .int .i64 d]] w fun e w' => e = .returned (.bool (sameB a b c d)) ∧ Below w.heap.size w w' := by
  by_cases h0 : a = c
  · have h0' : (a != c) = false := by simp [h0]
    by_cases h1 : b = d
    · have h1' : (b != d) = false := by simp [h1]
      clear h0 h1
      go_enter Try.func109, Try.ntmps109
      go_wp2
      go_ret
      exact ⟨by simp at h0' h1'; simp [sameB, h0', h1'], by go_grown⟩
    · have h1' : (b != d) = true := by simp [h1]
      clear h0 h1
      go_enter Try.func109, Try.ntmps109
      go_wp2
      go_ret
      exact ⟨by simp at h0' h1'; simp [sameB, h0', h1'], by go_grown⟩
  · have h0' : (a != c) = true := by simp [h0]
    clear h0
    go_enter Try.func109, Try.ntmps109
    go_wp2
    go_ret
    exact ⟨by simp at h0'; simp [sameB, h0'], by go_grown⟩

set_option maxHeartbeats 400000 in
theorem c_l1Least (a b : Int) (w : World) : Calls Try.prog 231 #[.int .i64 a, .int .i64 b] w fun e w' => e = .returned (.int .i64 (min a b)) ∧ w = w' := by
  by_cases h : a < b
  all_goals
    go_enter Try.func231, Try.ntmps231
    go_wp2
    go_ret
    exact ⟨ret_i (by omega), rfl⟩

set_option maxHeartbeats 400000 in
theorem c_l1Most (a b : Int) (w : World) : Calls Try.prog 232 #[.int .i64 a, .int .i64 b] w fun e w' => e = .returned (.int .i64 (max a b)) ∧ w = w' := by
  by_cases h : b < a
  all_goals
    go_enter Try.func232, Try.ntmps232
    go_wp2
    go_ret
    exact ⟨ret_i (by omega), rfl⟩

set_option maxHeartbeats 400000 in
theorem c_tiNumber (n : Int) (w : World) : Calls Try.prog 154 #[.int .i64 n] w fun e w' => e = .returned (.bool (numB n)) ∧ w = w' := by
  go_enter Try.func154, Try.ntmps154
  go_wp2_with (go_at_call 111; refine (c_l1In _ _ _ _).mono ?_; rintro e w' ⟨rfl, rfl⟩)
  go_ret
  exact ⟨rfl, rfl⟩

set_option maxHeartbeats 400000 in
theorem c_tiOf (a b : Int) (w : World) : Calls Try.prog 196 #[.int .i64 a, .int .i64 b] w fun e w' => e = .returned (.agg #[.int .i64 (min a b), .int .i64 (max a b)]) ∧ Below w.heap.size w w' := by
  go_enter Try.func196, Try.ntmps196
  go_wp2_with (first | (go_at_call 231; refine (c_l1Least _ _ _).mono ?_; rintro e w' ⟨rfl, rfl⟩) | (go_at_call 232; refine (c_l1Most _ _ _).mono ?_; rintro e w' ⟨rfl, rfl⟩))
  go_returns
  exact ⟨rfl, by go_grown⟩

def bothNum (a b : Int) : Bool := numB a && numB b
def ofLow (a b : Int) : Int := if bothNum a b then min a b else 0
def ofHigh (a b : Int) : Int := if bothNum a b then max a b else 0

set_option maxHeartbeats 400000 in
theorem c_implTileOf (a b : Int) (w : World) : Calls Try.prog 75 #[.int .i64 a, .int .i64 b] w fun e w' => e = .returned (.tuple #[.agg #[.int .i64 (ofLow a b), .int .i64 (ofHigh a b)], .bool (bothNum a b)]) ∧ Below w.heap.size w w' := by
  go_enter Try.func75, Try.ntmps75
  go_wp2_with (go_at_call 90; refine (c_isNumber _ _).mono ?_; rintro e w' ⟨rfl, rfl⟩)
  all_goals
    go_returns
    refine ⟨?_, by go_grown⟩
    simp_all [bothNum, ofLow, ofHigh]
  all_goals omega
end Go.Proofs.Ytlnfialfkipdjaa

namespace Go.Proofs.Ytlnfialfkipdjaa
open Go.RowKit
set_option linter.unusedVariables false

set_option maxHeartbeats 400000 in
theorem c_tiPlace (A : Option Addr) (c : Nat) (ts : List (Int × Int)) (a b : Int) (w : World) (hr : RdT w A ts) (hl : ts.length ≤ 9223372036854775807) :
    Calls Try.prog 190 #[.slice A ts.length c, .agg #[.int .i64 a, .int .i64 b]] w fun e w' => e = .returned (.int .i64 (placeI ts (a, b))) ∧ Below w.heap.size w w' := by
  go_enter Try.func190, Try.ntmps190
  go_wp2
  go_loopw [9] (fun i wr => ∃ k : Nat, k ≤ ts.length ∧ i = .int .i64 k ∧ (∀ j (hj : j < ts.length), j < k → ts[j] ≠ (a, b)) ∧ Below w.heap.size w wr ∧ w.heap.size < wr.heap.size ∧
      wr.cell? ⟨w.heap.size, 0, none⟩ = some (.int .i64 a) ∧ wr.cell? ⟨w.heap.size, 1, none⟩ = some (.int .i64 b)) (fun i _ => ts.length - (intOf i).toNat)
  case atStart => exact ⟨0, Nat.zero_le _, rfl, by omega, by go_grown, by simp, by simp, by simp⟩
  case round =>
    obtain ⟨k, hk, rfl, hn, hb, hz, x0, x1⟩ := hrel
    by_cases hlt : k < ts.length
    · obtain ⟨bk, off, rfl, hbk, hc⟩ := hr.at_ hlt
      have g1 := (hb.cell (p := ⟨bk, _, none⟩) hbk).trans (hc k hlt).1
      have g2 := (hb.cell (p := ⟨bk, _, none⟩) hbk).trans (hc k hlt).2
      have Hn := Lib.hid hn
      clear hc hr hn
      go_wp2
      · have e0 : ts[k].fst = a := by assumption
        have e1 : ts[k].snd = b := by assumption
        go_ret
        exact ⟨ret_i (placeI_found hlt (Prod.ext e0 e1) (fun j hj hjk => Hn.out j hj hjk)).symm, by go_grown⟩
      all_goals
        go_roundw
        case rel =>
          have hne : ts[k] ≠ (a, b) := by rintro e; simp_all
          refine ⟨k + 1, by omega, by go_num, fun j hj hjk => ?_, by go_grown, by simp; omega, by simp [*, go_sem], by simp [*, go_sem]⟩
          rcases Nat.lt_succ_iff_lt_or_eq.1 hjk with h | rfl
          · exact Hn.out j hj h
          · exact hne
        case measure => simp [intOf]; omega
    · go_wp2
      go_ret
      exact ⟨ret_i (placeI_none (fun j hj => hn j hj (by omega))).symm, hb⟩

def eqTS (xs ys : List (Int × Int)) : Bool := decide (xs = ys)

set_option maxHeartbeats 1000000 in
theorem c_eqTileS (A B : Option Addr) (c d : Nat) (xs ys : List (Int × Int)) (w : World) (hx : RdT w A xs) (hy : RdT w B ys) (lx : xs.length ≤ 9223372036854775807) (ly : ys.length ≤ 9223372036854775807) :
    Calls Try.prog 35 #[.slice A xs.length c, .slice B ys.length d] w fun e w' => e = .returned (.bool (decide (xs = ys))) ∧ Below w.heap.size w w' := by
  by_cases hne : xs.length = ys.length
  · have hne' : ((xs.length : Int) != (ys.length : Int)) = false := by simp [hne]
    have Hne := Lib.hid hne
    clear hne
    go_enter Try.func35, Try.ntmps35
    go_wp2
    go_loopw [5] (fun i wr => ∃ k : Nat, k ≤ xs.length ∧ i = .int .i64 k ∧ (∀ j (hj : j < xs.length) (hj' : j < ys.length), j < k → xs[j] = ys[j]) ∧ Below w.heap.size w wr) (fun i _ => xs.length - (intOf i).toNat)
    case atStart => exact ⟨0, Nat.zero_le _, rfl, by omega, Below.refl _ _⟩
    case round =>
      obtain ⟨k, hk, rfl, hn, hb⟩ := hrel
      by_cases hlt : k < xs.length
      · have hlt' : k < ys.length := by have := Hne.out; omega
        obtain ⟨bk, off, rfl, hbk, hc⟩ := hx.at_ hlt
        obtain ⟨bj, oj, rfl, hbj, hd⟩ := hy.at_ hlt'
        have g1 := (hb.cell (p := ⟨bk, _, none⟩) hbk).trans (hc k hlt).1
        have g2 := (hb.cell (p := ⟨bk, _, none⟩) hbk).trans (hc k hlt).2
        have g3 := (hb.cell (p := ⟨bj, _, none⟩) hbj).trans (hd k hlt').1
        have g4 := (hb.cell (p := ⟨bj, _, none⟩) hbj).trans (hd k hlt').2
        have Hn := Lib.hid hn
        have hwr := hb.size
        clear hc hx hd hy hn
        by_cases heq : sameB xs[k].1 xs[k].2 ys[k].1 ys[k].2 = true
        all_goals
          go_wp2
          go_region_held3 (fun w' => w'.cell? ⟨bk, off + k * 2, none⟩ = some (.int .i64 xs[k].1) ∧ w'.cell? ⟨bk, off + k * 2 + 1, none⟩ = some (.int .i64 xs[k].2) ∧ w'.cell? ⟨bj, oj + k * 2, none⟩ = some (.int .i64 ys[k].1) ∧ w'.cell? ⟨bj, oj + k * 2 + 1, none⟩ = some (.int .i64 ys[k].2)) (first | exact ⟨keepc hb' (by assumption), keepc hb' (by assumption), keepc hb' (by assumption), keepc hb' (by assumption)⟩ | go_keep) (first | (go_at_call 109; refine (c_eqTile _ _ _ _ _).mono ?_; rintro e w' ⟨rfl, hb'⟩))
          go_wp2
        · go_roundw
          case rel =>
            refine ⟨k + 1, by omega, by go_num, fun j hj hj' hjk => ?_, bstep hb.drew hb'⟩
            rcases Nat.lt_succ_iff_lt_or_eq.1 hjk with h | rfl
            · exact Hn.out j hj hj' h
            · simp only [sameB, decide_eq_true_eq] at heq
              exact Prod.ext heq.1 heq.2
          case measure => simp [intOf]; omega
        · go_ret
          refine ⟨ret_b ?_, bstep hb.drew hb'⟩
          symm
          simp only [decide_eq_false_iff_not]
          rintro rfl
          simp [sameB] at heq
      · go_wp2
        go_ret
        refine ⟨ret_b ?_, hb⟩
        have := Hne.out
        symm
        simp only [decide_eq_true_eq]
        exact List.ext_getElem this (fun j h1 h2 => hn j h1 h2 (by omega))
  · have hne' : ((xs.length : Int) != (ys.length : Int)) = true := by simp; omega
    have Hne := Lib.hid hne
    clear hne
    go_enter Try.func35, Try.ntmps35
    go_wp2
    go_ret
    refine ⟨ret_b ?_, Below.refl _ _⟩
    symm
    simp only [decide_eq_false_iff_not]
    rintro rfl
    exact Hne.out rfl
end Go.Proofs.Ytlnfialfkipdjaa

namespace Go.Proofs.Ytlnfialfkipdjaa
open Go.RowKit
set_option linter.unusedVariables false

theorem Try.info_tile : (Try.prog.info? 95).map (fun i => (i.zero, i.size, i.bytes)) = some (some (.agg #[.int .i64 0, .int .i64 0]), 2, 16) := by kernel_rfl

set_option maxHeartbeats 400000 in
theorem c_szTileS (A : Option Addr) (c n : Nat) (q : Int) (w : World) (hn : n ≤ 9223372036854775807) (h0 : 0 ≤ q) (h1 : q ≤ 9223372036854775807) :
    Calls Try.prog 29 #[.slice A n c, .int .i64 q] w fun e w' => e = .returned (.int .i64 (if q - n < 0 then -1 else q - n)) ∧ w = w' := by
  by_cases h : q - n < 0
  all_goals
    go_enter Try.func29, Try.ntmps29
    go_wp2
    go_ret
    exact ⟨ret_i (by first | omega | (split <;> omega)), rfl⟩

set_option maxHeartbeats 400000 in
theorem c_toTileS (A : Option Addr) (c : Nat) (ts : List (Int × Int)) (w : World) (hr : RdT w A ts) (hl : ts.length ≤ 1048576) :
    Calls Try.prog 32 #[.slice A ts.length c] w fun e w' => e = .returned (.slice (some ⟨w.heap.size, 0, none⟩) ts.length ts.length) ∧
      w'.ownsRow w.heap.size 95 2 (.slice (some ⟨w.heap.size, 0, none⟩) ts.length ts.length) ts.length (cellsT ts) ∧ Below w.heap.size w w' := by
  obtain ⟨i0, hi, hz0, hz1, hz2⟩ := info_parts Try.info_tile
  go_enter Try.func32, Try.ntmps32
  go_wp2_with (refine wpList_make_full _ rfl _ _ _ rfl w.heap.size 95 i0 _ 2 Try.underlying22 hi hz0 hz1 .i64 .i64 _ _ ts.length rfl rfl rfl rfl (by rw [hz2]; omega) (by unfold maxLen; omega) (Nat.le_refl _) ?_; intro w1 hown1 hg1)
  rw [← copyL_zero] at hown1
  have hsz : w.heap.size < w1.heap.size := (hown1.lt w.heap.size rfl).2
  have hb1 : Below w.heap.size w w1 := below_of_grown hg1 (Nat.le_refl _) (by simp)
  clear hg1 hz0 hz1 hz2 hi
  go_loopw [4] (fun i wr => ∃ k : Nat, k ≤ ts.length ∧ i = .int .i64 k ∧ wr.ownsRow w.heap.size 95 2 (.slice (some ⟨w.heap.size, 0, none⟩) ts.length ts.length) ts.length (cellsT (copyL k ts)) ∧ Below w.heap.size w wr) (fun i _ => ts.length - (intOf i).toNat)
  case atStart => exact ⟨0, Nat.zero_le _, rfl, hown1, hb1⟩
  case round =>
    clear hown1 hb1 hsz
    obtain ⟨k, hk, rfl, hown, hb⟩ := hrel
    by_cases hlt : k < ts.length
    · obtain ⟨bk, off, rfl, hbk, hc⟩ := hr.at_ hlt
      have g1 := (hb.cell (p := ⟨bk, _, none⟩) hbk).trans (hc k hlt).1
      have g2 := (hb.cell (p := ⟨bk, _, none⟩) hbk).trans (hc k hlt).2
      have Hb := Lib.hid hb
      have Ho := Lib.hid hown
      have hcg := cellsT_get (copyL k ts) k (by rw [copyL_length hk]; exact hlt)
      have x1 := (hown.cellAt (k * 2) (by omega)).trans hcg.1
      have x2 := (hown.cellAt (k * 2 + 1) (by omega)).trans hcg.2
      have f1 := hown.frozenAt (k * 2)
      have f2 := hown.frozenAt (k * 2 + 1)
      have hsz := (hown.lt w.heap.size rfl).2
      clear hc hcg hown hb hr
      go_wp2_with (go_at_call 105; refine (c_toTile _ _ _).mono ?_; rintro e w2 ⟨rfl, hb2⟩; have y1 := keepc hb2 x1; have y2 := keepc hb2 x2; have k1 := (hb2.frozen (p := ⟨w.heap.size, k * 2, none⟩) hsz).trans f1; have k2 := (hb2.frozen (p := ⟨w.heap.size, k * 2 + 1, none⟩) hsz).trans f2)
      go_roundw
      case rel =>
        refine ⟨k + 1, by omega, by go_num, ?_, ((bstep Hb.out hb2).setCell (Nat.le_refl _) _).setCell (Nat.le_refl _) _⟩
        rw [← copyL_step hlt]
        exact (World.ownsRow.stored ((own_keep Ho.out hb2).stored _ _).1 _ _).1
      case measure => simp [intOf]; omega
    · have : k = ts.length := by omega
      subst this
      rw [copyL_all] at hown
      go_wp2
      go_ret
      exact ⟨rfl, hown, hb⟩

set_option maxHeartbeats 400000 in
theorem c_heldTileS (A : Option Addr) (c n : Nat) (q : Int) (w : World) (hr : RdT w A (marks q n)) (h0 : 0 ≤ q) (h1 : q + 2 * n ≤ 9223372036854775807) :
    Calls Try.prog 88 #[.slice A n c, .int .i64 q] w fun e w' => e = .returned (.int .i64 (q + 2 * n)) ∧ w = w' := by
  go_enter Try.func88, Try.ntmps88
  go_wp2
  go_loop [1, 5] (fun p i => ∃ k : Nat, k ≤ n ∧ i = .int .i64 k ∧ p = .int .i64 (q + 2 * (k : Int))) (fun _ i => n - (intOf i).toNat)
  case atStart => exact ⟨0, Nat.zero_le _, rfl, by go_num⟩
  case round =>
    obtain ⟨k, hk, rfl, rfl⟩ := hrel
    by_cases hlt : k < n
    · obtain ⟨bk, off, rfl, hbk, hc⟩ := hr.at_ (k := k) (by rw [marks_length]; exact hlt)
      have hc := hc k (by rw [marks_length]; exact hlt)
      rw [marks_get] at hc
      obtain ⟨g1, g2⟩ := hc
      clear hr
      go_wp2
      go_round
      case rel => exact ⟨k + 1, by omega, by go_num, by go_num⟩
      case measure => simp [intOf]; omega
    · have : k = n := by omega
      subst this
      go_wp2
      go_ret
      exact ⟨rfl, rfl⟩

set_option maxHeartbeats 400000 in
theorem c_markTileS (A : Option Addr) (c base : Nat) (ts : List (Int × Int)) (q : Int) (w : World) (hr : w.ownsRow base 95 2 (.slice A ts.length c) ts.length (cellsT ts)) (h0 : 0 ≤ q) (h1 : q + 2 * ts.length ≤ 9223372036854775807) :
    Calls Try.prog 37 #[.slice A ts.length c, .int .i64 q] w fun e w' => e = .returned (.int .i64 (q + 2 * ts.length)) ∧
      w'.ownsRow base 95 2 (.slice A ts.length c) ts.length (cellsT (marks q ts.length)) ∧ w.grownBy w' (Value.slice A ts.length c).ownBlock := by
  go_enter Try.func37, Try.ntmps37
  go_wp2
  go_loopw [1, 5] (fun p i wr => ∃ k : Nat, k ≤ ts.length ∧ i = .int .i64 k ∧ p = .int .i64 (q + 2 * (k : Int)) ∧ wr.ownsRow base 95 2 (.slice A ts.length c) ts.length (cellsT (markL q k ts)) ∧ w.grownBy wr (Value.slice A ts.length c).ownBlock) (fun _ i _ => ts.length - (intOf i).toNat)
  case atStart => exact ⟨0, Nat.zero_le _, rfl, by go_num, by rw [markL_zero]; exact hr, World.grownBy.refl _ _⟩
  case round =>
    obtain ⟨k, hk, rfl, rfl, hown, hg⟩ := hrel
    by_cases hlt : k < ts.length
    · have hown' := hown
      obtain ⟨_, ⟨hv, hn⟩ | ⟨g, cap, cur, hv, _⟩⟩ := hown'
      · omega
      injection hv with e1 e2 e3
      subst e1
      have Hg := Lib.hid hg
      have Ho := Lib.hid hown
      have f1 := hown.frozenAt (k * 2)
      have f2 := hown.frozenAt (k * 2 + 1)
      have hcg := cellsT_get (markL q k ts) k (by rw [markL_length q hk]; exact hlt)
      have x1 := (hown.cellAt (k * 2) (by omega)).trans hcg.1
      have x2 := (hown.cellAt (k * 2 + 1) (by omega)).trans hcg.2
      clear hg hown hcg hr e3 e2
      go_wp2
      go_roundw
      case rel =>
        refine ⟨k + 1, by omega, by go_num, by go_num, ?_, grown_set (grown_set Hg.out _ _) _ _⟩
        rw [← markL_step q hlt]
        exact (World.ownsRow.stored (Ho.out.stored _ _).1 _ _).1
      case measure => simp [intOf]; omega
    · have : k = ts.length := by omega
      subst this
      go_wp2
      go_ret
      rw [markL_all] at hown
      exact ⟨rfl, hown, hg⟩

theorem c_eqTileS_same (A B : Option Addr) (c d : Nat) (xs : List (Int × Int)) (w : World) (hx : RdT w A xs) (hy : RdT w B xs) (lx : xs.length ≤ 9223372036854775807) :
    Calls Try.prog 35 #[.slice A xs.length c, .slice B xs.length d] w fun e w' => e = .returned (.bool true) ∧ Below w.heap.size w w' :=
  (c_eqTileS A B c d xs xs w hx hy lx lx).mono fun e w' h => ⟨h.1.trans (ret_b (by simp)), h.2⟩

theorem Try.info_int : (Try.prog.info? 3).map (fun i => (i.zero, i.size, i.bytes)) = some (some (.int .i64 0), 1, 8) := by kernel_rfl

set_option maxHeartbeats 1000000 in
theorem c_eqIntS_same (A B : Option Addr) (c d : Nat) (xs : List Int) (w : World) (hx : RdI w A xs) (hy : RdI w B xs) (lx : xs.length ≤ 9223372036854775807) :
    Calls Try.prog 51 #[.slice A xs.length c, .slice B xs.length d] w fun e w' => e = .returned (.bool true) ∧ Below w.heap.size w w' := by
  go_enter Try.func51, Try.ntmps51
  go_wp2
  go_loopw [5] (fun i wr => ∃ k : Nat, k ≤ xs.length ∧ i = .int .i64 k ∧ Below w.heap.size w wr) (fun i _ => xs.length - (intOf i).toNat)
  case atStart => exact ⟨0, Nat.zero_le _, rfl, Below.refl _ _⟩
  case round =>
    obtain ⟨k, hk, rfl, hb⟩ := hrel
    by_cases hlt : k < xs.length
    · obtain ⟨bk, off, rfl, hbk, hc⟩ := hx.at_ hlt
      obtain ⟨bj, oj, rfl, hbj, hd⟩ := hy.at_ hlt
      have g1 := (hb.cell (p := ⟨bk, _, none⟩) hbk).trans (hc k hlt)
      have g3 := (hb.cell (p := ⟨bj, _, none⟩) hbj).trans (hd k hlt)
      have Hb := Lib.hid hb
      clear hc hx hd hy hb
      go_wp2
      go_quiet (fail)
      go_wp2
      go_roundw
      case rel => exact ⟨k + 1, by omega, by go_num, Hb.out.trans ⟨rfl, rfl, rfl, Nat.le_refl _, fun _ _ => rfl⟩⟩
      case measure => simp [intOf]; omega
    · go_wp2
      go_ret
      exact ⟨rfl, hb⟩

set_option maxHeartbeats 400000 in
theorem c_heldIntS (A : Option Addr) (c n : Nat) (q : Int) (w : World) (hr : RdI w A (marksI q n)) (h0 : 0 ≤ q) (h1 : q + n ≤ 9223372036854775807) :
    Calls Try.prog 53 #[.slice A n c, .int .i64 q] w fun e w' => e = .returned (.int .i64 (q + n)) ∧ w = w' := by
  go_enter Try.func53, Try.ntmps53
  go_wp2
  go_loop [1, 5] (fun p i => ∃ k : Nat, k ≤ n ∧ i = .int .i64 k ∧ p = .int .i64 (q + (k : Int))) (fun _ i => n - (intOf i).toNat)
  case atStart => exact ⟨0, Nat.zero_le _, rfl, by go_num⟩
  case round =>
    obtain ⟨k, hk, rfl, rfl⟩ := hrel
    by_cases hlt : k < n
    · obtain ⟨bk, off, rfl, hbk, hc⟩ := hr.at_ (k := k) (by rw [marksI_length]; exact hlt)
      have hc := hc k (by rw [marksI_length]; exact hlt)
      rw [marksI_get] at hc
      clear hr
      go_wp2
      go_round
      case rel => exact ⟨k + 1, by omega, by go_num, by go_num⟩
      case measure => simp [intOf]; omega
    · have : k = n := by omega
      subst this
      go_wp2
      go_ret
      exact ⟨rfl, rfl⟩

set_option maxHeartbeats 400000 in
theorem c_markIntS (A : Option Addr) (c base : Nat) (xs : List Int) (q : Int) (w : World) (hr : w.ownsRow base 3 1 (.slice A xs.length c) xs.length (cellsI xs)) (h0 : 0 ≤ q) (h1 : q + xs.length ≤ 9223372036854775807) :
    Calls Try.prog 52 #[.slice A xs.length c, .int .i64 q] w fun e w' => e = .returned (.int .i64 (q + xs.length)) ∧
      w'.ownsRow base 3 1 (.slice A xs.length c) xs.length (cellsI (marksI q xs.length)) ∧ w.grownBy w' (Value.slice A xs.length c).ownBlock := by
  go_enter Try.func52, Try.ntmps52
  go_wp2
  go_loopw [1, 5] (fun p i wr => ∃ k : Nat, k ≤ xs.length ∧ i = .int .i64 k ∧ p = .int .i64 (q + (k : Int)) ∧ wr.ownsRow base 3 1 (.slice A xs.length c) xs.length (cellsI (markI q k xs)) ∧ w.grownBy wr (Value.slice A xs.length c).ownBlock) (fun _ i _ => xs.length - (intOf i).toNat)
  case atStart => exact ⟨0, Nat.zero_le _, rfl, by go_num, by rw [markI_zero]; exact hr, World.grownBy.refl _ _⟩
  case round =>
    obtain ⟨k, hk, rfl, rfl, hown, hg⟩ := hrel
    by_cases hlt : k < xs.length
    · have hown' := hown
      obtain ⟨_, ⟨hv, hn⟩ | ⟨g, cap, cur, hv, _⟩⟩ := hown'
      · omega
      injection hv with e1 e2 e3
      subst e1
      have Hg := Lib.hid hg
      have Ho := Lib.hid hown
      have f1 := hown.frozenAt k
      have hcg : (cellsI (markI q k xs))[k]? = some (.int .i64 ((markI q k xs)[k]'(by rw [markI_length q hk]; exact hlt))) := by
        simp [cellsI, markI_length q hk, hlt]
      have x1 := (hown.cellAt k (by omega)).trans hcg
      clear hg hown hcg hr e3 e2
      go_wp2
      go_roundw
      case rel =>
        refine ⟨k + 1, by omega, by go_num, by go_num, ?_, grown_set Hg.out _ _⟩
        rw [← markI_step q hlt]
        exact (Ho.out.stored _ _).1
      case measure => simp [intOf]; omega
    · have : k = xs.length := by omega
      subst this
      go_wp2
      go_ret
      rw [markI_all] at hown
      exact ⟨rfl, hown, hg⟩

set_option maxHeartbeats 400000 in
theorem c_toIntS (A : Option Addr) (c : Nat) (xs : List Int) (w : World) (hr : RdI w A xs) (hl : xs.length ≤ 1048576) :
    Calls Try.prog 98 #[.slice A xs.length c] w fun e w' => e = .returned (.slice (some ⟨w.heap.size, 0, none⟩) xs.length xs.length) ∧
      w'.ownsRow w.heap.size 3 1 (.slice (some ⟨w.heap.size, 0, none⟩) xs.length xs.length) xs.length (cellsI xs) ∧ Below w.heap.size w w' := by
  obtain ⟨i0, hi, hz0, hz1, hz2⟩ := info_parts Try.info_int
  go_enter Try.func98, Try.ntmps98
  go_wp2_with (refine wpList_make_full _ rfl _ _ _ rfl w.heap.size 3 i0 _ 1 Try.underlying36 hi hz0 hz1 .i64 .i64 _ _ xs.length rfl rfl rfl rfl (by rw [hz2]; omega) (by unfold maxLen; omega) (Nat.le_refl _) ?_; intro w1 hown1 hg1)
  rw [← copyI_zero] at hown1
  have hb1 : Below w.heap.size w w1 := below_of_grown hg1 (Nat.le_refl _) (by simp)
  clear hg1 hz0 hz1 hz2 hi
  go_loopw [4] (fun i wr => ∃ k : Nat, k ≤ xs.length ∧ i = .int .i64 k ∧ wr.ownsRow w.heap.size 3 1 (.slice (some ⟨w.heap.size, 0, none⟩) xs.length xs.length) xs.length (cellsI (copyI k xs)) ∧ Below w.heap.size w wr) (fun i _ => xs.length - (intOf i).toNat)
  case atStart => exact ⟨0, Nat.zero_le _, rfl, hown1, hb1⟩
  case round =>
    clear hown1 hb1
    obtain ⟨k, hk, rfl, hown, hb⟩ := hrel
    by_cases hlt : k < xs.length
    · obtain ⟨bk, off, rfl, hbk, hc⟩ := hr.at_ hlt
      have g1 := (hb.cell (p := ⟨bk, _, none⟩) hbk).trans (hc k hlt)
      have Hb := Lib.hid hb
      have Ho := Lib.hid hown
      have hcg : (cellsI (copyI k xs))[k]? = some (.int .i64 ((copyI k xs)[k]'(by rw [copyI_length hk]; exact hlt))) := by
        simp [cellsI, copyI_length hk, hlt]
      have x1 := (hown.cellAt k (by omega)).trans hcg
      have f1 := hown.frozenAt k
      clear hc hcg hown hb hr
      go_wp2
      go_roundw
      case rel =>
        refine ⟨k + 1, by omega, by go_num, ?_, Hb.out.setCell (Nat.le_refl _) _⟩
        rw [← copyI_step hlt]
        exact (Ho.out.stored _ _).1
      case measure => simp [intOf]; omega
    · have : k = xs.length := by omega
      subst this
      rw [copyI_all] at hown
      go_wp2
      go_ret
      exact ⟨rfl, hown, hb⟩

/-- One tile appended to a row of the call's own. -/
theorem wp_append_tile {w : World} {ops : Array Oper} {rest : List Oper} {o : Oper} {a : Act} {Q : Exit → Act → World → Prop} (hgd : o.guard = none) (s x : Operand)
    (ho : o.op = .call { callee := .builtin .append, args := #[s, x], argTypes := #[22, 22] }) (base : Nat) (v : Value) (ts : List (Int × Int)) (hs : a.eval s = v)
    (hown : w.ownsRow base 95 2 v ts.length (cellsT ts)) (p q : Int) (g : Nat) (hx : a.eval x = .slice (some ⟨g, 0, none⟩) 1 1)
    (h0 : w.cell? ⟨g, 0, none⟩ = some (.int .i64 p)) (h1 : w.cell? ⟨g, 1, none⟩ = some (.int .i64 q)) (hlen : ts.length ≤ 4194304) (hbase : base ≤ w.heap.size)
    (h : ∀ A c w', w'.ownsRow base 95 2 (.slice A (ts.length + 1) c) (ts.length + 1) (cellsT (ts ++ [(p, q)])) → w.grownBy w' v.ownBlock → wpList Try.prog ops Q rest (a.put o.dst (.slice A (ts.length + 1) c)) w') :
    wpList Try.prog ops Q (o :: rest) a w := by
  obtain ⟨i0, hi, hz0, hz1, hz2⟩ := info_parts Try.info_tile
  refine wpList_append_own w hgd s x 22 ho base 95 i0 _ 2 16 Try.underlying22 hi hz0 hz1 hz2 rfl (by decide) v ts.length (cellsT ts) hs hown ⟨g, 0, none⟩ 1 1 [.int .i64 p, .int .i64 q] hx rfl ?_ ?_ (by unfold maxLen; omega) (by omega) hbase ?_
  · intro j u hj
    match j, hj with
    | 0, hj => simp at hj; subst hj; simpa [Addr.add] using h0
    | 1, hj => simp at hj; subst hj; simpa [Addr.add] using h1
  · intro u hu
    simp at hu
    rcases hu with rfl | rfl <;> rfl
  · intro v' w' h1 h2 _
    have h1' := h1
    obtain ⟨_, ⟨_, hn⟩ | ⟨g', cap, cur, rfl, _⟩⟩ := h1'
    · omega
    refine h _ _ w' ?_ h2
    rw [cellsT_append]
    exact h1

/-- One number appended to a row of the call's own. -/
theorem wp_append_int {w : World} {ops : Array Oper} {rest : List Oper} {o : Oper} {a : Act} {Q : Exit → Act → World → Prop} (hgd : o.guard = none) (s x : Operand)
    (ho : o.op = .call { callee := .builtin .append, args := #[s, x], argTypes := #[36, 36] }) (base : Nat) (v : Value) (xs : List Int) (hs : a.eval s = v)
    (hown : w.ownsRow base 3 1 v xs.length (cellsI xs)) (p : Int) (g : Nat) (hx : a.eval x = .slice (some ⟨g, 0, none⟩) 1 1)
    (h0 : w.cell? ⟨g, 0, none⟩ = some (.int .i64 p)) (hlen : xs.length ≤ 4194304) (hbase : base ≤ w.heap.size)
    (h : ∀ A c w', w'.ownsRow base 3 1 (.slice A (xs.length + 1) c) (xs.length + 1) (cellsI (xs ++ [p])) → w.grownBy w' v.ownBlock → wpList Try.prog ops Q rest (a.put o.dst (.slice A (xs.length + 1) c)) w') :
    wpList Try.prog ops Q (o :: rest) a w := by
  obtain ⟨i0, hi, hz0, hz1, hz2⟩ := info_parts Try.info_int
  refine wpList_append_own w hgd s x 36 ho base 3 i0 _ 1 8 Try.underlying36 hi hz0 hz1 hz2 rfl (by decide) v xs.length (cellsI xs) hs (by simpa using hown) ⟨g, 0, none⟩ 1 1 [.int .i64 p] hx rfl ?_ ?_ (by unfold maxLen; omega) (by omega) hbase ?_
  · intro j u hj
    match j, hj with
    | 0, hj => simp at hj; subst hj; simpa [Addr.add] using h0
  · intro u hu
    simp at hu
    rcases hu with rfl; rfl
  · intro v' w' h1 h2 _
    have h1' := h1
    obtain ⟨_, ⟨_, hn⟩ | ⟨g', cap, cur, rfl, _⟩⟩ := h1'
    · omega
    refine h _ _ w' ?_ h2
    rw [cellsI_append]
    exact h1

end Go.Proofs.Ytlnfialfkipdjaa

/- Small facts on worlds that only grow, and on slices that read as lists. No function of the program is named here. -/
import Derived.Test.YtbanpgifhnbjoaaRows
import Derived.WalkKit
import Derived.Handy
import Derived.ProofKit
import Derived.OpenShut
import Derived.BigQuiet
import Derived.Deep.QuietTactic
import Derived.Deep.RegionHeld3
import Derived.Deep.Slices
import Derived.Lib.Hide
namespace Go.Proofs.Ytbanpgifhnbjoaa
open Go.RowKit

theorem ret_b {a b : Bool} (h : a = b) : Ending.returned (.bool a) = .returned (.bool b) := by rw [h]
theorem ret_i {a b : Int} (h : a = b) : Ending.returned (.int .i64 a) = .returned (.int .i64 b) := by rw [h]

/-- One more call behind what has grown. -/
theorem bstep {a W w' : World} (h1 : Below a.heap.size a W) (h2 : Below W.heap.size W w') : Below a.heap.size a w' := h1.trans (h2.mono h1.size)

/-- Old cells and old marks behind a call. -/
theorem bold {W w1 : World} (hb : Below W.heap.size W w1) :
    (∀ b o, b < W.heap.size → w1.cell? ⟨b, o, none⟩ = W.cell? ⟨b, o, none⟩) ∧ (∀ b o, b < W.heap.size → w1.frozen? ⟨b, o, none⟩ = W.frozen? ⟨b, o, none⟩) :=
  ⟨fun b o h => hb.cell (p := ⟨b, o, none⟩) h, fun b o h => hb.frozen (p := ⟨b, o, none⟩) h⟩

/-- A cell that was there is there behind a call. -/
theorem keepc {W w1 : World} {a : Addr} {v : Value} (hb : Below W.heap.size W w1) (h : W.cell? a = some v) : w1.cell? a = some v := (hb.cell (World.block_lt_of_cell? _ _ h)).trans h

/-- A slice value at A reads as a list of tiles. -/
def RdT (w : World) (A : Option Addr) (ts : List (Int × Int)) : Prop :=
  ∃ b off, (ts ≠ [] → A = some ⟨b, off, none⟩) ∧ ∀ k (h : k < ts.length), w.cell? ⟨b, off + k * 2, none⟩ = some (.int .i64 ts[k].1) ∧ w.cell? ⟨b, off + k * 2 + 1, none⟩ = some (.int .i64 ts[k].2)

/-- A slice value at A reads as a list of numbers. -/
def RdI (w : World) (A : Option Addr) (xs : List Int) : Prop :=
  ∃ b off, (xs ≠ [] → A = some ⟨b, off, none⟩) ∧ ∀ k (h : k < xs.length), w.cell? ⟨b, off + k, none⟩ = some (.int .i64 xs[k])

theorem block_lt {w : World} {a : Addr} {v : Value} (h : w.cell? a = some v) : a.block < w.heap.size := World.block_lt_of_cell? _ _ h

section
variable {w w' : World} {A : Option Addr} {ts : List (Int × Int)} {xs : List Int}

theorem RdT.at_ (h : RdT w A ts) {k : Nat} (hk : k < ts.length) : ∃ b off, A = some ⟨b, off, none⟩ ∧ b < w.heap.size ∧
    ∀ k (h : k < ts.length), w.cell? ⟨b, off + k * 2, none⟩ = some (.int .i64 ts[k].1) ∧ w.cell? ⟨b, off + k * 2 + 1, none⟩ = some (.int .i64 ts[k].2) := by
  obtain ⟨b, off, h1, h2⟩ := h
  exact ⟨b, off, h1 (by rintro rfl; simp at hk), block_lt (h2 k hk).1, h2⟩
theorem RdI.at_ (h : RdI w A xs) {k : Nat} (hk : k < xs.length) : ∃ b off, A = some ⟨b, off, none⟩ ∧ b < w.heap.size ∧ ∀ k (h : k < xs.length), w.cell? ⟨b, off + k, none⟩ = some (.int .i64 xs[k]) := by
  obtain ⟨b, off, h1, h2⟩ := h
  exact ⟨b, off, h1 (by rintro rfl; simp at hk), block_lt (h2 k hk), h2⟩
theorem RdT.nil_ : RdT w A [] := ⟨0, 0, fun h => absurd rfl h, fun k h => by simp at h⟩
theorem RdI.nil_ : RdI w A [] := ⟨0, 0, fun h => absurd rfl h, fun k h => by simp at h⟩
theorem RdT.keep {B : Nat} (h : RdT w A ts) (hb : Below B w w') (hB : ∀ a, A = some a → a.block < B) : RdT w' A ts := by
  obtain ⟨b, off, h1, h2⟩ := h
  refine ⟨b, off, h1, fun k hk => ?_⟩
  have hlt : b < B := hB _ (h1 (by rintro rfl; simp at hk))
  exact ⟨(hb.cell (p := ⟨b, _, none⟩) hlt).trans (h2 k hk).1, (hb.cell (p := ⟨b, _, none⟩) hlt).trans (h2 k hk).2⟩
theorem RdI.keep {B : Nat} (h : RdI w A xs) (hb : Below B w w') (hB : ∀ a, A = some a → a.block < B) : RdI w' A xs := by
  obtain ⟨b, off, h1, h2⟩ := h
  refine ⟨b, off, h1, fun k hk => ?_⟩
  have hlt : b < B := hB _ (h1 (by rintro rfl; simp at hk))
  exact (hb.cell (p := ⟨b, _, none⟩) hlt).trans (h2 k hk)
theorem RdT.below (h : RdT w A ts) (hb : Below w.heap.size w w') : RdT w' A ts := by
  obtain ⟨b, off, h1, h2⟩ := h
  exact ⟨b, off, h1, fun k hk => ⟨(hb.cell (block_lt (h2 k hk).1)).trans (h2 k hk).1, (hb.cell (block_lt (h2 k hk).2)).trans (h2 k hk).2⟩⟩
theorem RdI.below (h : RdI w A xs) (hb : Below w.heap.size w w') : RdI w' A xs := by
  obtain ⟨b, off, h1, h2⟩ := h
  exact ⟨b, off, h1, fun k hk => (hb.cell (block_lt (h2 k hk))).trans (h2 k hk)⟩
end

/-- The cells of a list of tiles. -/
def cellsT (ts : List (Int × Int)) : List Value := ts.flatMap fun t => [.int .i64 t.1, .int .i64 t.2]
def cellsI (xs : List Int) : List Value := xs.map (Value.int .i64)

theorem cellsT_nil : cellsT [] = [] := rfl
theorem cellsT_cons (t : Int × Int) (ts : List (Int × Int)) : cellsT (t :: ts) = .int .i64 t.1 :: .int .i64 t.2 :: cellsT ts := rfl
theorem cellsT_append (xs ys : List (Int × Int)) : cellsT (xs ++ ys) = cellsT xs ++ cellsT ys := by simp [cellsT]
theorem cellsT_length (ts : List (Int × Int)) : (cellsT ts).length = ts.length * 2 := by
  induction ts with
  | nil => rfl
  | cons t ts ih => simp [cellsT_cons, ih]; omega
theorem cellsT_get (ts : List (Int × Int)) : ∀ (k : Nat) (h : k < ts.length), (cellsT ts)[k * 2]? = some (.int .i64 ts[k].1) ∧ (cellsT ts)[k * 2 + 1]? = some (.int .i64 ts[k].2) := by
  induction ts with
  | nil => intro k h; simp at h
  | cons t ts ih =>
    intro k h
    cases k with
    | zero => simp [cellsT_cons]
    | succ k =>
      have := ih k (by simpa using h)
      rw [cellsT_cons, show (k + 1) * 2 = k * 2 + 1 + 1 from by omega, show k * 2 + 1 + 1 + 1 = (k * 2 + 1) + 1 + 1 from rfl]
      simpa using this
theorem cellsT_one (ts : List (Int × Int)) : ∀ u ∈ cellsT ts, u.oneCell' = true := by
  induction ts with
  | nil => intro u h; simp [cellsT_nil] at h
  | cons t ts ih =>
    intro u h
    rw [cellsT_cons, List.mem_cons, List.mem_cons] at h
    rcases h with rfl | rfl | h
    · rfl
    · rfl
    · exact ih u h
theorem cellsT_set (xs ys : List (Int × Int)) (t : Int × Int) (a b : Int) : ((cellsT (xs ++ t :: ys)).set (xs.length * 2) (.int .i64 a)).set (xs.length * 2 + 1) (.int .i64 b) = cellsT (xs ++ (a, b) :: ys) := by
  simp only [cellsT_append, cellsT_cons]
  have h1 : xs.length * 2 = (cellsT xs).length := (cellsT_length xs).symm
  rw [h1, List.set_append_right _ _ (Nat.le_refl _), Nat.sub_self, List.set_append_right _ _ (by omega), show (cellsT xs).length + 1 - (cellsT xs).length = 1 from by omega]
  rfl
theorem cellsI_length (xs : List Int) : (cellsI xs).length = xs.length := by simp [cellsI]
theorem cellsI_one (xs : List Int) : ∀ u ∈ cellsI xs, u.oneCell' = true := ints_oneCell .i64 xs
theorem cellsI_append (xs ys : List Int) : cellsI (xs ++ ys) = cellsI xs ++ cellsI ys := by simp [cellsI]

section
variable {w w' : World} {base n c : Nat} {A : Option Addr} {ts : List (Int × Int)} {xs : List Int}
theorem RdT.of_own {e : Nat} (h : w.ownsRow base e 2 (.slice A ts.length c) n (cellsT ts)) : RdT w A ts := by
  have h0 := h
  obtain ⟨_, ⟨hv, hn⟩ | ⟨g, cap, cur, hv, _⟩⟩ := h0
  · injection hv with h1 h2 h3
    have : ts = [] := List.eq_nil_of_length_eq_zero h2
    subst this
    exact RdT.nil_
  · injection hv with h1 h2 h3
    subst h1
    refine ⟨g, 0, fun _ => rfl, fun k hk => ?_⟩
    have h := World.ownsRow.cells h (g := g) rfl
    have hg := cellsT_get ts k hk
    have e1 := h _ _ hg.1
    have e2 := h _ _ hg.2
    simp only [Addr.add] at e1 e2
    refine ⟨?_, ?_⟩
    · rw [← e1]
      by_cases hz : k * 2 = 0 <;> simp [hz]
    · rw [← e2]
      simp
theorem RdI.of_own {e : Nat} (h : w.ownsRow base e 1 (.slice A xs.length c) n (cellsI xs)) : RdI w A xs := by
  have h0 := h
  obtain ⟨_, ⟨hv, hn⟩ | ⟨g, cap, cur, hv, _⟩⟩ := h0
  · injection hv with h1 h2 h3
    have : xs = [] := List.eq_nil_of_length_eq_zero h2
    subst this
    exact RdI.nil_
  · injection hv with h1 h2 h3
    subst h1
    refine ⟨g, 0, fun _ => rfl, fun k hk => ?_⟩
    have h := World.ownsRow.cells h (g := g) rfl
    have e1 := h k (.int .i64 xs[k]) (by simp [cellsI, hk])
    simp only [Addr.add] at e1
    rw [← e1]
    by_cases hz : k = 0 <;> simp [hz]
/-- An owned row stays while only other blocks change. -/
theorem own_below {e B size : Nat} {v : Value} {cs : List Value} (h : w.ownsRow base e size v n cs) (hb : Below B w w') (hB : ∀ g, v.ownBlock = some g → g < B) : w'.ownsRow base e size v n cs := by
  obtain ⟨h1, h2⟩ := h
  refine ⟨h1, ?_⟩
  rcases h2 with h2 | ⟨g, cap, cur, hv, hg, hh, r⟩
  · exact .inl h2
  · exact .inr ⟨g, cap, cur, hv, hg, (hb.block g (hB g (by subst hv; rfl))).trans hh, r⟩
theorem own_keep {e size : Nat} {v : Value} {cs : List Value} (h : w.ownsRow base e size v n cs) (hb : Below w.heap.size w w') : w'.ownsRow base e size v n cs :=
  own_below h hb (fun g hg => (h.lt g hg).2)
theorem own_base {e b' size : Nat} {v : Value} {cs : List Value} (h : w.ownsRow base e size v n cs) (hb : b' ≤ base) : w.ownsRow b' e size v n cs := by
  obtain ⟨h1, h2⟩ := h
  refine ⟨h1, ?_⟩
  rcases h2 with h2 | ⟨g, cap, cur, hv, hg, r⟩
  · exact .inl h2
  · exact .inr ⟨g, cap, cur, hv, by omega, r⟩
end

/-- Two rows of which one was made behind the other lie apart. -/
theorem own_apart1 {w : World} {B e size n : Nat} {X Y : Value} {ys : List Value} (hx : ∀ g, X.ownBlock = some g → g < B) (hy : w.ownsRow B e size Y n ys) : Y.ownBlock = none ∨ Y.ownBlock ≠ X.ownBlock := by
  cases hX : Y.ownBlock with
  | none => exact .inl rfl
  | some g => exact .inr fun h => by have h1 := (hy.lt g hX).1; have h2 := hx g h.symm; omega
theorem own_apart2 {w : World} {B e size n : Nat} {X Y : Value} {ys : List Value} (hx : ∀ g, X.ownBlock = some g → g < B) (hy : w.ownsRow B e size Y n ys) : X.ownBlock = none ∨ X.ownBlock ≠ Y.ownBlock := by
  cases hX : X.ownBlock with
  | none => exact .inl rfl
  | some g => exact .inr fun h => by have h1 := (hy.lt g h.symm).1; have h2 := hx g hX; omega

theorem grown_set {a w : World} {g : Nat} (h : a.grownBy w (some g)) (j : Nat) (u : Value) : a.grownBy (w.setCell ⟨g, j, none⟩ u) (some g) :=
  ⟨h.os, h.tape, h.output, by simpa [World.setCell] using h.size, fun k hk hne => (Below.heap_setCell w ⟨g, j, none⟩ u k (fun e => hne (by rw [e]))).trans (h.block k hk hne)⟩
theorem grown_drew {a w : World} {r : Option Nat} (h : a.grownBy w r) : a.grownBy w.drew r := ⟨h.os, h.tape, h.output, h.size, h.block⟩
/-- What one block's turning leaves below it. -/
theorem below_of_grown {w w' : World} {r : Option Nat} {B : Nat} (h : w.grownBy w' r) (hB : B ≤ w.heap.size) (hr : ∀ g, r = some g → B ≤ g) : Below B w w' :=
  (Below.refl B w).grown h hB hr

/-- The first k of n tiles marked from q on. -/
def markL (q : Int) (k : Nat) (ts : List (Int × Int)) : List (Int × Int) := (List.range k).map (fun i : Nat => (q + 2 * (i : Int), q + 2 * (i : Int) + 1)) ++ ts.drop k
theorem markL_zero (q : Int) (ts : List (Int × Int)) : markL q 0 ts = ts := by simp [markL]
theorem markL_length (q : Int) {k : Nat} {ts : List (Int × Int)} (h : k ≤ ts.length) : (markL q k ts).length = ts.length := by simp [markL]; omega
theorem markL_step (q : Int) {k : Nat} {ts : List (Int × Int)} (h : k < ts.length) :
    ((cellsT (markL q k ts)).set (k * 2) (.int .i64 (q + 2 * (k : Int)))).set (k * 2 + 1) (.int .i64 (q + 2 * (k : Int) + 1)) = cellsT (markL q (k + 1) ts) := by
  have h1 := cellsT_set ((List.range k).map (fun i : Nat => (q + 2 * (i : Int), q + 2 * (i : Int) + 1))) (ts.drop (k + 1)) ts[k] (q + 2 * (k : Int)) (q + 2 * (k : Int) + 1)
  simp only [List.length_map, List.length_range] at h1
  unfold markL
  rw [List.drop_eq_getElem_cons h, h1, List.range_succ, List.map_append]
  simp
/-- All n tiles marked: what 'held' looks for. -/
def marks (q : Int) (n : Nat) : List (Int × Int) := (List.range n).map fun i : Nat => (q + 2 * (i : Int), q + 2 * (i : Int) + 1)
theorem markL_all (q : Int) (ts : List (Int × Int)) : markL q ts.length ts = marks q ts.length := by simp [markL, marks]
theorem marks_length (q : Int) (n : Nat) : (marks q n).length = n := by simp [marks]
theorem marks_get (q : Int) (n k : Nat) (h : k < (marks q n).length) : (marks q n)[k] = (q + 2 * (k : Int), q + 2 * (k : Int) + 1) := by simp [marks]

def markI (q : Int) (k : Nat) (xs : List Int) : List Int := (List.range k).map (fun i : Nat => q + (i : Int)) ++ xs.drop k
theorem markI_zero (q : Int) (xs : List Int) : markI q 0 xs = xs := by simp [markI]
theorem markI_length (q : Int) {k : Nat} {xs : List Int} (h : k ≤ xs.length) : (markI q k xs).length = xs.length := by simp [markI]; omega
theorem markI_step (q : Int) {k : Nat} {xs : List Int} (h : k < xs.length) : (cellsI (markI q k xs)).set k (.int .i64 (q + (k : Int))) = cellsI (markI q (k + 1) xs) := by
  unfold markI cellsI
  rw [List.drop_eq_getElem_cons h, List.range_succ, List.map_append, List.map_append, List.map_cons, List.set_append_right _ _ (by simp)]
  simp
def marksI (q : Int) (n : Nat) : List Int := (List.range n).map fun i : Nat => q + (i : Int)
theorem markI_all (q : Int) (xs : List Int) : markI q xs.length xs = marksI q xs.length := by simp [markI, marksI]
theorem marksI_length (q : Int) (n : Nat) : (marksI q n).length = n := by simp [marksI]
theorem marksI_get (q : Int) (n k : Nat) (h : k < (marksI q n).length) : (marksI q n)[k] = q + (k : Int) := by simp [marksI]

/-- The first k of a list copied, behind them nothing but zeros. -/
def copyL (k : Nat) (ts : List (Int × Int)) : List (Int × Int) := ts.take k ++ List.replicate (ts.length - k) (0, 0)
theorem copyL_all (ts : List (Int × Int)) : copyL ts.length ts = ts := by simp [copyL]
theorem copyL_length {k : Nat} {ts : List (Int × Int)} (h : k ≤ ts.length) : (copyL k ts).length = ts.length := by simp [copyL]; omega
theorem copyL_zero (ts : List (Int × Int)) : cellsT (copyL 0 ts) = (madeCells (Value.agg #[.int .i64 0, .int .i64 0]).cells (ts.length * 2)).toList := by
  simp only [copyL, List.take_zero, List.nil_append, Nat.sub_zero]
  apply List.ext_getElem?
  intro j
  rcases Nat.lt_or_ge j (ts.length * 2) with hj | hj
  · have h1 : j / 2 < (List.replicate ts.length ((0 : Int), (0 : Int))).length := by simp; omega
    have h2 := cellsT_get (List.replicate ts.length ((0 : Int), (0 : Int))) (j / 2) h1
    have h3 : j % 2 = 0 ∨ j % 2 = 1 := by omega
    have hr : (madeCells (Value.agg #[.int .i64 0, .int .i64 0]).cells (ts.length * 2)).toList[j]? = some (.int .i64 0) := by
      rcases h3 with h3 | h3 <;> simp [madeCells, hj, Value.cells, h3]
    rw [hr]
    rcases h3 with h3 | h3
    · rw [show j = j / 2 * 2 from by omega, h2.1]; simp
    · rw [show j = j / 2 * 2 + 1 from by omega, h2.2]; simp
  · rw [List.getElem?_eq_none (by rw [cellsT_length]; simp; omega), List.getElem?_eq_none (by simp [madeCells]; omega)]
theorem copyL_step {k : Nat} {ts : List (Int × Int)} (h : k < ts.length) :
    ((cellsT (copyL k ts)).set (k * 2) (.int .i64 ts[k].1)).set (k * 2 + 1) (.int .i64 ts[k].2) = cellsT (copyL (k + 1) ts) := by
  have h1 := cellsT_set (ts.take k) (List.replicate (ts.length - (k + 1)) (0, 0)) (0, 0) ts[k].1 ts[k].2
  rw [List.length_take, Nat.min_eq_left (by omega)] at h1
  unfold copyL
  rw [show ts.length - k = (ts.length - (k + 1)) + 1 from by omega, List.replicate_succ, h1, List.take_succ_eq_append_getElem h]
  simp only [List.append_assoc, List.cons_append, List.nil_append]
def copyI (k : Nat) (xs : List Int) : List Int := xs.take k ++ List.replicate (xs.length - k) 0
theorem copyI_all (xs : List Int) : copyI xs.length xs = xs := by simp [copyI]
theorem copyI_length {k : Nat} {xs : List Int} (h : k ≤ xs.length) : (copyI k xs).length = xs.length := by simp [copyI]; omega
theorem copyI_zero (xs : List Int) : cellsI (copyI 0 xs) = (madeCells (Value.int .i64 0).cells (xs.length * 1)).toList := by
  rw [Nat.mul_one]
  exact (by simp [copyI, cellsI] : cellsI (copyI 0 xs) = List.replicate xs.length (Value.int .i64 0)).trans (toList_madeCells_one (.int .i64 0) xs.length).symm
theorem copyI_step {k : Nat} {xs : List Int} (h : k < xs.length) : (cellsI (copyI k xs)).set k (.int .i64 xs[k]) = cellsI (copyI (k + 1) xs) := by
  unfold copyI cellsI
  rw [show xs.length - k = (xs.length - (k + 1)) + 1 from by omega, List.replicate_succ, List.map_append, List.map_cons, List.take_succ_eq_append_getElem h, List.map_append, List.map_append]
  rw [List.set_append_right _ _ (by simp; omega)]
  simp [Nat.min_eq_left (Nat.le_of_lt h)]

theorem rdmarksT {w : World} {base n c : Nat} {A : Option Addr} {q : Int} (h : w.ownsRow base 50 2 (.slice A n c) n (cellsT (marks q n))) : RdT w A (marks q n) :=
  RdT.of_own (base := base) (c := c) (n := n) (e := 50) (by rw [marks_length]; exact h)
theorem rdmarksI {w : World} {base n c : Nat} {A : Option Addr} {q : Int} (h : w.ownsRow base 3 1 (.slice A n c) n (cellsI (marksI q n))) : RdI w A (marksI q n) :=
  RdI.of_own (base := base) (c := c) (n := n) (e := 3) (by rw [marksI_length]; exact h)

/-- A new slice of tiles comes back. -/
def RetL (w : World) (ts : List (Int × Int)) (e : Ending) (w' : World) : Prop :=
  ∃ A c, e = .returned (.slice A ts.length c) ∧ w'.ownsRow w.heap.size 50 2 (.slice A ts.length c) ts.length (cellsT ts) ∧ Below w.heap.size w w'
/-- .. and a bool. -/
def RetT (w : World) (ts : List (Int × Int)) (ok : Bool) (e : Ending) (w' : World) : Prop :=
  ∃ A c, e = .returned (.tuple #[.slice A ts.length c, .bool ok]) ∧ w'.ownsRow w.heap.size 50 2 (.slice A ts.length c) ts.length (cellsT ts) ∧ Below w.heap.size w w'
/-- A new slice of numbers comes back. -/
def RetN (w : World) (xs : List Int) (e : Ending) (w' : World) : Prop :=
  ∃ A c, e = .returned (.slice A xs.length c) ∧ w'.ownsRow w.heap.size 3 1 (.slice A xs.length c) xs.length (cellsI xs) ∧ Below w.heap.size w w'
def RetI (w : World) (xs : List Int) (ok : Bool) (e : Ending) (w' : World) : Prop :=
  ∃ A c, e = .returned (.tuple #[.slice A xs.length c, .bool ok]) ∧ w'.ownsRow w.heap.size 3 1 (.slice A xs.length c) xs.length (cellsI xs) ∧ Below w.heap.size w w'

/-- The place of a tile in a list, or -1. -/
def placeI (ts : List (Int × Int)) (t : Int × Int) : Int := if t ∈ ts then (ts.idxOf t : Int) else -1
theorem placeI_found {ts : List (Int × Int)} {t : Int × Int} {k : Nat} (hk : k < ts.length) (h : ts[k] = t) (hn : ∀ j (hj : j < ts.length), j < k → ts[j] ≠ t) : placeI ts t = k := by
  have hm : t ∈ ts := h ▸ List.getElem_mem hk
  unfold placeI
  rw [if_pos hm]
  have h1 : ts.idxOf t < ts.length := List.idxOf_lt_length_iff.2 hm
  have h2 : ts[ts.idxOf t] = t := List.getElem_idxOf h1
  have h3 : ts.idxOf t ≤ k := by
    rcases Nat.lt_or_ge k (ts.idxOf t) with hlt | hge
    · have := List.not_of_lt_findIdx (xs := ts) (p := fun x => x == t) (i := k) (by simpa [List.idxOf] using hlt)
      simp [h] at this
    · exact hge
  rcases Nat.lt_or_ge (ts.idxOf t) k with hlt | hge
  · exact absurd h2 (hn _ h1 hlt)
  · omega
theorem placeI_none {ts : List (Int × Int)} {t : Int × Int} (hn : ∀ j (hj : j < ts.length), ts[j] ≠ t) : placeI ts t = -1 := by
  unfold placeI
  rw [if_neg]
  intro hm
  obtain ⟨j, hj, h⟩ := List.getElem_of_mem hm
  exact hn j hj h
theorem placeI_nonneg {ts : List (Int × Int)} {t : Int × Int} : (0 ≤ placeI ts t) ↔ t ∈ ts := by
  unfold placeI
  split <;> simp_all
end Go.Proofs.Ytbanpgifhnbjoaa

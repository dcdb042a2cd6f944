/- Slices of slices that a call owns: an outer row and inner rows, no two in one block; what the laws' own functions do with them. -/
import Derived.Test.YtbanpgifhnbjoaaHelp
import Derived.Maps.AppendAt
namespace Go.Proofs.Ytbanpgifhnbjoaa
open Go.RowKit
set_option linter.unusedVariables false

theorem gd1 {w : World} (a : Addr) {v : Value} (h : w.cell? a = some v) : w.drew.cell? a = some v := h

def Apart (u v : Value) : Prop := u.ownBlock = none ∨ u.ownBlock ≠ v.ownBlock
theorem Apart.of_lt {u v : Value} {m : Nat} (hu : ∀ g, u.ownBlock = some g → g < m) (hv : ∀ g, v.ownBlock = some g → m ≤ g) : Apart u v := by
  cases h : u.ownBlock with
  | none => exact .inl h
  | some g => exact .inr fun e => by have h1 := hu g h; have h2 := hv g (by rw [← e]; exact h); omega
theorem Apart.of_gt {u v : Value} {m : Nat} (hu : ∀ g, u.ownBlock = some g → m ≤ g) (hv : ∀ g, v.ownBlock = some g → g < m) : Apart u v := by
  cases h : u.ownBlock with
  | none => exact .inl h
  | some g => exact .inr fun e => by have h1 := hu g h; have h2 := hv g (by rw [← e]; exact h); omega
theorem Apart.symm {u v : Value} (h : Apart u v) (hs : u.ownBlock ≠ none ∨ v.ownBlock = none) : Apart v u := by
  rcases h with h | h
  · rcases hs with hs | hs
    · exact absurd h hs
    · exact .inl hs
  · exact .inr (Ne.symm h)

def rowV {α : Type} (B : Nat → Option Addr) (d : Nat → Nat) (tss : List (List α)) (k : Nat) : Value := .slice (B k) (tss.getD k []).length (d k)

section
variable {α : Type} {oe e sz : Nat} {cells : List α → List Value}

def OwnRR (oe e sz : Nat) (cells : List α → List Value) (w : World) (lo hi : Nat) (v : Value) (tss : List (List α)) : Prop :=
  ∃ B d, w.ownsRow lo oe 1 v tss.length ((List.range tss.length).map (rowV B d tss)) ∧ (∀ g, v.ownBlock = some g → g < hi) ∧
    (∀ k, k < tss.length → w.ownsRow lo e sz (rowV B d tss k) (tss.getD k []).length (cells (tss.getD k [])) ∧ (∀ g, (rowV B d tss k).ownBlock = some g → g < hi) ∧ Apart (rowV B d tss k) v) ∧
    (∀ j k, j < k → k < tss.length → Apart (rowV B d tss j) (rowV B d tss k))

variable {w w' : World} {lo hi : Nat} {v : Value} {tss : List (List α)}
theorem OwnRR.nil (w : World) (lo hi : Nat) : OwnRR oe e sz cells w lo hi (.slice none 0 0) [] :=
  ⟨fun _ => none, fun _ => 0, World.ownsRow_nil _ _ _ _, fun g h => by simp [Value.ownBlock] at h, fun k h => by simp at h, fun j k _ h => by simp at h⟩
theorem OwnRR.below {N : Nat} (h : OwnRR oe e sz cells w lo hi v tss) (hb : Below N w w') (hN : hi ≤ N) : OwnRR oe e sz cells w' lo hi v tss := by
  obtain ⟨B, d, h1, h2, h3, h4⟩ := h
  exact ⟨B, d, own_below h1 hb (fun g hg => Nat.lt_of_lt_of_le (h2 g hg) hN), h2, fun k hk => ⟨own_below (h3 k hk).1 hb (fun g hg => Nat.lt_of_lt_of_le ((h3 k hk).2.1 g hg) hN), (h3 k hk).2⟩, h4⟩
theorem OwnRR.base {lo' : Nat} (h : OwnRR oe e sz cells w lo hi v tss) (hb : lo' ≤ lo) : OwnRR oe e sz cells w lo' hi v tss := by
  obtain ⟨B, d, h1, h2, h3, h4⟩ := h
  exact ⟨B, d, own_base h1 hb, h2, fun k hk => ⟨own_base (h3 k hk).1 hb, (h3 k hk).2⟩, h4⟩
theorem OwnRR.top {hi' : Nat} (h : OwnRR oe e sz cells w lo hi v tss) (hb : hi ≤ hi') : OwnRR oe e sz cells w lo hi' v tss := by
  obtain ⟨B, d, h1, h2, h3, h4⟩ := h
  exact ⟨B, d, h1, fun g hg => Nat.lt_of_lt_of_le (h2 g hg) hb, fun k hk => ⟨(h3 k hk).1, fun g hg => Nat.lt_of_lt_of_le ((h3 k hk).2.1 g hg) hb, (h3 k hk).2.2⟩, h4⟩
/-- It lies below the heap's end. -/
theorem OwnRR.fit (h : OwnRR oe e sz cells w lo hi v tss) : OwnRR oe e sz cells w lo w.heap.size v tss := by
  obtain ⟨B, d, h1, h2, h3, h4⟩ := h
  exact ⟨B, d, h1, fun g hg => (h1.lt g hg).2, fun k hk => ⟨(h3 k hk).1, fun g hg => ((h3 k hk).1.lt g hg).2, (h3 k hk).2.2⟩, h4⟩
theorem OwnRR.keep (h : OwnRR oe e sz cells w lo hi v tss) (hb : Below w.heap.size w w') : OwnRR oe e sz cells w' lo w'.heap.size v tss :=
  (h.fit.below hb (Nat.le_refl _)).fit
theorem OwnRR.kept {row : Option Nat} (h : OwnRR oe e sz cells w lo hi v tss) (hg : w.grownBy w' row) (hne : ∀ g, row = some g → g < lo ∨ hi ≤ g) : OwnRR oe e sz cells w' lo hi v tss := by
  obtain ⟨B, d, h1, h2, h3, h4⟩ := h
  have ap : ∀ (u : Value), (∀ g, u.ownBlock = some g → lo ≤ g ∧ g < hi) → u.ownBlock = none ∨ u.ownBlock ≠ row := fun u hu => by
    cases hu' : u.ownBlock with
    | none => exact .inl rfl
    | some g => exact .inr fun e => by have h1 := hu g hu'; have h2 := hne g e.symm; omega
  exact ⟨B, d, h1.kept hg (ap _ fun g hg => ⟨(h1.lt g hg).1, h2 g hg⟩), h2, fun k hk => ⟨(h3 k hk).1.kept hg (ap _ fun g hg => ⟨((h3 k hk).1.lt g hg).1, (h3 k hk).2.1 g hg⟩), (h3 k hk).2⟩, h4⟩
theorem OwnRR.lt (h : OwnRR oe e sz cells w lo hi v tss) : ∀ g, v.ownBlock = some g → lo ≤ g ∧ g < w.heap.size := by
  obtain ⟨B, d, h1, _⟩ := h
  exact h1.lt
theorem OwnRR.form (h : OwnRR oe e sz cells w lo hi v tss) : ∃ A c, v = .slice A tss.length c := by
  obtain ⟨B, d, h1, _⟩ := h
  rcases h1.2 with ⟨hv, hn⟩ | ⟨g, cap, cur, rfl, _⟩
  · exact ⟨none, 0, by rw [hv, hn]⟩
  · exact ⟨_, cap, rfl⟩

/-- A row made behind it lies apart from its outer row. -/
theorem OwnRR.away {e' size n : Nat} {u : Value} {xs : List Value} (h : OwnRR oe e sz cells w lo hi v tss) (ho : w.ownsRow hi e' size u n xs) : u.ownBlock = none ∨ u.ownBlock ≠ v.ownBlock := by
  obtain ⟨B, d, h1, h2, _⟩ := h
  exact Apart.of_gt (u := u) (v := v) (m := hi) (fun g hg => (ho.lt g hg).1) h2

theorem OwnRR.push {lo2 : Nat} {A : Option Addr} {c : Nat} {ts : List α} {v' : Value} (h : OwnRR oe e sz cells w lo hi v tss) (hrow : w.ownsRow lo2 e sz (.slice A ts.length c) ts.length (cells ts)) (hlo : lo ≤ lo2) (hhi : hi ≤ lo2)
    (hnew : ∀ xs, w.ownsRow lo oe 1 v tss.length xs → w'.ownsRow lo oe 1 v' (tss.length + 1) (xs ++ [.slice A ts.length c])) (hg : w.grownBy w' v.ownBlock) (hat : v'.ownBlock = v.ownBlock ∨ v'.ownBlock = some w.heap.size) :
    OwnRR oe e sz cells w' lo w'.heap.size v' (tss ++ [ts]) := by
  obtain ⟨B, d, h1, h2, h3, h4⟩ := h
  have hu : ∀ g, (Value.slice A ts.length c).ownBlock = some g → lo2 ≤ g ∧ g < w.heap.size := hrow.lt
  have new := hnew _ h1
  have eold : ∀ k, k < tss.length → rowV (fun k => if k < tss.length then B k else A) (fun k => if k < tss.length then d k else c) (tss ++ [ts]) k = rowV B d tss k := fun k hk => by
    simp [rowV, hk, List.getElem?_append_left hk]
  have elast : rowV (fun k => if k < tss.length then B k else A) (fun k => if k < tss.length then d k else c) (tss ++ [ts]) tss.length = .slice A ts.length c := by
    simp [rowV]
  have gold : ∀ k, k < tss.length → (tss ++ [ts]).getD k [] = tss.getD k [] := fun k hk => by simp [List.getElem?_append_left hk]
  have glast : (tss ++ [ts]).getD tss.length [] = ts := by simp
  have aprow : ∀ k, k < tss.length → Apart (rowV B d tss k) v' := fun k hk => by
    rcases hat with e0 | e0
    · have := (h3 k hk).2.2
      unfold Apart at *
      rw [e0]; exact this
    · exact Apart.of_lt (m := w.heap.size) (fun g hg => ((h3 k hk).1.lt g hg).2) (fun g hg => by rw [e0] at hg; injection hg with hg; omega)
  have apu : Apart (.slice A ts.length c) v' := by
    rcases hat with e0 | e0
    · exact Apart.of_gt (m := hi) (fun g hg => by have := (hu g hg).1; omega) (fun g hg => h2 g (by rw [← e0]; exact hg))
    · exact Apart.of_lt (m := w.heap.size) (fun g hg => (hu g hg).2) (fun g hg => by rw [e0] at hg; injection hg with hg; omega)
  have apold : ∀ k, k < tss.length → (rowV B d tss k).ownBlock = none ∨ (rowV B d tss k).ownBlock ≠ v.ownBlock := fun k hk => (h3 k hk).2.2
  have apu0 : (Value.slice A ts.length c).ownBlock = none ∨ (Value.slice A ts.length c).ownBlock ≠ v.ownBlock :=
    Apart.of_gt (u := .slice A ts.length c) (v := v) (m := hi) (fun g hg => by have := (hu g hg).1; omega) h2
  have hk' : ∀ g, v'.ownBlock = some g → g < w'.heap.size := fun g hg => (new.lt g hg).2
  refine ⟨fun k => if k < tss.length then B k else A, fun k => if k < tss.length then d k else c, ?_, hk', fun k hk => ?_, fun j k hjk hk => ?_⟩
  · have e0 : (List.range (tss ++ [ts]).length).map (rowV (fun k => if k < tss.length then B k else A) (fun k => if k < tss.length then d k else c) (tss ++ [ts])) = (List.range tss.length).map (rowV B d tss) ++ [.slice A ts.length c] := by
      rw [List.length_append, List.length_singleton, List.range_succ, List.map_append, List.map_singleton, elast]
      congr 1
      exact List.map_congr_left fun k hk => eold k (List.mem_range.1 hk)
    rw [e0, List.length_append]
    exact new
  · rw [List.length_append, List.length_singleton] at hk
    rcases Nat.lt_or_ge k tss.length with hlt | hge
    · rw [eold k hlt, gold k hlt]
      exact ⟨(h3 k hlt).1.kept hg (apold k hlt), fun g hg' => Nat.lt_of_lt_of_le ((h3 k hlt).1.lt g hg').2 hg.size, aprow k hlt⟩
    · have : k = tss.length := by omega
      subst this
      rw [elast, glast]
      exact ⟨own_base (hrow.kept hg apu0) hlo, fun g hg' => Nat.lt_of_lt_of_le (hu g hg').2 hg.size, apu⟩
  · rw [List.length_append, List.length_singleton] at hk
    rcases Nat.lt_or_ge k tss.length with hlt | hge
    · rw [eold k hlt, eold j (by omega)]
      exact h4 j k hjk hlt
    · have : k = tss.length := by omega
      subst this
      rw [elast, eold j hjk]
      exact Apart.of_lt (m := hi) (fun g hg => (h3 j hjk).2.1 g hg) (fun g hg => by have := (hu g hg).1; omega)

/-- One inner row written anew. -/
theorem OwnRR.put {k : Nat} {ts : List α} {B : Nat → Option Addr} {d : Nat → Nat} (hk : k < tss.length) (hl : ts.length = (tss.getD k []).length)
    (h1 : w.ownsRow lo oe 1 v tss.length ((List.range tss.length).map (rowV B d tss))) (h2 : ∀ g, v.ownBlock = some g → g < hi)
    (h3 : ∀ k, k < tss.length → w.ownsRow lo e sz (rowV B d tss k) (tss.getD k []).length (cells (tss.getD k [])) ∧ (∀ g, (rowV B d tss k).ownBlock = some g → g < hi) ∧ Apart (rowV B d tss k) v)
    (h4 : ∀ j k, j < k → k < tss.length → Apart (rowV B d tss j) (rowV B d tss k))
    (hrow : w'.ownsRow lo e sz (rowV B d tss k) ts.length (cells ts)) (hg : w.grownBy w' (rowV B d tss k).ownBlock) : OwnRR oe e sz cells w' lo hi v (tss.set k ts) := by
  have eg : ∀ j, j < tss.length → ((tss.set k ts).getD j []).length = (tss.getD j []).length := fun j hj => by
    by_cases e0 : k = j
    · subst e0; simp [hj]; simpa [hj] using hl
    · simp [List.getElem?_set_ne e0]
  have er : ∀ j, j < tss.length → rowV B d (tss.set k ts) j = rowV B d tss j := fun j hj => by unfold rowV; rw [eg j hj]
  have len : (tss.set k ts).length = tss.length := by simp
  refine ⟨B, d, ?_, h2, fun j hj => ?_, fun i j hij hj => ?_⟩
  · rw [len, show (List.range tss.length).map (rowV B d (tss.set k ts)) = (List.range tss.length).map (rowV B d tss) from List.map_congr_left fun j hj => er j (List.mem_range.1 hj)]
    refine h1.kept hg ?_
    cases hv : v.ownBlock with
    | none => exact .inl rfl
    | some g =>
      rcases (h3 k hk).2.2 with h | h
      · exact .inr (by rw [h]; simp)
      · exact .inr (by rw [← hv]; exact Ne.symm h)
  · rw [len] at hj
    rw [er j hj]
    by_cases e0 : k = j
    · subst e0
      rw [show (tss.set k ts).getD k [] = ts from by simp [hj]]
      exact ⟨hrow, (h3 k hj).2.1, (h3 k hj).2.2⟩
    · rw [show (tss.set k ts).getD j [] = tss.getD j [] from by simp [List.getElem?_set_ne e0]]
      refine ⟨(h3 j hj).1.kept hg ?_, (h3 j hj).2⟩
      rcases Nat.lt_or_ge j k with hlt | hge
      · exact h4 j k hlt hk
      · rcases h4 k j (by omega) hj with h | h
        · cases hv : (rowV B d tss j).ownBlock with
          | none => exact .inl rfl
          | some g => exact .inr (by rw [h]; simp)
        · exact .inr (Ne.symm h)
  · rw [len] at hj
    rw [er i (by omega), er j hj]
    exact h4 i j hij hj

/-- A slice value at A reads as a list of lists. -/
def RdRR (Rd : World → Option Addr → List α → Prop) (w : World) (A : Option Addr) (tss : List (List α)) : Prop :=
  ∃ (b off : Nat) (B : Nat → Option Addr) (d : Nat → Nat), (tss ≠ [] → A = some ⟨b, off, none⟩) ∧ ∀ k, k < tss.length → w.cell? ⟨b, off + k, none⟩ = some (rowV B d tss k) ∧ Rd w (B k) (tss.getD k [])
theorem OwnRR.reads {Rd : World → Option Addr → List α → Prop} {A : Option Addr} {c : Nat} (hrd : ∀ (w : World) (A : Option Addr) (c : Nat) (ts : List α), w.ownsRow lo e sz (.slice A ts.length c) ts.length (cells ts) → Rd w A ts)
    (h : OwnRR oe e sz cells w lo hi (.slice A tss.length c) tss) : RdRR Rd w A tss := by
  obtain ⟨B, d, h1, _, h3, _⟩ := h
  have hr : ∀ k, k < tss.length → Rd w (B k) (tss.getD k []) := fun k hk => hrd w (B k) (d k) _ (h3 k hk).1
  have h0 := h1
  obtain ⟨_, ⟨hv, hn⟩ | ⟨g, cap, cur, hv, _⟩⟩ := h0
  · exact ⟨0, 0, B, d, fun hne => absurd (List.eq_nil_of_length_eq_zero hn) hne, fun k hk => by omega⟩
  · injection hv with e1 e2 e3
    subst e1
    refine ⟨g, 0, B, d, fun _ => rfl, fun k hk => ⟨?_, hr k hk⟩⟩
    have := World.ownsRow.cells h1 (g := g) rfl k (rowV B d tss k) (by simp [hk])
    rw [← this]
    by_cases hz : k = 0 <;> simp [Addr.add, hz]
theorem RdRR.mono {Rd Rd' : World → Option Addr → List α → Prop} {A : Option Addr} (h : RdRR Rd w A tss) (hc : ∀ a v, w.cell? a = some v → w'.cell? a = some v) (hrd : ∀ B ts, Rd w B ts → Rd' w' B ts) : RdRR Rd' w' A tss := by
  obtain ⟨b, off, B, d, h1, h2⟩ := h
  exact ⟨b, off, B, d, h1, fun k hk => ⟨hc _ _ (h2 k hk).1, hrd _ _ (h2 k hk).2⟩⟩
end

/-- How many there are in the first k rows. -/
def sumTo {α : Type} (tss : List (List α)) (k : Nat) : Nat := ((tss.take k).map List.length).sum
theorem sumTo_step {α : Type} {tss : List (List α)} {k : Nat} (h : k < tss.length) : sumTo tss (k + 1) = sumTo tss k + (tss.getD k []).length := by
  unfold sumTo
  rw [List.take_succ_eq_append_getElem h, List.map_append, List.sum_append]
  simp [h]
theorem sumTo_mono {α : Type} (tss : List (List α)) {j k : Nat} (h : j ≤ k) : sumTo tss j ≤ sumTo tss k := by
  obtain ⟨n, rfl⟩ := Nat.le.dest h
  induction n with
  | zero => exact Nat.le_refl _
  | succ n ih =>
    rcases Nat.lt_or_ge (j + n) tss.length with hlt | hge
    · have := ih (by omega); rw [show j + (n + 1) = (j + n) + 1 from rfl, sumTo_step hlt]; omega
    · have h1 := ih (by omega)
      have e1 : sumTo tss (j + (n + 1)) = sumTo tss (j + n) := by
        unfold sumTo
        rw [List.take_of_length_le (by omega), List.take_of_length_le hge]
      omega
theorem row_le_sum {α : Type} (tss : List (List α)) {k : Nat} (h : k < tss.length) : (tss.getD k []).length ≤ sumTo tss tss.length := by
  have := sumTo_mono tss (show k + 1 ≤ tss.length by omega)
  rw [sumTo_step h] at this
  omega

theorem own_unique {w : World} {base e size n : Nat} {v : Value} {xs ys : List Value} (h : w.ownsRow base e size v n xs) (k : w.ownsRow base e size v n ys) : xs = ys := by
  rcases h with ⟨h1, h2⟩
  rcases k with ⟨k1, k2⟩
  rcases h2 with ⟨rfl, rfl⟩ | ⟨g, cap, cur, rfl, _, hg, _, _, _, ht⟩
  · have e1 := List.eq_nil_of_length_eq_zero (by simpa using h1)
    have e2 := List.eq_nil_of_length_eq_zero (by simpa using k1)
    rw [e1, e2]
  · rcases k2 with ⟨hv, _⟩ | ⟨g', cap', cur', hv, _, hg', _, _, _, ht'⟩
    · cases hv
    · injection hv with e1
      injection e1 with e1
      injection e1 with e1
      subst e1
      rw [hg] at hg'
      injection hg' with e2
      injection e2 with e2
      subst e2
      rw [← ht, ← ht']

/-- The first k rows marked from q on. -/
def markTT (q : Int) (tss : List (List (Int × Int))) (k : Nat) : List (List (Int × Int)) := (List.range tss.length).map fun j => if j < k then marks (q + 2 * (sumTo tss j : Int)) (tss.getD j []).length else tss.getD j []
theorem markTT_len (q : Int) (tss : List (List (Int × Int))) (k : Nat) : (markTT q tss k).length = tss.length := by simp [markTT]
theorem markTT_get (q : Int) (tss : List (List (Int × Int))) (k j : Nat) (h : j < tss.length) : (markTT q tss k).getD j [] = if j < k then marks (q + 2 * (sumTo tss j : Int)) (tss.getD j []).length else tss.getD j [] := by
  simp [markTT, h]
theorem markTT_zero (q : Int) (tss : List (List (Int × Int))) : markTT q tss 0 = tss := by
  refine List.ext_getElem (markTT_len _ _ _) fun j h1 h2 => ?_
  simp [markTT, h2]
theorem markTT_step (q : Int) {tss : List (List (Int × Int))} {k : Nat} (h : k < tss.length) : (markTT q tss k).set k (marks (q + 2 * (sumTo tss k : Int)) (tss.getD k []).length) = markTT q tss (k + 1) := by
  refine List.ext_getElem (by simp [markTT]) fun j h1 h2 => ?_
  by_cases e0 : k = j
  · subst e0
    simp [markTT]
  · rw [List.getElem_set_ne e0]
    have : j < k ↔ j < k + 1 := by omega
    simp [markTT, this]

theorem Try.info_rowI : (Try.prog.info? 39).map (fun i => (i.zero, i.size, i.bytes)) = some (some (.slice none 0 0), 1, 24) := by kernel_rfl
abbrev OwnII (w : World) (lo hi : Nat) (v : Value) (tss : List (List Int)) : Prop := OwnRR 39 3 1 cellsI w lo hi v tss
abbrev RdII (w : World) (A : Option Addr) (tss : List (List Int)) : Prop := RdRR RdI w A tss
theorem rdII_of {w : World} {lo hi c : Nat} {A : Option Addr} {tss : List (List Int)} (h : OwnII w lo hi (.slice A tss.length c) tss) : RdII w A tss := h.reads (fun w A c ts h => RdI.of_own h)
theorem RdII.below {w w' : World} {A : Option Addr} {tss : List (List Int)} (h : RdII w A tss) (hb : Below w.heap.size w w') : RdII w' A tss := h.mono (fun _ _ => keepc hb) (fun _ _ h => h.below hb)
/-- A new slice of rows and a bool come back. -/
def RetII (w : World) (tss : List (List Int)) (ok : Bool) (e : Ending) (w' : World) : Prop :=
  ∃ A c, e = .returned (.tuple #[.slice A tss.length c, .bool ok]) ∧ OwnII w' w.heap.size w'.heap.size (.slice A tss.length c) tss ∧ Below w.heap.size w w'
/-- .. without a bool. -/
def RetIR (w : World) (tss : List (List Int)) (e : Ending) (w' : World) : Prop :=
  ∃ A c, e = .returned (.slice A tss.length c) ∧ OwnII w' w.heap.size w'.heap.size (.slice A tss.length c) tss ∧ Below w.heap.size w w'
/-- One row appended. -/
theorem wp_append_rowI {w : World} {ops : Array Oper} {rest : List Oper} {o : Oper} {a : Act} {Q : Exit → Act → World → Prop} (hgd : o.guard = none) (s x : Operand)
    (ho : o.op = .call { callee := .builtin .append, args := #[s, x], argTypes := #[30, 30] }) (lo hi : Nat) (v : Value) (tss : List (List Int)) (hs : a.eval s = v)
    (hown : OwnII w lo hi v tss) (lo2 : Nat) (A : Option Addr) (c : Nat) (ts : List Int) (hrow : w.ownsRow lo2 3 1 (.slice A ts.length c) ts.length (cellsI ts)) (hlo : lo ≤ lo2) (hhi : hi ≤ lo2)
    (g : Nat) (hx : a.eval x = .slice (some ⟨g, 0, none⟩) 1 1) (hc : w.cell? ⟨g, 0, none⟩ = some (.slice A ts.length c)) (hlen : tss.length ≤ 2097152) (hbase : lo ≤ w.heap.size)
    (h : ∀ A' c' w', OwnII w' lo w'.heap.size (.slice A' (tss ++ [ts]).length c') (tss ++ [ts]) → w.grownBy w' v.ownBlock → w'.ownsRow lo2 3 1 (.slice A ts.length c) ts.length (cellsI ts) → wpList Try.prog ops Q rest (a.put o.dst (.slice A' (tss ++ [ts]).length c')) w') :
    wpList Try.prog ops Q (o :: rest) a w := by
  obtain ⟨i0, hi0, hz0, hz1, hz2⟩ := info_parts Try.info_rowI
  have hown' := hown
  obtain ⟨B, d, h1, _⟩ := hown'
  refine wpList_append_own_at w hgd s x 30 ho lo 39 i0 _ 1 24 Try.underlying30 hi0 hz0 hz1 hz2 rfl (by decide) v tss.length _ hs h1 ⟨g, 0, none⟩ 1 1 [.slice A ts.length c] hx rfl ?_ ?_ (by unfold maxLen; omega) (by omega) hbase ?_
  · intro j u hj
    match j, hj with
    | 0, hj => simp at hj; subst hj; simpa [Addr.add] using hc
  · intro u hu
    rw [List.mem_singleton.1 hu]; rfl
  · intro v' w' hn hg _ hat
    obtain ⟨A', c', rfl⟩ : ∃ A' c', v' = .slice A' (tss ++ [ts]).length c' := by
      rcases hn.2 with ⟨hv, h0⟩ | ⟨g, cap, cur, rfl, _⟩
      · omega
      · exact ⟨_, cap, by rw [List.length_append]; rfl⟩
    refine h A' c' w' ?_ hg (hrow.kept hg (OwnRR.away (hown.top hhi) hrow))
    refine OwnRR.push hown hrow hlo hhi (fun xs hxs => ?_) hg hat
    have := own_unique h1 hxs
    rw [← this]; exact hn

set_option maxRecDepth 100000 in
set_option maxHeartbeats 1000000 in
theorem c_eqIntSS_same (A B : Option Addr) (c d : Nat) (tss : List (List Int)) (w : World) (hx : RdII w A tss) (hy : RdII w B tss) (lx : tss.length ≤ 9223372036854775807) (lr : ∀ k, k < tss.length → (tss.getD k []).length ≤ 9223372036854775807) :
    Calls Try.prog 15 #[.slice A tss.length c, .slice B tss.length d] w fun e w' => e = .returned (.bool true) ∧ Below w.heap.size w w' := by
  go_enter Try.func15, Try.ntmps15
  go_wp2
  go_loopw [5] (fun i wr => ∃ k : Nat, k ≤ tss.length ∧ i = .int .i64 k ∧ Below w.heap.size w wr) (fun i _ => tss.length - (intOf i).toNat)
  case atStart => exact ⟨0, Nat.zero_le _, rfl, Below.refl _ _⟩
  case round =>
    obtain ⟨k, hk, rfl, hb⟩ := hrel
    by_cases hlt : k < tss.length
    · obtain ⟨bx, ox, Bx, dx, ex, hcx⟩ := hx
      obtain ⟨by_, oy, By, dy, ey, hcy⟩ := hy
      have hne : tss ≠ [] := by rintro rfl; simp at hlt
      obtain rfl := ex hne
      obtain rfl := ey hne
      have g1 := keepc hb (hcx k hlt).1
      have g3 := keepc hb (hcy k hlt).1
      have con := fun W (hW : Below wr.heap.size wr W) => c_eqIntS_same (Bx k) (By k) (dx k) (dy k) (tss.getD k []) W (((hcx k hlt).2.below hb).below hW) (((hcy k hlt).2.below hb).below hW) (lr k hlt)
      have Hb := Lib.hid hb
      unfold rowV at g1 g3
      obtain ⟨r, hr0⟩ : ∃ r, r = tss.getD k [] := ⟨_, rfl⟩
      rw [← hr0] at g1 g3
      simp only [← hr0] at con
      have Con := Lib.hid con
      clear hcx hcy con hb ex ey hr0 lr hne
      have i0 : (0 : Int) ≤ (k : Int) := by omega
      have i1 : (k : Int) < (tss.length : Int) := by omega
      go_wp2
      go_region_held3 (fun w' => w'.cell? ⟨bx, ox + k, none⟩ = some (.slice (Bx k) r.length (dx k)) ∧ w'.cell? ⟨by_, oy + k, none⟩ = some (.slice (By k) r.length (dy k))) (first | exact ⟨y1, y3⟩ | go_keep) (first | (go_at_call 25; refine (Con.out _ (by go_grown)).mono ?_; rintro e w' ⟨rfl, hb'⟩; have y1 := keepc hb' (gd1 _ g1); have y3 := keepc hb' (gd1 _ g3)))
      go_wp2
      go_roundw
      case rel => exact ⟨k + 1, by omega, by go_num, bstep Hb.out.drew hb'⟩
      case measure => simp [intOf]; omega
    · go_wp2
      go_ret
      exact ⟨rfl, hb⟩

/-- The first k rows marked from q on. -/
def markII (q : Int) (tss : List (List Int)) (k : Nat) : List (List Int) := (List.range tss.length).map fun j => if j < k then marksI (q + (sumTo tss j : Int)) (tss.getD j []).length else tss.getD j []
theorem markII_len (q : Int) (tss : List (List Int)) (k : Nat) : (markII q tss k).length = tss.length := by simp [markII]
theorem markII_get (q : Int) (tss : List (List Int)) (k j : Nat) (h : j < tss.length) : (markII q tss k).getD j [] = if j < k then marksI (q + (sumTo tss j : Int)) (tss.getD j []).length else tss.getD j [] := by
  simp [markII, h]
theorem markII_zero (q : Int) (tss : List (List Int)) : markII q tss 0 = tss := by
  refine List.ext_getElem (markII_len _ _ _) fun j h1 h2 => ?_
  simp [markII, h2]
theorem markII_step (q : Int) {tss : List (List Int)} {k : Nat} (h : k < tss.length) : (markII q tss k).set k (marksI (q + (sumTo tss k : Int)) (tss.getD k []).length) = markII q tss (k + 1) := by
  refine List.ext_getElem (by simp [markII]) fun j h1 h2 => ?_
  by_cases e0 : k = j
  · subst e0
    simp [markII]
  · rw [List.getElem_set_ne e0]
    have : j < k ↔ j < k + 1 := by omega
    simp [markII, this]

theorem rdmarksII {w : World} {lo hi c : Nat} {A : Option Addr} {tss : List (List Int)} {q : Int} (h : OwnII w lo hi (.slice A tss.length c) (markII q tss tss.length)) : RdII w A (markII q tss tss.length) :=
  rdII_of (lo := lo) (hi := hi) (c := c) (by rw [markII_len]; exact h)

set_option maxRecDepth 100000 in
set_option maxHeartbeats 1000000 in
theorem c_markIntSS (A : Option Addr) (c lo hi : Nat) (tss : List (List Int)) (q : Int) (w : World) (hr : OwnII w lo hi (.slice A tss.length c) tss) (hlo : lo ≤ w.heap.size) (h0 : 0 ≤ q) (h1 : q + (sumTo tss tss.length : Int) ≤ 9223372036854775807) (lx : tss.length ≤ 9223372036854775807) :
    Calls Try.prog 17 #[.slice A tss.length c, .int .i64 q] w fun e w' => e = .returned (.int .i64 (q + (sumTo tss tss.length : Int))) ∧
      OwnII w' lo hi (.slice A tss.length c) (markII q tss tss.length) ∧ Below lo w w' := by
  go_enter Try.func17, Try.ntmps17
  go_wp2
  go_loopw [1, 5] (fun p i wr => ∃ k : Nat, k ≤ tss.length ∧ i = .int .i64 k ∧ p = .int .i64 (q + (sumTo tss k : Int)) ∧ OwnII wr lo hi (.slice A tss.length c) (markII q tss k) ∧ Below lo w wr) (fun _ i _ => tss.length - (intOf i).toNat)
  case atStart => exact ⟨0, Nat.zero_le _, rfl, by simp [sumTo], by rw [markII_zero]; exact hr, Below.refl _ _⟩
  case round =>
    obtain ⟨k, hk, rfl, rfl, hown, hb⟩ := hrel
    clear hr
    have hs := sumTo_mono tss hk
    by_cases hlt : k < tss.length
    · have hrd := rdII_of (w := wr) (lo := lo) (hi := hi) (A := A) (c := c) (tss := markII q tss k) (by rw [markII_len]; exact hown)
      obtain ⟨B, d, o1, o2, o3, o4⟩ := hown
      have hk' : k < (markII q tss k).length := by rw [markII_len]; exact hlt
      have hgk : (markII q tss k).getD k [] = tss.getD k [] := by rw [markII_get _ _ _ _ hlt]; simp
      have hcell : wr.ownsRow lo 39 1 (.slice A tss.length c) tss.length ((List.range (markII q tss k).length).map (rowV B d (markII q tss k))) := by rw [markII_len] at o1 ⊢; exact o1
      obtain ⟨ga, hga⟩ : ∃ g, A = some ⟨g, 0, none⟩ := by
        obtain ⟨_, ⟨hv, hn⟩ | ⟨g, cap, cur, hv, _⟩⟩ := hcell
        · omega
        · injection hv with e1; exact ⟨g, e1⟩
      subst hga
      have g1 : wr.cell? ⟨ga, k, none⟩ = some (.slice (B k) (tss.getD k []).length (d k)) := by
        have := World.ownsRow.cells hcell (g := ga) rfl k (rowV B d (markII q tss k) k) (by simp [markII_len, hlt])
        unfold rowV at this
        rw [hgk] at this
        rw [← this]
        by_cases hz : k = 0 <;> simp [Addr.add, hz]
      have hin := (o3 k hk').1
      unfold rowV at hin
      rw [hgk] at hin
      have hst := sumTo_step hlt
      have hs1 := sumTo_mono tss (show k + 1 ≤ tss.length by omega)
      have con := c_markIntS (B k) (d k) lo (tss.getD k []) (q + (sumTo tss k : Int)) wr hin (by omega) (by omega)
      have hrv : rowV B d (markII q tss k) k = .slice (B k) (tss.getD k []).length (d k) := by unfold rowV; rw [hgk]
      have hl : (marksI (q + (sumTo tss k : Int)) (tss.getD k []).length).length = ((markII q tss k).getD k []).length := by rw [hgk]; exact marksI_length _ _
      have fin : ∀ w2, w2.ownsRow lo 3 1 (.slice (B k) (tss.getD k []).length (d k)) (tss.getD k []).length (cellsI (marksI (q + (sumTo tss k : Int)) (tss.getD k []).length)) → wr.grownBy w2 (Value.slice (B k) (tss.getD k []).length (d k)).ownBlock →
          OwnII w2 lo hi (.slice (some ⟨ga, 0, none⟩) tss.length c) (markII q tss (k + 1)) ∧ Below lo w w2 := fun w2 ho2 hg2 => by
        refine ⟨?_, hb.trans (below_of_grown hg2 (Nat.le_trans hlo hb.size) (fun g hg => (hin.lt g hg).1))⟩
        rw [← markII_step q hlt]
        exact OwnRR.put (oe := 39) (e := 3) (sz := 1) (cells := cellsI) (w := wr) (w' := w2) (lo := lo) (hi := hi) (v := .slice (some ⟨ga, 0, none⟩) tss.length c) (B := B) (d := d) hk' hl o1 o2 o3 o4
          (by rw [hrv, marksI_length]; exact ho2) (by rw [hrv]; exact hg2)
      obtain ⟨r, hr0⟩ : ∃ r, r = tss.getD k [] := ⟨_, rfl⟩
      obtain ⟨s, hs0⟩ : ∃ s, s = sumTo tss k := ⟨_, rfl⟩
      rw [← hr0, ← hs0] at con hst
      rw [← hr0] at g1
      rw [← hs0] at hs ⊢
      simp only [← hr0, ← hs0] at fin
      have Fin := Lib.hid fin
      have Con := Lib.hid con
      have Hst := Lib.hid hst
      have i0 : (0 : Int) ≤ (k : Int) := by omega
      have i1 : (k : Int) < (tss.length : Int) := by omega
      clear con hb o1 o2 o3 o4 hcell hin hrd fin hl hrv hr0 hs0 hgk hk' hst
      go_wp2_with (go_at_call 26; refine Con.out.mono ?_; rintro e w2 ⟨rfl, ho2, hg2⟩)
      go_roundw
      case rel =>
        have hf := Fin.out w2 ho2 hg2
        exact ⟨k + 1, by omega, by go_num, by rw [Hst.out]; go_num, hf.1, hf.2⟩
      case measure => simp [intOf]; omega
    · have : k = tss.length := by omega
      subst this
      go_wp2
      go_ret
      exact ⟨rfl, hown, hb⟩

set_option maxRecDepth 100000 in
set_option maxHeartbeats 1000000 in
theorem c_heldIntSS (A : Option Addr) (c : Nat) (tss : List (List Int)) (q : Int) (w : World) (hr : RdII w A (markII q tss tss.length)) (h0 : 0 ≤ q) (h1 : q + (sumTo tss tss.length : Int) ≤ 9223372036854775807) (lx : tss.length ≤ 9223372036854775807) :
    Calls Try.prog 18 #[.slice A tss.length c, .int .i64 q] w fun e w' => e = .returned (.int .i64 (q + (sumTo tss tss.length : Int))) ∧ w = w' := by
  go_enter Try.func18, Try.ntmps18
  go_wp2
  go_loopw [1, 5] (fun p i wr => ∃ k : Nat, k ≤ tss.length ∧ i = .int .i64 k ∧ p = .int .i64 (q + (sumTo tss k : Int)) ∧ w = wr) (fun _ i _ => tss.length - (intOf i).toNat)
  case atStart => exact ⟨0, Nat.zero_le _, rfl, by simp [sumTo], rfl⟩
  case round =>
    obtain ⟨k, hk, rfl, rfl, rfl⟩ := hrel
    have hs := sumTo_mono tss hk
    by_cases hlt : k < tss.length
    · obtain ⟨b, off, B, d, ha, hc⟩ := hr
      have hk' : k < (markII q tss tss.length).length := by rw [markII_len]; exact hlt
      have hgk : (markII q tss tss.length).getD k [] = marksI (q + (sumTo tss k : Int)) (tss.getD k []).length := by rw [markII_get _ _ _ _ hlt]; simp [hlt]
      obtain rfl := ha (by intro h; rw [h] at hk'; simp at hk')
      obtain ⟨g1, hrk⟩ := hc k hk'
      unfold rowV at g1
      rw [hgk] at hrk
      rw [hgk, marksI_length] at g1
      have hst := sumTo_step hlt
      have hs1 := sumTo_mono tss (show k + 1 ≤ tss.length by omega)
      have con := c_heldIntS (B k) (d k) (tss.getD k []).length (q + (sumTo tss k : Int)) w hrk (by omega) (by omega)
      obtain ⟨n, hr0⟩ : ∃ n, n = (tss.getD k []).length := ⟨_, rfl⟩
      obtain ⟨s, hs0⟩ : ∃ s, s = sumTo tss k := ⟨_, rfl⟩
      rw [← hr0, ← hs0] at con hst
      rw [← hr0] at g1
      rw [← hs0] at hs ⊢
      have Con := Lib.hid con
      have Hst := Lib.hid hst
      have i0 : (0 : Int) ≤ (k : Int) := by omega
      have i1 : (k : Int) < (tss.length : Int) := by omega
      have i2 : ¬ (q + (s : Int) + (n : Int)) < 0 := by omega
      clear con hc hrk ha hgk hk' hr0 hs0 hst
      go_wp2_with (go_at_call 27; refine Con.out.mono ?_; rintro e w2 ⟨rfl, rfl⟩)
      go_roundw
      case rel => exact ⟨k + 1, by omega, by go_num, by rw [Hst.out]; go_num, by first | rfl | trivial⟩
      case measure => simp [intOf]; omega
    · have : k = tss.length := by omega
      subst this
      go_wp2
      go_ret
      exact ⟨rfl, rfl⟩

end Go.Proofs.Ytbanpgifhnbjoaa

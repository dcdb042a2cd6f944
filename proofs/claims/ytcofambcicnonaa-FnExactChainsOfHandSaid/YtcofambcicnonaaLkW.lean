/- All chains of a hand by the specification: what it keeps in memory (its list of chains at most one long). -/
import Derived.Test.YtcofambcicnonaaCsL
namespace Go.Proofs.Ytcofambcicnonaa
open Go.RowKit
set_option linter.unusedVariables false

/-- How many full chains, how many of each length, the longest. -/
structure S3 where
  n : Nat
  C : List Int
  L : List Int
def step3 (m : Nat) (s : S3) (c : List Int) : S3 := ⟨if c.length = m + 1 then s.n + 1 else s.n, cntStep s.C c, lngStep s.L c⟩
def fold3 (m : Nat) (s : S3) (L : List (List Int)) : S3 := L.foldl (step3 m) s
theorem fold3_app (m : Nat) (s : S3) (L M : List (List Int)) : fold3 m s (L ++ M) = fold3 m (fold3 m s L) M := List.foldl_append
theorem fold3_C (m : Nat) : ∀ (L : List (List Int)) (s : S3), (fold3 m s L).C = L.foldl cntStep s.C
  | [], _ => rfl
  | c :: L, s => fold3_C m L (step3 m s c)
theorem fold3_L (m : Nat) : ∀ (L : List (List Int)) (s : S3), (fold3 m s L).L = L.foldl lngStep s.L
  | [], _ => rfl
  | c :: L, s => fold3_L m L (step3 m s c)
/-- A chain that has all tiles of a hand does not go on. -/
theorem full_end {H : List (Int × Int)} {c : List Int} (ho : OkC H c) (hl : c.length = H.length + 1) : behC H c 0 = [] := by
  unfold behC
  rw [List.flatMap_eq_nil_iff]
  intro i _
  unfold subC
  rw [if_neg]
  intro hf
  unfold fitC at hf
  rw [decide_eq_false (show ¬ c.length = 0 by omega), Bool.false_or, Bool.and_eq_true, decide_eq_true_eq, decide_eq_true_eq] at hf
  have h1 : (tilesC c ++ [tile2 (lastC c) ((0 + i : Nat) : Int)]).Nodup := by
    rw [List.nodup_append]
    exact ⟨ho.nd, by simp, fun a ha b hb => by rw [List.mem_singleton.1 hb]; rintro rfl; exact hf.2 ha⟩
  have h2 := nodup_len _ H h1 (fun t ht => by
    rcases List.mem_append.1 ht with ht | ht
    · exact ho.mem t ht
    · rw [List.mem_singleton.1 ht]; exact hf.1)
  rw [List.length_append, tilesC_len, List.length_singleton] at h2
  omega

/-- The search's struct (block pb), its counts (block gc) and the marks of the tiles used (block gu). -/
structure Loo (H : List (Int × Int)) (lo pb gc gu : Nat) (AH : Option Addr) (cH : Nat) (c : List Int) (s : S3) (w : World) : Prop where
  h1 : lo ≤ pb
  h2 : lo ≤ gc
  h3 : lo ≤ gu
  n1 : pb ≠ gc
  n2 : pb ≠ gu
  n3 : gc ≠ gu
  c0 : w.cell? ⟨pb, 0, none⟩ = some (.slice AH H.length cH)
  c1 : w.cell? ⟨pb, 1, none⟩ = some (.int .i64 0)
  c2 : w.cell? ⟨pb, 2, none⟩ = some (.int .i64 (s.n : Int))
  c3 : w.cell? ⟨pb, 3, none⟩ = some (.slice (some ⟨gc, 0, none⟩) H.length H.length)
  c4 : ∃ AL nL cL, w.cell? ⟨pb, 4, none⟩ = some (.slice AL nL cL) ∧ (nL = 0 → AL = none ∧ cL = 0)
  c5 : ∃ AG cG, w.cell? ⟨pb, 5, none⟩ = some (.slice AG s.L.length cG) ∧ w.ownsRow lo 3 1 (.slice AG s.L.length cG) s.L.length (cellsI s.L) ∧ ∀ g, (Value.slice AG s.L.length cG).ownBlock = some g → g ≠ pb ∧ g ≠ gc ∧ g ≠ gu
  fz : ∀ m, w.frozen? ⟨pb, m, none⟩ = false
  len : s.C.length = H.length
  cnt : w.ownsRow lo 3 1 (.slice (some ⟨gc, 0, none⟩) H.length H.length) H.length (cellsI s.C)
  usd : ∀ i (h : i < H.length), w.cell? ⟨gu, i, none⟩ = some (.bool (decide (H[i] ∈ tilesC c)))
  fu : ∀ m, w.frozen? ⟨gu, m, none⟩ = false
section
variable {H : List (Int × Int)} {lo pb gc gu cH : Nat} {AH : Option Addr} {c : List Int} {s : S3} {w w' : World}
theorem Loo.lt (h : Loo H lo pb gc gu AH cH c s w) : pb < w.heap.size := block_lt h.c0
theorem Loo.ltc (h : Loo H lo pb gc gu AH cH c s w) : gc < w.heap.size := (h.cnt.lt gc rfl).2
/-- New memory changes nothing. -/
theorem Loo.keep (h : Loo H lo pb gc gu AH cH c s w) (hb : Below w.heap.size w w') (hu : gu < w.heap.size) : Loo H lo pb gc gu AH cH c s w' := by
  obtain ⟨AL, nL, cL, k1, k2⟩ := h.c4
  obtain ⟨AG, cG, k3, k4, k5⟩ := h.c5
  exact { h with
    c0 := keepc hb h.c0, c1 := keepc hb h.c1, c2 := keepc hb h.c2, c3 := keepc hb h.c3, c4 := ⟨AL, nL, cL, keepc hb k1, k2⟩, c5 := ⟨AG, cG, keepc hb k3, own_keep k4 hb, k5⟩
    fz := fun m => (hb.frozen (p := ⟨pb, m, none⟩) h.lt).trans (h.fz m), cnt := own_keep h.cnt hb, usd := fun i hi => keepc hb (h.usd i hi), fu := fun m => (hb.frozen (p := ⟨gu, m, none⟩) hu).trans (h.fu m) }
/-- A tile's mark is set or taken away. -/
theorem Loo.mark (h : Loo H lo pb gc gu AH cH c s w) {c' : List Int} {i : Nat} {v : Bool} (hi : i < H.length) (hv : ∀ j (hj : j < H.length), decide (H[j] ∈ tilesC c') = if j = i then v else decide (H[j] ∈ tilesC c)) :
    Loo H lo pb gc gu AH cH c' s (w.setCell ⟨gu, i, none⟩ (.bool v)) := by
  obtain ⟨AL, nL, cL, k1, k2⟩ := h.c4
  obtain ⟨AG, cG, k3, k4, k5⟩ := h.c5
  have e : ∀ (j : Nat) (x : Value), w.cell? ⟨pb, j, none⟩ = some x → (w.setCell ⟨gu, i, none⟩ (.bool v)).cell? ⟨pb, j, none⟩ = some x := fun j x hx => (World.cell?_setCell_other _ _ _ _ (by simp; exact fun e => absurd e.symm h.n2)).trans hx
  exact { h with
    c0 := e _ _ h.c0, c1 := e _ _ h.c1, c2 := e _ _ h.c2, c3 := e _ _ h.c3, c4 := ⟨AL, nL, cL, e _ _ k1, k2⟩, c5 := ⟨AG, cG, e _ _ k3, own_off2 k4 (fun g hg => (k5 g hg).2.2), k5⟩
    fz := fun m => by simp [h.fz], cnt := own_off2 h.cnt (fun g hg => by cases hg; exact h.n3), fu := fun m => by simp [h.fu]
    usd := fun j hj => by
      rw [hv j hj]
      by_cases e2 : j = i
      · subst e2
        rw [if_pos rfl]
        exact World.cell?_setCell_same _ _ _ (h.usd j hj)
      · rw [if_neg e2]
        exact (World.cell?_setCell_other _ _ _ _ (by first | (simp; done) | (simp; exact e2) | (simp; omega) | simp [e2])).trans (h.usd j hj) }
/-- One cell of the struct is written. -/
theorem pb_other (h : w.cell? ⟨pb, 0, none⟩ = w.cell? ⟨pb, 0, none⟩) {b j k : Nat} {u x : Value} (hne : b ≠ pb ∨ j ≠ k) (hx : w.cell? ⟨b, j, none⟩ = some x) : (w.setCell ⟨pb, k, none⟩ u).cell? ⟨b, j, none⟩ = some x :=
  (World.cell?_setCell_other _ _ _ _ (by
    intro e
    injection e with e1 e2
    rcases hne with hn | hn
    · exact hn (by first | exact e1 | exact e1.symm)
    · exact hn (by first | exact e2 | exact e2.symm))).trans hx
theorem Loo.count (h : Loo H lo pb gc gu AH cH c s w) (n : Nat) : Loo H lo pb gc gu AH cH c ⟨n, s.C, s.L⟩ (w.setCell ⟨pb, 2, none⟩ (.int .i64 (n : Int))) := by
  obtain ⟨AL, nL, cL, k1, k2⟩ := h.c4
  obtain ⟨AG, cG, k3, k4, k5⟩ := h.c5
  exact { h with
    c0 := pb_other rfl (.inr (by decide)) h.c0, c1 := pb_other rfl (.inr (by decide)) h.c1, c2 := World.cell?_setCell_same _ _ _ h.c2, c3 := pb_other rfl (.inr (by decide)) h.c3
    c4 := ⟨AL, nL, cL, pb_other rfl (.inr (by decide)) k1, k2⟩, c5 := ⟨AG, cG, pb_other rfl (.inr (by decide)) k3, own_off2 k4 (fun g hg => (k5 g hg).1), k5⟩
    fz := fun m => by simp [h.fz], cnt := own_off2 h.cnt (fun g hg => by cases hg; exact fun e => h.n1 e.symm), fu := fun m => by simp [h.fu]
    usd := fun j hj => pb_other rfl (.inl (fun e => h.n2 e.symm)) (h.usd j hj) }
theorem Loo.list (h : Loo H lo pb gc gu AH cH c s w) (AL : Option Addr) (nL cL : Nat) (hL : nL = 0 → AL = none ∧ cL = 0) : Loo H lo pb gc gu AH cH c s (w.setCell ⟨pb, 4, none⟩ (.slice AL nL cL)) := by
  obtain ⟨AL', nL', cL', k1, k2⟩ := h.c4
  obtain ⟨AG, cG, k3, k4, k5⟩ := h.c5
  exact { h with
    c0 := pb_other rfl (.inr (by decide)) h.c0, c1 := pb_other rfl (.inr (by decide)) h.c1, c2 := pb_other rfl (.inr (by decide)) h.c2, c3 := pb_other rfl (.inr (by decide)) h.c3
    c4 := ⟨AL, nL, cL, World.cell?_setCell_same _ _ _ k1, hL⟩, c5 := ⟨AG, cG, pb_other rfl (.inr (by decide)) k3, own_off2 k4 (fun g hg => (k5 g hg).1), k5⟩
    fz := fun m => by simp [h.fz], cnt := own_off2 h.cnt (fun g hg => by cases hg; exact fun e => h.n1 e.symm), fu := fun m => by simp [h.fu]
    usd := fun j hj => pb_other rfl (.inl (fun e => h.n2 e.symm)) (h.usd j hj) }
theorem Loo.longest (h : Loo H lo pb gc gu AH cH c s w) {L : List Int} {AG : Option Addr} {cG : Nat} (ho : w.ownsRow lo 3 1 (.slice AG L.length cG) L.length (cellsI L)) (hne : ∀ g, (Value.slice AG L.length cG).ownBlock = some g → g ≠ pb ∧ g ≠ gc ∧ g ≠ gu) :
    Loo H lo pb gc gu AH cH c ⟨s.n, s.C, L⟩ (w.setCell ⟨pb, 5, none⟩ (.slice AG L.length cG)) := by
  obtain ⟨AL, nL, cL, k1, k2⟩ := h.c4
  obtain ⟨AG', cG', k3, k4, k5⟩ := h.c5
  exact { h with
    c0 := pb_other rfl (.inr (by decide)) h.c0, c1 := pb_other rfl (.inr (by decide)) h.c1, c2 := pb_other rfl (.inr (by decide)) h.c2, c3 := pb_other rfl (.inr (by decide)) h.c3
    c4 := ⟨AL, nL, cL, pb_other rfl (.inr (by decide)) k1, k2⟩, c5 := ⟨AG, cG, World.cell?_setCell_same _ _ _ k3, own_off2 ho (fun g hg => (hne g hg).1), hne⟩
    fz := fun m => by simp [h.fz], cnt := own_off2 h.cnt (fun g hg => by cases hg; exact fun e => h.n1 e.symm), fu := fun m => by simp [h.fu]
    usd := fun j hj => pb_other rfl (.inl (fun e => h.n2 e.symm)) (h.usd j hj) }
theorem Loo.counts (h : Loo H lo pb gc gu AH cH c s w) {k : Nat} (hk : k < H.length) (v : Int) : Loo H lo pb gc gu AH cH c ⟨s.n, s.C.set k v, s.L⟩ (w.setCell ⟨gc, k, none⟩ (.int .i64 v)) := by
  obtain ⟨AL, nL, cL, k1, k2⟩ := h.c4
  obtain ⟨AG, cG, k3, k4, k5⟩ := h.c5
  have hs : (cellsI s.C).set k (.int .i64 v) = cellsI (s.C.set k v) := by unfold cellsI; rw [List.map_set]
  exact { h with
    c0 := pb_other rfl (.inl h.n1) h.c0, c1 := pb_other rfl (.inl h.n1) h.c1, c2 := pb_other rfl (.inl h.n1) h.c2, c3 := pb_other rfl (.inl h.n1) h.c3
    c4 := ⟨AL, nL, cL, pb_other rfl (.inl h.n1) k1, k2⟩, c5 := ⟨AG, cG, pb_other rfl (.inl h.n1) k3, own_off2 k4 (fun g hg => (k5 g hg).2.1), k5⟩
    fz := fun m => by simp [h.fz], len := by simp [h.len], cnt := by rw [← hs]; exact (h.cnt.stored k _).1, fu := fun m => by simp [h.fu]
    usd := fun j hj => pb_other rfl (.inl (fun e => h.n3 e.symm)) (h.usd j hj) }
end
end Go.Proofs.Ytcofambcicnonaa

/- Spreads as lists: the board of the program, the state of the specification, and that both go along with one another. -/
import Derived.Test.YtnnkdnleencofabCatP
import Derived.Test.YtnnkdnleencofabCatA
namespace Go.Proofs.Ytnnkdnleencofab
open Go.RowKit
set_option linter.unusedVariables false

def dblB (p : Int × Int × Int) : Bool := decide (p.1 = p.2.1)

/-- The number of the first double, or -1. -/
def spinL : List (Int × Int × Int) → Int
  | [] => -1
  | p :: r => if dblB p then p.1 else spinL r

structure Brd where
  ps : List (Int × Int × Int)
  arms : List (Int × Bool × Bool)
  fives : Int

def Brd.none : Brd := ⟨[], [], 0⟩
def hasL (ps : List (Int × Int × Int)) (a b : Int) : Bool := ps.any fun p => decide (p.1 = a) && decide (p.2.1 = b)
def endL (arms : List (Int × Bool × Bool)) (k : Int) : Int := (arms.getD k.toNat (0, false, false)).1
def fitsL (B : Brd) (p : Int × Int × Int) : Bool :=
  !decide (B.ps.length = 28) && goodB p.1 p.2.1 && !hasL B.ps p.1 p.2.1 &&
    (if B.ps.length = 0 then decide (p.2.2 = 0) else decide (0 ≤ p.2.2) && decide (p.2.2 < B.arms.length) && (decide (p.1 = endL B.arms p.2.2) || decide (p.2.1 = endL B.arms p.2.2)))
def armsW (B : Brd) (p : Int × Int × Int) : List (Int × Bool × Bool) :=
  if B.ps.length = 0 then [(p.1, dblB p, false), (p.2.1, dblB p, false)] else B.arms.set p.2.2.toNat (p.1 + p.2.1 - endL B.arms p.2.2, dblB p, false)
def sidesL (ps : List (Int × Int × Int)) (arms : List (Int × Bool × Bool)) : List (Int × Bool × Bool) :=
  if spinL ps < 0 ∨ 2 < arms.length then arms else if (spinL ps, true, false) ∈ arms then arms else arms ++ [(spinL ps, false, true), (spinL ps, false, true)]

/-- What an arm adds to the sum of ends, where n tiles are laid. -/
def armSum (n : Nat) (a : Int × Bool × Bool) : Int := if a.2.2 then 0 else if a.2.1 && decide (1 < n) then a.1 + a.1 else a.1
def sumL (n : Nat) (arms : List (Int × Bool × Bool)) : Int := (arms.map (armSum n)).sum
def ptsL (n : Nat) (arms : List (Int × Bool × Bool)) : Int := if sumL n arms % 5 = 0 then sumL n arms else 0
def withL (B : Brd) (p : Int × Int × Int) : Brd :=
  ⟨B.ps ++ [p], sidesL (B.ps ++ [p]) (armsW B p), B.fives + ptsL (B.ps.length + 1) (sidesL (B.ps ++ [p]) (armsW B p))⟩

def stepL (o : Option Brd) (p : Int × Int × Int) : Option Brd := o.bind fun B => if fitsL B p then some (withL B p) else Option.none
def brdL (ps : List (Int × Int × Int)) : Option Brd := ps.foldl stepL (some Brd.none)
theorem stepL_none (ps : List (Int × Int × Int)) : ps.foldl stepL Option.none = Option.none := by
  induction ps with
  | nil => rfl
  | cons p r ih => simpa [stepL] using ih
theorem brdL_take {ps : List (Int × Int × Int)} {k : Nat} (h : k < ps.length) : brdL (ps.take (k + 1)) = stepL (brdL (ps.take k)) ps[k] := by
  rw [List.take_succ_eq_append_getElem h, brdL, brdL, List.foldl_append]
  rfl
theorem brdL_stop {ps : List (Int × Int × Int)} {k : Nat} (h : brdL (ps.take k) = Option.none) : brdL ps = Option.none := by
  have e : brdL ps = (ps.drop k).foldl stepL (brdL (ps.take k)) := by
    conv => lhs; rw [← List.take_append_drop k ps]
    rw [brdL, brdL, List.foldl_append]
  rw [e, h]
  exact stepL_none _

/-- The state of the specification. -/
structure SSt where
  arms : List (Int × Bool × Bool)
  tiles : List (Int × Int)
  spin : Int
  waits : Int
  first : Bool
  l0 : Bool
  l1 : Bool
def SSt.new : SSt := ⟨[], [], -1, -1, false, false, false⟩
def othS (p : Int × Int × Int) (x : Int) : Int := if x = p.1 then p.2.1 else if x = p.2.1 then p.1 else -1
/-- The play cannot be made, whatever lies: seen at once. -/
def badS (S : SSt) (p : Int × Int × Int) : Bool := !goodB p.1 p.2.1 || (decide ((p.1, p.2.1) ∈ S.tiles) || decide (28 ≤ S.tiles.length))
def okS (S : SSt) (p : Int × Int × Int) : Bool :=
  !badS S p && (if S.tiles.length = 0 then decide (p.2.2 = 0) else decide (0 ≤ p.2.2) && decide (p.2.2 ≤ (S.arms.length : Int) - 1) && decide (0 ≤ othS p (endL S.arms p.2.2)))
def firstS (S : SSt) (p : Int × Int × Int) : SSt :=
  ⟨[(p.1, dblB p, false), (p.2.1, dblB p, false)], S.tiles ++ [(p.1, p.2.1)], if dblB p then p.1 else S.spin, S.waits, dblB p || S.first, S.l0, S.l1⟩
/-- Whether the play lays to a free arm of a first double. -/
def laysS (S : SSt) (p : Int × Int × Int) : Bool := S.first && (decide (p.2.2 < 2) && !(if p.2.2 = 0 then S.l0 else S.l1))
def l0S (S : SSt) (p : Int × Int × Int) : Bool := S.l0 || (laysS S p && decide (p.2.2 = 0))
def l1S (S : SSt) (p : Int × Int × Int) : Bool := S.l1 || (laysS S p && !decide (p.2.2 = 0))
def sidesS (S : SSt) (p : Int × Int × Int) : Bool := (laysS S p && (l0S S p && l1S S p)) || decide (S.waits = p.2.2)
def nextS (S : SSt) (p : Int × Int × Int) : SSt :=
  ⟨S.arms.set p.2.2.toNat (othS p (endL S.arms p.2.2), dblB p, false) ++ (if sidesS S p then [(S.spin, false, true), (S.spin, false, true)] else []),
    S.tiles ++ [(p.1, p.2.1)],
    if dblB p && decide (S.spin < 0) then p.1 else S.spin,
    if dblB p && decide (S.spin < 0) then p.2.2 else if S.waits = p.2.2 then -1 else S.waits,
    S.first, l0S S p, l1S S p⟩
def addS (S : SSt) (p : Int × Int × Int) : SSt := if okS S p then (if S.tiles.length = 0 then firstS S p else nextS S p) else S

def tileOf (p : Int × Int × Int) : Int × Int := (p.1, p.2.1)

/-- What a state tells of the arms of a spread that has tiles. -/
def StN (S : SSt) (l : List (Int × Bool × Bool)) : Prop :=
  (S.spin = -1 ∧ S.waits = -1 ∧ S.first = false ∧ ∃ x y, l = [(x, false, false), (y, false, false)]) ∨
  (0 ≤ S.spin ∧ S.waits = -1 ∧ S.first = true ∧ ¬ (S.l0 = true ∧ S.l1 = true) ∧ ∃ x dx y dy, l = [(x, dx, false), (y, dy, false)] ∧
    (S.l0 = false ↔ (x = S.spin ∧ dx = true)) ∧ (S.l1 = false ↔ (y = S.spin ∧ dy = true))) ∨
  (0 ≤ S.spin ∧ S.waits = 0 ∧ S.first = false ∧ ∃ y dy, l = [(S.spin, true, false), (y, dy, false)] ∧ ¬ (y = S.spin ∧ dy = true)) ∨
  (0 ≤ S.spin ∧ S.waits = 1 ∧ S.first = false ∧ ∃ x dx, l = [(x, dx, false), (S.spin, true, false)] ∧ ¬ (x = S.spin ∧ dx = true)) ∨
  (0 ≤ S.spin ∧ S.waits = -1 ∧ l.length = 4 ∧ (S.first = true → S.l0 = true ∧ S.l1 = true))

/-- What a board and a state have to do with one another. -/
structure Rel (B : Brd) (S : SSt) : Prop where
  tiles : S.tiles = B.ps.map tileOf
  arms : S.arms = B.arms
  good : ∀ p ∈ B.ps, goodB p.1 p.2.1 = true
  ends : ∀ a ∈ B.arms, 0 ≤ a.1 ∧ a.1 ≤ 9
  spin : S.spin = spinL B.ps
  len : B.ps.length ≤ 28
  one : ∀ p, B.ps = [p] → B.arms = [(p.1, dblB p, false), (p.2.1, dblB p, false)]
  fives : 0 ≤ B.fives ∧ B.fives ≤ 72 * B.ps.length
  st : (B.ps = [] ∧ B.arms = [] ∧ S.spin = -1 ∧ S.waits = -1 ∧ S.first = false ∧ S.l0 = false ∧ S.l1 = false) ∨ (B.ps ≠ [] ∧ StN S B.arms)

theorem rel_new : Rel Brd.none SSt.new :=
  ⟨rfl, rfl, by simp [Brd.none], by simp [Brd.none], rfl, by simp [Brd.none], by simp [Brd.none], by simp [Brd.none], .inl ⟨rfl, rfl, rfl, rfl, rfl, rfl, rfl⟩⟩

theorem good_b {a b : Int} (h : goodB a b = true) : 0 ≤ a ∧ a ≤ b ∧ b ≤ 9 := by
  simp only [goodB, numB, Bool.and_eq_true, decide_eq_true_eq] at h
  omega
theorem spinL_low (ps : List (Int × Int × Int)) (h : ∀ p ∈ ps, goodB p.1 p.2.1 = true) : -1 ≤ spinL ps ∧ spinL ps ≤ 9 := by
  induction ps with
  | nil => simp [spinL]
  | cons p r ih =>
    have h1 := good_b (h p (by simp))
    have h2 := ih fun q hq => h q (by simp [hq])
    unfold spinL
    split <;> omega
theorem spinL_append (ps : List (Int × Int × Int)) (p : Int × Int × Int) (h : ∀ p ∈ ps, goodB p.1 p.2.1 = true) : spinL (ps ++ [p]) = if spinL ps < 0 then (if dblB p then p.1 else -1) else spinL ps := by
  induction ps with
  | nil => simp [spinL]
  | cons q r ih =>
    have h1 := good_b (h q (by simp))
    have h2 := ih fun q hq => h q (by simp [hq])
    rw [List.cons_append]
    unfold spinL
    by_cases hd : dblB q = true
    · rw [if_pos hd, if_pos hd, if_neg (by omega)]
    · rw [if_neg hd, if_neg hd, h2]
theorem spinL_mem {ps : List (Int × Int × Int)} (h : 0 ≤ spinL ps) : ∃ p ∈ ps, p.1 = spinL ps ∧ p.2.1 = spinL ps := by
  induction ps with
  | nil => simp [spinL] at h
  | cons q r ih =>
    unfold spinL at h ⊢
    by_cases hd : dblB q = true
    · rw [if_pos hd]
      have hd' : q.1 = q.2.1 := by simpa [dblB] using hd
      exact ⟨q, by simp, rfl, hd'.symm⟩
    · rw [if_neg hd] at h ⊢
      obtain ⟨p, hp, h1⟩ := ih h
      exact ⟨p, by simp [hp], h1⟩
theorem hasL_iff {ps : List (Int × Int × Int)} {a b : Int} : hasL ps a b = true ↔ (a, b) ∈ ps.map tileOf := by
  simp [hasL, tileOf]
theorem oth_nonneg {p : Int × Int × Int} {x : Int} (hg : goodB p.1 p.2.1 = true) : 0 ≤ othS p x ↔ (p.1 = x ∨ p.2.1 = x) := by
  have := good_b hg
  unfold othS
  split
  · simp_all; omega
  · split <;> simp_all <;> omega
theorem oth_eq {p : Int × Int × Int} {x : Int} (h : p.1 = x ∨ p.2.1 = x) : othS p x = p.1 + p.2.1 - x := by
  unfold othS
  split
  · omega
  · split <;> omega

theorem rel_ok {B : Brd} {S : SSt} (h : Rel B S) (p : Int × Int × Int) : okS S p = fitsL B p := by
  have hl : S.tiles.length = B.ps.length := by rw [h.tiles, List.length_map]
  have hle := h.len
  have e1 : decide ((p.1, p.2.1) ∈ S.tiles) = hasL B.ps p.1 p.2.1 := by
    rw [Bool.eq_iff_iff, hasL_iff, h.tiles]; simp
  unfold okS fitsL badS
  rw [hl, h.arms, e1]
  cases hg : goodB p.1 p.2.1
  · simp
  · cases hh : hasL B.ps p.1 p.2.1
    · by_cases h28 : B.ps.length = 28
      · simp [h28]
      · have : ¬ 28 ≤ B.ps.length := by omega
        have ho := oth_nonneg (x := endL B.arms p.2.2) hg
        by_cases h0 : B.ps.length = 0
        · simp [h0]
        · simp only [h28, this, h0, if_false, decide_false, Bool.not_false, Bool.not_true, Bool.or_false, Bool.true_and, Bool.and_true]
          rw [Bool.eq_iff_iff]
          simp only [Bool.and_eq_true, Bool.or_eq_true, decide_eq_true_eq]
          rw [ho]
          constructor
          · rintro ⟨⟨a, b⟩, c⟩; exact ⟨⟨a, by omega⟩, c⟩
          · rintro ⟨⟨a, b⟩, c⟩; exact ⟨⟨a, by omega⟩, c⟩
    · simp
theorem armSum_le {n : Nat} {a : Int × Bool × Bool} (h : 0 ≤ a.1 ∧ a.1 ≤ 9) : 0 ≤ armSum n a ∧ armSum n a ≤ 18 := by
  unfold armSum
  split
  · omega
  · split <;> omega
theorem sumL_le {n : Nat} : ∀ {arms : List (Int × Bool × Bool)}, (∀ a ∈ arms, 0 ≤ a.1 ∧ a.1 ≤ 9) → 0 ≤ sumL n arms ∧ sumL n arms ≤ 18 * arms.length
  | [], _ => by simp [sumL]
  | a :: r, h => by
    have h1 := armSum_le (n := n) (h a (by simp))
    have h2 := sumL_le (n := n) (arms := r) fun a ha => h a (by simp [ha])
    simp only [sumL, List.map_cons, List.sum_cons, List.length_cons] at *
    omega
theorem ptsL_le {n : Nat} {arms : List (Int × Bool × Bool)} (h : ∀ a ∈ arms, 0 ≤ a.1 ∧ a.1 ≤ 9) (h4 : arms.length ≤ 4) : 0 ≤ ptsL n arms ∧ ptsL n arms ≤ 72 := by
  have := sumL_le (n := n) h
  unfold ptsL
  split <;> omega

theorem StN.four {S : SSt} {l : List (Int × Bool × Bool)} (h : StN S l) : l.length = 2 ∨ l.length = 4 := by
  rcases h with ⟨_, _, _, x, y, rfl⟩ | ⟨_, _, _, _, x, dx, y, dy, rfl, _⟩ | ⟨_, _, _, y, dy, rfl, _⟩ | ⟨_, _, _, x, dx, rfl, _⟩ | ⟨_, _, h, _⟩
  · exact .inl rfl
  · exact .inl rfl
  · exact .inl rfl
  · exact .inl rfl
  · exact .inr h
theorem Rel.four {B : Brd} {S : SSt} (h : Rel B S) : B.arms.length ≤ 4 ∧ (B.ps ≠ [] → 2 ≤ B.arms.length) := by
  rcases h.st with ⟨h1, h2, _⟩ | ⟨_, h2⟩
  · rw [h2]; simp [h1]
  · have := h2.four
    exact ⟨by omega, fun _ => by omega⟩

theorem not_again {B : Brd} {S : SSt} (h : Rel B S) {p : Int × Int × Int} (hh : hasL B.ps p.1 p.2.1 = false) (hs : 0 ≤ S.spin) (hd : dblB p = true) : p.1 ≠ S.spin := by
  intro e
  rw [h.spin] at e hs
  obtain ⟨q, hq, h1, h2⟩ := spinL_mem hs
  have hp : p.1 = p.2.1 := by simpa [dblB] using hd
  have : hasL B.ps p.1 p.2.1 = true := hasL_iff.2 (List.mem_map.2 ⟨q, hq, by unfold tileOf; rw [h1, h2, ← hp, e]⟩)
  rw [this] at hh
  cases hh

theorem addS_no {S : SSt} {p : Int × Int × Int} (h : okS S p = false) : addS S p = S := by unfold addS; rw [if_neg (by simp [h])]

/-- The first play of all. -/
theorem rel_first {B : Brd} {S : SSt} (h : Rel B S) {p : Int × Int × Int} (h0 : B.ps.length = 0) (hg : goodB p.1 p.2.1 = true) : Rel (withL B p) (firstS S p) ∧ (withL B p).arms = [(p.1, dblB p, false), (p.2.1, dblB p, false)] := by
  have hps : B.ps = [] := List.eq_nil_of_length_eq_zero h0
  have hg' := good_b hg
  rcases h.st with ⟨_, ha, hs, hw, hf, hl0, hl1⟩ | ⟨hne, _⟩
  rotate_left
  · exact absurd hps hne
  have hfv := h.fives
  rw [h0] at hfv
  have harms : (withL B p).arms = [(p.1, dblB p, false), (p.2.1, dblB p, false)] := by
    unfold withL armsW sidesL
    simp only [hps, List.nil_append, List.length_nil, if_true]
    cases hd : dblB p
    · simp [spinL, hd]
    · simp [spinL, hd]
  have hends : ∀ a ∈ (withL B p).arms, 0 ≤ a.1 ∧ a.1 ≤ 9 := by
    rw [harms]
    intro a ha
    simp only [List.mem_cons, List.not_mem_nil, or_false] at ha
    rcases ha with rfl | rfl <;> simp <;> omega
  have hpts := ptsL_le (n := 1) hends (by rw [harms]; simp)
  have hfives : (withL B p).fives = B.fives + ptsL 1 (withL B p).arms := by unfold withL; rw [h0]
  refine ⟨⟨?_, ?_, ?_, hends, ?_, ?_, ?_, ?_, ?_⟩, harms⟩
  · simp [firstS, withL, h.tiles, tileOf]
  · rw [harms]; rfl
  · intro q hq
    simp only [withL, hps, List.nil_append, List.mem_singleton] at hq
    rw [hq]; exact hg
  · simp only [firstS, withL, hps, List.nil_append, spinL, hs]
  · simp [withL, hps]
  · intro q hq
    simp only [withL, hps, List.nil_append, List.cons.injEq, and_true] at hq
    rw [harms, hq]
  · have hl : (withL B p).ps.length = 1 := by simp [withL, hps]
    rw [hfives, hl]
    omega
  · refine .inr ⟨by simp [withL], ?_⟩
    rw [harms]
    cases hd : dblB p
    · refine .inl ⟨?_, hw, ?_, p.1, p.2.1, rfl⟩
      · simp [firstS, hd, hs]
      · simp [firstS, hd, hf]
    · have he : p.1 = p.2.1 := by simpa [dblB] using hd
      refine .inr (.inl ⟨?_, hw, ?_, ?_, p.1, true, p.2.1, true, rfl, ?_, ?_⟩)
      · simp only [firstS, hd, if_true]; omega
      · simp [firstS, hd]
      · simp [firstS, hl0]
      · simp [firstS, hl0, hd]
      · simp [firstS, hl1, hd, he]

theorem sidesL_low {ps : List (Int × Int × Int)} {arms : List (Int × Bool × Bool)} (h : spinL ps < 0) : sidesL ps arms = arms := by unfold sidesL; rw [if_pos (.inl h)]
theorem sidesL_many {ps : List (Int × Int × Int)} {arms : List (Int × Bool × Bool)} (h : 2 < arms.length) : sidesL ps arms = arms := by unfold sidesL; rw [if_pos (.inr h)]
theorem sidesL_in {ps : List (Int × Int × Int)} {arms : List (Int × Bool × Bool)} (h : (spinL ps, true, false) ∈ arms) : sidesL ps arms = arms := by
  unfold sidesL
  split
  · rfl
  · rfl
theorem sidesL_new {ps : List (Int × Int × Int)} {arms : List (Int × Bool × Bool)} (h0 : 0 ≤ spinL ps) (h1 : arms.length ≤ 2) (h2 : (spinL ps, true, false) ∉ arms) :
    sidesL ps arms = arms ++ [(spinL ps, false, true), (spinL ps, false, true)] := by
  unfold sidesL
  rw [if_neg (by omega), if_neg h2]

/-- The arms behind a play more, whether sides come to be or not. -/
def armsN (S : SSt) (arms : List (Int × Bool × Bool)) (k x : Int) (d b : Bool) : List (Int × Bool × Bool) :=
  arms.set k.toNat (x, d, false) ++ (if b then [(S.spin, false, true), (S.spin, false, true)] else [])

theorem stN_next {S : SSt} {arms : List (Int × Bool × Bool)} {ps : List (Int × Int × Int)} {p : Int × Int × Int} {x s' : Int} (hs : S.spin = spinL ps) (hlow : -1 ≤ spinL ps)
    (hsp : spinL (ps ++ [p]) = if spinL ps < 0 then (if dblB p then p.1 else -1) else spinL ps) (h : StN S arms) (hk0 : 0 ≤ p.2.2) (hk1 : p.2.2 < arms.length) (hp : 0 ≤ p.1)
    (hdb : dblB p = true → x = p.1) (hna : 0 ≤ S.spin → dblB p = true → p.1 ≠ S.spin) (hend : p.1 = endL arms p.2.2 ∨ p.2.1 = endL arms p.2.2) :
    ∃ b, sidesS S p = b ∧ (b = true → 0 ≤ S.spin ∧ arms.length = 2) ∧ sidesL (ps ++ [p]) (arms.set p.2.2.toNat (x, dblB p, false)) = armsN S arms p.2.2 x (dblB p) b ∧ StN (nextS S p) (armsN S arms p.2.2 x (dblB p) b) := by
  rw [← hs] at hsp hlow
  have hd2 : dblB p = true → p.1 = p.2.1 := fun h => by simpa [dblB] using h
  have hsp0 : 0 ≤ S.spin → spinL (ps ++ [p]) = S.spin := fun h => by rw [hsp, if_neg (by omega)]
  have nspin0 : 0 ≤ S.spin → (nextS S p).spin = S.spin := fun h => by simp only [nextS]; rw [if_neg (by simp; omega)]
  have nw0 : 0 ≤ S.spin → (nextS S p).waits = if S.waits = p.2.2 then -1 else S.waits := fun h => by simp only [nextS]; rw [if_neg (by simp; omega)]
  have nf : (nextS S p).first = S.first := rfl
  have n0 : (nextS S p).l0 = l0S S p := rfl
  have n1 : (nextS S p).l1 = l1S S p := rfl
  have hdn : 0 ≤ S.spin → ¬ (x = S.spin ∧ dblB p = true) := fun h0 ⟨h1, h2⟩ => hna h0 h2 (by rw [← hdb h2]; exact h1)
  rcases h with ⟨h1, hw, hf, a, b, rfl⟩ | ⟨h1, hw, hf, hl, a, da, b, db, rfl, i0, i1⟩ | ⟨h1, hw, hf, b, db, rfl, hb⟩ | ⟨h1, hw, hf, a, da, rfl, hb⟩ | ⟨h1, hw, h4, hfl⟩
  · -- no double yet
    have hk : p.2.2 = 0 ∨ p.2.2 = 1 := by simp at hk1; omega
    have hlay : laysS S p = false := by simp [laysS, hf]
    have hsd : sidesS S p = false := by simp [sidesS, hlay, hw]; omega
    refine ⟨false, hsd, fun h => (by cases h), ?_, ?_⟩
    · simp only [armsN, Bool.false_eq_true, if_false, List.append_nil]
      cases hd : dblB p
      · refine sidesL_low ?_
        rw [hsp, hd, h1]; simp
      · refine sidesL_in ?_
        rw [hsp, hd, h1, if_pos (by decide), if_pos rfl, ← hdb hd]
        rcases hk with hk | hk <;> simp [hk]
    · simp only [armsN, Bool.false_eq_true, if_false, List.append_nil]
      cases hd : dblB p
      · refine .inl ⟨?_, ?_, by rw [nf]; exact hf, ?_⟩
        · simp [nextS, hd, h1]
        · simp only [nextS, hd, hw, Bool.false_and, Bool.false_eq_true, if_false]
          rw [if_neg (by omega)]
        · rcases hk with hk | hk <;> simp [hk]
      · have ns : (nextS S p).spin = x := by simp only [nextS, hd, h1]; rw [if_pos (by decide), hdb hd]
        have nw : (nextS S p).waits = p.2.2 := by simp only [nextS, hd, h1]; rw [if_pos (by decide)]
        have hx0 : 0 ≤ x := by rw [hdb hd]; exact hp
        rcases hk with hk | hk
        · refine .inr (.inr (.inl ⟨by omega, by omega, by rw [nf]; exact hf, b, false, ?_, by simp⟩))
          rw [ns]; simp [hk]
        · refine .inr (.inr (.inr (.inl ⟨by omega, by omega, by rw [nf]; exact hf, a, false, ?_, by simp⟩)))
          rw [ns]; simp [hk]
  · -- a first double, not both arms laid to
    have hk : p.2.2 = 0 ∨ p.2.2 = 1 := by simp at hk1; omega
    have hwk : decide (S.waits = p.2.2) = false := by simp [hw]; omega
    rcases hk with hk | hk
    · have hlay : laysS S p = !S.l0 := by simp [laysS, hf, hk]
      have e0 : l0S S p = true := by simp [l0S, hlay, hk]
      have e1 : l1S S p = S.l1 := by simp [l1S, hk]
      have hsd : sidesS S p = S.l1 := by
        simp only [sidesS, hlay, e0, e1, hwk, Bool.true_and, Bool.or_false]
        cases h0 : S.l0 <;> cases h1 : S.l1 <;> simp_all
      refine ⟨S.l1, hsd, fun _ => ⟨h1, rfl⟩, ?_, ?_⟩
      · cases hl1 : S.l1
        · have := i1.1 hl1
          simp only [armsN, Bool.false_eq_true, if_false, List.append_nil]
          refine sidesL_in ?_
          rw [hsp0 h1, ← this.1, this.2]; simp [hk]
        · have : ¬ (b = S.spin ∧ db = true) := fun h => by have := i1.2 h; rw [hl1] at this; cases this
          simp only [armsN, if_true]
          rw [sidesL_new (by rw [hsp0 h1]; exact h1) (by simp) (by
            rw [hsp0 h1, hk]
            simp only [Int.toNat_zero, List.set_cons_zero, List.mem_cons, Prod.mk.injEq, List.not_mem_nil, or_false, and_true]
            rintro (⟨e, e'⟩ | ⟨e, e'⟩)
            · exact hdn h1 ⟨e.symm, e'.symm⟩
            · exact this ⟨e.symm, e'.symm⟩), hsp0 h1]
      · cases hl1 : S.l1
        · refine .inr (.inl ⟨by rw [nspin0 h1]; exact h1, by rw [nw0 h1, hw, if_neg (by omega)], by rw [nf]; exact hf, by rw [n0, n1, e0, e1, hl1]; simp, x, dblB p, b, db, by simp [armsN, hk], ?_, ?_⟩)
          · rw [n0, e0, nspin0 h1]
            exact ⟨fun h => (by cases h), fun h => absurd h (hdn h1)⟩
          · rw [n1, e1, nspin0 h1]; exact i1
        · refine .inr (.inr (.inr (.inr ⟨by rw [nspin0 h1]; exact h1, by rw [nw0 h1, hw, if_neg (by omega)], by simp [armsN], fun _ => by rw [n0, n1, e0, e1]; exact ⟨rfl, hl1⟩⟩)))
    · have hlay : laysS S p = !S.l1 := by simp [laysS, hf, hk]
      have e0 : l0S S p = S.l0 := by simp [l0S, hk]
      have e1 : l1S S p = true := by simp [l1S, hlay, hk]
      have hsd : sidesS S p = S.l0 := by
        simp only [sidesS, hlay, e0, e1, hwk, Bool.and_true, Bool.or_false]
        cases h0 : S.l0 <;> cases h1 : S.l1 <;> simp_all
      refine ⟨S.l0, hsd, fun _ => ⟨h1, rfl⟩, ?_, ?_⟩
      · cases hl1 : S.l0
        · have := i0.1 hl1
          simp only [armsN, Bool.false_eq_true, if_false, List.append_nil]
          refine sidesL_in ?_
          rw [hsp0 h1, ← this.1, this.2]; simp [hk]
        · have : ¬ (a = S.spin ∧ da = true) := fun h => by have := i0.2 h; rw [hl1] at this; cases this
          simp only [armsN, if_true]
          rw [sidesL_new (by rw [hsp0 h1]; exact h1) (by simp) (by
            rw [hsp0 h1, hk]
            simp only [show (1 : Int).toNat = 1 from rfl, List.set_cons_succ, List.set_cons_zero, List.mem_cons, Prod.mk.injEq, List.not_mem_nil, or_false, and_true]
            rintro (⟨e, e'⟩ | ⟨e, e'⟩)
            · exact this ⟨e.symm, e'.symm⟩
            · exact hdn h1 ⟨e.symm, e'.symm⟩), hsp0 h1]
      · cases hl1 : S.l0
        · refine .inr (.inl ⟨by rw [nspin0 h1]; exact h1, by rw [nw0 h1, hw, if_neg (by omega)], by rw [nf]; exact hf, by rw [n0, n1, e0, e1, hl1]; simp, a, da, x, dblB p, by simp [armsN, hk], ?_, ?_⟩)
          · rw [n0, e0, nspin0 h1]; exact i0
          · rw [n1, e1, nspin0 h1]
            exact ⟨fun h => (by cases h), fun h => absurd h (hdn h1)⟩
        · refine .inr (.inr (.inr (.inr ⟨by rw [nspin0 h1]; exact h1, by rw [nw0 h1, hw, if_neg (by omega)], by simp [armsN], fun _ => by rw [n0, n1, e0, e1]; exact ⟨hl1, rfl⟩⟩)))
  · -- a double waits at the arm 0
    have hk : p.2.2 = 0 ∨ p.2.2 = 1 := by simp at hk1; omega
    have hlay : laysS S p = false := by simp [laysS, hf]
    rcases hk with hk | hk
    · have hd : dblB p = false := by
        cases hd : dblB p
        · rfl
        · have := hd2 hd
          have hna' := hna h1 hd
          simp only [endL, hk] at hend
          simp at hend
          omega
      have hsd : sidesS S p = true := by simp [sidesS, hlay, hw, hk]
      refine ⟨true, hsd, fun _ => ⟨h1, rfl⟩, ?_, ?_⟩
      · simp only [armsN, if_true]
        rw [sidesL_new (by rw [hsp0 h1]; exact h1) (by simp) (by
          rw [hsp0 h1, hk, hd]
          simp only [Int.toNat_zero, List.set_cons_zero, List.mem_cons, Prod.mk.injEq, List.not_mem_nil, or_false, and_true]
          rintro (⟨e, e'⟩ | ⟨e, e'⟩)
          · cases e'
          · exact hb ⟨e.symm, e'.symm⟩), hsp0 h1]
      · exact .inr (.inr (.inr (.inr ⟨by rw [nspin0 h1]; exact h1, by rw [nw0 h1, hw, if_pos hk.symm], by simp [armsN], fun h => by rw [nf, hf] at h; cases h⟩)))
    · have hsd : sidesS S p = false := by simp [sidesS, hlay, hw, hk]
      refine ⟨false, hsd, fun h => (by cases h), ?_, ?_⟩
      · simp only [armsN, Bool.false_eq_true, if_false, List.append_nil]
        refine sidesL_in ?_
        rw [hsp0 h1]; simp [hk]
      · exact .inr (.inr (.inl ⟨by rw [nspin0 h1]; exact h1, by rw [nw0 h1, hw, if_neg (by omega)], by rw [nf]; exact hf, x, dblB p, by rw [nspin0 h1]; simp [armsN, hk], by rw [nspin0 h1]; exact hdn h1⟩))
  · -- a double waits at the arm 1
    have hk : p.2.2 = 1 ∨ p.2.2 = 0 := by simp at hk1; omega
    have hlay : laysS S p = false := by simp [laysS, hf]
    rcases hk with hk | hk
    · have hd : dblB p = false := by
        cases hd : dblB p
        · rfl
        · have := hd2 hd
          have hna' := hna h1 hd
          simp only [endL, hk] at hend
          simp at hend
          omega
      have hsd : sidesS S p = true := by simp [sidesS, hlay, hw, hk]
      refine ⟨true, hsd, fun _ => ⟨h1, rfl⟩, ?_, ?_⟩
      · simp only [armsN, if_true]
        rw [sidesL_new (by rw [hsp0 h1]; exact h1) (by simp) (by
          rw [hsp0 h1, hk, hd]
          simp only [show (1 : Int).toNat = 1 from rfl, List.set_cons_succ, List.set_cons_zero, List.mem_cons, Prod.mk.injEq, List.not_mem_nil, or_false, and_true]
          rintro (⟨e, e'⟩ | ⟨e, e'⟩)
          · exact hb ⟨e.symm, e'.symm⟩
          · cases e'), hsp0 h1]
      · exact .inr (.inr (.inr (.inr ⟨by rw [nspin0 h1]; exact h1, by rw [nw0 h1, hw, if_pos hk.symm], by simp [armsN], fun h => by rw [nf, hf] at h; cases h⟩)))
    · have hsd : sidesS S p = false := by simp [sidesS, hlay, hw, hk]
      refine ⟨false, hsd, fun h => (by cases h), ?_, ?_⟩
      · simp only [armsN, Bool.false_eq_true, if_false, List.append_nil]
        refine sidesL_in ?_
        rw [hsp0 h1]; simp [hk]
      · exact .inr (.inr (.inr (.inl ⟨by rw [nspin0 h1]; exact h1, by rw [nw0 h1, hw, if_neg (by omega)], by rw [nf]; exact hf, x, dblB p, by rw [nspin0 h1]; simp [armsN, hk], by rw [nspin0 h1]; exact hdn h1⟩)))
  · -- four arms
    have hlay : laysS S p = false := by
      cases hf : S.first
      · simp [laysS, hf]
      · obtain ⟨g0, g1⟩ := hfl hf
        simp [laysS, g0, g1]
    have hsd : sidesS S p = false := by simp [sidesS, hlay, hw]; omega
    refine ⟨false, hsd, fun h => (by cases h), ?_, ?_⟩
    · simp only [armsN, Bool.false_eq_true, if_false, List.append_nil]
      exact sidesL_many (by simp; omega)
    · refine .inr (.inr (.inr (.inr ⟨by rw [nspin0 h1]; exact h1, by rw [nw0 h1, hw, if_neg (by omega)], by simp [armsN, h4], fun h => ?_⟩)))
      rw [nf] at h
      obtain ⟨g0, g1⟩ := hfl h
      rw [n0, n1]
      simp [l0S, l1S, g0, g1]

/-- A play more, behind others. -/
theorem rel_next {B : Brd} {S : SSt} (h : Rel B S) {p : Int × Int × Int} (h0 : B.ps.length ≠ 0) (hf : fitsL B p = true) : Rel (withL B p) (nextS S p) := by
  have hne : B.ps ≠ [] := by rintro e; rw [e] at h0; exact h0 rfl
  obtain ⟨hg, hh, h28, hk0, hk1, hend⟩ : goodB p.1 p.2.1 = true ∧ hasL B.ps p.1 p.2.1 = false ∧ B.ps.length ≠ 28 ∧ 0 ≤ p.2.2 ∧ p.2.2 < B.arms.length ∧ (p.1 = endL B.arms p.2.2 ∨ p.2.1 = endL B.arms p.2.2) := by
    unfold fitsL at hf
    simp only [if_neg h0, Bool.and_eq_true, Bool.not_eq_true', decide_eq_true_eq, decide_eq_false_iff_not, Bool.or_eq_true] at hf
    exact ⟨hf.1.1.2, hf.1.2, hf.1.1.1, hf.2.1.1, hf.2.1.2, hf.2.2⟩
  have hg' := good_b hg
  have hoth := oth_eq hend
  have hlen := h.len
  have hfv := h.fives
  have hgood : ∀ q ∈ (withL B p).ps, goodB q.1 q.2.1 = true := by
    intro q hq
    simp only [withL, List.mem_append, List.mem_singleton] at hq
    rcases hq with hq | rfl
    · exact h.good q hq
    · exact hg
  have hsp : spinL (B.ps ++ [p]) = if spinL B.ps < 0 then (if dblB p then p.1 else -1) else spinL B.ps := spinL_append _ _ h.good
  have hlow := spinL_low B.ps h.good
  have hoth0 : 0 ≤ othS p (endL B.arms p.2.2) ∧ othS p (endL B.arms p.2.2) ≤ 9 := by
    rw [hoth]
    rcases hend with e | e <;> omega
  have hdb : dblB p = true → othS p (endL B.arms p.2.2) = p.1 := by
    intro hd
    have hp : p.1 = p.2.1 := by simpa [dblB] using hd
    rw [hoth]
    rcases hend with e | e <;> omega
  have hst : StN S B.arms := by
    rcases h.st with ⟨h1, _⟩ | ⟨_, h1⟩
    · exact absurd h1 hne
    · exact h1
  obtain ⟨b, hb, hb2, hl, hN⟩ := stN_next (x := othS p (endL B.arms p.2.2)) (s' := 0) h.spin hlow.1 hsp hst hk0 hk1 (by omega) hdb (fun h0 hd => not_again h hh h0 hd) hend
  have eW : (withL B p).arms = armsN S B.arms p.2.2 (othS p (endL B.arms p.2.2)) (dblB p) b := by
    rw [← hl]
    simp only [withL, armsW, if_neg h0, hoth]
  have eN : (nextS S p).arms = armsN S B.arms p.2.2 (othS p (endL B.arms p.2.2)) (dblB p) b := by
    simp only [nextS, h.arms, armsN, hb]
  have hends : ∀ a ∈ (withL B p).arms, 0 ≤ a.1 ∧ a.1 ≤ 9 := by
    rw [eW]
    intro a ha
    unfold armsN at ha
    rcases List.mem_append.1 ha with ha | ha
    · rcases List.mem_or_eq_of_mem_set ha with ha | rfl
      · exact h.ends a ha
      · exact hoth0
    · cases b
      · simp at ha
      · have := (hb2 rfl).1
        have hs := h.spin
        simp at ha
        subst ha
        exact ⟨by simpa using this, by simp; omega⟩
  have hl4 : (withL B p).arms.length ≤ 4 := by
    rw [eW]
    have := hN.four
    omega
  have hspin : (nextS S p).spin = spinL (withL B p).ps := by
    simp only [nextS, withL]
    rw [hsp, h.spin]
    by_cases hs : spinL B.ps < 0
    · cases hd : dblB p
      · simp [hs]; omega
      · simp [hs]
    · simp [hs]
  have hpts := ptsL_le (n := B.ps.length + 1) hends hl4
  refine ⟨?_, eN.trans eW.symm, hgood, hends, hspin, ?_, ?_, ?_, .inr ⟨by simp [withL], by rw [eW]; exact hN⟩⟩
  · simp [nextS, withL, h.tiles, tileOf]
  · simp only [withL, List.length_append, List.length_singleton]; omega
  · intro q hq
    have := congrArg List.length hq
    simp only [withL, List.length_append, List.length_singleton] at this
    omega
  · have e : (withL B p).fives = B.fives + ptsL (B.ps.length + 1) (withL B p).arms := rfl
    rw [e]
    simp only [withL, List.length_append, List.length_singleton] at hpts ⊢
    omega

theorem rel_add {B : Brd} {S : SSt} (h : Rel B S) (p : Int × Int × Int) (hf : fitsL B p = true) : Rel (withL B p) (addS S p) := by
  have hl : S.tiles.length = B.ps.length := by rw [h.tiles, List.length_map]
  have ho := rel_ok h p
  rw [hf] at ho
  unfold addS
  rw [if_pos ho]
  by_cases h0 : B.ps.length = 0
  · rw [if_pos (by omega)]
    refine (rel_first h h0 ?_).1
    unfold fitsL at hf
    simp only [Bool.and_eq_true] at hf
    exact hf.1.1.2
  · rw [if_neg (by omega)]
    exact rel_next h h0 hf
end Go.Proofs.Ytnnkdnleencofab

/- A search with a memory finds what the plain one finds. No function of the program is named here. CanSweep: the sets of tiles by bits, and the ways to lay them, whatever the order. CanSweep: what the memory of the search is in the world, and its steps. -/
import Derived.Test.YtlnfialfkipdjaaBase
import Derived.Test.YtlnfialfkipdjaaDealM
import Derived.Test.YtlnfialfkipdjaaMovA
import Derived.Test.YtlnfialfkipdjaaPzA
import Derived.Test.YtlnfialfkipdjaaGames
namespace Go.Proofs.Ytlnfialfkipdjaa
open Go.RowKit
set_option linter.unusedVariables false
set_option linter.unusedSectionVars false

section
variable {α : Type} [DecidableEq α] (mv : α → List α) (sz : α → Nat)
/-- The plain search, as deep as the number says. -/
def plS : Nat → α → Bool
  | 0, _ => true
  | n + 1, s => if sz s = 0 then true else (mv s).any (plS n)
def anyS (g : α → (α → Bool) → Bool × (α → Bool)) : List α → (α → Bool) → Bool × (α → Bool)
  | [], f => (false, f)
  | c :: cs, f => if (g c f).1 = true then (true, (g c f).2) else anyS g cs (g c f).2
def setS (f : α → Bool) (s : α) : α → Bool := fun t => if t = s then true else f t
/-- The search with a memory: what it answers, and the memory behind it. -/
def lkS : Nat → α → (α → Bool) → Bool × (α → Bool)
  | 0, _, f => (true, f)
  | n + 1, s, f => if sz s = 0 then (true, f) else if f s = true then (false, f) else anyS (lkS n) (mv s) (setS f s)
def wayS (s : α) : Bool := plS mv sz (sz s + 1) s
/-- What is marked at states of at most c tiles has no way. -/
def InvS (c : Nat) (f : α → Bool) : Prop := ∀ t, f t = true → sz t ≤ c → wayS mv sz t = false
variable {mv sz}
theorem any_cong {p q : α → Bool} : ∀ {L : List α}, (∀ c ∈ L, p c = q c) → L.any p = L.any q
  | [], _ => rfl
  | c :: cs, h => by
    rw [List.any_cons, List.any_cons, h c List.mem_cons_self, any_cong fun d hd => h d (List.mem_cons_of_mem _ hd)]
theorem plS_fuel (hd : ∀ s c, c ∈ mv s → sz c < sz s) : ∀ (n m : Nat) (s : α), sz s < n → sz s < m → plS mv sz n s = plS mv sz m s
  | 0, _, _, h, _ => by omega
  | _, 0, _, _, h => by omega
  | n + 1, m + 1, s, h1, h2 => by
    unfold plS
    split
    · rfl
    · exact any_cong fun c hc => by have := hd s c hc; exact plS_fuel hd n m c (by omega) (by omega)
theorem way_step (hd : ∀ s c, c ∈ mv s → sz c < sz s) {s : α} (h : sz s ≠ 0) : wayS mv sz s = (mv s).any (wayS mv sz) := by
  show plS mv sz (sz s + 1) s = _
  unfold plS
  rw [if_neg h]
  exact any_cong fun c hc => plS_fuel hd _ _ c (hd s c hc) (Nat.lt_succ_self _)
/-- What the memory may have gained below a state of size k that f1 has marked. -/
def JS (mv : α → List α) (sz : α → Nat) (k : Nat) (f1 f : α → Bool) : Prop := InvS mv sz (k - 1) f ∧ (∀ t, k ≤ sz t → f t = f1 t) ∧ ∀ t, f1 t = true → f t = true
/-- What one look keeps. -/
def OkS (mv : α → List α) (sz : α → Nat) (s : α) (f : α → Bool) (r : Bool × (α → Bool)) : Prop :=
  r.1 = wayS mv sz s ∧ (r.1 = false → InvS mv sz (sz s) r.2 ∧ (∀ t, sz s ≤ sz t → t ≠ s → r.2 t = f t) ∧ ∀ t, f t = true → r.2 t = true)
theorem any_ok {g : α → (α → Bool) → Bool × (α → Bool)} {k : Nat} {f1 : α → Bool} :
    ∀ (L : List α) (f : α → Bool), (∀ c ∈ L, sz c < k ∧ ∀ f, InvS mv sz (sz c) f → OkS mv sz c f (g c f)) → JS mv sz k f1 f →
      (anyS g L f).1 = L.any (wayS mv sz) ∧ ((anyS g L f).1 = false → JS mv sz k f1 (anyS g L f).2)
  | [], f, _, hj => ⟨rfl, fun _ => hj⟩
  | c :: cs, f, h, hj => by
    obtain ⟨hck, hc⟩ := h c List.mem_cons_self
    obtain ⟨h1, h2⟩ := hc f (fun t ht hz => hj.1 t ht (by omega))
    unfold anyS
    rw [List.any_cons, ← h1]
    cases hb : (g c f).1
    · obtain ⟨i1, i2, i3⟩ := h2 hb
      rw [if_neg (by decide), Bool.false_or]
      refine any_ok cs (g c f).2 (fun d hd => h d (List.mem_cons_of_mem _ hd)) ⟨fun t ht hz => ?_, fun t ht => ?_, fun t ht => i3 t (hj.2.2 t ht)⟩
      · rcases Nat.lt_or_ge (sz c) (sz t) with h3 | h3
        · exact hj.1 t (by rw [← i2 t (by omega) (fun e => by subst e; omega)]; exact ht) hz
        · exact i1 t ht h3
      · rw [i2 t (by omega) (fun e => by subst e; omega)]
        exact hj.2.1 t ht
    · rw [if_pos rfl, Bool.true_or]
      exact ⟨rfl, fun h => by cases h⟩
/-- The search with a memory answers as the plain one. -/
theorem lk_ok (hd : ∀ s c, c ∈ mv s → sz c < sz s) : ∀ (n : Nat) (s : α) (f : α → Bool), sz s < n → InvS mv sz (sz s) f → OkS mv sz s f (lkS mv sz n s f)
  | 0, _, _, h, _ => by omega
  | n + 1, s, f, h, hi => by
    unfold lkS
    by_cases h0 : sz s = 0
    · rw [if_pos h0]
      refine ⟨?_, fun h => by cases h⟩
      show true = plS mv sz (sz s + 1) s
      unfold plS
      rw [if_pos h0]
    rw [if_neg h0]
    by_cases hf : f s = true
    · rw [if_pos hf]
      exact ⟨(hi s hf (Nat.le_refl _)).symm, fun _ => ⟨hi, fun t _ _ => rfl, fun t ht => ht⟩⟩
    rw [if_neg hf]
    have hs : ∀ t, t ≠ s → setS f s t = f t := fun t ht => if_neg ht
    have h1 := any_ok (mv := mv) (sz := sz) (g := lkS mv sz n) (k := sz s) (f1 := setS f s) (mv s) (setS f s) (fun c hc => ⟨hd s c hc, fun f2 h2 => lk_ok hd n c f2 (by have := hd s c hc; omega) h2⟩)
      ⟨fun t ht hz => hi t (by rw [← hs t (fun e => by subst e; omega)]; exact ht) (by omega), fun t _ => rfl, fun t ht => ht⟩
    refine ⟨h1.1.trans (way_step hd h0).symm, fun hb => ?_⟩
    have hw : wayS mv sz s = false := by rw [way_step hd h0, ← h1.1]; exact hb
    obtain ⟨j1, j2, j3⟩ := h1.2 hb
    refine ⟨fun t ht hz => ?_, fun t ht hne => by rw [j2 t ht, hs t hne], fun t ht => j3 t ?_⟩
    · rcases Nat.lt_or_ge (sz t) (sz s) with h3 | h3
      · exact j1 t ht (by omega)
      · rw [j2 t h3] at ht
        by_cases e : t = s
        · subst e; exact hw
        · rw [hs t e] at ht
          exact hi t ht hz
    · show (if t = s then true else f t) = true
      rw [ht]
      split <;> rfl
end
end Go.Proofs.Ytlnfialfkipdjaa

namespace Go.Proofs.Ytlnfialfkipdjaa
open Go.RowKit
set_option linter.unusedVariables false

/-- All tiles of a list can be laid at two ends. -/
inductive WayP : List (Int × Int) → Int → Int → Prop
  | nil (l r : Int) : WayP [] l r
  | left {H : List (Int × Int)} {l r : Int} (a b : Int) (h : (a, b) ∈ H) (he : a = l) (k : WayP (woL H a b) b r) : WayP H l r
  | left' {H : List (Int × Int)} {l r : Int} (a b : Int) (h : (a, b) ∈ H) (he : b = l) (k : WayP (woL H a b) a r) : WayP H l r
  | right {H : List (Int × Int)} {l r : Int} (a b : Int) (h : (a, b) ∈ H) (he : a = r) (k : WayP (woL H a b) l b) : WayP H l r
  | right' {H : List (Int × Int)} {l r : Int} (a b : Int) (h : (a, b) ∈ H) (he : b = r) (k : WayP (woL H a b) l a) : WayP H l r

abbrev SwS : Type := Nat × Int × Int
/-- The places of a hand that a set holds. -/
def atS (H : List (Int × Int)) (s : Nat) : List Nat := (List.range H.length).filter fun i => s.testBit i
def remS (H : List (Int × Int)) (s : Nat) : List (Int × Int) := (atS H s).map fun i => H.getD i (0, 0)
def clrS (s i : Nat) : Nat := s ^^^ 2 ^ i
def mvOf (H : List (Int × Int)) (s : SwS) (i : Nat) : List SwS :=
  (if (H.getD i (0, 0)).1 = s.2.1 then [(clrS s.1 i, (H.getD i (0, 0)).2, s.2.2)] else []) ++ (if (H.getD i (0, 0)).1 = s.2.2 then [(clrS s.1 i, s.2.1, (H.getD i (0, 0)).2)] else []) ++
  ((if (H.getD i (0, 0)).2 = s.2.1 then [(clrS s.1 i, (H.getD i (0, 0)).1, s.2.2)] else []) ++ (if (H.getD i (0, 0)).2 = s.2.2 then [(clrS s.1 i, s.2.1, (H.getD i (0, 0)).1)] else []))
def mvS (H : List (Int × Int)) (s : SwS) : List SwS := (atS H s.1).flatMap (mvOf H s)
def szS (H : List (Int × Int)) (s : SwS) : Nat := (atS H s.1).length
theorem mem_atS {H : List (Int × Int)} {s i : Nat} : i ∈ atS H s ↔ i < H.length ∧ s.testBit i = true := by simp [atS]
theorem clr_bit {s i j : Nat} (h : s.testBit i = true) : (clrS s i).testBit j = (s.testBit j && decide (j ≠ i)) := by
  unfold clrS
  rw [Nat.testBit_xor, Nat.testBit_two_pow]
  by_cases hk : i = j
  · subst hk; simp [h]
  · simp [hk, Ne.symm hk]
theorem at_clr {H : List (Int × Int)} {s i : Nat} (h : s.testBit i = true) : atS H (clrS s i) = (atS H s).filter fun j => decide (j ≠ i) := by
  unfold atS
  rw [List.filter_filter]
  refine List.filter_congr fun j _ => ?_
  rw [clr_bit h, Bool.and_comm]
theorem getD_in {H : List (Int × Int)} {i : Nat} (h : i < H.length) : H.getD i (0, 0) = H[i] := by
  rw [List.getD_eq_getElem?_getD, List.getElem?_eq_getElem h]
  rfl
theorem rem_clr {H : List (Int × Int)} (hn : H.Nodup) {s i : Nat} (hi : i ∈ atS H s) : remS H (clrS s i) = woL (remS H s) (H.getD i (0, 0)).1 (H.getD i (0, 0)).2 := by
  obtain ⟨h1, h2⟩ := mem_atS.1 hi
  unfold remS woL
  rw [at_clr h2, List.filter_map]
  congr 1
  refine List.filter_congr fun j hj => ?_
  have hj1 := (mem_atS.1 hj).1
  show decide (j ≠ i) = !isTB (H.getD i (0, 0)).1 (H.getD i (0, 0)).2 (H.getD j (0, 0))
  by_cases e : j = i
  · subst e
    have : isTB (H.getD j (0, 0)).1 (H.getD j (0, 0)).2 (H.getD j (0, 0)) = true := (isTB_iff _ _ _).2 rfl
    rw [this]
    simp
  · have : isTB (H.getD i (0, 0)).1 (H.getD i (0, 0)).2 (H.getD j (0, 0)) = false := by
      cases hb : isTB (H.getD i (0, 0)).1 (H.getD i (0, 0)).2 (H.getD j (0, 0))
      · rfl
      · have h3 := (isTB_iff _ _ _).1 hb
        rw [getD_in hj1, getD_in h1] at h3
        have hp := List.pairwise_iff_getElem.1 hn
        rcases Nat.lt_trichotomy i j with h4 | h4 | h4
        · exact absurd h3.symm (hp i j h1 hj1 h4)
        · exact absurd h4.symm e
        · exact absurd h3 (hp j i hj1 h1 h4)
    rw [this]
    simp [e]
theorem sz_clr {H : List (Int × Int)} {s i : Nat} (hi : i ∈ atS H s) : (atS H (clrS s i)).length < (atS H s).length := by
  rw [at_clr (mem_atS.1 hi).2]
  exact List.length_filter_lt_length_iff_exists.2 ⟨i, hi, by simp⟩
theorem mvOf_set {H : List (Int × Int)} {s c : SwS} {i : Nat} (h : c ∈ mvOf H s i) : c.1 = clrS s.1 i := by
  unfold mvOf at h
  simp only [List.mem_append] at h
  rcases h with (h | h) | (h | h) <;> (split at h <;> simp at h; rw [h])
theorem mv_less {H : List (Int × Int)} (s c : SwS) (h : c ∈ mvS H s) : szS H c < szS H s := by
  obtain ⟨i, hi, hc⟩ := List.mem_flatMap.1 h
  unfold szS
  rw [mvOf_set hc]
  exact sz_clr hi
theorem mem_rem {H : List (Int × Int)} {s : Nat} {t : Int × Int} : t ∈ remS H s ↔ ∃ i, i ∈ atS H s ∧ H.getD i (0, 0) = t := by
  unfold remS
  rw [List.mem_map]
/-- The plain search over sets finds the ways. -/
theorem way_iff {H : List (Int × Int)} (hn : H.Nodup) : ∀ (n : Nat) (s : SwS), szS H s = n → (wayS (mvS H) (szS H) s = true ↔ WayP (remS H s.1) s.2.1 s.2.2) := by
  intro n
  induction n using Nat.strongRecOn with
  | _ n ih =>
    intro s hs
    by_cases h0 : szS H s = 0
    · have h1 : wayS (mvS H) (szS H) s = true := by
        show plS _ _ (szS H s + 1) s = true
        unfold plS
        rw [if_pos h0]
      have h2 : remS H s.1 = [] := by
        unfold remS
        rw [List.eq_nil_of_length_eq_zero (show (atS H s.1).length = 0 from h0)]
        rfl
      rw [h2]
      exact ⟨fun _ => WayP.nil _ _, fun _ => h1⟩
    · rw [way_step mv_less h0, List.any_eq_true]
      obtain ⟨st, l, r⟩ := s
      constructor
      · rintro ⟨c, hc, hw⟩
        obtain ⟨i, hi, hm⟩ := List.mem_flatMap.1 hc
        have hlt := mv_less _ _ hc
        have hk := (ih _ (hs ▸ hlt) c rfl).1 hw
        have hcs := mvOf_set hm
        rw [hcs, rem_clr hn hi] at hk
        have hin : ((H.getD i (0, 0)).1, (H.getD i (0, 0)).2) ∈ remS H st := mem_rem.2 ⟨i, hi, rfl⟩
        unfold mvOf at hm
        simp only [List.mem_append] at hm
        rcases hm with (hm | hm) | (hm | hm)
        · split at hm
          · rename_i he
            simp only [List.mem_singleton] at hm
            subst hm
            exact WayP.left _ _ hin he hk
          · simp at hm
        · split at hm
          · rename_i he
            simp only [List.mem_singleton] at hm
            subst hm
            exact WayP.right _ _ hin he hk
          · simp at hm
        · split at hm
          · rename_i he
            simp only [List.mem_singleton] at hm
            subst hm
            exact WayP.left' _ _ hin he hk
          · simp at hm
        · split at hm
          · rename_i he
            simp only [List.mem_singleton] at hm
            subst hm
            exact WayP.right' _ _ hin he hk
          · simp at hm
      · intro hw
        have key : ∀ (a b : Int) (l2 r2 : Int), (a, b) ∈ remS H st → WayP (woL (remS H st) a b) l2 r2 → (∀ i, H.getD i (0, 0) = (a, b) → (clrS st i, l2, r2) ∈ mvOf H (st, l, r) i) → ∃ x, x ∈ mvS H (st, l, r) ∧ wayS (mvS H) (szS H) x = true := by
          intro a b l2 r2 hin hk hm
          obtain ⟨i, hi, e⟩ := mem_rem.1 hin
          have hx : (clrS st i, l2, r2) ∈ mvS H (st, l, r) := List.mem_flatMap.2 ⟨i, hi, hm i e⟩
          refine ⟨_, hx, (ih _ (hs ▸ mv_less _ _ hx) _ rfl).2 ?_⟩
          show WayP (remS H (clrS st i)) l2 r2
          rw [rem_clr hn hi, e]
          exact hk
        generalize hR : remS H st = R at *
        have hne : R ≠ [] := by
          intro e
          apply h0
          show (atS H st).length = 0
          have := congrArg List.length (hR.trans e)
          simpa [remS] using this
        cases hw with
        | nil => exact absurd rfl hne
        | left a b h he k => exact key a b _ _ h k fun i e => by unfold mvOf; rw [e]; simp [he]
        | left' a b h he k => exact key a b _ _ h k fun i e => by unfold mvOf; rw [e]; simp [he]
        | right a b h he k => exact key a b _ _ h k fun i e => by unfold mvOf; rw [e]; simp [he]
        | right' a b h he k => exact key a b _ _ h k fun i e => by unfold mvOf; rw [e]; simp [he]
end Go.Proofs.Ytlnfialfkipdjaa

namespace Go.Proofs.Ytlnfialfkipdjaa
open Go.RowKit
set_option linter.unusedVariables false
set_option linter.unusedSectionVars false

theorem bit_facts : ∀ (s : Fin 256) (q : Fin 8), (((s.1 : Int) / 2 ^ min q.1 64).tmod 2 == 0) = !(s.1.testBit q.1) ∧ (s.1.testBit q.1 = true → bits BinOp.andNot IntKind.i64 (s.1 : Int) (wrap64 (2 ^ min q.1 64)) = ((clrS s.1 q.1 : Nat) : Int)) := by decide +kernel
def okS (H : List (Int × Int)) (s : SwS) : Prop := s.1 < 2 ^ H.length ∧ (0 ≤ s.2.1 ∧ s.2.1 ≤ 9) ∧ (0 ≤ s.2.2 ∧ s.2.2 ≤ 9)
def ixS (s : SwS) : Nat := (s.1 * 10 + s.2.1.toNat) * 10 + s.2.2.toNat
theorem ix_inj {H : List (Int × Int)} {s t : SwS} (hs : okS H s) (ht : okS H t) (h : ixS s = ixS t) : s = t := by
  obtain ⟨a, l, r⟩ := s
  obtain ⟨b, l2, r2⟩ := t
  obtain ⟨h1, h2, h3⟩ := hs
  obtain ⟨g1, g2, g3⟩ := ht
  unfold ixS at h
  simp only at h h1 h2 h3 g1 g2 g3
  obtain ⟨rfl, rfl, rfl⟩ : a = b ∧ l = l2 ∧ r = r2 := by omega
  rfl
theorem ix_lt {H : List (Int × Int)} {s : SwS} (hs : okS H s) : ixS s < 100 * 2 ^ H.length := by
  obtain ⟨a, l, r⟩ := s
  obtain ⟨h1, h2, h3⟩ := hs
  unfold ixS
  simp only at h1 h2 h3 ⊢
  omega
theorem set_none {H : List (Int × Int)} {s : Nat} (h : s < 2 ^ H.length) : (atS H s).length = 0 ↔ s = 0 := by
  constructor
  · intro h0
    have h1 : atS H s = [] := List.eq_nil_of_length_eq_zero h0
    apply Nat.eq_of_testBit_eq
    intro i
    rw [Nat.zero_testBit]
    cases hb : s.testBit i
    · rfl
    · have hi : i < H.length := by
        rcases Nat.lt_or_ge i H.length with h2 | h2
        · exact h2
        · have := Nat.testBit_lt_two_pow (Nat.lt_of_lt_of_le h (Nat.pow_le_pow_right (by omega) h2))
          rw [this] at hb
          cases hb
      have := mem_atS.2 ⟨hi, hb⟩
      rw [h1] at this
      cases this
  · rintro rfl
    simp [atS]
theorem clr_lt {s i m : Nat} (h : s < 2 ^ m) (hb : s.testBit i = true) : clrS s i < 2 ^ m := by
  apply Nat.lt_pow_two_of_testBit
  intro j hj
  rw [clr_bit hb, Nat.testBit_lt_two_pow (Nat.lt_of_lt_of_le h (Nat.pow_le_pow_right (by omega) hj))]
  rfl

section
variable {α : Type} [DecidableEq α]
theorem any_app {g : α → (α → Bool) → Bool × (α → Bool)} : ∀ (L1 L2 : List α) (f f2 : α → Bool), anyS g L1 f = (false, f2) → anyS g (L1 ++ L2) f = anyS g L2 f2
  | [], L2, f, f2, h => by cases h; rfl
  | c :: cs, L2, f, f2, h => by
    unfold anyS at h
    show (if (g c f).1 = true then (true, (g c f).2) else anyS g (cs ++ L2) (g c f).2) = _
    by_cases hc : (g c f).1 = true
    · rw [if_pos hc] at h; cases h
    · rw [if_neg hc] at h ⊢
      exact any_app cs L2 _ _ h
theorem any_yes {g : α → (α → Bool) → Bool × (α → Bool)} {c : α} (L2 : List α) {f f2 : α → Bool} (h : g c f = (true, f2)) : anyS g (c :: L2) f = (true, f2) := by
  unfold anyS
  rw [h]
  rfl
theorem any_no {g : α → (α → Bool) → Bool × (α → Bool)} {c : α} (L2 : List α) {f f2 : α → Bool} (h : g c f = (false, f2)) : anyS g (c :: L2) f = anyS g L2 f2 := by
  conv => lhs; unfold anyS
  rw [h]
  rfl
end
/-- The children of the first q places. -/
def preS (H : List (Int × Int)) (s : SwS) (q : Nat) : List SwS := ((List.range q).filter fun i => s.1.testBit i).flatMap (mvOf H s)
theorem pre_all (H : List (Int × Int)) (s : SwS) : preS H s H.length = mvS H s := rfl
theorem pre_yes {H : List (Int × Int)} {s : SwS} {q : Nat} (h : s.1.testBit q = true) : preS H s (q + 1) = preS H s q ++ mvOf H s q := by
  unfold preS
  rw [List.range_succ, List.filter_append, List.flatMap_append]
  simp [h]
theorem pre_no {H : List (Int × Int)} {s : SwS} {q : Nat} (h : s.1.testBit q = false) : preS H s (q + 1) = preS H s q := by
  unfold preS
  rw [List.range_succ, List.filter_append, List.flatMap_append]
  simp [h]
/-- All children are the first places', this one's, and others. -/
theorem mv_split {H : List (Int × Int)} {s : SwS} {q : Nat} (hq : q < H.length) (h : s.1.testBit q = true) : ∃ Z, mvS H s = preS H s q ++ (mvOf H s q ++ Z) := by
  obtain ⟨m, hm⟩ : ∃ m, H.length = (q + 1) + m := ⟨H.length - (q + 1), by omega⟩
  refine ⟨(((List.range m).map (fun i => q + 1 + i)).filter fun i => s.1.testBit i).flatMap (mvOf H s), ?_⟩
  rw [← List.append_assoc, ← pre_yes h]
  unfold mvS atS preS
  rw [hm, List.range_add, List.filter_append, List.flatMap_append]

/-- The search's own struct, the hand and what is marked. -/
structure LkW (H : List (Int × Int)) (pb gs N : Nat) (AH : Option Addr) (cH : Nat) (w : World) (f : SwS → Bool) : Prop where
  bx : Bx2 w pb (.slice AH H.length cH) (.slice (some ⟨gs, 0, none⟩) N N)
  ne : pb ≠ gs
  hc : ∀ k (h : k < H.length), ∃ bk off, AH = some ⟨bk, off, none⟩ ∧ bk ≠ gs ∧ w.cell? ⟨bk, off + k * 2, none⟩ = some (.int .i64 H[k].1) ∧ w.cell? ⟨bk, off + k * 2 + 1, none⟩ = some (.int .i64 H[k].2)
  ms : ∀ s, okS H s → w.cell? ⟨gs, ixS s, none⟩ = some (.bool (f s)) ∧ w.frozen? ⟨gs, ixS s, none⟩ = false
section
variable {H : List (Int × Int)} {pb gs N cH : Nat} {AH : Option Addr} {w w' : World} {f : SwS → Bool}
theorem LkW.keep (h : LkW H pb gs N AH cH w f) (hb : Below w.heap.size w w') : LkW H pb gs N AH cH w' f :=
  { bx := h.bx.keep hb, ne := h.ne,
    hc := fun k hk => by obtain ⟨b, o, h1, h2, h3, h4⟩ := h.hc k hk; exact ⟨b, o, h1, h2, keepc hb h3, keepc hb h4⟩,
    ms := fun s hs => ⟨keepc hb (h.ms s hs).1, (hb.frozen (p := ⟨gs, ixS s, none⟩) (block_lt (h.ms s hs).1)).trans (h.ms s hs).2⟩ }
theorem LkW.mark (h : LkW H pb gs N AH cH w f) {s : SwS} (hs : okS H s) : LkW H pb gs N AH cH (w.setCell ⟨gs, ixS s, none⟩ (.bool true)) (setS f s) :=
  { bx := h.bx.far _ h.ne, ne := h.ne,
    hc := fun k hk => by
      obtain ⟨b, o, h1, h2, h3, h4⟩ := h.hc k hk
      exact ⟨b, o, h1, h2, (World.cell?_setCell_other _ _ _ _ (by simp [])).trans h3, (World.cell?_setCell_other _ _ _ _ (by simp [])).trans h4⟩,
    ms := fun t ht => by
      refine ⟨?_, by simp [(h.ms t ht).2]⟩
      by_cases e : t = s
      · subst e
        rw [show setS f t t = true from if_pos rfl]
        exact World.cell?_setCell_same _ _ _ (h.ms t ht).1
      · rw [show setS f s t = f t from if_neg e]
        exact (World.cell?_setCell_other _ _ _ _ (by simp; exact fun h2 => e (ix_inj ht hs h2.symm))).trans (h.ms t ht).1 }
end
end Go.Proofs.Ytlnfialfkipdjaa

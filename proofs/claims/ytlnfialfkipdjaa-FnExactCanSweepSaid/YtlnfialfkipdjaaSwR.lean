/- CanSweep: the plain search over rows finds the ways. -/
import Derived.Test.YtlnfialfkipdjaaSwA
import Derived.Test.YtlnfialfkipdjaaMovC
import Derived.Test.YtlnfialfkipdjaaSrtA
namespace Go.Proofs.Ytlnfialfkipdjaa
open Go.RowKit
set_option linter.unusedVariables false

/-- Can all tiles of a hand be laid at a row? -/
def swH : Nat → List (Int × Int) → List Int → Bool
  | 0, _, _ => true
  | n + 1, H, R => if H.length = 0 then true else (laysL R H).any fun m => swH n (woL H m.1 m.2.1) (rowAfter R m.1 m.2.1 m.2.2)
def swInv (H : List (Int × Int)) (R : List Int) : Prop := rowB R = true ∧ handB H = true ∧ ∀ x ∈ H, x ∉ rowT R
theorem mem_laysL {R : List Int} {H : List (Int × Int)} (hh : handB H = true) {m : Mv} : m ∈ laysL R H ↔ ∃ t, t ∈ H ∧ m ∈ layOf R t := by
  unfold laysL laysTo
  rw [List.take_length, List.mem_flatMap]
  exact ⟨fun ⟨t, h1, h2⟩ => ⟨t, (sortP_perm hh).mem_iff.1 h1, h2⟩, fun ⟨t, h1, h2⟩ => ⟨t, (sortP_perm hh).mem_iff.2 h1, h2⟩⟩
theorem mem_layOf {R : List Int} {t : Int × Int} {m : Mv} : m ∈ layOf R t ↔ (m = (t.1, t.2, 1) ∧ leftB R t.1 t.2 = true) ∨ (m = (t.1, t.2, 2) ∧ rightB R t.1 t.2 = true) := by
  unfold layOf
  rw [List.mem_append]
  constructor
  · rintro (h | h)
    · split at h
      · rename_i h1; exact .inl ⟨by simpa using h, h1⟩
      · simp at h
    · split at h
      · rename_i h1; exact .inr ⟨by simpa using h, h1⟩
      · simp at h
  · rintro (⟨h, h1⟩ | ⟨h, h1⟩)
    · rw [if_pos h1]; exact .inl (by simp [h])
    · rw [if_pos h1]; exact .inr (by simp [h])
theorem swInv_step {H : List (Int × Int)} {R : List Int} {a b : Int} {k : Nat} (h : swInv H R) (hm : (a, b) ∈ H) (hk : (k = 1 ∧ leftB R a b = true) ∨ (k = 2 ∧ rightB R a b = true)) : swInv (woL H a b) (rowAfter R a b k) := by
  obtain ⟨h1, h2, h3⟩ := h
  have hg := (of_decide_eq_true h2 : handP H).2.1 _ hm
  obtain ⟨r1, r2⟩ := row_after h1 hg (h3 _ hm) hk
  refine ⟨r1, woL_hand h2, fun x hx hr => ?_⟩
  obtain ⟨hx1, hx2⟩ := woL_mem.1 hx
  rcases (r2 x).1 hr with e | e
  · exact hx2 e
  · exact h3 x hx1 e
theorem after_left {R : List Int} (h0 : R.length ≠ 0) (a b : Int) : fstI (rowAfter R a b 1) = otherI a b (fstI R) ∧ lstI (rowAfter R a b 1) = lstI R := by
  have e : rowAfter R a b 1 = otherI a b (fstI R) :: R := by
    unfold rowAfter
    rw [if_neg h0]
    rfl
  rw [e]
  refine ⟨rfl, ?_⟩
  unfold lstI
  rw [List.length_cons]
  obtain ⟨n, hn⟩ : ∃ n, R.length = n + 1 := ⟨R.length - 1, by omega⟩
  rw [hn]
  rfl
theorem after_right {R : List Int} (h0 : R.length ≠ 0) (a b : Int) : fstI (rowAfter R a b 2) = fstI R ∧ lstI (rowAfter R a b 2) = otherI a b (lstI R) := by
  have e : rowAfter R a b 2 = R ++ [otherI a b (lstI R)] := by
    unfold rowAfter
    rw [if_neg h0]
    rfl
  rw [e]
  unfold fstI lstI
  simp only [List.length_append, List.length_cons, List.length_nil, List.getD_eq_getElem?_getD]
  refine ⟨?_, ?_⟩
  · rw [List.getElem?_append_left (by omega)]
  · rw [show R.length + (0 + 1) - 1 = R.length by omega, List.getElem?_append_right (Nat.le_refl _), Nat.sub_self]
    rfl
theorem after_len (R : List Int) (a b : Int) (k : Nat) : (rowAfter R a b k).length ≠ 0 := by
  unfold rowAfter
  split
  · simp
  · unfold layT layOut
    split <;> simp
theorem woL_short {H : List (Int × Int)} {a b : Int} (h : (a, b) ∈ H) : (woL H a b).length < H.length :=
  List.length_filter_lt_length_iff_exists.2 ⟨_, h, by simp [isTB]⟩
theorem has_cases {a b e : Int} (h : hasB a b e = true) : (a = e ∧ otherI a b e = b) ∨ (b = e ∧ otherI a b e = a) := by
  rcases has_end h with h1 | h1
  · exact .inl ⟨h1.symm, if_pos h1⟩
  · by_cases h2 : e = a
    · exact .inl ⟨h2.symm, if_pos h2⟩
    · exact .inr ⟨h1.symm, by unfold otherI; rw [if_neg h2, if_pos h1]⟩
theorem sw_iff : ∀ (n : Nat) (H : List (Int × Int)) (R : List Int), swInv H R → R.length ≠ 0 → H.length < n → (swH n H R = true ↔ WayP H (fstI R) (lstI R))
  | 0, _, _, _, _, h => by omega
  | n + 1, H, R, hi, h0, hl => by
    unfold swH
    by_cases hz : H.length = 0
    · rw [if_pos hz, List.eq_nil_of_length_eq_zero hz]
      exact ⟨fun _ => WayP.nil _ _, fun _ => rfl⟩
    rw [if_neg hz, List.any_eq_true]
    have hgo : ∀ (a b : Int) (k : Nat), (a, b) ∈ H → (k = 1 ∧ leftB R a b = true) ∨ (k = 2 ∧ rightB R a b = true) → (swH n (woL H a b) (rowAfter R a b k) = true ↔ WayP (woL H a b) (fstI (rowAfter R a b k)) (lstI (rowAfter R a b k))) :=
      fun a b k hm hk => sw_iff n _ _ (swInv_step hi hm hk) (after_len _ _ _ _) (by have := woL_short hm; omega)
    have hz2 : decide (R.length = 0) = false := decide_eq_false h0
    have hz3 : decide (0 < R.length) = true := decide_eq_true (by omega)
    constructor
    · rintro ⟨m, hm, hw⟩
      obtain ⟨⟨a, b⟩, ht, hm2⟩ := (mem_laysL hi.2.1).1 hm
      rcases mem_layOf.1 hm2 with ⟨rfl, hk⟩ | ⟨rfl, hk⟩
      · have hw2 := (hgo a b 1 ht (.inl ⟨rfl, hk⟩)).1 hw
        obtain ⟨e1, e2⟩ := after_left h0 a b
        rw [e1, e2] at hw2
        unfold leftB at hk
        rw [hz2, Bool.false_or] at hk
        rcases has_cases hk with ⟨h1, h2⟩ | ⟨h1, h2⟩
        · exact WayP.left a b ht h1 (by have h3 : otherI a b (fstI R) = b := h2; rw [h3] at hw2; exact hw2)
        · exact WayP.left' a b ht h1 (by have h3 : otherI a b (fstI R) = a := h2; rw [h3] at hw2; exact hw2)
      · have hw2 := (hgo a b 2 ht (.inr ⟨rfl, hk⟩)).1 hw
        obtain ⟨e1, e2⟩ := after_right h0 a b
        rw [e1, e2] at hw2
        unfold rightB at hk
        rw [hz3, Bool.true_and] at hk
        rcases has_cases hk with ⟨h1, h2⟩ | ⟨h1, h2⟩
        · exact WayP.right a b ht h1 (by have h3 : otherI a b (lstI R) = b := h2; rw [h3] at hw2; exact hw2)
        · exact WayP.right' a b ht h1 (by have h3 : otherI a b (lstI R) = a := h2; rw [h3] at hw2; exact hw2)
    · intro hw
      have hoth : ∀ {a b e x : Int}, (a = e ∧ x = b) ∨ (b = e ∧ x = a) → hasB a b e = true ∧ (otherI a b e = x) := by
        intro a b e x h
        unfold hasB otherI
        rcases h with ⟨rfl, rfl⟩ | ⟨rfl, rfl⟩
        · simp
        · refine ⟨by simp, ?_⟩
          split
          · rename_i h; exact h
          · rw [if_pos rfl]
      have goL : ∀ (a b x : Int), (a, b) ∈ H → ((a = fstI R ∧ x = b) ∨ (b = fstI R ∧ x = a)) → WayP (woL H a b) x (lstI R) → ∃ m, m ∈ laysL R H ∧ swH n (woL H m.1 m.2.1) (rowAfter R m.1 m.2.1 m.2.2) = true := by
        intro a b x ht hx k
        obtain ⟨h1, h2⟩ := hoth hx
        have hk : leftB R a b = true := by unfold leftB; rw [h1, Bool.or_true]
        refine ⟨(a, b, 1), (mem_laysL hi.2.1).2 ⟨(a, b), ht, mem_layOf.2 (.inl ⟨rfl, hk⟩)⟩, (hgo a b 1 ht (.inl ⟨rfl, hk⟩)).2 ?_⟩
        obtain ⟨e1, e2⟩ := after_left h0 a b
        rw [e1, e2, h2]
        exact k
      have goR : ∀ (a b x : Int), (a, b) ∈ H → ((a = lstI R ∧ x = b) ∨ (b = lstI R ∧ x = a)) → WayP (woL H a b) (fstI R) x → ∃ m, m ∈ laysL R H ∧ swH n (woL H m.1 m.2.1) (rowAfter R m.1 m.2.1 m.2.2) = true := by
        intro a b x ht hx k
        obtain ⟨h1, h2⟩ := hoth hx
        have hk : rightB R a b = true := by unfold rightB; rw [h1, hz3]; rfl
        refine ⟨(a, b, 2), (mem_laysL hi.2.1).2 ⟨(a, b), ht, mem_layOf.2 (.inr ⟨rfl, hk⟩)⟩, (hgo a b 2 ht (.inr ⟨rfl, hk⟩)).2 ?_⟩
        obtain ⟨e1, e2⟩ := after_right h0 a b
        rw [e1, e2, h2]
        exact k
      generalize hl2 : fstI R = l at *
      generalize hr2 : lstI R = r at *
      cases hw with
      | nil => exact absurd rfl hz
      | left a b h he k => exact goL a b b h (.inl ⟨he, rfl⟩) k
      | left' a b h he k => exact goL a b a h (.inr ⟨he, rfl⟩) k
      | right a b h he k => exact goR a b b h (.inl ⟨he, rfl⟩) k
      | right' a b h he k => exact goR a b a h (.inr ⟨he, rfl⟩) k
/-- At no row: the first tile lies alone. -/
theorem sw_none {H : List (Int × Int)} (n : Nat) (hi : swInv H []) (hl : H.length < n) : swH n H [] = (decide (H.length = 0) || H.any fun t => swH (n - 1) (woL H t.1 t.2) [t.1, t.2]) := by
  obtain ⟨n, rfl⟩ : ∃ m, n = m + 1 := ⟨n - 1, by omega⟩
  show (if H.length = 0 then true else _) = _
  by_cases hz : H.length = 0
  · rw [if_pos hz, decide_eq_true hz]; rfl
  rw [if_neg hz, decide_eq_false hz, Bool.false_or, Bool.eq_iff_iff, List.any_eq_true, List.any_eq_true]
  constructor
  · rintro ⟨m, hm, hw⟩
    obtain ⟨t, ht, hm2⟩ := (mem_laysL hi.2.1).1 hm
    rcases mem_layOf.1 hm2 with ⟨rfl, hk⟩ | ⟨rfl, hk⟩
    · exact ⟨t, ht, hw⟩
    · unfold rightB at hk
      simp at hk
  · rintro ⟨t, ht, hw⟩
    exact ⟨(t.1, t.2, 1), (mem_laysL hi.2.1).2 ⟨t, ht, mem_layOf.2 (.inl ⟨rfl, rfl⟩)⟩, hw⟩
end Go.Proofs.Ytlnfialfkipdjaa

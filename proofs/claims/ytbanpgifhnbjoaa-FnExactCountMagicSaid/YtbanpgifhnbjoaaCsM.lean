/- All chains of tiles of a hand, in their order: the mathematics of going through them. No function of the program is named here. -/
import Derived.Test.YtbanpgifhnbjoaaChain
namespace Go.Proofs.Ytbanpgifhnbjoaa
open Go.RowKit
set_option linter.unusedVariables false

def lastC (c : List Int) : Int := c.getD (c.length - 1) 0
/-- May a number come behind a chain of tiles of a hand? -/
def fitC (H : List (Int × Int)) (c : List Int) (x : Int) : Bool := decide (c.length = 0) || (decide (tile2 (lastC c) x ∈ H) && decide (tile2 (lastC c) x ∉ tilesC c))
/-- A chain and all that begin with it. -/
def enumS (H : List (Int × Int)) : Nat → List Int → List (List Int)
  | 0, _ => []
  | f + 1, c => c :: ((List.range 10).flatMap fun x : Nat => if fitC H c (x : Int) then enumS H f (c ++ [(x : Int)]) else [])
def fuelC (H : List (Int × Int)) (c : List Int) : Nat := H.length + 2 - c.length
def subC (H : List (Int × Int)) (c : List Int) (x : Nat) : List (List Int) := if fitC H c (x : Int) then enumS H (fuelC H c - 1) (c ++ [(x : Int)]) else []
/-- Those behind a chain whose next number is lo or more. -/
def behC (H : List (Int × Int)) (c : List Int) (lo : Nat) : List (List Int) := (List.range (10 - lo)).flatMap fun i => subC H c (lo + i)
def remTo (H : List (Int × Int)) : Nat → List Int → Nat → List (List Int)
  | 0, c, lo => behC H c lo
  | n + 1, c, lo => behC H c lo ++ remTo H n c.dropLast ((lastC c).toNat + 1)
/-- What is still to come when the chain is c and the next number is lo or more. -/
def remC (H : List (Int × Int)) (c : List Int) (lo : Nat) : List (List Int) := remTo H c.length c lo
def allC (H : List (Int × Int)) : List (List Int) := remC H [] 0

theorem tilesC_snoc {c : List Int} (h : c.length ≠ 0) (x : Int) : tilesC (c ++ [x]) = tilesC c ++ [tile2 (lastC c) x] := by
  unfold tilesC
  have h1 : (c ++ [x]).length - 1 = (c.length - 1) + 1 := by simp; omega
  rw [h1, tilesTo_step (by simp; omega)]
  congr 1
  · unfold tilesTo
    apply List.map_congr_left
    intro i hi
    have := List.mem_range.1 hi
    simp only [List.getD_eq_getElem?_getD]
    rw [List.getElem?_append_left (by omega), List.getElem?_append_left (by omega)]
  · have e1 : (c ++ [x])[c.length - 1]'(by simp; omega) = lastC c := by
      rw [List.getElem_append_left (by omega)]
      unfold lastC
      rw [List.getD_eq_getElem?_getD, List.getElem?_eq_getElem (by omega)]
      rfl
    have e2 : (c ++ [x])[c.length - 1 + 1]'(by simp; omega) = x := by
      rw [List.getElem_append_right (by omega)]
      simp
    rw [e1, e2]
theorem tilesC_sing (x : Int) : tilesC [x] = [] := rfl
theorem lastC_snoc (c : List Int) (x : Int) : lastC (c ++ [x]) = x := by
  unfold lastC
  rw [List.getD_eq_getElem?_getD]
  simp
/-- A chain of tiles of a hand, or none yet. -/
structure OkC (H : List (Int × Int)) (c : List Int) : Prop where
  num : ∀ x ∈ c, numB x = true
  nd : (tilesC c).Nodup
  mem : ∀ t ∈ tilesC c, t ∈ H
theorem OkC.nil (H : List (Int × Int)) : OkC H [] := ⟨by simp, by simp [tilesC, tilesTo], by simp [tilesC, tilesTo]⟩
theorem OkC.len {H : List (Int × Int)} {c : List Int} (h : OkC H c) : c.length ≤ H.length + 1 := by
  have := nodup_len (tilesC c) H h.nd h.mem
  rw [tilesC_len] at this
  omega
theorem OkC.snoc {H : List (Int × Int)} {c : List Int} (h : OkC H c) {x : Int} (hx : numB x = true) (hf : fitC H c x = true) : OkC H (c ++ [x]) := by
  by_cases h0 : c.length = 0
  · have : c = [] := List.eq_nil_of_length_eq_zero h0
    subst this
    exact ⟨by simpa using hx, by simp [tilesC_sing], by simp [tilesC_sing]⟩
  · unfold fitC at hf
    rw [decide_eq_false h0, Bool.false_or, Bool.and_eq_true, decide_eq_true_eq, decide_eq_true_eq] at hf
    refine ⟨fun y hy => ?_, ?_, fun t ht => ?_⟩
    · rcases List.mem_append.1 hy with hy | hy
      · exact h.num y hy
      · rw [List.mem_singleton.1 hy]; exact hx
    · rw [tilesC_snoc h0, List.nodup_append]
      exact ⟨h.nd, by simp, fun a ha b hb => by rw [List.mem_singleton.1 hb]; rintro rfl; exact hf.2 ha⟩
    · rw [tilesC_snoc h0] at ht
      rcases List.mem_append.1 ht with ht | ht
      · exact h.mem t ht
      · rw [List.mem_singleton.1 ht]; exact hf.1
theorem snoc_of {c : List Int} (h : c.length ≠ 0) : c = c.dropLast ++ [lastC c] := by
  have h1 : c ≠ [] := fun e => h (by rw [e]; rfl)
  have h2 := List.dropLast_concat_getLast h1
  have h3 : c.getLast h1 = lastC c := by
    unfold lastC
    rw [List.getLast_eq_getElem, List.getD_eq_getElem?_getD, List.getElem?_eq_getElem (by omega)]
    rfl
  rw [h3] at h2
  exact h2.symm
theorem OkC.pop {H : List (Int × Int)} {c : List Int} (h : OkC H c) : OkC H c.dropLast := by
  by_cases h0 : c.length = 0
  · have : c = [] := List.eq_nil_of_length_eq_zero h0
    subst this
    exact h
  by_cases h1 : c.dropLast.length = 0
  · have : c.dropLast = [] := List.eq_nil_of_length_eq_zero h1
    rw [this]
    exact OkC.nil H
  have e := snoc_of h0
  have e2 := tilesC_snoc h1 (lastC c)
  rw [← e] at e2
  refine ⟨fun x hx => h.num x ((List.dropLast_sublist c).mem hx), ?_, fun t ht => h.mem t (by rw [e2]; exact List.mem_append_left _ ht)⟩
  have := h.nd
  rw [e2, List.nodup_append] at this
  exact this.1
theorem behC_step (H : List (Int × Int)) (c : List Int) {lo : Nat} (h : lo ≤ 9) : behC H c lo = subC H c lo ++ behC H c (lo + 1) := by
  unfold behC
  rw [show 10 - lo = (10 - (lo + 1)) + 1 from by omega, List.range_succ_eq_map, List.flatMap_cons, List.flatMap_map, Nat.add_zero]
  have e : (fun i => subC H c (lo + (i + 1))) = fun i => subC H c (lo + 1 + i) := funext fun i => by rw [show lo + (i + 1) = lo + 1 + i from by omega]
  exact congrArg (fun f => subC H c lo ++ (List.range (10 - (lo + 1))).flatMap f) e
theorem behC_end (H : List (Int × Int)) (c : List Int) : behC H c 10 = [] := rfl
theorem remC_behC (H : List (Int × Int)) (c : List Int) (lo : Nat) : remC H c lo = behC H c lo ++ (if c.length = 0 then [] else remC H c.dropLast ((lastC c).toNat + 1)) := by
  unfold remC
  cases hn : c.length with
  | zero => simp [remTo]
  | succ n =>
    rw [if_neg (by omega)]
    show behC H c lo ++ _ = _
    rw [List.length_dropLast, hn]
    rfl
/-- A number that does not fit. -/
theorem remC_skip {H : List (Int × Int)} {c : List Int} {lo : Nat} (h : lo ≤ 9) (hf : fitC H c (lo : Int) = false) : remC H c lo = remC H c (lo + 1) := by
  rw [remC_behC H c lo, remC_behC H c (lo + 1), behC_step H c h]
  unfold subC
  rw [hf]
  simp
theorem enum_beh {H : List (Int × Int)} {c : List Int} (h : c.length ≤ H.length + 1) : enumS H (fuelC H c) c = c :: behC H c 0 := by
  obtain ⟨f, hf⟩ : ∃ f, fuelC H c = f + 1 := ⟨fuelC H c - 1, by unfold fuelC; omega⟩
  rw [hf]
  unfold enumS behC subC
  rw [hf]
  simp
/-- A number that fits is laid, and the chain comes. -/
theorem remC_lay {H : List (Int × Int)} {c : List Int} {lo : Nat} (h : lo ≤ 9) (ho : OkC H c) (hf : fitC H c (lo : Int) = true) : remC H c lo = (c ++ [(lo : Int)]) :: remC H (c ++ [(lo : Int)]) 0 := by
  have ho2 := ho.snoc (x := (lo : Int)) (by unfold numB; simp; omega) hf
  have hl := ho2.len
  have e := enum_beh (H := H) (c := c ++ [(lo : Int)]) hl
  have e2 : subC H c lo = (c ++ [(lo : Int)]) :: behC H (c ++ [(lo : Int)]) 0 := by
    unfold subC
    rw [if_pos hf, ← e]
    congr 1
    unfold fuelC
    rw [List.length_append, List.length_singleton]
    omega
  have e3 : remC H (c ++ [(lo : Int)]) 0 = behC H (c ++ [(lo : Int)]) 0 ++ remC H c (lo + 1) := by
    rw [remC_behC, if_neg (by simp), List.dropLast_concat, lastC_snoc, Int.toNat_natCast]
  rw [e3, remC_behC H c lo, behC_step H c h, e2, remC_behC H c (lo + 1)]
  simp
/-- Nothing more fits: the last number gives way. -/
theorem remC_pop {H : List (Int × Int)} {c : List Int} (h : c.length ≠ 0) : remC H c 10 = remC H c.dropLast ((lastC c).toNat + 1) := by
  rw [remC_behC H c 10, if_neg h, behC_end, List.nil_append]
theorem remC_end (H : List (Int × Int)) : remC H [] 10 = [] := rfl
theorem allC_enum (H : List (Int × Int)) : allC H = (List.range 10).flatMap fun x : Nat => enumS H (H.length + 1) [(x : Int)] := by
  show behC H [] 0 = _
  unfold behC subC
  simp [fitC, fuelC]
theorem enum_ok {H : List (Int × Int)} : ∀ (f : Nat) (c : List Int), OkC H c → c.length ≠ 0 → ∀ x ∈ enumS H f c, OkC H x ∧ x.length ≠ 0
  | 0, _, _, _, x, hx => by simp [enumS] at hx
  | f + 1, c, ho, h0, x, hx => by
    unfold enumS at hx
    rcases List.mem_cons.1 hx with rfl | hx
    · exact ⟨ho, h0⟩
    · obtain ⟨k, hk, hx⟩ := List.mem_flatMap.1 hx
      have hk := List.mem_range.1 hk
      split at hx
      · rename_i hf
        exact enum_ok f _ (ho.snoc (by unfold numB; simp; omega) hf) (by simp) x hx
      · simp at hx
theorem all_ok {H : List (Int × Int)} {x : List Int} (hx : x ∈ allC H) : OkC H x ∧ x.length ≠ 0 := by
  rw [allC_enum] at hx
  obtain ⟨k, hk, hx⟩ := List.mem_flatMap.1 hx
  have hk := List.mem_range.1 hk
  exact enum_ok _ _ ((OkC.nil H).snoc (x := (k : Int)) (by unfold numB; simp; omega) rfl) (by simp) x hx
theorem flat_len {α β : Type} (f : α → List β) (m : Nat) : ∀ (L : List α), (∀ x ∈ L, (f x).length ≤ m) → (L.flatMap f).length ≤ L.length * m
  | [], _ => by simp
  | x :: L, h => by
    rw [List.flatMap_cons, List.length_append, List.length_cons, Nat.succ_mul]
    have h1 := h x (by simp)
    have h2 := flat_len f m L (fun y hy => h y (by simp [hy]))
    omega
theorem enum_len (H : List (Int × Int)) : ∀ (f : Nat) (c : List Int), (enumS H f c).length ≤ 11 ^ f
  | 0, _ => by simp [enumS]
  | f + 1, c => by
    unfold enumS
    have h1 := flat_len (fun x : Nat => if fitC H c (x : Int) then enumS H f (c ++ [(x : Int)]) else []) (11 ^ f) (List.range 10) (fun x _ => by
      show (if _ then _ else _ : List (List Int)).length ≤ _
      split
      · exact enum_len H f _
      · simp)
    rw [List.length_range] at h1
    have h2 : 1 ≤ 11 ^ f := Nat.one_le_pow _ _ (by omega)
    rw [List.length_cons, Nat.pow_succ]
    omega
theorem all_len {H : List (Int × Int)} (h : H.length ≤ 8) : (allC H).length ≤ 23579476910 := by
  rw [allC_enum]
  have h1 := flat_len (fun x : Nat => enumS H (H.length + 1) [(x : Int)]) (11 ^ (H.length + 1)) (List.range 10) (fun x _ => enum_len H _ _)
  rw [List.length_range] at h1
  have h2 : 11 ^ (H.length + 1) ≤ 11 ^ 9 := Nat.pow_le_pow_right (by omega) (by omega)
  have h3 : (11 : Nat) ^ 9 = 2357947691 := by decide
  rw [h3] at h2
  omega
end Go.Proofs.Ytbanpgifhnbjoaa

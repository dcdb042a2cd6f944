/- All chains of a hand by the specification: what it finds from the numbers of a hand is what all chains give. No function of the program is named here. -/
import Derived.Test.YtjhedjokifnofaaLkW
import Derived.Test.YtjhedjokifnofaaCount
namespace Go.Proofs.Ytjhedjokifnofaa
open Go.RowKit
set_option linter.unusedVariables false

/-- All chains that begin with a number below q. -/
def allTo (H : List (Int × Int)) (q : Nat) : List (List Int) := (List.range q).flatMap fun x : Nat => enumS H (H.length + 1) [(x : Int)]
theorem allTo_step (H : List (Int × Int)) (q : Nat) : allTo H (q + 1) = allTo H q ++ enumS H (H.length + 1) [(q : Int)] := by
  unfold allTo
  rw [List.range_succ, List.flatMap_append]
  simp
theorem allTo_all (H : List (Int × Int)) : allTo H 10 = allC H := (allC_enum H).symm
theorem times_none {q : Int} : ∀ (H : List (Int × Int)), ¬ 0 < timesI H q → ∀ t ∈ H, hitI t q = 0
  | [], _, t, ht => by simp at ht
  | u :: H, h, t, ht => by
    have e : timesI (u :: H) q = hitI u q + timesI H q := by unfold timesI; simp
    have h1 := (hitI_bd u q).1
    have h2 : 0 ≤ timesI H q := by have := (timesI_bd H q H.length (Nat.le_refl _)).1; rwa [List.take_length] at this
    rcases List.mem_cons.1 ht with rfl | ht
    · omega
    · exact times_none H (by omega) t ht
theorem hit_tile2 (a b : Int) : hitI (tile2 a b) a ≠ 0 := by
  unfold hitI tile2
  simp only
  repeat' split
  all_goals omega
/-- A number that stands on no tile of a hand begins no longer chain. -/
theorem enum_lone {H : List (Int × Int)} {q : Int} (h : ¬ 0 < timesI H q) (f : Nat) : enumS H (f + 1) [q] = [[q]] := by
  unfold enumS
  rw [List.cons_eq_cons]
  refine ⟨rfl, ?_⟩
  rw [List.flatMap_eq_nil_iff]
  intro x _
  rw [if_neg]
  intro hf
  unfold fitC at hf
  rw [decide_eq_false (show ¬ [q].length = 0 by simp), Bool.false_or, Bool.and_eq_true, decide_eq_true_eq, decide_eq_true_eq] at hf
  exact hit_tile2 q (x : Int) (times_none H h _ hf.1)
theorem fold3_n (m : Nat) : ∀ (L : List (List Int)) (s : S3), (fold3 m s L).n = L.foldl (fun n c => if c.length = m + 1 then n + 1 else n) s.n
  | [], _ => rfl
  | c :: L, s => fold3_n m L (step3 m s c)
/-- Two longest chains so far: the same, or both too short to matter. -/
def RL (a b : List Int) : Prop := a = b ∨ (a.length ≤ 1 ∧ b.length ≤ 1)
theorem RL.step {a b : List Int} (h : RL a b) (x : List Int) : RL (lngStep a x) (lngStep b x) := by
  rcases h with rfl | ⟨h1, h2⟩
  · exact .inl rfl
  · unfold lngStep
    by_cases hx : 1 < x.length
    · rw [if_pos (by omega), if_pos (by omega)]; exact .inl rfl
    · refine .inr ⟨?_, ?_⟩
      · split <;> omega
      · split <;> omega
theorem RL.fold : ∀ (L : List (List Int)) {a b : List Int}, RL a b → RL (L.foldl lngStep a) (L.foldl lngStep b)
  | [], _, _, h => h
  | x :: L, _, _, h => RL.fold L (h.step x)
theorem RL.lone {a b : List Int} (h : RL a b) (q : Int) : RL (lngStep a [q]) b := by
  unfold lngStep
  split
  · rename_i h3
    simp only [List.length_singleton] at h3
    rcases h with rfl | ⟨h1, h2⟩
    · exact .inr ⟨by simp, by omega⟩
    · exact .inr ⟨by simp, h2⟩
  · exact h
def zero3 (m : Nat) : S3 := ⟨0, List.replicate m 0, []⟩
/-- What the specification keeps when it has begun with all numbers below q. -/
structure InvA (H : List (Int × Int)) (q : Nat) (s : S3) : Prop where
  n : s.n = (fold3 H.length (zero3 H.length) (allTo H q)).n
  C : s.C = (fold3 H.length (zero3 H.length) (allTo H q)).C
  L : RL (fold3 H.length (zero3 H.length) (allTo H q)).L s.L
theorem InvA.zero (H : List (Int × Int)) : InvA H 0 (zero3 H.length) := ⟨rfl, rfl, .inl rfl⟩
theorem InvA.more {H : List (Int × Int)} {q : Nat} {s : S3} (h : InvA H q s) : InvA H (q + 1) (fold3 H.length s (enumS H (H.length + 1) [(q : Int)])) := by
  refine ⟨?_, ?_, ?_⟩
  · rw [allTo_step, fold3_app, fold3_n, fold3_n, h.n]
  · rw [allTo_step, fold3_app, fold3_C, fold3_C, h.C]
  · rw [allTo_step, fold3_app, fold3_L, fold3_L _ _ s]
    exact h.L.fold _
theorem InvA.lone {H : List (Int × Int)} {q : Nat} {s : S3} (h : InvA H q s) (hq : ¬ 0 < timesI H (q : Int)) (h0 : H.length ≠ 0) : InvA H (q + 1) s := by
  refine ⟨?_, ?_, ?_⟩
  · rw [allTo_step, enum_lone hq, fold3_app, fold3_n _ [_], ← h.n]
    simp [h0]
  · rw [allTo_step, enum_lone hq, fold3_app, fold3_C _ [_], ← h.C]
    simp [cntStep]
  · rw [allTo_step, enum_lone hq, fold3_app, fold3_L _ [_]]
    exact h.L.lone _
theorem lng_ge : ∀ (L : List (List Int)) (a : List Int), a.length ≤ (L.foldl lngStep a).length ∧ ∀ x ∈ L, x.length ≤ (L.foldl lngStep a).length
  | [], a => ⟨Nat.le_refl _, by simp⟩
  | y :: L, a => by
    have h1 := lng_ge L (lngStep a y)
    have h2 : a.length ≤ (lngStep a y).length ∧ y.length ≤ (lngStep a y).length := by unfold lngStep; split <;> omega
    rw [List.foldl_cons]
    refine ⟨by omega, fun x hx => ?_⟩
    rcases List.mem_cons.1 hx with rfl | hx
    · omega
    · exact h1.2 x hx
/-- A hand with a tile has a chain of one tile. -/
theorem two_in {H : List (Int × Int)} (hh : handB H = true) (h0 : H.length ≠ 0) : ∃ x ∈ allC H, 2 ≤ x.length := by
  obtain ⟨t, ht⟩ : ∃ t, t ∈ H := ⟨H[0]'(by omega), List.getElem_mem _⟩
  have hp : handP H := of_decide_eq_true hh
  have g := hp.2.1 t ht
  simp only [goodB, numB, Bool.and_eq_true, decide_eq_true_eq] at g
  obtain ⟨a, ha⟩ : ∃ a : Nat, t.1 = (a : Int) := ⟨t.1.toNat, by omega⟩
  obtain ⟨b, hb⟩ : ∃ b : Nat, t.2 = (b : Int) := ⟨t.2.toNat, by omega⟩
  refine ⟨[(a : Int), (b : Int)], ?_, by simp⟩
  rw [allC_enum]
  refine List.mem_flatMap.2 ⟨a, List.mem_range.2 (by omega), ?_⟩
  unfold enumS
  refine List.mem_cons_of_mem _ (List.mem_flatMap.2 ⟨b, List.mem_range.2 (by omega), ?_⟩)
  rw [if_pos]
  · obtain ⟨k, hk⟩ : ∃ k, H.length = k + 1 := ⟨H.length - 1, by omega⟩
    rw [hk]
    unfold enumS
    exact List.mem_cons_self
  · unfold fitC
    rw [Bool.or_eq_true, Bool.and_eq_true, decide_eq_true_eq, decide_eq_true_eq, decide_eq_true_eq]
    refine .inr ⟨?_, by simp [tilesC_sing]⟩
    have e : tile2 (lastC [(a : Int)]) (b : Int) = t := by
      unfold tile2 lastC
      rw [Prod.ext_iff]
      simp only [List.length_singleton, List.getD_eq_getElem?_getD]
      refine ⟨?_, ?_⟩ <;> simp <;> omega
    rw [e]; exact ht
/-- What the specification answers as the longest chain is what the program keeps. -/
theorem lng_end {H : List (Int × Int)} (hh : handB H = true) {s : S3} (h : RL (lngL (allC H)) s.L) (h0 : H.length ≠ 0) : s.L = lngL (allC H) ∧ s.L.length ≠ 0 := by
  obtain ⟨x, hx, h2⟩ := two_in hh h0
  have h3 := (lng_ge (allC H) []).2 x hx
  have h4 : 2 ≤ (lngL (allC H)).length := Nat.le_trans h2 h3
  rcases h with h | ⟨h5, _⟩
  · exact ⟨h.symm, by rw [← h]; omega⟩
  · omega
end Go.Proofs.Ytjhedjokifnofaa

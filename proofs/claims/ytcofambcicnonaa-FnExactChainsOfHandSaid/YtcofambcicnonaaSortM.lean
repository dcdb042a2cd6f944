/- Tiles in their order: what needs nothing of the library's sort. -/
import Derived.Test.YtcofambcicnonaaPick
import Derived.Deep.RegionHeld3
namespace Go.Proofs.Ytcofambcicnonaa
open Go.RowKit
set_option linter.unusedVariables false

def cmpI (a b : Int) : Int := if a < b then -1 else if b < a then 1 else 0
def cmpT (x y : Int × Int) : Int := if cmpI x.1 y.1 = 0 then cmpI x.2 y.2 else cmpI x.1 y.1

set_option maxHeartbeats 400000 in
theorem c_isNaN (a : Int) (w : World) : Calls Try.prog 82 #[.int .i64 a] w fun e w' => e = .returned (.bool false) ∧ w = w' := by
  go_enter Try.func82, Try.ntmps82
  go_wp2
  go_ret
  exact ⟨ret_b (by simp), rfl⟩

set_option maxHeartbeats 400000 in
theorem c_cmpCompare (a b : Int) (w : World) : Calls Try.prog 71 #[.int .i64 a, .int .i64 b] w fun e w' => e = .returned (.int .i64 (cmpI a b)) ∧ w = w' := by
  by_cases h1 : a < b
  · have e1 : cmpI a b = -1 := by simp [cmpI, h1]
    rw [e1]
    clear e1
    go_enter Try.func71, Try.ntmps71
    go_wp2_with (go_at_call 82; refine (c_isNaN _ _).mono ?_; rintro e w' ⟨rfl, rfl⟩)
    go_ret
    exact ⟨rfl, rfl⟩
  · by_cases h2 : b < a
    · have e1 : cmpI a b = 1 := by simp [cmpI, h1, h2]
      rw [e1]
      clear e1
      go_enter Try.func71, Try.ntmps71
      go_wp2_with (go_at_call 82; refine (c_isNaN _ _).mono ?_; rintro e w' ⟨rfl, rfl⟩)
      go_ret
      exact ⟨rfl, rfl⟩
    · have e1 : cmpI a b = 0 := by simp [cmpI, h1, h2]
      rw [e1]
      clear e1
      go_enter Try.func71, Try.ntmps71
      go_wp2_with (go_at_call 82; refine (c_isNaN _ _).mono ?_; rintro e w' ⟨rfl, rfl⟩)
      go_ret
      exact ⟨rfl, rfl⟩

def orI (p q : Int) : Int := if p = 0 then q else p

set_option maxHeartbeats 400000 in
theorem c_cmpOr (g : Nat) (p q : Int) (w : World) (h0 : w.cell? ⟨g, 0, none⟩ = some (.int .i64 p)) (h1 : w.cell? ⟨g, 1, none⟩ = some (.int .i64 q)) :
    Calls Try.prog 70 #[.slice (some ⟨g, 0, none⟩) 2 2] w fun e w' => e = .returned (.int .i64 (orI p q)) ∧ w = w' := by
  by_cases hp : p = 0
  · have e1 : orI p q = q := by simp [orI, hp]
    rw [e1]
    have hp' : (p != 0) = false := by simp [hp]
    clear hp e1
    by_cases hq : q = 0
    · have hq' : (q != 0) = false := by simp [hq]
      have HQ := Lib.hid hq
      clear hq
      go_enter Try.func70, Try.ntmps70
      go_wp2
      go_rounds 3
      go_ret
      exact ⟨ret_i HQ.out.symm, rfl⟩
    · have hq' : (q != 0) = true := by simp [hq]
      clear hq
      go_enter Try.func70, Try.ntmps70
      go_wp2
      go_rounds 3
      go_ret
      exact ⟨rfl, rfl⟩
  · have e1 : orI p q = p := by simp [orI, hp]
    rw [e1]
    have hp' : (p != 0) = true := by simp [hp]
    clear hp e1
    go_enter Try.func70, Try.ntmps70
    go_wp2
    go_rounds 3
    go_ret
    exact ⟨rfl, rfl⟩

theorem cmpT_or (x y : Int × Int) : cmpT x y = orI (cmpI x.1 y.1) (cmpI x.2 y.2) := rfl

set_option maxRecDepth 100000 in
set_option maxHeartbeats 2000000 in
theorem c_compareTilesB (x y : Int × Int) (w : World) : Calls Try.prog 66 #[.agg #[.int .i64 x.1, .int .i64 x.2], .agg #[.int .i64 y.1, .int .i64 y.2]] w fun e w' => e = .returned (.int .i64 (cmpT x y)) ∧ Below w.heap.size w w' := by
  rw [cmpT_or]
  obtain ⟨a, b⟩ := x
  obtain ⟨c, d⟩ := y
  have con := fun W => c_cmpCompare a c W
  have con' := fun W => c_cmpCompare b d W
  simp only []
  generalize cmpI a c = p at con ⊢
  generalize cmpI b d = q at con' ⊢
  go_enter Try.func66, Try.ntmps66
  go_wp2
  have x0 : ((w.alloc (.cells #[.int .i64 a, .int .i64 b] 41)).alloc (.cells #[.int .i64 c, .int .i64 d] 41)).cell? ⟨w.heap.size, 0, none⟩ = some (.int .i64 a) := by simp [go_sem]
  have x1 : ((w.alloc (.cells #[.int .i64 a, .int .i64 b] 41)).alloc (.cells #[.int .i64 c, .int .i64 d] 41)).cell? ⟨w.heap.size, 1, none⟩ = some (.int .i64 b) := by simp [go_sem]
  have y0 : ((w.alloc (.cells #[.int .i64 a, .int .i64 b] 41)).alloc (.cells #[.int .i64 c, .int .i64 d] 41)).cell? ⟨w.heap.size + 1, 0, none⟩ = some (.int .i64 c) := by simp [go_sem]
  have y1 : ((w.alloc (.cells #[.int .i64 a, .int .i64 b] 41)).alloc (.cells #[.int .i64 c, .int .i64 d] 41)).cell? ⟨w.heap.size + 1, 1, none⟩ = some (.int .i64 d) := by simp [go_sem]
  go_region_held3 (fun w' => w'.cell? ⟨w.heap.size, 0, none⟩ = some (.int .i64 a) ∧ w'.cell? ⟨w.heap.size, 1, none⟩ = some (.int .i64 b) ∧ w'.cell? ⟨w.heap.size + 1, 0, none⟩ = some (.int .i64 c) ∧ w'.cell? ⟨w.heap.size + 1, 1, none⟩ = some (.int .i64 d)) (first | exact ⟨x0, x1, y0, y1⟩ | go_keep) (first | (go_at_call_of 71 (Value.int .i64 a); refine (con _).mono ?_; rintro e w' ⟨rfl, rfl⟩) | (go_at_call_of 71 (Value.int .i64 b); refine (con' _).mono ?_; rintro e w' ⟨rfl, rfl⟩) | (go_at_call 70; refine (c_cmpOr (w.heap.size + 1 + 1) p q _ ?h0 ?h1).mono ?_; (case h0 => simp [go_sem]); (case h1 => simp [go_sem]); rintro e w' ⟨rfl, rfl⟩))
  go_wp2
  go_ret
  exact ⟨rfl, by go_grown⟩

/-- Tiles in their order. -/
def ltT (x y : Int × Int) : Prop := x.1 < y.1 ∨ (x.1 = y.1 ∧ x.2 < y.2)
instance (x y : Int × Int) : Decidable (ltT x y) := by unfold ltT; infer_instance
theorem cmpT_lt (x y : Int × Int) : decide (cmpT x y < 0) = decide (ltT x y) := by
  unfold cmpT cmpI
  rw [Bool.eq_iff_iff, decide_eq_true_eq, decide_eq_true_eq]
  unfold ltT
  by_cases h1 : x.1 < y.1
  · simp [h1]
  · by_cases h2 : y.1 < x.1
    · have : ¬ x.1 = y.1 := by omega
      simp [h1, h2, this]
    · have h3 : x.1 = y.1 := by omega
      by_cases h4 : x.2 < y.2
      · simp [h3, h4]
      · by_cases h5 : y.2 < x.2 <;> simp [h3, h4, h5]

theorem sorted_ext : ∀ {l m : List (Int × Int)}, l.Pairwise ltT → m.Pairwise ltT → (∀ x, x ∈ l ↔ x ∈ m) → l = m
  | [], [], _, _, _ => rfl
  | [], y :: m, _, _, h => by have := (h y).2 (by simp); simp at this
  | x :: l, [], _, _, h => by have := (h x).1 (by simp); simp at this
  | x :: l, y :: m, hl, hm, h => by
    have hl' := List.pairwise_cons.1 hl
    have hm' := List.pairwise_cons.1 hm
    have irr : ∀ z : Int × Int, ¬ ltT z z := fun z hz => by simp [ltT] at hz
    have asym : ∀ u v : Int × Int, ltT u v → ¬ ltT v u := fun u v h1 h2 => by simp only [ltT] at h1 h2; omega
    have hxy : x = y := by
      have h1 := (h x).1 (by simp)
      have h2 := (h y).2 (by simp)
      rcases List.mem_cons.1 h1 with e | h1
      · exact e
      · rcases List.mem_cons.1 h2 with e | h2
        · exact e.symm
        · exact absurd (hl'.1 y h2) (asym _ _ (hm'.1 x h1))
    subst hxy
    rw [sorted_ext hl'.2 hm'.2 (fun z => ?_)]
    constructor
    · intro hz
      rcases List.mem_cons.1 ((h z).1 (by simp [hz])) with e | e
      · subst e; exact absurd (hl'.1 z hz) (irr z)
      · exact e
    · intro hz
      rcases List.mem_cons.1 ((h z).2 (by simp [hz])) with e | e
      · subst e; exact absurd (hm'.1 z hz) (irr z)
      · exact e

theorem set9_sorted : (setL 9).Pairwise ltT := by decide +kernel
theorem pickL_sorted (ts : List (Int × Int)) (b : Bool) : (pickL 9 ts b).Pairwise ltT := set9_sorted.filter _
theorem mem_set9 {t : Int × Int} : t ∈ setL 9 ↔ goodB t.1 t.2 = true := by
  constructor
  · intro h
    have : ∀ t ∈ setL 9, goodB t.1 t.2 = true := by decide +kernel
    exact this t h
  · intro h
    obtain ⟨a, b⟩ := t
    have h2 := h
    simp only [goodB, numB, Bool.and_eq_true, decide_eq_true_eq] at h2
    obtain ⟨m, hm, rfl⟩ : ∃ m : Nat, m ≤ 9 ∧ a = m := ⟨a.toNat, by omega, by omega⟩
    obtain ⟨n, hn, rfl⟩ : ∃ n : Nat, n ≤ 9 ∧ b = n := ⟨b.toNat, by omega, by omega⟩
    have key : ((List.range 10).all fun m => (List.range 10).all fun n => !(decide (m ≤ n)) || decide (((m : Int), (n : Int)) ∈ setL 9)) = true := by decide +kernel
    have k1 := List.all_eq_true.1 key m (List.mem_range.2 (by omega))
    have k2 := List.all_eq_true.1 k1 n (List.mem_range.2 (by omega))
    have hmn : m ≤ n := by omega
    simpa [hmn] using k2
theorem mem_sortL {ts : List (Int × Int)} (hg : ∀ t ∈ ts, goodB t.1 t.2 = true) (t : Int × Int) : t ∈ sortL ts ↔ t ∈ ts := by
  unfold sortL pickL
  rw [List.mem_filter]
  simp only [pickB, beq_true, decide_eq_true_eq]
  exact ⟨fun h => h.2, fun h => ⟨mem_set9.2 (hg t h), h⟩⟩

end Go.Proofs.Ytcofambcicnonaa

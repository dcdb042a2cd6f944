/- The board of the program: a play more, and the board of a list of plays. -/
import Derived.Test.YtnnkdnleencofabBrd
import Derived.Test.YtnnkdnleencofabRegS
namespace Go.Proofs.Ytnnkdnleencofab
open Go.RowKit
set_option linter.unusedVariables false

/-- A board that is one: what goes along with some state of the specification. -/
def Bok (B : Brd) : Prop := ∃ S, Rel B S
theorem Bok.new : Bok Brd.none := ⟨_, rel_new⟩
theorem Bok.with_ {B : Brd} (h : Bok B) {p : Int × Int × Int} (hf : fitsL B p = true) : Bok (withL B p) := by
  obtain ⟨S, hS⟩ := h
  exact ⟨_, rel_add hS p hf⟩
theorem Bok.good {B : Brd} (h : Bok B) : ∀ p ∈ B.ps, goodB p.1 p.2.1 = true := by obtain ⟨S, hS⟩ := h; exact hS.good
theorem Bok.ends {B : Brd} (h : Bok B) : ∀ a ∈ B.arms, 0 ≤ a.1 ∧ a.1 ≤ 9 := by obtain ⟨S, hS⟩ := h; exact hS.ends
theorem Bok.len {B : Brd} (h : Bok B) : B.ps.length ≤ 28 := by obtain ⟨S, hS⟩ := h; exact hS.len
theorem Bok.four {B : Brd} (h : Bok B) : B.arms.length ≤ 4 := by obtain ⟨S, hS⟩ := h; exact hS.four.1
theorem Bok.fives {B : Brd} (h : Bok B) : 0 ≤ B.fives ∧ B.fives ≤ 2016 := by
  obtain ⟨S, hS⟩ := h
  have := hS.fives
  have := hS.len
  omega

theorem brdL_ps : ∀ {ps : List (Int × Int × Int)} {B : Brd} (k : Nat), k ≤ ps.length → brdL (ps.take k) = some B → B.ps = ps.take k ∧ Bok B := by
  intro ps B k
  induction k generalizing B with
  | zero =>
    intro _ h
    simp [brdL] at h
    subst h
    exact ⟨by simp [Brd.none], Bok.new⟩
  | succ k ih =>
    intro hk h
    rw [brdL_take (by omega)] at h
    cases hb : brdL (ps.take k) with
    | none => rw [hb] at h; cases h
    | some B0 =>
      rw [hb] at h
      obtain ⟨h1, h2⟩ := ih (by omega) hb
      simp only [stepL, Option.bind_some] at h
      split at h
      · rename_i hf
        injection h with h
        subst h
        exact ⟨by rw [List.take_succ_eq_append_getElem (by omega), ← h1]; rfl, h2.with_ hf⟩
      · cases h

theorem set_far3 {w : World} {g a i j : Nat} {u : Value} (h : a ≠ g) : (w.setCell ⟨a, i, none⟩ u).cell? ⟨g, j, none⟩ = w.cell? ⟨g, j, none⟩ := World.cell?_setCell_other _ _ _ _ (by simp <;> omega)
theorem far3 {w : World} {g a : Nat} (h : a ≠ g) (i1 i2 i3 : Nat) (u1 u2 u3 : Value) {j : Nat} {v : Value} (hc : w.cell? ⟨g, j, none⟩ = some v) :
    (((w.setCell ⟨a, i1, none⟩ u1).setCell ⟨a, i2, none⟩ u2).setCell ⟨a, i3, none⟩ u3).drew.cell? ⟨g, j, none⟩ = some v := by
  show (((w.setCell ⟨a, i1, none⟩ u1).setCell ⟨a, i2, none⟩ u2).setCell ⟨a, i3, none⟩ u3).cell? ⟨g, j, none⟩ = some v
  rw [set_far3 h, set_far3 h, set_far3 h]
  exact hc
theorem cellsA_put : ∀ {xs : List (Int × Bool × Bool)} {k : Nat} (h : k < xs.length) (v : Int × Bool × Bool),
    (((cellsA xs).set (k * 3) (.int .i64 v.1)).set (k * 3 + 1) (.bool v.2.1)).set (k * 3 + 2) (.bool v.2.2) = cellsA (xs.set k v) := by
  intro xs k h v
  have h1 := cellsA_set (xs.take k) (xs.drop (k + 1)) xs[k] v.1 v.2.1 v.2.2
  rw [List.length_take, Nat.min_eq_left (by omega)] at h1
  have e2 : xs.set k v = xs.take k ++ v :: xs.drop (k + 1) := by rw [List.set_eq_take_append_cons_drop, if_pos h]
  rw [← List.drop_eq_getElem_cons h, List.take_append_drop] at h1
  rw [e2]
  exact h1

set_option maxRecDepth 100000 in
set_option maxHeartbeats 2000000 in
theorem c_armsWith (A : Option Addr) (c : Nat) (D : Option Addr) (d : Nat) (B : Brd) (x y k : Int) (w : World) (hr : RdA w D B.arms) (hB : Bok B) (hf : fitsL B (x, y, k) = true) :
    Calls Try.prog 108 #[.agg #[.slice A B.ps.length c, .slice D B.arms.length d, .int .i64 B.fives], .agg #[.int .i64 x, .int .i64 y, .int .i64 k]] w (RetAL w (armsW B (x, y, k))) := by
  have hg : goodB x y = true := by
    unfold fitsL at hf
    simp only [Bool.and_eq_true] at hf
    exact hf.1.1.2
  have hg' := good_b hg
  have h4 := hB.four
  obtain ⟨q, hq⟩ : ∃ q, (x == y) = q := ⟨_, rfl⟩
  have hdq : dblB (x, y, k) = q := by rw [← hq]; rfl
  by_cases h0 : B.ps.length = 0
  · have q0 : ((B.ps.length : Int) == 0) = true := by simp [h0]
    have e : armsW B (x, y, k) = [(x, q, false), (y, q, false)] := by unfold armsW; rw [if_pos h0, hdq]
    rw [e]
    have H0 := Lib.hid h0
    clear h0 e hdq hf hr hB
    have hlit : ∀ q, (((w.alloc (.cells #[.slice A B.ps.length c, .slice D B.arms.length d, .int .i64 B.fives] 94)).alloc (.cells #[.int .i64 x, .int .i64 y, .int .i64 k] 32)).alloc (.cells #[.int .i64 x, .bool q, .bool false, .int .i64 y, .bool q, .bool false] 141)).ownsRow w.heap.size 141 3 (.slice (some ⟨w.heap.size + 1 + 1, 0, none⟩) 2 2) 2 (cellsA [(x, q, false), (y, q, false)]) := fun q => by
      have h := World.ownsRow_lit (base := w.heap.size) (e := 141) (size := 3) ((w.alloc (.cells #[.slice A B.ps.length c, .slice D B.arms.length d, .int .i64 B.fives] 94)).alloc (.cells #[.int .i64 x, .int .i64 y, .int .i64 k] 32)) #[.int .i64 x, .bool q, .bool false, .int .i64 y, .bool q, .bool false] 2 (by simp <;> omega) (by unfold maxLen; omega) rfl
      simpa [cellsA] using h
    cases q
    all_goals
      go_enter Try.func108, Try.ntmps108
      go_wp2
      go_ret
      exact ⟨_, 2, rfl, hlit _, by go_grown⟩
  · have q0 : ((B.ps.length : Int) == 0) = false := beq_eq_false_iff_ne.2 (by omega)
    obtain ⟨kn, hk, hkl, hend⟩ : ∃ kn : Nat, k = kn ∧ kn < B.arms.length ∧ (x = (B.arms.getD kn (0, false, false)).1 ∨ y = (B.arms.getD kn (0, false, false)).1) := by
      unfold fitsL at hf
      simp only [if_neg h0, Bool.and_eq_true, Bool.not_eq_true', decide_eq_true_eq, decide_eq_false_iff_not, Bool.or_eq_true] at hf
      have e0 := hf.2.1.1
      have e1 := hf.2.1.2
      refine ⟨k.toNat, by omega, by omega, ?_⟩
      have e2 := hf.2.2
      unfold endL at e2
      exact e2
    subst hk
    have hgd : B.arms.getD kn (0, false, false) = B.arms[kn] := by simp [hkl]
    rw [hgd] at hend
    have he := hB.ends _ (List.getElem_mem hkl)
    have e : armsW B (x, y, kn) = B.arms.set kn (x + y - B.arms[kn].1, q, false) := by unfold armsW endL; rw [if_neg h0, hdq, Int.toNat_natCast, hgd]
    rw [e]
    have con := Lib.hid (fun W (hb : Below w.heap.size w W) => c_cloneA D d B.arms W (hr.below hb) (by omega))
    have H0 := Lib.hid h0
    clear h0 e hdq hf hr hB hgd
    have hbs : w.heap.size ≤ ((w.alloc (.cells #[.slice A B.ps.length c, .slice D B.arms.length d, .int .i64 B.fives] 94)).alloc (.cells #[.int .i64 x, .int .i64 y, .int .i64 kn] 32)).heap.size := by simp <;> omega
    have hbw0 : Below w.heap.size w ((w.alloc (.cells #[.slice A B.ps.length c, .slice D B.arms.length d, .int .i64 B.fives] 94)).alloc (.cells #[.int .i64 x, .int .i64 y, .int .i64 kn] 32)) := by go_grown
    have q1 : ((w.alloc (.cells #[.slice A B.ps.length c, .slice D B.arms.length d, .int .i64 B.fives] 94)).alloc (.cells #[.int .i64 x, .int .i64 y, .int .i64 kn] 32)).cell? ⟨w.heap.size + 1, 0, none⟩ = some (.int .i64 x) := by simp [go_sem]
    have q2 : ((w.alloc (.cells #[.slice A B.ps.length c, .slice D B.arms.length d, .int .i64 B.fives] 94)).alloc (.cells #[.int .i64 x, .int .i64 y, .int .i64 kn] 32)).cell? ⟨w.heap.size + 1, 1, none⟩ = some (.int .i64 y) := by simp [go_sem]
    have q3 : ((w.alloc (.cells #[.slice A B.ps.length c, .slice D B.arms.length d, .int .i64 B.fives] 94)).alloc (.cells #[.int .i64 x, .int .i64 y, .int .i64 kn] 32)).cell? ⟨w.heap.size + 1, 2, none⟩ = some (.int .i64 kn) := by simp [go_sem]
    cases q
    all_goals
      go_enter Try.func108, Try.ntmps108
      go_wp2_with (go_at_call 139; refine (con.out _ (by go_grown)).mono ?_; rintro e w1 ⟨A1, c1, rfl, ho1, hb1⟩)
      obtain ⟨g1, hg1⟩ : ∃ g1, A1 = some ⟨g1, 0, none⟩ := by
        rcases ho1.2 with ⟨hv, hn⟩ | ⟨g', cap, cur, hv, _⟩
        · omega
        · injection hv with e1 _ _; exact ⟨g', e1⟩
      subst hg1
      have hcg := cellsA_get B.arms kn hkl
      have y0 := (ho1.cellAt (kn * 3) (by omega)).trans hcg.1
      have y1 := (ho1.cellAt (kn * 3 + 1) (by omega)).trans hcg.2.1
      have y2 := (ho1.cellAt (kn * 3 + 2) (by omega)).trans hcg.2.2
      have f0 := ho1.frozenAt (kn * 3)
      have f1 := ho1.frozenAt (kn * 3 + 1)
      have f2 := ho1.frozenAt (kn * 3 + 2)
      have p0 := keepc hb1 q1
      have p1 := keepc hb1 q2
      have p2 := keepc hb1 q3
      have hg0 := (ho1.lt g1 rfl).1
      simp only [World.size_alloc] at hg0
      have hne : g1 ≠ w.heap.size + 1 := by omega
      have i0 : (0 : Int) ≤ (kn : Int) := by omega
      have i1 : (kn : Int) < (B.arms.length : Int) := by omega
      have Ho1 := Lib.hid ho1
      have Hb1 := Lib.hid (bstep hbw0 hb1)
      have iw1 : IntKind.i64.wrap (x + y) = x + y := IntWalk.i64_in _ (by omega)
      have iw2 : IntKind.i64.wrap (x + y - B.arms[kn].1) = x + y - B.arms[kn].1 := IntWalk.i64_in _ (by omega)
      clear hcg ho1 hb1 q1 q2 q3
      refine wp_region_held_drew (S := fun w' => w'.cell? ⟨w.heap.size + 1, 0, none⟩ = some (.int .i64 x) ∧ w'.cell? ⟨w.heap.size + 1, 1, none⟩ = some (.int .i64 y) ∧ w'.cell? ⟨w.heap.size + 1, 2, none⟩ = some (.int .i64 kn)) (by kernel_rfl) ⟨p0, p1, p2⟩ (fun hH0 => ?_)
      refine reg_take 0 rfl (by kernel_rfl) (by kernel_rfl) (by kernel_rfl) (fun _ _ _ h => h) (by rfl) (fun w _ => by first | (go_simp; done) | (go_simp; with_reducible rfl)) (by assumption) ?_
      try simp only [Act.put, List.setIfInBounds_toArray, List.set_cons_zero, List.set_cons_succ, List.getElem_toArray, List.getElem_cons_zero]
      refine reg_take 1 rfl (by kernel_rfl) (by kernel_rfl) (by kernel_rfl) (fun _ _ _ h => h) (by rfl) (fun w _ => by first | (go_simp; done) | (go_simp; with_reducible rfl)) (by assumption) ?_
      try simp only [Act.put, List.setIfInBounds_toArray, List.set_cons_zero, List.set_cons_succ, List.getElem_toArray, List.getElem_cons_zero, List.getElem_cons_succ]
      refine reg_take 2 rfl (by kernel_rfl) (by kernel_rfl) (by kernel_rfl) (fun _ _ _ h => h) (by rfl) (fun w hSw => by (try dsimp only at hSw); first | (go_simp; done) | (go_simp; with_reducible rfl)) (by assumption) ?_
      try simp only [Act.put, List.setIfInBounds_toArray, List.set_cons_zero, List.set_cons_succ, List.getElem_toArray, List.getElem_cons_zero, List.getElem_cons_succ]
      refine reg_take 3 rfl (by kernel_rfl) (by kernel_rfl) (by kernel_rfl) (fun _ _ _ h => h) (by rfl) (fun w _ => by first | (go_simp; done) | (go_simp; with_reducible rfl)) (by assumption) ?_
      try simp only [Act.put, List.setIfInBounds_toArray, List.set_cons_zero, List.set_cons_succ, List.getElem_toArray, List.getElem_cons_zero, List.getElem_cons_succ]
      refine reg_take 4 rfl (by kernel_rfl) (by kernel_rfl) (by kernel_rfl) (fun _ _ _ h => h) (by rfl) (fun w _ => by first | (go_simp; done) | (go_simp; with_reducible rfl)) (by assumption) ?_
      try simp only [Act.put, List.setIfInBounds_toArray, List.set_cons_zero, List.set_cons_succ, List.getElem_toArray, List.getElem_cons_zero, List.getElem_cons_succ]
      refine reg_take 5 rfl (by kernel_rfl) (by kernel_rfl) (by kernel_rfl) (fun _ _ _ h => h) (by rfl) (fun w hSw => by (try dsimp only at hSw); first | (go_simp; done) | (go_simp; with_reducible rfl)) (by assumption) ?_
      try simp only [Act.put, List.setIfInBounds_toArray, List.set_cons_zero, List.set_cons_succ, List.getElem_toArray, List.getElem_cons_zero, List.getElem_cons_succ]
      refine reg_take 6 rfl (by kernel_rfl) (by kernel_rfl) (by kernel_rfl) (fun _ _ _ h => h) (by rfl) (fun w _ => by first | (go_simp; done) | (go_simp; with_reducible rfl)) (by assumption) ?_
      try simp only [Act.put, List.setIfInBounds_toArray, List.set_cons_zero, List.set_cons_succ, List.getElem_toArray, List.getElem_cons_zero, List.getElem_cons_succ]
      refine reg_take 7 rfl (by kernel_rfl) (by kernel_rfl) (by kernel_rfl) (fun _ _ _ h => h) (by rfl) (fun w _ => by first | (go_simp; done) | (go_simp; with_reducible rfl)) (by assumption) ?_
      try simp only [Act.put, List.setIfInBounds_toArray, List.set_cons_zero, List.set_cons_succ, List.getElem_toArray, List.getElem_cons_zero, List.getElem_cons_succ]
      refine reg_take 8 rfl (by kernel_rfl) (by kernel_rfl) (by kernel_rfl) (fun _ _ _ h => h) (by rfl) (fun w hSw => by (try dsimp only at hSw); first | (go_simp; done) | (go_simp; with_reducible rfl)) (by assumption) ?_
      try simp only [Act.put, List.setIfInBounds_toArray, List.set_cons_zero, List.set_cons_succ, List.getElem_toArray, List.getElem_cons_zero, List.getElem_cons_succ]
      refine reg_take 9 rfl (by kernel_rfl) (by kernel_rfl) (by kernel_rfl) (fun _ _ _ h => h) (by rfl) (fun w _ => by first | (go_simp; done) | (go_simp; with_reducible rfl)) (by assumption) ?_
      try simp only [Act.put, List.setIfInBounds_toArray, List.set_cons_zero, List.set_cons_succ, List.getElem_toArray, List.getElem_cons_zero, List.getElem_cons_succ]
      refine reg_take 10 rfl (by kernel_rfl) (by kernel_rfl) (by kernel_rfl) (fun _ _ _ h => h) (by rfl) (fun w _ => by first | (go_simp; done) | (go_simp; with_reducible rfl)) (by assumption) ?_
      try simp only [Act.put, List.setIfInBounds_toArray, List.set_cons_zero, List.set_cons_succ, List.getElem_toArray, List.getElem_cons_zero, List.getElem_cons_succ]
      refine reg_take 11 rfl (by kernel_rfl) (by kernel_rfl) (by kernel_rfl) (fun _ _ _ h => h) (by rfl) (fun w _ => by first | (go_simp; done) | (go_simp; with_reducible rfl)) (by assumption) ?_
      try simp only [Act.put, List.setIfInBounds_toArray, List.set_cons_zero, List.set_cons_succ, List.getElem_toArray, List.getElem_cons_zero, List.getElem_cons_succ]
      refine reg_take 12 rfl (by kernel_rfl) (by kernel_rfl) (by kernel_rfl) (fun _ _ _ h => h) (by rfl) (fun w hSw => by (try dsimp only at hSw); first | (go_simp; done) | (go_simp; with_reducible rfl)) (by assumption) ?_
      try simp only [Act.put, List.setIfInBounds_toArray, List.set_cons_zero, List.set_cons_succ, List.getElem_toArray, List.getElem_cons_zero, List.getElem_cons_succ]
      refine reg_take 13 rfl (by kernel_rfl) (by kernel_rfl) (by kernel_rfl) (fun _ _ _ h => h) (by rfl) (fun w _ => by first | (go_simp; done) | (go_simp; with_reducible rfl)) (by assumption) ?_
      try simp only [Act.put, List.setIfInBounds_toArray, List.set_cons_zero, List.set_cons_succ, List.getElem_toArray, List.getElem_cons_zero, List.getElem_cons_succ]
      refine reg_take 14 rfl (by kernel_rfl) (by kernel_rfl) (by kernel_rfl) (fun _ _ _ h => h) (by rfl) (fun w _ => by first | (go_simp; done) | (go_simp; with_reducible rfl)) (by assumption) ?_
      try simp only [Act.put, List.setIfInBounds_toArray, List.set_cons_zero, List.set_cons_succ, List.getElem_toArray, List.getElem_cons_zero, List.getElem_cons_succ]
      refine reg_take 17 rfl (by kernel_rfl) (by kernel_rfl) (by kernel_rfl) (fun _ _ _ h => h) (by rfl) (fun w _ => by first | (go_simp; done) | (go_simp; with_reducible rfl)) (by assumption) ?_
      try simp only [Act.put, List.setIfInBounds_toArray, List.set_cons_zero, List.set_cons_succ, List.getElem_toArray, List.getElem_cons_zero, List.getElem_cons_succ]
      refine wpAnyH_ready (rs := [15]) (by kernel_rfl) (by simp) ?_
      refine AllReadyH.cons (i := 15) rfl (fun K hK => ?_) AllReadyH.nil
      go_simp
      skip
      refine hK.out _ _ (by assumption) (fun hH15 => ?_)
      clear hK K
      try simp only [Act.put, List.setIfInBounds_toArray, List.set_cons_zero, List.set_cons_succ, List.getElem_toArray, List.getElem_cons_zero, List.getElem_cons_succ]
      refine reg_take 16 rfl (by kernel_rfl) (by kernel_rfl) (by kernel_rfl) (fun _ _ _ h => h) (by rfl) (fun w _ => by first | (go_simp; done) | (go_simp; with_reducible rfl)) (by assumption) ?_
      try simp only [Act.put, List.setIfInBounds_toArray, List.set_cons_zero, List.set_cons_succ, List.getElem_toArray, List.getElem_cons_zero, List.getElem_cons_succ]
      refine reg_take 18 rfl (by kernel_rfl) (by kernel_rfl) (by kernel_rfl) (fun _ _ _ h => h) (by rfl) (fun w _ => by first | (go_simp; done) | (go_simp; with_reducible rfl)) (by assumption) ?_
      try simp only [Act.put, List.setIfInBounds_toArray, List.set_cons_zero, List.set_cons_succ, List.getElem_toArray, List.getElem_cons_zero, List.getElem_cons_succ]
      refine reg_take 19 rfl (by kernel_rfl) (by kernel_rfl) (by kernel_rfl) (fun _ _ _ h => h) (by rfl) (fun w _ => by first | (go_simp; done) | (go_simp; with_reducible rfl)) (by assumption) ?_
      try simp only [Act.put, List.setIfInBounds_toArray, List.set_cons_zero, List.set_cons_succ, List.getElem_toArray, List.getElem_cons_zero, List.getElem_cons_succ]
      refine wpAnyH_ready (rs := [20]) (by kernel_rfl) (by simp) ?_
      refine AllReadyH.cons (i := 20) rfl (fun K hK => ?_) AllReadyH.nil
      go_simp
      skip
      refine hK.out _ _ ⟨far3 hne _ _ _ _ _ _ p0, far3 hne _ _ _ _ _ _ p1, far3 hne _ _ _ _ _ _ p2⟩ (fun hH20 => ?_)
      clear hK K
      try simp only [Act.put, List.setIfInBounds_toArray, List.set_cons_zero, List.set_cons_succ, List.getElem_toArray, List.getElem_cons_zero, List.getElem_cons_succ]
      refine wpAnyH_done (by kernel_rfl) ?_ _
      go_wp2
      go_ret
      refine ⟨_, c1, by rw [List.length_set]; rfl, ?_, ?_⟩
      · rw [List.length_set, ← cellsA_put hkl]
        exact own_base (World.ownsRow.stored (World.ownsRow.stored (Ho1.out.stored _ _).1 _ _).1 _ _).1 hbs
      · exact (((Hb1.out.setCell (p := ⟨g1, kn * 3, none⟩) (by simp; omega) _).setCell (p := ⟨g1, kn * 3 + 1, none⟩) (by simp; omega) _).setCell (p := ⟨g1, kn * 3 + 2, none⟩) (by simp; omega) _).drew
end Go.Proofs.Ytnnkdnleencofab

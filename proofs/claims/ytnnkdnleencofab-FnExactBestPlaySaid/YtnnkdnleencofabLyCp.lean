/- A state of its own: the specification's copy. -/
import Derived.Test.YtnnkdnleencofabAddS
import Derived.Test.YtnnkdnleencofabApp
namespace Go.Proofs.Ytnnkdnleencofab
open Go.RowKit
set_option linter.unusedVariables false

/-- The tiles' row is another one, and g names it. -/
theorem StV.tl_ {base g c d d' : Nat} {w w' : World} {A B B' : Option Addr} {S : SSt} (h : StV base w g A c B d S) (us : List (Int × Int)) (hg : w.grownBy w' none)
    (hn : w'.ownsRow base 30 2 (.slice B' us.length d') us.length (cellsT us)) (hat : ∀ x, (Value.slice B' us.length d').ownBlock = some x → w.heap.size ≤ x) :
    StV base (w'.setCell ⟨g, 1, none⟩ (.slice B' us.length d')) g A c B' d' { S with tiles := us } := by
  have hc : ∀ j v, w.cell? ⟨g, j, none⟩ = some v → w'.cell? ⟨g, j, none⟩ = some v := fun j v e => hg.cell e (by simp)
  have hbg : ∀ x, (Value.slice B' us.length d').ownBlock = some x → x ≠ g := fun x hx => by have := hat x hx; have := h.lt; omega
  have hao : w'.ownsRow base 141 3 (.slice A S.arms.length c) S.arms.length (cellsA S.arms) := h.ao.kept hg (by
    cases hA : (Value.slice A S.arms.length c).ownBlock with
    | none => exact .inl rfl
    | some x => exact .inr (fun e => by cases e))
  refine ⟨h.lo, (cell_set_ne (by omega)).trans (hc _ _ h.c0), World.cell?_setCell_same _ _ _ (hc _ _ h.c1), (cell_set_ne (by omega)).trans (hc _ _ h.c2), (cell_set_ne (by omega)).trans (hc _ _ h.c3), (cell_set_ne (by omega)).trans (hc _ _ h.c4), (cell_set_ne (by omega)).trans (hc _ _ h.c5), (cell_set_ne (by omega)).trans (hc _ _ h.c6), fun m => ?_, ?_, ?_, h.ag, hbg, ?_⟩
  · rw [World.frozen?_setCell]; exact (hg.frozen_far ⟨g, m, none⟩ h.lt (by simp)).trans (h.live m)
  · exact ownsRow_setCell_other hao (fun e => h.ag g e rfl) _
  · exact ownsRow_setCell_other hn (fun e => hbg g e rfl) _
  · intro x hx e
    have := hat x e
    have := (h.ao.lt x hx).2
    omega
theorem grown_none {w w' : World} (h : Below w.heap.size w w') : w.grownBy w' none := ⟨h.os, h.tape, h.output, h.size, fun k hk _ => h.block k hk⟩

set_option maxRecDepth 100000 in
set_option maxHeartbeats 1000000 in
theorem c_lyCopy (base g : Nat) (S : SSt) (w : World) (h : StAt base w g S) (ha4 : S.arms.length ≤ 4) (ht28 : S.tiles.length ≤ 28) :
    Calls Try.prog 56 #[.pointer (some ⟨g, 0, none⟩)] w fun e w' => ∃ g', e = .returned (.pointer (some ⟨g', 0, none⟩)) ∧ StAt w.heap.size w' g' S ∧ Below w.heap.size w w' := by
  obtain ⟨A, c, B, d, h⟩ := h
  have k0 := h.c0
  have k1 := h.c1
  have k2 := h.c2
  have k3 := h.c3
  have k4 := h.c4
  have k5 := h.c5
  have k6 := h.c6
  have hg := h.lt
  have HA := Lib.hid (RdA.of_own h.ao)
  have HT := Lib.hid (RdT.of_own h.bo)
  clear h
  go_enter Try.func56, Try.ntmps56
  go_wp2_with fail
  refine wp_region_held_drew (S := fun w' => w'.cell? ⟨g, 2, none⟩ = some (.int .i64 S.spin) ∧ w'.cell? ⟨g, 3, none⟩ = some (.int .i64 S.waits) ∧ w'.cell? ⟨g, 4, none⟩ = some (.bool S.first) ∧ w'.cell? ⟨g, 5, none⟩ = some (.bool S.l0) ∧ w'.cell? ⟨g, 6, none⟩ = some (.bool S.l1)) (by kernel_rfl) ⟨k2, k3, k4, k5, k6⟩ (fun hH0 => ?_)
  refine reg_take 0 rfl (by kernel_rfl) (by kernel_rfl) (by kernel_rfl) (fun _ _ _ h => h) (by rfl) (fun w _ => by first | (go_simp; done) | (go_simp; with_reducible rfl)) (by assumption) ?_
  try simp only [Act.put, List.setIfInBounds_toArray, List.set_cons_zero, List.set_cons_succ, List.getElem_toArray, List.getElem_cons_zero]
  refine reg_take 1 rfl (by kernel_rfl) (by kernel_rfl) (by kernel_rfl) (fun _ _ _ h => h) (by rfl) (fun w _ => by first | (go_simp; done) | (go_simp; with_reducible rfl)) (by assumption) ?_
  try simp only [Act.put, List.setIfInBounds_toArray, List.set_cons_zero, List.set_cons_succ, List.getElem_toArray, List.getElem_cons_zero, List.getElem_cons_succ]
  refine reg_take 2 rfl (by kernel_rfl) (by kernel_rfl) (by kernel_rfl) (fun _ _ _ h => h) (by rfl) (fun w _ => by first | (go_simp; done) | (go_simp; with_reducible rfl)) (by assumption) ?_
  try simp only [Act.put, List.setIfInBounds_toArray, List.set_cons_zero, List.set_cons_succ, List.getElem_toArray, List.getElem_cons_zero, List.getElem_cons_succ]
  refine reg_take 3 rfl (by kernel_rfl) (by kernel_rfl) (by kernel_rfl) (fun _ _ _ h => h) (by rfl) (fun w hSw => by (try dsimp only at hSw); first | (go_simp; done) | (go_simp; with_reducible rfl)) (by assumption) ?_
  try simp only [Act.put, List.setIfInBounds_toArray, List.set_cons_zero, List.set_cons_succ, List.getElem_toArray, List.getElem_cons_zero, List.getElem_cons_succ]
  refine reg_take 4 rfl (by kernel_rfl) (by kernel_rfl) (by kernel_rfl) (fun _ _ _ h => h) (by rfl) (fun w _ => by first | (go_simp; done) | (go_simp; with_reducible rfl)) (by assumption) ?_
  try simp only [Act.put, List.setIfInBounds_toArray, List.set_cons_zero, List.set_cons_succ, List.getElem_toArray, List.getElem_cons_zero, List.getElem_cons_succ]
  refine reg_take 5 rfl (by kernel_rfl) (by kernel_rfl) (by kernel_rfl) (fun _ _ _ h => h) (by rfl) (fun w _ => by first | (go_simp; done) | (go_simp; with_reducible rfl)) (by assumption) ?_
  try simp only [Act.put, List.setIfInBounds_toArray, List.set_cons_zero, List.set_cons_succ, List.getElem_toArray, List.getElem_cons_zero, List.getElem_cons_succ]
  refine reg_take 6 rfl (by kernel_rfl) (by kernel_rfl) (by kernel_rfl) (fun _ _ _ h => h) (by rfl) (fun w _ => by first | (go_simp; done) | (go_simp; with_reducible rfl)) (by assumption) ?_
  try simp only [Act.put, List.setIfInBounds_toArray, List.set_cons_zero, List.set_cons_succ, List.getElem_toArray, List.getElem_cons_zero, List.getElem_cons_succ]
  refine reg_take 7 rfl (by kernel_rfl) (by kernel_rfl) (by kernel_rfl) (fun _ _ _ h => h) (by rfl) (fun w hSw => by (try dsimp only at hSw); first | (go_simp; done) | (go_simp; with_reducible rfl)) (by assumption) ?_
  try simp only [Act.put, List.setIfInBounds_toArray, List.set_cons_zero, List.set_cons_succ, List.getElem_toArray, List.getElem_cons_zero, List.getElem_cons_succ]
  refine reg_take 8 rfl (by kernel_rfl) (by kernel_rfl) (by kernel_rfl) (fun _ _ _ h => h) (by rfl) (fun w _ => by first | (go_simp; done) | (go_simp; with_reducible rfl)) (by assumption) ?_
  try simp only [Act.put, List.setIfInBounds_toArray, List.set_cons_zero, List.set_cons_succ, List.getElem_toArray, List.getElem_cons_zero, List.getElem_cons_succ]
  refine reg_take 9 rfl (by kernel_rfl) (by kernel_rfl) (by kernel_rfl) (fun _ _ _ h => h) (by rfl) (fun w _ => by first | (go_simp; done) | (go_simp; with_reducible rfl)) (by assumption) ?_
  try simp only [Act.put, List.setIfInBounds_toArray, List.set_cons_zero, List.set_cons_succ, List.getElem_toArray, List.getElem_cons_zero, List.getElem_cons_succ]
  refine reg_take 10 rfl (by kernel_rfl) (by kernel_rfl) (by kernel_rfl) (fun _ _ _ h => h) (by rfl) (fun w _ => by first | (go_simp; done) | (go_simp; with_reducible rfl)) (by assumption) ?_
  try simp only [Act.put, List.setIfInBounds_toArray, List.set_cons_zero, List.set_cons_succ, List.getElem_toArray, List.getElem_cons_zero, List.getElem_cons_succ]
  refine reg_take 11 rfl (by kernel_rfl) (by kernel_rfl) (by kernel_rfl) (fun _ _ _ h => h) (by rfl) (fun w hSw => by (try dsimp only at hSw); first | (go_simp; done) | (go_simp; with_reducible rfl)) (by assumption) ?_
  try simp only [Act.put, List.setIfInBounds_toArray, List.set_cons_zero, List.set_cons_succ, List.getElem_toArray, List.getElem_cons_zero, List.getElem_cons_succ]
  refine reg_take 12 rfl (by kernel_rfl) (by kernel_rfl) (by kernel_rfl) (fun _ _ _ h => h) (by rfl) (fun w _ => by first | (go_simp; done) | (go_simp; with_reducible rfl)) (by assumption) ?_
  try simp only [Act.put, List.setIfInBounds_toArray, List.set_cons_zero, List.set_cons_succ, List.getElem_toArray, List.getElem_cons_zero, List.getElem_cons_succ]
  refine reg_take 13 rfl (by kernel_rfl) (by kernel_rfl) (by kernel_rfl) (fun _ _ _ h => h) (by rfl) (fun w _ => by first | (go_simp; done) | (go_simp; with_reducible rfl)) (by assumption) ?_
  try simp only [Act.put, List.setIfInBounds_toArray, List.set_cons_zero, List.set_cons_succ, List.getElem_toArray, List.getElem_cons_zero, List.getElem_cons_succ]
  refine reg_take 14 rfl (by kernel_rfl) (by kernel_rfl) (by kernel_rfl) (fun _ _ _ h => h) (by rfl) (fun w _ => by first | (go_simp; done) | (go_simp; with_reducible rfl)) (by assumption) ?_
  try simp only [Act.put, List.setIfInBounds_toArray, List.set_cons_zero, List.set_cons_succ, List.getElem_toArray, List.getElem_cons_zero, List.getElem_cons_succ]
  refine reg_take 15 rfl (by kernel_rfl) (by kernel_rfl) (by kernel_rfl) (fun _ _ _ h => h) (by rfl) (fun w hSw => by (try dsimp only at hSw); first | (go_simp; done) | (go_simp; with_reducible rfl)) (by assumption) ?_
  try simp only [Act.put, List.setIfInBounds_toArray, List.set_cons_zero, List.set_cons_succ, List.getElem_toArray, List.getElem_cons_zero, List.getElem_cons_succ]
  refine reg_take 16 rfl (by kernel_rfl) (by kernel_rfl) (by kernel_rfl) (fun _ _ _ h => h) (by rfl) (fun w _ => by first | (go_simp; done) | (go_simp; with_reducible rfl)) (by assumption) ?_
  try simp only [Act.put, List.setIfInBounds_toArray, List.set_cons_zero, List.set_cons_succ, List.getElem_toArray, List.getElem_cons_zero, List.getElem_cons_succ]
  refine wpAnyH_ready (rs := [17]) (by kernel_rfl) (by simp) ?_
  refine AllReadyH.cons (i := 17) rfl (fun K hK => ?_) AllReadyH.nil
  go_simp
  refine hK.out _ _ ⟨keepA (g1d _ k2), keepA (g1d _ k3), keepA (g1d _ k4), keepA (g1d _ k5), keepA (g1d _ k6)⟩ (fun hH17 => ?_)
  clear hK K
  try simp only [Act.put, List.setIfInBounds_toArray, List.set_cons_zero, List.set_cons_succ, List.getElem_toArray, List.getElem_cons_zero, List.getElem_cons_succ]
  refine reg_take 18 rfl (by kernel_rfl) (by kernel_rfl) (by kernel_rfl) (fun _ _ _ h => h) (by rfl) (fun w _ => by first | (go_simp; done) | (go_simp; with_reducible rfl)) (by assumption) ?_
  try simp only [Act.put, List.setIfInBounds_toArray, List.set_cons_zero, List.set_cons_succ, List.getElem_toArray, List.getElem_cons_zero, List.getElem_cons_succ]
  refine wpAnyH_done (by kernel_rfl) ?_ _
  obtain ⟨v1, hv1⟩ : ∃ v1, v1 = (w.alloc (.cells #[.slice none 0 0, .slice none 0 0, .int .i64 S.spin, .int .i64 S.waits, .bool S.first, .bool S.l0, .bool S.l1] 137)).drew := ⟨_, rfl⟩
  rw [← hv1]
  have hb1 : Below w.heap.size w v1 := by rw [hv1]; exact ((Below.refl _ _).alloc (Nat.le_refl _) _).drew
  have hst : StV w.heap.size v1 w.heap.size none 0 none 0 { S with arms := [], tiles := [] } := by
    rw [hv1]
    refine StV.drew ?_
    exact ⟨Nat.le_refl _, by simp, by simp, by simp, by simp, by simp, by simp, by simp, fun m => frozen_freshB _ _ _ m, World.ownsRow_nil _ _ _ _, World.ownsRow_nil _ _ _ _, fun x h => (by cases h), fun x h => (by cases h), fun x h => (by cases h)⟩
  have e0 := keepc hb1 k0
  have e1 := keepc hb1 k1
  have hgv := block_lt e0
  have hz1 := hb1.size
  have HAv := Lib.hid (HA.out.below hb1)
  have HTv := Lib.hid (HT.out.below hb1)
  have hA0 := Lib.hid (show (v1.alloc (.cells #[] 141)).ownsRow v1.heap.size 141 3 (.slice (some ⟨v1.heap.size, 0, none⟩) 0 0) 0 (cellsA []) from World.ownsRow_lit v1 #[] 0 (Nat.le_refl _) (by unfold maxLen; omega) rfl)
  have hbA : Below v1.heap.size v1 (v1.alloc (.cells #[] 141)) := (Below.refl _ _).alloc (Nat.le_refl _) _
  have Hst := Lib.hid hst
  clear hv1 k0 k1 k2 k3 k4 k5 k6 hst HA HTv
  go_wp2_with (first | (at_builtin; refine wp_append_As rfl _ _ rfl v1.heap.size _ [] rfl hA0.out _ _ S.arms rfl (HAv.out.below hbA) (by simp) (by omega) (by simp) ⟨_, _, rfl⟩ ?_; intro A4 c4 w4 ho4 hg4; simp only [List.nil_append] at ho4; have hb4 := Below.grown hbA hg4 (by simp) (fun g hg => by cases hg; exact Nat.le_refl _); have Hs4 := Lib.hid (StV.arms_ Hst.out S.arms none (grown_none hb4) (fun x h => by cases h) (own_base ho4 hz1) (fun x hx => .inr (ho4.lt x hx).1)); have q0 := keepc hb4 Hst.out.c0; have fq := (hb4.frozen (p := ⟨w.heap.size, 0, none⟩) Hst.out.lt).trans (Hst.out.live 0); have e41 := keepc hb4 e1; have hg4z := block_lt e41; have hw4z : w.heap.size < w4.heap.size := block_lt q0; have hsz : (w4.setCell ⟨w.heap.size, 0, none⟩ (.slice A4 S.arms.length c4)).heap.size = w4.heap.size := (by simp); have HoT : Hid (((w4.setCell ⟨w.heap.size, 0, none⟩ (.slice A4 S.arms.length c4)).alloc (.cells #[] 30)).ownsRow w4.heap.size 30 2 (.slice (some ⟨w4.heap.size, 0, none⟩) 0 0) 0 (cellsT [])) := Lib.hid (by have h := World.ownsRow_lit (w4.setCell ⟨w.heap.size, 0, none⟩ (.slice A4 S.arms.length c4)) (e := 30) (size := 2) #[] 0 (Nat.le_refl _) (by unfold maxLen; omega) rfl; rw [hsz] at h; exact h); have Hb4 := Lib.hid ((hb1.trans (hb4.mono hz1)).setCell (p := ⟨w.heap.size, 0, none⟩) (Nat.le_refl _) (.slice A4 S.arms.length c4)); have HT5 := Lib.hid (HT.out.below (Hb4.out.alloc Hb4.out.size (.cells #[] 30))); have Hsz := Lib.hid hsz; clear ho4 hg4 hb4 hsz) | (at_builtin; refine wp_append_tiles rfl _ _ rfl w4.heap.size _ [] rfl HoT.out _ _ S.tiles rfl HT5.out (by simp) (by omega) (by simp) ⟨_, _, rfl⟩ ?_; intro A6 c6 w7 ho7 hg7; simp only [List.nil_append] at ho7; have hb7 : Below w4.heap.size (w4.setCell ⟨w.heap.size, 0, none⟩ (.slice A4 S.arms.length c4)) w7 := Below.grown ((Below.refl w4.heap.size (w4.setCell ⟨w.heap.size, 0, none⟩ (.slice A4 S.arms.length c4))).alloc (Nat.le_of_eq Hsz.out.symm) _) hg7 (by simp) (fun g hg => by cases hg; exact Nat.le_refl _); have q1 := (hb7.cell (p := ⟨w.heap.size, 1, none⟩) hw4z).trans Hs4.out.c1; have fq1 := (hb7.frozen (p := ⟨w.heap.size, 1, none⟩) hw4z).trans (Hs4.out.live 1); have Ho7 := Lib.hid ho7; have Hb7 := Lib.hid hb7; clear ho7 hg7 hb7))
  go_ret
  have hs8 := StV.tl_ Hs4.out S.tiles (grown_none (by rw [Hsz.out]; exact Hb7.out)) (own_base Ho7.out (by omega)) (fun x hx => by rw [Hsz.out]; exact (Ho7.out.lt x hx).1)
  exact ⟨w.heap.size, rfl, ⟨A4, c4, A6, c6, hs8⟩, (Hb4.out.trans (Hb7.out.mono (by omega))).setCell (p := ⟨w.heap.size, 1, none⟩) (Nat.le_refl _) _⟩
end Go.Proofs.Ytnnkdnleencofab

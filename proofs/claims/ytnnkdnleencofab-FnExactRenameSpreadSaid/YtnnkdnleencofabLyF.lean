/- The first play of all. -/
import Derived.Test.YtnnkdnleencofabLyB
namespace Go.Proofs.Ytnnkdnleencofab
open Go.RowKit
set_option linter.unusedVariables false

set_option maxRecDepth 100000 in
set_option maxHeartbeats 4000000 in
theorem c_add_FF (base g c d : Nat) (A B : Option Addr) (arms : List (Int × Bool × Bool)) (tiles : List (Int × Int)) (spin waits : Int) (first l0 l1 : Bool) (x y : Int) (w : World)
    (h : StV base w g A c B d ⟨arms, tiles, spin, waits, first, l0, l1⟩) (h28 : tiles.length ≤ 28) (h4 : arms.length ≤ 4) (hg : goodB x y = true) (hxy : (x == y) = false) (ht : tiles = []) :
    Calls Try.prog 57 #[.pointer (some ⟨g, 0, none⟩), .agg #[.int .i64 x, .int .i64 y, .int .i64 (0 : Int)]] w fun e w' => e = .returned (.bool true) ∧ StAt base w' g ⟨[(x, false, false), (y, false, false)], tiles ++ [(x, y)], spin, waits, first, l0, l1⟩ ∧ Below base w w' := by
  have hgl := h.lt
  have hlo : base ≤ g := h.lo
  have hgx : g ≠ w.heap.size := by omega
  have hbase : base ≤ w.heap.size := Nat.le_trans h.lo (Nat.le_of_lt hgl)
  have hbp : Below w.heap.size w (w.alloc (.cells #[.int .i64 x, .int .i64 y, .int .i64 (0 : Int)] 32)) := (Below.refl _ _).alloc (Nat.le_refl _) _
  have p0 : (w.alloc (.cells #[.int .i64 x, .int .i64 y, .int .i64 (0 : Int)] 32)).cell? ⟨w.heap.size, 0, none⟩ = some (.int .i64 x) := by simp
  have p1 : (w.alloc (.cells #[.int .i64 x, .int .i64 y, .int .i64 (0 : Int)] 32)).cell? ⟨w.heap.size, 1, none⟩ = some (.int .i64 y) := by simp
  have p2 : (w.alloc (.cells #[.int .i64 x, .int .i64 y, .int .i64 (0 : Int)] 32)).cell? ⟨w.heap.size, 2, none⟩ = some (.int .i64 (0 : Int)) := by simp
  have g1 : (w.alloc (.cells #[.int .i64 x, .int .i64 y, .int .i64 (0 : Int)] 32)).cell? ⟨g, 1, none⟩ = some (.slice B tiles.length d) := keepc hbp h.c1
  have conP := Lib.hid (fun W (hb : Below w.heap.size w W) => c_tiPlace B d tiles x y W (RdT.of_own (own_keep h.bo hb)) (by omega))
  obtain ⟨pl, hpl⟩ : ∃ pl, placeI tiles (x, y) = pl := ⟨_, rfl⟩
  rw [hpl] at conP
  have conT := Lib.hid (fun W => c_tiGood x y W)
  have H := Lib.hid h
  rw [hg] at conT
  have hin : pl < 0 := by rw [← hpl, ht]; simp [placeI]
  have hpn : decide (0 ≤ pl) = false := decide_eq_false (by omega)
  have htl : tiles.length = 0 := by rw [ht]; rfl
  have q28 : decide ((28 : Int) ≤ (tiles.length : Int)) = false := decide_eq_false (by omega)
  have q28i : ¬ (28 : Int) ≤ (tiles.length : Int) := by omega
  have q0 : ((tiles.length : Int) == 0) = true := beq_iff_eq.2 (by omega)
  have H2 := Lib.hid h
  have Ht := Lib.hid htl
  clear hg h hpl hin ht htl
  go_enter Try.func57, Try.ntmps57
  go_wp2_with fail
  refine wp_region_held_drew (S := fun w' => w'.cell? ⟨w.heap.size, 0, none⟩ = some (.int .i64 x) ∧ w'.cell? ⟨w.heap.size, 1, none⟩ = some (.int .i64 y) ∧ w'.cell? ⟨g, 1, none⟩ = some (.slice B tiles.length d)) (by kernel_rfl) ⟨p0, p1, g1⟩ (fun hH0 => ?_)
  refine reg_take 0 rfl (by kernel_rfl) (by kernel_rfl) (by kernel_rfl) (fun _ _ _ h => h) (by rfl) (fun w _ => by (go_simp <;> with_reducible rfl)) (by assumption) ?_
  try simp only [Act.put, List.setIfInBounds_toArray, List.set_cons_zero, List.set_cons_succ, List.getElem_toArray, List.getElem_cons_zero]
  refine reg_take 1 rfl (by kernel_rfl) (by kernel_rfl) (by kernel_rfl) (fun _ _ _ h => h) (by rfl) (fun w hSw => by (try dsimp only at hSw); (go_simp <;> with_reducible rfl)) (by assumption) ?_
  try simp only [Act.put, List.setIfInBounds_toArray, List.set_cons_zero, List.set_cons_succ, List.getElem_toArray, List.getElem_cons_zero, List.getElem_cons_succ]
  refine wpAnyH_ready (rs := [2]) (by kernel_rfl) (by simp) ?_
  refine AllReadyH.cons (i := 2) rfl (fun K hK => ?_) AllReadyH.nil
  go_simp
  go_at_call 99
  refine (conT.out _).mono ?_
  rintro e w1 ⟨rfl, hb1⟩
  have hbw1 := bstep hbp.drew hb1
  have t0 := keepc hb1 p0
  have t1 := keepc hb1 p1
  have t2 := keepc hb1 g1
  refine hK.out _ _ ⟨t0, t1, t2⟩ (fun hH1 => ?_)
  clear hK K
  try simp only [Act.put, List.setIfInBounds_toArray, List.set_cons_zero, List.set_cons_succ, List.getElem_toArray, List.getElem_cons_zero, List.getElem_cons_succ]
  refine reg_take 3 rfl (by kernel_rfl) (by kernel_rfl) (by kernel_rfl) (fun _ _ _ h => h) (by rfl) (fun w _ => by (go_simp <;> with_reducible rfl)) (by assumption) ?_
  try simp only [Act.put, List.setIfInBounds_toArray, List.set_cons_zero, List.set_cons_succ, List.getElem_toArray, List.getElem_cons_zero, List.getElem_cons_succ]
  refine reg_take 4 rfl (by kernel_rfl) (by kernel_rfl) (by kernel_rfl) (fun _ _ _ h => h) (by rfl) (fun w _ => by (go_simp <;> with_reducible rfl)) (by assumption) ?_
  try simp only [Act.put, List.setIfInBounds_toArray, List.set_cons_zero, List.set_cons_succ, List.getElem_toArray, List.getElem_cons_zero, List.getElem_cons_succ]
  refine reg_take 5 rfl (by kernel_rfl) (by kernel_rfl) (by kernel_rfl) (fun _ _ _ h => h) (by rfl) (fun w _ => by (go_simp <;> with_reducible rfl)) (by assumption) ?_
  try simp only [Act.put, List.setIfInBounds_toArray, List.set_cons_zero, List.set_cons_succ, List.getElem_toArray, List.getElem_cons_zero, List.getElem_cons_succ]
  refine reg_take 6 rfl (by kernel_rfl) (by kernel_rfl) (by kernel_rfl) (fun _ _ _ h => h) (by rfl) (fun w _ => by (go_simp <;> with_reducible rfl)) (by assumption) ?_
  try simp only [Act.put, List.setIfInBounds_toArray, List.set_cons_zero, List.set_cons_succ, List.getElem_toArray, List.getElem_cons_zero, List.getElem_cons_succ]
  refine reg_take 7 rfl (by kernel_rfl) (by kernel_rfl) (by kernel_rfl) (fun _ _ _ h => h) (by rfl) (fun w _ => by (go_simp <;> with_reducible rfl)) (by assumption) ?_
  try simp only [Act.put, List.setIfInBounds_toArray, List.set_cons_zero, List.set_cons_succ, List.getElem_toArray, List.getElem_cons_zero, List.getElem_cons_succ]
  refine reg_take 8 rfl (by kernel_rfl) (by kernel_rfl) (by kernel_rfl) (fun _ _ _ h => h) (by rfl) (fun w hSw => by (try dsimp only at hSw); (go_simp <;> with_reducible rfl)) (by assumption) ?_
  try simp only [Act.put, List.setIfInBounds_toArray, List.set_cons_zero, List.set_cons_succ, List.getElem_toArray, List.getElem_cons_zero, List.getElem_cons_succ]
  refine reg_take 9 rfl (by kernel_rfl) (by kernel_rfl) (by kernel_rfl) (fun _ _ _ h => h) (by rfl) (fun w _ => by (go_simp <;> with_reducible rfl)) (by assumption) ?_
  try simp only [Act.put, List.setIfInBounds_toArray, List.set_cons_zero, List.set_cons_succ, List.getElem_toArray, List.getElem_cons_zero, List.getElem_cons_succ]
  refine reg_take 10 rfl (by kernel_rfl) (by kernel_rfl) (by kernel_rfl) (fun _ _ _ h => h) (by rfl) (fun w hSw => by (try dsimp only at hSw); (go_simp <;> with_reducible rfl)) (by assumption) ?_
  try simp only [Act.put, List.setIfInBounds_toArray, List.set_cons_zero, List.set_cons_succ, List.getElem_toArray, List.getElem_cons_zero, List.getElem_cons_succ]
  refine wpAnyH_ready (rs := [11]) (by kernel_rfl) (by simp) ?_
  refine AllReadyH.cons (i := 11) rfl (fun K hK => ?_) AllReadyH.nil
  go_simp
  go_at_call 100
  refine (conP.out _ hbw1).mono ?_
  rintro e w2 ⟨rfl, hb2⟩
  have u0 := keepc hb2 t0
  have u1 := keepc hb2 t1
  have u2 := keepc hb2 t2
  refine hK.out _ _ ⟨u0, u1, u2⟩ (fun hH2 => ?_)
  clear hK K
  try simp only [Act.put, List.setIfInBounds_toArray, List.set_cons_zero, List.set_cons_succ, List.getElem_toArray, List.getElem_cons_zero, List.getElem_cons_succ]
  refine reg_take 12 rfl (by kernel_rfl) (by kernel_rfl) (by kernel_rfl) (fun _ _ _ h => h) (by rfl) (fun w _ => by (go_simp <;> with_reducible rfl)) (by assumption) ?_
  try simp only [Act.put, List.setIfInBounds_toArray, List.set_cons_zero, List.set_cons_succ, List.getElem_toArray, List.getElem_cons_zero, List.getElem_cons_succ]
  refine reg_take 13 rfl (by kernel_rfl) (by kernel_rfl) (by kernel_rfl) (fun _ _ _ h => h) (by rfl) (fun w _ => by (go_simp <;> with_reducible rfl)) (by assumption) ?_
  try simp only [Act.put, List.setIfInBounds_toArray, List.set_cons_zero, List.set_cons_succ, List.getElem_toArray, List.getElem_cons_zero, List.getElem_cons_succ]
  refine reg_take 14 rfl (by kernel_rfl) (by kernel_rfl) (by kernel_rfl) (fun _ _ _ h => h) (by rfl) (fun w _ => by (go_simp <;> with_reducible rfl)) (by assumption) ?_
  try simp only [Act.put, List.setIfInBounds_toArray, List.set_cons_zero, List.set_cons_succ, List.getElem_toArray, List.getElem_cons_zero, List.getElem_cons_succ]
  refine reg_take 15 rfl (by kernel_rfl) (by kernel_rfl) (by kernel_rfl) (fun _ _ _ h => h) (by rfl) (fun w _ => by (go_simp <;> with_reducible rfl)) (by assumption) ?_
  try simp only [Act.put, List.setIfInBounds_toArray, List.set_cons_zero, List.set_cons_succ, List.getElem_toArray, List.getElem_cons_zero, List.getElem_cons_succ]
  refine reg_take 16 rfl (by kernel_rfl) (by kernel_rfl) (by kernel_rfl) (fun _ _ _ h => h) (by rfl) (fun w _ => by (go_simp <;> with_reducible rfl)) (by assumption) ?_
  try simp only [Act.put, List.setIfInBounds_toArray, List.set_cons_zero, List.set_cons_succ, List.getElem_toArray, List.getElem_cons_zero, List.getElem_cons_succ]
  refine reg_take 17 rfl (by kernel_rfl) (by kernel_rfl) (by kernel_rfl) (fun _ _ _ h => h) (by rfl) (fun w _ => by (go_simp <;> with_reducible rfl)) (by assumption) ?_
  try simp only [Act.put, List.setIfInBounds_toArray, List.set_cons_zero, List.set_cons_succ, List.getElem_toArray, List.getElem_cons_zero, List.getElem_cons_succ]
  refine reg_take 18 rfl (by kernel_rfl) (by kernel_rfl) (by kernel_rfl) (fun _ _ _ h => h) (by rfl) (fun w hSw => by (try dsimp only at hSw); (go_simp <;> with_reducible rfl)) (by assumption) ?_
  try simp only [Act.put, List.setIfInBounds_toArray, List.set_cons_zero, List.set_cons_succ, List.getElem_toArray, List.getElem_cons_zero, List.getElem_cons_succ]
  refine reg_take 19 rfl (by kernel_rfl) (by kernel_rfl) (by kernel_rfl) (fun _ _ _ h => h) (by rfl) (fun w _ => by (go_simp <;> with_reducible rfl)) (by assumption) ?_
  try simp only [Act.put, List.setIfInBounds_toArray, List.set_cons_zero, List.set_cons_succ, List.getElem_toArray, List.getElem_cons_zero, List.getElem_cons_succ]
  refine reg_take 20 rfl (by kernel_rfl) (by kernel_rfl) (by kernel_rfl) (fun _ _ _ h => h) (by rfl) (fun w _ => by (go_simp <;> with_reducible rfl)) (by assumption) ?_
  try simp only [Act.put, List.setIfInBounds_toArray, List.set_cons_zero, List.set_cons_succ, List.getElem_toArray, List.getElem_cons_zero, List.getElem_cons_succ]
  refine reg_take 21 rfl (by kernel_rfl) (by kernel_rfl) (by kernel_rfl) (fun _ _ _ h => h) (by rfl) (fun w _ => by (go_simp <;> with_reducible rfl)) (by assumption) ?_
  try simp only [Act.put, List.setIfInBounds_toArray, List.set_cons_zero, List.set_cons_succ, List.getElem_toArray, List.getElem_cons_zero, List.getElem_cons_succ]
  refine wpAnyH_done (by kernel_rfl) ?_ _
  clear hH0
  have hbw2 := bstep hbw1 hb2
  have v2 := keepc hb2 (keepc hb1 p2)
  have HW := H2.out.keep hbw2
  have c0 : w2.cell? ⟨g, 0, none⟩ = some (.slice A arms.length c) := HW.c0
  have m0 : w2.frozen? ⟨g, 0, none⟩ = false := HW.live 0
  have hz2 := block_lt u0
  have hg2 : g < w2.heap.size := Nat.lt_trans hgl hz2
  have HHW := Lib.hid HW
  clear HW
  go_wp2_with fail
  have hlit : (w2.alloc (.cells #[.int .i64 x, .bool false, .bool false, .int .i64 y, .bool false, .bool false] 141)).ownsRow base 141 3 (.slice (some ⟨w2.heap.size, 0, none⟩) 2 2) 2 (cellsA [(x, false, false), (y, false, false)]) := by
    have h := World.ownsRow_lit (base := base) (e := 141) (size := 3) w2 #[.int .i64 x, .bool false, .bool false, .int .i64 y, .bool false, .bool false] 2 (Nat.le_trans hbase hbw2.size) (by unfold maxLen; omega) rfl
    simpa [cellsA] using h
  have HA : StV base ((w2.alloc (.cells #[.int .i64 x, .bool false, .bool false, .int .i64 y, .bool false, .bool false] 141)).setCell ⟨g, 0, none⟩ (.slice (some ⟨w2.heap.size, 0, none⟩) 2 2)) g (some ⟨w2.heap.size, 0, none⟩) 2 B d ⟨[(x, false, false), (y, false, false)], tiles, spin, waits, first, l0, l1⟩ := HHW.out.arms_ [(x, false, false), (y, false, false)] none (World.grownBy_alloc w2 _ none) (fun gx hx => by cases hx) hlit (fun gx hx => .inr (Nat.le_of_eq (Option.some.inj hx)))
  have hbA : Below base w ((w2.alloc (.cells #[.int .i64 x, .bool false, .bool false, .int .i64 y, .bool false, .bool false] 141)).setCell ⟨g, 0, none⟩ (.slice (some ⟨w2.heap.size, 0, none⟩) 2 2)) := (((hbw2.mono hbase).trans ((Below.refl base w2).alloc (Nat.le_trans hbase hbw2.size) _)).setCell (p := ⟨g, 0, none⟩) hlo _)
  have d0 : ((w2.alloc (.cells #[.int .i64 x, .bool false, .bool false, .int .i64 y, .bool false, .bool false] 141)).setCell ⟨g, 0, none⟩ (.slice (some ⟨w2.heap.size, 0, none⟩) 2 2)).cell? ⟨w.heap.size, 0, none⟩ = some (.int .i64 x) := far1 hgx (keepc ((Below.refl w2.heap.size w2).alloc (Nat.le_refl _) _) u0)
  have d1 : ((w2.alloc (.cells #[.int .i64 x, .bool false, .bool false, .int .i64 y, .bool false, .bool false] 141)).setCell ⟨g, 0, none⟩ (.slice (some ⟨w2.heap.size, 0, none⟩) 2 2)).cell? ⟨w.heap.size, 1, none⟩ = some (.int .i64 y) := far1 hgx (keepc ((Below.refl w2.heap.size w2).alloc (Nat.le_refl _) _) u1)
  have hcm := World.setCell_alloc_past (w := w2) (.cells #[.int .i64 x, .bool false, .bool false, .int .i64 y, .bool false, .bool false] 141) g 0 (.slice (some ⟨w2.heap.size, 0, none⟩) 2 2) hg2
  rw [← hcm]
  obtain ⟨v6, hv6⟩ : ∃ v6, v6 = ((w2.alloc (.cells #[.int .i64 x, .bool false, .bool false, .int .i64 y, .bool false, .bool false] 141)).setCell ⟨g, 0, none⟩ (.slice (some ⟨w2.heap.size, 0, none⟩) 2 2)) := ⟨_, rfl⟩
  rw [← hv6] at HA hbA d0 d1 ⊢
  clear hcm
  clear hv6 hlit u0 u1 u2 v2 t0 t1 t2 p0 p1 p2 g1 hb1 hb2 hbw1 hbw2 c0 m0 hH1 hH2
  have e1 : v6.cell? ⟨g, 1, none⟩ = some (.slice B tiles.length d) := HA.c1
  have Hbl := Lib.hid (fun gx (hg : (Value.slice B tiles.length d).ownBlock = some gx) => (H2.out.bo.lt gx hg).2)
  have HHA := Lib.hid HA
  have HbwA := Lib.hid hbA
  clear HA hbA
  refine wp_region_held_drew (S := fun w' => w'.cell? ⟨w.heap.size, 0, none⟩ = some (.int .i64 x) ∧ w'.cell? ⟨w.heap.size, 1, none⟩ = some (.int .i64 y)) (by kernel_rfl) ⟨d0, d1⟩ (fun hH0 => ?_)
  obtain ⟨v7, hv7⟩ : ∃ v7, v7 = v6.drew := ⟨_, rfl⟩
  have HB : StV base v7 g _ _ B d _ := hv7 ▸ HHA.out.drew
  have HbwB : Below base w v7 := hv7 ▸ HbwA.out.drew
  have D0 : v7.cell? ⟨w.heap.size, 0, none⟩ = some (.int .i64 x) := hv7 ▸ d0
  have D1 : v7.cell? ⟨w.heap.size, 1, none⟩ = some (.int .i64 y) := hv7 ▸ d1
  have E1 : v7.cell? ⟨g, 1, none⟩ = some (.slice B tiles.length d) := hv7 ▸ e1
  rw [← hv7] at hH0 ⊢
  clear hv7 d0 d1 e1 HHA HbwA
  have HHB := Lib.hid HB
  have HHbwB := Lib.hid HbwB
  clear HB HbwB
  refine reg_take 0 rfl (by kernel_rfl) (by kernel_rfl) (by kernel_rfl) (fun _ _ _ h => h) (by rfl) (fun w _ => by (go_simp <;> with_reducible rfl)) (by assumption) ?_
  try simp only [Act.put, List.setIfInBounds_toArray, List.set_cons_zero, List.set_cons_succ, List.getElem_toArray, List.getElem_cons_zero]
  refine reg_take 1 rfl (by kernel_rfl) (by kernel_rfl) (by kernel_rfl) (fun _ _ _ h => h) (by rfl) (fun w _ => by (go_simp <;> with_reducible rfl)) (by assumption) ?_
  try simp only [Act.put, List.setIfInBounds_toArray, List.set_cons_zero, List.set_cons_succ, List.getElem_toArray, List.getElem_cons_zero, List.getElem_cons_succ]
  refine reg_take 2 rfl (by kernel_rfl) (by kernel_rfl) (by kernel_rfl) (fun _ _ _ h => h) (by rfl) (fun w _ => by (go_simp <;> with_reducible rfl)) (by assumption) ?_
  try simp only [Act.put, List.setIfInBounds_toArray, List.set_cons_zero, List.set_cons_succ, List.getElem_toArray, List.getElem_cons_zero, List.getElem_cons_succ]
  refine reg_take 3 rfl (by kernel_rfl) (by kernel_rfl) (by kernel_rfl) (fun _ _ _ h => h) (by rfl) (fun w _ => by (go_simp <;> with_reducible rfl)) (by assumption) ?_
  try simp only [Act.put, List.setIfInBounds_toArray, List.set_cons_zero, List.set_cons_succ, List.getElem_toArray, List.getElem_cons_zero, List.getElem_cons_succ]
  refine reg_take 5 rfl (by kernel_rfl) (by kernel_rfl) (by kernel_rfl) (fun _ _ _ h => h) (by rfl) (fun w _ => by (go_simp <;> with_reducible rfl)) (by assumption) ?_
  try simp only [Act.put, List.setIfInBounds_toArray, List.set_cons_zero, List.set_cons_succ, List.getElem_toArray, List.getElem_cons_zero, List.getElem_cons_succ]
  refine reg_take 6 rfl (by kernel_rfl) (by kernel_rfl) (by kernel_rfl) (fun _ _ _ h => h) (by rfl) (fun w hSw => by (try dsimp only at hSw); (go_simp <;> with_reducible rfl)) (by assumption) ?_
  try simp only [Act.put, List.setIfInBounds_toArray, List.set_cons_zero, List.set_cons_succ, List.getElem_toArray, List.getElem_cons_zero, List.getElem_cons_succ]
  refine wpAnyH_ready (rs := [4, 7]) (by kernel_rfl) (by simp) ?_
  refine AllReadyH.cons (i := 4) rfl (fun K hK => ?_) (AllReadyH.cons (i := 7) rfl (fun K hK => ?_) AllReadyH.nil)
  · skip
    go_simp
    skip
    refine hK.out _ _ (by assumption) (fun hH3 => ?_)
    clear hK K
    try simp only [Act.put, List.setIfInBounds_toArray, List.set_cons_zero, List.set_cons_succ, List.getElem_toArray, List.getElem_cons_zero, List.getElem_cons_succ]
    refine wpAnyH_ready (rs := [7]) (by kernel_rfl) (by simp) ?_
    refine AllReadyH.cons (i := 7) rfl (fun K hK => ?_) AllReadyH.nil
    go_simp
    skip
    refine hK.out _ _ ⟨keepc ((Below.refl v7.heap.size v7).alloc (Nat.le_refl _) _) D0, keepc ((Below.refl v7.heap.size v7).alloc (Nat.le_refl _) _) D1⟩ (fun hH4 => ?_)
    clear hK K
    try simp only [Act.put, List.setIfInBounds_toArray, List.set_cons_zero, List.set_cons_succ, List.getElem_toArray, List.getElem_cons_zero, List.getElem_cons_succ]
    have X0 : (v7.alloc (.cells #[.int .i64 x, .int .i64 y] 30)).cell? ⟨v7.heap.size, 0, none⟩ = some (.int .i64 x) := by simp
    have X1 : (v7.alloc (.cells #[.int .i64 x, .int .i64 y] 30)).cell? ⟨v7.heap.size, 1, none⟩ = some (.int .i64 y) := by simp
    obtain ⟨v8, hv8⟩ : ∃ v8, v8 = (v7.alloc (.cells #[.int .i64 x, .int .i64 y] 30)) := ⟨_, rfl⟩
    have HC : StV base v8 g _ _ B d _ := hv8 ▸ HHB.out.alloc _
    have hb8 : Below v7.heap.size v7 v8 := hv8 ▸ (Below.refl v7.heap.size v7).alloc (Nat.le_refl _) _
    rw [← hv8] at X0 X1 hH4 ⊢
    clear hv8
    have Y0 := keepc hb8 D0
    have Y1 := keepc hb8 D1
    have Z1 := keepc hb8 E1
    have hb8s : base ≤ v8.heap.size := Nat.le_trans (Nat.le_trans hbase HHbwB.out.size) hb8.size
    have HHC := Lib.hid HC
    have Hb8 := Lib.hid (HHbwB.out.trans (hb8.mono (Nat.le_trans hbase HHbwB.out.size)))
    clear HC hb8
    refine wpAnyH_ready (rs := [8]) (by kernel_rfl) (by simp) ?_
    refine AllReadyH.cons (i := 8) rfl (fun K hK => ?_) AllReadyH.nil
    refine step_tileL rfl (.tmp 64) (.tmp 67) rfl base _ tiles rfl HHC.out.bo x y v7.heap.size rfl X0 X1 (by omega) hb8s ?_
    intro G c8 w8 ho8 hg8 hat8
    have J0 := World.grownBy.cell hg8 Y0 (fun e => Nat.lt_irrefl _ (Hbl.out _ e.symm))
    have J1 := World.grownBy.cell hg8 Y1 (fun e => Nat.lt_irrefl _ (Hbl.out _ e.symm))
    have J3 := World.grownBy.cell hg8 Z1 (fun e => HHC.out.bg _ e.symm rfl)
    have J4 := (hg8.frozen_far ⟨g, 1, none⟩ (block_lt Z1) (fun e => HHC.out.bg _ e.symm rfl)).trans (HHC.out.live 1)
    refine hK.out _ _ ⟨J0, J1⟩ (fun hH5 => ?_)
    clear hK K
    try simp only [Act.put, List.setIfInBounds_toArray, List.set_cons_zero, List.set_cons_succ, List.getElem_toArray, List.getElem_cons_zero, List.getElem_cons_succ]
    refine reg_take 9 rfl (by kernel_rfl) (by kernel_rfl) (by kernel_rfl) (fun _ _ _ h => h) (by rfl) (fun w _ => by (go_simp <;> with_reducible rfl)) (by assumption) ?_
    try simp only [Act.put, List.setIfInBounds_toArray, List.set_cons_zero, List.set_cons_succ, List.getElem_toArray, List.getElem_cons_zero, List.getElem_cons_succ]
    refine reg_take 10 rfl (by kernel_rfl) (by kernel_rfl) (by kernel_rfl) (fun _ _ _ h => h) (by rfl) (fun w _ => by (go_simp <;> with_reducible rfl)) (by assumption) ?_
    try simp only [Act.put, List.setIfInBounds_toArray, List.set_cons_zero, List.set_cons_succ, List.getElem_toArray, List.getElem_cons_zero, List.getElem_cons_succ]
    refine wpAnyH_ready (rs := [11]) (by kernel_rfl) (by simp) ?_
    refine AllReadyH.cons (i := 11) rfl (fun K hK => ?_) AllReadyH.nil
    go_simp
    skip
    refine hK.out _ _ ⟨far1 hgx J0, far1 hgx J1⟩ (fun hH6 => ?_)
    clear hK K
    try simp only [Act.put, List.setIfInBounds_toArray, List.set_cons_zero, List.set_cons_succ, List.getElem_toArray, List.getElem_cons_zero, List.getElem_cons_succ]
    refine wpAnyH_done (by kernel_rfl) ?_ _
    have HD : StV base (w8.setCell ⟨g, 1, none⟩ (.slice (some ⟨G, 0, none⟩) (tiles.length + 1) c8)) g (some ⟨_, 0, none⟩) 2 (some ⟨G, 0, none⟩) c8 ⟨[(x, false, false), (y, false, false)], tiles ++ [(x, y)], spin, waits, first, l0, l1⟩ := HHC.out.tiles_ (x, y) hg8 ho8 (fun gx hgx8 => by have e1 : G = gx := Option.some.inj hgx8; subst e1; rcases hat8 with e2 | e2; exact .inl e2; exact .inr (Nat.le_of_eq e2.symm))
    have HbD : Below base w (w8.setCell ⟨g, 1, none⟩ (.slice (some ⟨G, 0, none⟩) (tiles.length + 1) c8)) := (Below.grown Hb8.out hg8 hb8s (fun gx hgx8 => (HHC.out.bo.lt gx hgx8).1)).setCell (p := ⟨g, 1, none⟩) hlo _
    have J0b : (w8.setCell ⟨g, 1, none⟩ (.slice (some ⟨G, 0, none⟩) (tiles.length + 1) c8)).cell? ⟨w.heap.size, 0, none⟩ = some (.int .i64 x) := far1 hgx J0
    obtain ⟨v9, hv9⟩ : ∃ v9, v9 = (w8.setCell ⟨g, 1, none⟩ (.slice (some ⟨G, 0, none⟩) (tiles.length + 1) c8)) := ⟨_, rfl⟩
    rw [← hv9] at HD HbD J0b hH6 ⊢
    clear hv9 hH0 hH6 hH5 J0 J1 J3 J4 Y0 Y1 Z1 X0 X1 ho8 hg8 hat8 HHC Hb8 HHB HHbwB D0 D1 E1
    have HHD := Lib.hid HD
    have HHbD := Lib.hid HbD
    clear HD HbD
    go_wp2
    go_ret
    exact ⟨rfl, ⟨_, _, _, _, HHD.out⟩, HHbD.out⟩
  · skip
    go_simp
    skip
    refine hK.out _ _ ⟨keepc ((Below.refl v7.heap.size v7).alloc (Nat.le_refl _) _) D0, keepc ((Below.refl v7.heap.size v7).alloc (Nat.le_refl _) _) D1⟩ (fun hH7 => ?_)
    clear hK K
    try simp only [Act.put, List.setIfInBounds_toArray, List.set_cons_zero, List.set_cons_succ, List.getElem_toArray, List.getElem_cons_zero, List.getElem_cons_succ]
    have X0 : (v7.alloc (.cells #[.int .i64 x, .int .i64 y] 30)).cell? ⟨v7.heap.size, 0, none⟩ = some (.int .i64 x) := by simp
    have X1 : (v7.alloc (.cells #[.int .i64 x, .int .i64 y] 30)).cell? ⟨v7.heap.size, 1, none⟩ = some (.int .i64 y) := by simp
    obtain ⟨v8, hv8⟩ : ∃ v8, v8 = (v7.alloc (.cells #[.int .i64 x, .int .i64 y] 30)) := ⟨_, rfl⟩
    have HC : StV base v8 g _ _ B d _ := hv8 ▸ HHB.out.alloc _
    have hb8 : Below v7.heap.size v7 v8 := hv8 ▸ (Below.refl v7.heap.size v7).alloc (Nat.le_refl _) _
    rw [← hv8] at X0 X1 hH7 ⊢
    clear hv8
    have Y0 := keepc hb8 D0
    have Y1 := keepc hb8 D1
    have Z1 := keepc hb8 E1
    have hb8s : base ≤ v8.heap.size := Nat.le_trans (Nat.le_trans hbase HHbwB.out.size) hb8.size
    have HHC := Lib.hid HC
    have Hb8 := Lib.hid (HHbwB.out.trans (hb8.mono (Nat.le_trans hbase HHbwB.out.size)))
    clear HC hb8
    refine wpAnyH_ready (rs := [4]) (by kernel_rfl) (by simp) ?_
    refine AllReadyH.cons (i := 4) rfl (fun K hK => ?_) AllReadyH.nil
    go_simp
    skip
    refine hK.out _ _ (by assumption) (fun hH8 => ?_)
    clear hK K
    try simp only [Act.put, List.setIfInBounds_toArray, List.set_cons_zero, List.set_cons_succ, List.getElem_toArray, List.getElem_cons_zero, List.getElem_cons_succ]
    refine wpAnyH_ready (rs := [8]) (by kernel_rfl) (by simp) ?_
    refine AllReadyH.cons (i := 8) rfl (fun K hK => ?_) AllReadyH.nil
    refine step_tileL rfl (.tmp 64) (.tmp 67) rfl base _ tiles rfl HHC.out.bo x y v7.heap.size rfl X0 X1 (by omega) hb8s ?_
    intro G c8 w8 ho8 hg8 hat8
    have J0 := World.grownBy.cell hg8 Y0 (fun e => Nat.lt_irrefl _ (Hbl.out _ e.symm))
    have J1 := World.grownBy.cell hg8 Y1 (fun e => Nat.lt_irrefl _ (Hbl.out _ e.symm))
    have J3 := World.grownBy.cell hg8 Z1 (fun e => HHC.out.bg _ e.symm rfl)
    have J4 := (hg8.frozen_far ⟨g, 1, none⟩ (block_lt Z1) (fun e => HHC.out.bg _ e.symm rfl)).trans (HHC.out.live 1)
    refine hK.out _ _ ⟨J0, J1⟩ (fun hH9 => ?_)
    clear hK K
    try simp only [Act.put, List.setIfInBounds_toArray, List.set_cons_zero, List.set_cons_succ, List.getElem_toArray, List.getElem_cons_zero, List.getElem_cons_succ]
    refine reg_take 9 rfl (by kernel_rfl) (by kernel_rfl) (by kernel_rfl) (fun _ _ _ h => h) (by rfl) (fun w _ => by (go_simp <;> with_reducible rfl)) (by assumption) ?_
    try simp only [Act.put, List.setIfInBounds_toArray, List.set_cons_zero, List.set_cons_succ, List.getElem_toArray, List.getElem_cons_zero, List.getElem_cons_succ]
    refine reg_take 10 rfl (by kernel_rfl) (by kernel_rfl) (by kernel_rfl) (fun _ _ _ h => h) (by rfl) (fun w _ => by (go_simp <;> with_reducible rfl)) (by assumption) ?_
    try simp only [Act.put, List.setIfInBounds_toArray, List.set_cons_zero, List.set_cons_succ, List.getElem_toArray, List.getElem_cons_zero, List.getElem_cons_succ]
    refine wpAnyH_ready (rs := [11]) (by kernel_rfl) (by simp) ?_
    refine AllReadyH.cons (i := 11) rfl (fun K hK => ?_) AllReadyH.nil
    go_simp
    skip
    refine hK.out _ _ ⟨far1 hgx J0, far1 hgx J1⟩ (fun hH10 => ?_)
    clear hK K
    try simp only [Act.put, List.setIfInBounds_toArray, List.set_cons_zero, List.set_cons_succ, List.getElem_toArray, List.getElem_cons_zero, List.getElem_cons_succ]
    refine wpAnyH_done (by kernel_rfl) ?_ _
    have HD : StV base (w8.setCell ⟨g, 1, none⟩ (.slice (some ⟨G, 0, none⟩) (tiles.length + 1) c8)) g (some ⟨_, 0, none⟩) 2 (some ⟨G, 0, none⟩) c8 ⟨[(x, false, false), (y, false, false)], tiles ++ [(x, y)], spin, waits, first, l0, l1⟩ := HHC.out.tiles_ (x, y) hg8 ho8 (fun gx hgx8 => by have e1 : G = gx := Option.some.inj hgx8; subst e1; rcases hat8 with e2 | e2; exact .inl e2; exact .inr (Nat.le_of_eq e2.symm))
    have HbD : Below base w (w8.setCell ⟨g, 1, none⟩ (.slice (some ⟨G, 0, none⟩) (tiles.length + 1) c8)) := (Below.grown Hb8.out hg8 hb8s (fun gx hgx8 => (HHC.out.bo.lt gx hgx8).1)).setCell (p := ⟨g, 1, none⟩) hlo _
    have J0b : (w8.setCell ⟨g, 1, none⟩ (.slice (some ⟨G, 0, none⟩) (tiles.length + 1) c8)).cell? ⟨w.heap.size, 0, none⟩ = some (.int .i64 x) := far1 hgx J0
    obtain ⟨v9, hv9⟩ : ∃ v9, v9 = (w8.setCell ⟨g, 1, none⟩ (.slice (some ⟨G, 0, none⟩) (tiles.length + 1) c8)) := ⟨_, rfl⟩
    rw [← hv9] at HD HbD J0b hH10 ⊢
    clear hv9 hH0 hH10 hH9 J0 J1 J3 J4 Y0 Y1 Z1 X0 X1 ho8 hg8 hat8 HHC Hb8 HHB HHbwB D0 D1 E1
    have HHD := Lib.hid HD
    have HHbD := Lib.hid HbD
    clear HD HbD
    go_wp2
    go_ret
    exact ⟨rfl, ⟨_, _, _, _, HHD.out⟩, HHbD.out⟩

set_option maxRecDepth 100000 in
set_option maxHeartbeats 4000000 in
theorem c_add_FT (base g c d : Nat) (A B : Option Addr) (arms : List (Int × Bool × Bool)) (tiles : List (Int × Int)) (spin waits : Int) (first l0 l1 : Bool) (x y : Int) (w : World)
    (h : StV base w g A c B d ⟨arms, tiles, spin, waits, first, l0, l1⟩) (h28 : tiles.length ≤ 28) (h4 : arms.length ≤ 4) (hg : goodB x y = true) (hxy : (x == y) = true) (ht : tiles = []) :
    Calls Try.prog 57 #[.pointer (some ⟨g, 0, none⟩), .agg #[.int .i64 x, .int .i64 y, .int .i64 (0 : Int)]] w fun e w' => e = .returned (.bool true) ∧ StAt base w' g ⟨[(x, true, false), (y, true, false)], tiles ++ [(x, y)], x, waits, true, l0, l1⟩ ∧ Below base w w' := by
  have hgl := h.lt
  have hlo : base ≤ g := h.lo
  have hgx : g ≠ w.heap.size := by omega
  have hbase : base ≤ w.heap.size := Nat.le_trans h.lo (Nat.le_of_lt hgl)
  have hbp : Below w.heap.size w (w.alloc (.cells #[.int .i64 x, .int .i64 y, .int .i64 (0 : Int)] 32)) := (Below.refl _ _).alloc (Nat.le_refl _) _
  have p0 : (w.alloc (.cells #[.int .i64 x, .int .i64 y, .int .i64 (0 : Int)] 32)).cell? ⟨w.heap.size, 0, none⟩ = some (.int .i64 x) := by simp
  have p1 : (w.alloc (.cells #[.int .i64 x, .int .i64 y, .int .i64 (0 : Int)] 32)).cell? ⟨w.heap.size, 1, none⟩ = some (.int .i64 y) := by simp
  have p2 : (w.alloc (.cells #[.int .i64 x, .int .i64 y, .int .i64 (0 : Int)] 32)).cell? ⟨w.heap.size, 2, none⟩ = some (.int .i64 (0 : Int)) := by simp
  have g1 : (w.alloc (.cells #[.int .i64 x, .int .i64 y, .int .i64 (0 : Int)] 32)).cell? ⟨g, 1, none⟩ = some (.slice B tiles.length d) := keepc hbp h.c1
  have conP := Lib.hid (fun W (hb : Below w.heap.size w W) => c_tiPlace B d tiles x y W (RdT.of_own (own_keep h.bo hb)) (by omega))
  obtain ⟨pl, hpl⟩ : ∃ pl, placeI tiles (x, y) = pl := ⟨_, rfl⟩
  rw [hpl] at conP
  have conT := Lib.hid (fun W => c_tiGood x y W)
  have H := Lib.hid h
  rw [hg] at conT
  have hin : pl < 0 := by rw [← hpl, ht]; simp [placeI]
  have hpn : decide (0 ≤ pl) = false := decide_eq_false (by omega)
  have htl : tiles.length = 0 := by rw [ht]; rfl
  have q28 : decide ((28 : Int) ≤ (tiles.length : Int)) = false := decide_eq_false (by omega)
  have q28i : ¬ (28 : Int) ≤ (tiles.length : Int) := by omega
  have q0 : ((tiles.length : Int) == 0) = true := beq_iff_eq.2 (by omega)
  have H2 := Lib.hid h
  have Ht := Lib.hid htl
  clear hg h hpl hin ht htl
  go_enter Try.func57, Try.ntmps57
  go_wp2_with fail
  refine wp_region_held_drew (S := fun w' => w'.cell? ⟨w.heap.size, 0, none⟩ = some (.int .i64 x) ∧ w'.cell? ⟨w.heap.size, 1, none⟩ = some (.int .i64 y) ∧ w'.cell? ⟨g, 1, none⟩ = some (.slice B tiles.length d)) (by kernel_rfl) ⟨p0, p1, g1⟩ (fun hH0 => ?_)
  refine reg_take 0 rfl (by kernel_rfl) (by kernel_rfl) (by kernel_rfl) (fun _ _ _ h => h) (by rfl) (fun w _ => by (go_simp <;> with_reducible rfl)) (by assumption) ?_
  try simp only [Act.put, List.setIfInBounds_toArray, List.set_cons_zero, List.set_cons_succ, List.getElem_toArray, List.getElem_cons_zero]
  refine reg_take 1 rfl (by kernel_rfl) (by kernel_rfl) (by kernel_rfl) (fun _ _ _ h => h) (by rfl) (fun w hSw => by (try dsimp only at hSw); (go_simp <;> with_reducible rfl)) (by assumption) ?_
  try simp only [Act.put, List.setIfInBounds_toArray, List.set_cons_zero, List.set_cons_succ, List.getElem_toArray, List.getElem_cons_zero, List.getElem_cons_succ]
  refine wpAnyH_ready (rs := [2]) (by kernel_rfl) (by simp) ?_
  refine AllReadyH.cons (i := 2) rfl (fun K hK => ?_) AllReadyH.nil
  go_simp
  go_at_call 99
  refine (conT.out _).mono ?_
  rintro e w1 ⟨rfl, hb1⟩
  have hbw1 := bstep hbp.drew hb1
  have t0 := keepc hb1 p0
  have t1 := keepc hb1 p1
  have t2 := keepc hb1 g1
  refine hK.out _ _ ⟨t0, t1, t2⟩ (fun hH1 => ?_)
  clear hK K
  try simp only [Act.put, List.setIfInBounds_toArray, List.set_cons_zero, List.set_cons_succ, List.getElem_toArray, List.getElem_cons_zero, List.getElem_cons_succ]
  refine reg_take 3 rfl (by kernel_rfl) (by kernel_rfl) (by kernel_rfl) (fun _ _ _ h => h) (by rfl) (fun w _ => by (go_simp <;> with_reducible rfl)) (by assumption) ?_
  try simp only [Act.put, List.setIfInBounds_toArray, List.set_cons_zero, List.set_cons_succ, List.getElem_toArray, List.getElem_cons_zero, List.getElem_cons_succ]
  refine reg_take 4 rfl (by kernel_rfl) (by kernel_rfl) (by kernel_rfl) (fun _ _ _ h => h) (by rfl) (fun w _ => by (go_simp <;> with_reducible rfl)) (by assumption) ?_
  try simp only [Act.put, List.setIfInBounds_toArray, List.set_cons_zero, List.set_cons_succ, List.getElem_toArray, List.getElem_cons_zero, List.getElem_cons_succ]
  refine reg_take 5 rfl (by kernel_rfl) (by kernel_rfl) (by kernel_rfl) (fun _ _ _ h => h) (by rfl) (fun w _ => by (go_simp <;> with_reducible rfl)) (by assumption) ?_
  try simp only [Act.put, List.setIfInBounds_toArray, List.set_cons_zero, List.set_cons_succ, List.getElem_toArray, List.getElem_cons_zero, List.getElem_cons_succ]
  refine reg_take 6 rfl (by kernel_rfl) (by kernel_rfl) (by kernel_rfl) (fun _ _ _ h => h) (by rfl) (fun w _ => by (go_simp <;> with_reducible rfl)) (by assumption) ?_
  try simp only [Act.put, List.setIfInBounds_toArray, List.set_cons_zero, List.set_cons_succ, List.getElem_toArray, List.getElem_cons_zero, List.getElem_cons_succ]
  refine reg_take 7 rfl (by kernel_rfl) (by kernel_rfl) (by kernel_rfl) (fun _ _ _ h => h) (by rfl) (fun w _ => by (go_simp <;> with_reducible rfl)) (by assumption) ?_
  try simp only [Act.put, List.setIfInBounds_toArray, List.set_cons_zero, List.set_cons_succ, List.getElem_toArray, List.getElem_cons_zero, List.getElem_cons_succ]
  refine reg_take 8 rfl (by kernel_rfl) (by kernel_rfl) (by kernel_rfl) (fun _ _ _ h => h) (by rfl) (fun w hSw => by (try dsimp only at hSw); (go_simp <;> with_reducible rfl)) (by assumption) ?_
  try simp only [Act.put, List.setIfInBounds_toArray, List.set_cons_zero, List.set_cons_succ, List.getElem_toArray, List.getElem_cons_zero, List.getElem_cons_succ]
  refine reg_take 9 rfl (by kernel_rfl) (by kernel_rfl) (by kernel_rfl) (fun _ _ _ h => h) (by rfl) (fun w _ => by (go_simp <;> with_reducible rfl)) (by assumption) ?_
  try simp only [Act.put, List.setIfInBounds_toArray, List.set_cons_zero, List.set_cons_succ, List.getElem_toArray, List.getElem_cons_zero, List.getElem_cons_succ]
  refine reg_take 10 rfl (by kernel_rfl) (by kernel_rfl) (by kernel_rfl) (fun _ _ _ h => h) (by rfl) (fun w hSw => by (try dsimp only at hSw); (go_simp <;> with_reducible rfl)) (by assumption) ?_
  try simp only [Act.put, List.setIfInBounds_toArray, List.set_cons_zero, List.set_cons_succ, List.getElem_toArray, List.getElem_cons_zero, List.getElem_cons_succ]
  refine wpAnyH_ready (rs := [11]) (by kernel_rfl) (by simp) ?_
  refine AllReadyH.cons (i := 11) rfl (fun K hK => ?_) AllReadyH.nil
  go_simp
  go_at_call 100
  refine (conP.out _ hbw1).mono ?_
  rintro e w2 ⟨rfl, hb2⟩
  have u0 := keepc hb2 t0
  have u1 := keepc hb2 t1
  have u2 := keepc hb2 t2
  refine hK.out _ _ ⟨u0, u1, u2⟩ (fun hH2 => ?_)
  clear hK K
  try simp only [Act.put, List.setIfInBounds_toArray, List.set_cons_zero, List.set_cons_succ, List.getElem_toArray, List.getElem_cons_zero, List.getElem_cons_succ]
  refine reg_take 12 rfl (by kernel_rfl) (by kernel_rfl) (by kernel_rfl) (fun _ _ _ h => h) (by rfl) (fun w _ => by (go_simp <;> with_reducible rfl)) (by assumption) ?_
  try simp only [Act.put, List.setIfInBounds_toArray, List.set_cons_zero, List.set_cons_succ, List.getElem_toArray, List.getElem_cons_zero, List.getElem_cons_succ]
  refine reg_take 13 rfl (by kernel_rfl) (by kernel_rfl) (by kernel_rfl) (fun _ _ _ h => h) (by rfl) (fun w _ => by (go_simp <;> with_reducible rfl)) (by assumption) ?_
  try simp only [Act.put, List.setIfInBounds_toArray, List.set_cons_zero, List.set_cons_succ, List.getElem_toArray, List.getElem_cons_zero, List.getElem_cons_succ]
  refine reg_take 14 rfl (by kernel_rfl) (by kernel_rfl) (by kernel_rfl) (fun _ _ _ h => h) (by rfl) (fun w _ => by (go_simp <;> with_reducible rfl)) (by assumption) ?_
  try simp only [Act.put, List.setIfInBounds_toArray, List.set_cons_zero, List.set_cons_succ, List.getElem_toArray, List.getElem_cons_zero, List.getElem_cons_succ]
  refine reg_take 15 rfl (by kernel_rfl) (by kernel_rfl) (by kernel_rfl) (fun _ _ _ h => h) (by rfl) (fun w _ => by (go_simp <;> with_reducible rfl)) (by assumption) ?_
  try simp only [Act.put, List.setIfInBounds_toArray, List.set_cons_zero, List.set_cons_succ, List.getElem_toArray, List.getElem_cons_zero, List.getElem_cons_succ]
  refine reg_take 16 rfl (by kernel_rfl) (by kernel_rfl) (by kernel_rfl) (fun _ _ _ h => h) (by rfl) (fun w _ => by (go_simp <;> with_reducible rfl)) (by assumption) ?_
  try simp only [Act.put, List.setIfInBounds_toArray, List.set_cons_zero, List.set_cons_succ, List.getElem_toArray, List.getElem_cons_zero, List.getElem_cons_succ]
  refine reg_take 17 rfl (by kernel_rfl) (by kernel_rfl) (by kernel_rfl) (fun _ _ _ h => h) (by rfl) (fun w _ => by (go_simp <;> with_reducible rfl)) (by assumption) ?_
  try simp only [Act.put, List.setIfInBounds_toArray, List.set_cons_zero, List.set_cons_succ, List.getElem_toArray, List.getElem_cons_zero, List.getElem_cons_succ]
  refine reg_take 18 rfl (by kernel_rfl) (by kernel_rfl) (by kernel_rfl) (fun _ _ _ h => h) (by rfl) (fun w hSw => by (try dsimp only at hSw); (go_simp <;> with_reducible rfl)) (by assumption) ?_
  try simp only [Act.put, List.setIfInBounds_toArray, List.set_cons_zero, List.set_cons_succ, List.getElem_toArray, List.getElem_cons_zero, List.getElem_cons_succ]
  refine reg_take 19 rfl (by kernel_rfl) (by kernel_rfl) (by kernel_rfl) (fun _ _ _ h => h) (by rfl) (fun w _ => by (go_simp <;> with_reducible rfl)) (by assumption) ?_
  try simp only [Act.put, List.setIfInBounds_toArray, List.set_cons_zero, List.set_cons_succ, List.getElem_toArray, List.getElem_cons_zero, List.getElem_cons_succ]
  refine reg_take 20 rfl (by kernel_rfl) (by kernel_rfl) (by kernel_rfl) (fun _ _ _ h => h) (by rfl) (fun w _ => by (go_simp <;> with_reducible rfl)) (by assumption) ?_
  try simp only [Act.put, List.setIfInBounds_toArray, List.set_cons_zero, List.set_cons_succ, List.getElem_toArray, List.getElem_cons_zero, List.getElem_cons_succ]
  refine reg_take 21 rfl (by kernel_rfl) (by kernel_rfl) (by kernel_rfl) (fun _ _ _ h => h) (by rfl) (fun w _ => by (go_simp <;> with_reducible rfl)) (by assumption) ?_
  try simp only [Act.put, List.setIfInBounds_toArray, List.set_cons_zero, List.set_cons_succ, List.getElem_toArray, List.getElem_cons_zero, List.getElem_cons_succ]
  refine wpAnyH_done (by kernel_rfl) ?_ _
  clear hH0
  have hbw2 := bstep hbw1 hb2
  have v2 := keepc hb2 (keepc hb1 p2)
  have HW := H2.out.keep hbw2
  have c0 : w2.cell? ⟨g, 0, none⟩ = some (.slice A arms.length c) := HW.c0
  have m0 : w2.frozen? ⟨g, 0, none⟩ = false := HW.live 0
  have hz2 := block_lt u0
  have hg2 : g < w2.heap.size := Nat.lt_trans hgl hz2
  have HHW := Lib.hid HW
  clear HW
  go_wp2_with fail
  have hlit : (w2.alloc (.cells #[.int .i64 x, .bool true, .bool false, .int .i64 y, .bool true, .bool false] 141)).ownsRow base 141 3 (.slice (some ⟨w2.heap.size, 0, none⟩) 2 2) 2 (cellsA [(x, true, false), (y, true, false)]) := by
    have h := World.ownsRow_lit (base := base) (e := 141) (size := 3) w2 #[.int .i64 x, .bool true, .bool false, .int .i64 y, .bool true, .bool false] 2 (Nat.le_trans hbase hbw2.size) (by unfold maxLen; omega) rfl
    simpa [cellsA] using h
  have HA : StV base ((w2.alloc (.cells #[.int .i64 x, .bool true, .bool false, .int .i64 y, .bool true, .bool false] 141)).setCell ⟨g, 0, none⟩ (.slice (some ⟨w2.heap.size, 0, none⟩) 2 2)) g (some ⟨w2.heap.size, 0, none⟩) 2 B d ⟨[(x, true, false), (y, true, false)], tiles, spin, waits, first, l0, l1⟩ := HHW.out.arms_ [(x, true, false), (y, true, false)] none (World.grownBy_alloc w2 _ none) (fun gx hx => by cases hx) hlit (fun gx hx => .inr (Nat.le_of_eq (Option.some.inj hx)))
  have hbA : Below base w ((w2.alloc (.cells #[.int .i64 x, .bool true, .bool false, .int .i64 y, .bool true, .bool false] 141)).setCell ⟨g, 0, none⟩ (.slice (some ⟨w2.heap.size, 0, none⟩) 2 2)) := (((hbw2.mono hbase).trans ((Below.refl base w2).alloc (Nat.le_trans hbase hbw2.size) _)).setCell (p := ⟨g, 0, none⟩) hlo _)
  have d0 : ((w2.alloc (.cells #[.int .i64 x, .bool true, .bool false, .int .i64 y, .bool true, .bool false] 141)).setCell ⟨g, 0, none⟩ (.slice (some ⟨w2.heap.size, 0, none⟩) 2 2)).cell? ⟨w.heap.size, 0, none⟩ = some (.int .i64 x) := far1 hgx (keepc ((Below.refl w2.heap.size w2).alloc (Nat.le_refl _) _) u0)
  have d1 : ((w2.alloc (.cells #[.int .i64 x, .bool true, .bool false, .int .i64 y, .bool true, .bool false] 141)).setCell ⟨g, 0, none⟩ (.slice (some ⟨w2.heap.size, 0, none⟩) 2 2)).cell? ⟨w.heap.size, 1, none⟩ = some (.int .i64 y) := far1 hgx (keepc ((Below.refl w2.heap.size w2).alloc (Nat.le_refl _) _) u1)
  have hcm := World.setCell_alloc_past (w := w2) (.cells #[.int .i64 x, .bool true, .bool false, .int .i64 y, .bool true, .bool false] 141) g 0 (.slice (some ⟨w2.heap.size, 0, none⟩) 2 2) hg2
  rw [← hcm]
  obtain ⟨v6, hv6⟩ : ∃ v6, v6 = ((w2.alloc (.cells #[.int .i64 x, .bool true, .bool false, .int .i64 y, .bool true, .bool false] 141)).setCell ⟨g, 0, none⟩ (.slice (some ⟨w2.heap.size, 0, none⟩) 2 2)) := ⟨_, rfl⟩
  rw [← hv6] at HA hbA d0 d1 ⊢
  clear hcm
  clear hv6 hlit u0 u1 u2 v2 t0 t1 t2 p0 p1 p2 g1 hb1 hb2 hbw1 hbw2 c0 m0 hH1 hH2
  have e1 : v6.cell? ⟨g, 1, none⟩ = some (.slice B tiles.length d) := HA.c1
  have Hbl := Lib.hid (fun gx (hg : (Value.slice B tiles.length d).ownBlock = some gx) => (H2.out.bo.lt gx hg).2)
  have HHA := Lib.hid HA
  have HbwA := Lib.hid hbA
  clear HA hbA
  refine wp_region_held_drew (S := fun w' => w'.cell? ⟨w.heap.size, 0, none⟩ = some (.int .i64 x) ∧ w'.cell? ⟨w.heap.size, 1, none⟩ = some (.int .i64 y)) (by kernel_rfl) ⟨d0, d1⟩ (fun hH0 => ?_)
  obtain ⟨v7, hv7⟩ : ∃ v7, v7 = v6.drew := ⟨_, rfl⟩
  have HB : StV base v7 g _ _ B d _ := hv7 ▸ HHA.out.drew
  have HbwB : Below base w v7 := hv7 ▸ HbwA.out.drew
  have D0 : v7.cell? ⟨w.heap.size, 0, none⟩ = some (.int .i64 x) := hv7 ▸ d0
  have D1 : v7.cell? ⟨w.heap.size, 1, none⟩ = some (.int .i64 y) := hv7 ▸ d1
  have E1 : v7.cell? ⟨g, 1, none⟩ = some (.slice B tiles.length d) := hv7 ▸ e1
  rw [← hv7] at hH0 ⊢
  clear hv7 d0 d1 e1 HHA HbwA
  have HHB := Lib.hid HB
  have HHbwB := Lib.hid HbwB
  clear HB HbwB
  refine reg_take 0 rfl (by kernel_rfl) (by kernel_rfl) (by kernel_rfl) (fun _ _ _ h => h) (by rfl) (fun w _ => by (go_simp <;> with_reducible rfl)) (by assumption) ?_
  try simp only [Act.put, List.setIfInBounds_toArray, List.set_cons_zero, List.set_cons_succ, List.getElem_toArray, List.getElem_cons_zero]
  refine reg_take 1 rfl (by kernel_rfl) (by kernel_rfl) (by kernel_rfl) (fun _ _ _ h => h) (by rfl) (fun w _ => by (go_simp <;> with_reducible rfl)) (by assumption) ?_
  try simp only [Act.put, List.setIfInBounds_toArray, List.set_cons_zero, List.set_cons_succ, List.getElem_toArray, List.getElem_cons_zero, List.getElem_cons_succ]
  refine reg_take 2 rfl (by kernel_rfl) (by kernel_rfl) (by kernel_rfl) (fun _ _ _ h => h) (by rfl) (fun w _ => by (go_simp <;> with_reducible rfl)) (by assumption) ?_
  try simp only [Act.put, List.setIfInBounds_toArray, List.set_cons_zero, List.set_cons_succ, List.getElem_toArray, List.getElem_cons_zero, List.getElem_cons_succ]
  refine reg_take 3 rfl (by kernel_rfl) (by kernel_rfl) (by kernel_rfl) (fun _ _ _ h => h) (by rfl) (fun w _ => by (go_simp <;> with_reducible rfl)) (by assumption) ?_
  try simp only [Act.put, List.setIfInBounds_toArray, List.set_cons_zero, List.set_cons_succ, List.getElem_toArray, List.getElem_cons_zero, List.getElem_cons_succ]
  refine reg_take 5 rfl (by kernel_rfl) (by kernel_rfl) (by kernel_rfl) (fun _ _ _ h => h) (by rfl) (fun w _ => by (go_simp <;> with_reducible rfl)) (by assumption) ?_
  try simp only [Act.put, List.setIfInBounds_toArray, List.set_cons_zero, List.set_cons_succ, List.getElem_toArray, List.getElem_cons_zero, List.getElem_cons_succ]
  refine reg_take 6 rfl (by kernel_rfl) (by kernel_rfl) (by kernel_rfl) (fun _ _ _ h => h) (by rfl) (fun w hSw => by (try dsimp only at hSw); (go_simp <;> with_reducible rfl)) (by assumption) ?_
  try simp only [Act.put, List.setIfInBounds_toArray, List.set_cons_zero, List.set_cons_succ, List.getElem_toArray, List.getElem_cons_zero, List.getElem_cons_succ]
  refine wpAnyH_ready (rs := [4, 7]) (by kernel_rfl) (by simp) ?_
  refine AllReadyH.cons (i := 4) rfl (fun K hK => ?_) (AllReadyH.cons (i := 7) rfl (fun K hK => ?_) AllReadyH.nil)
  · skip
    go_simp
    skip
    refine hK.out _ _ (by assumption) (fun hH3 => ?_)
    clear hK K
    try simp only [Act.put, List.setIfInBounds_toArray, List.set_cons_zero, List.set_cons_succ, List.getElem_toArray, List.getElem_cons_zero, List.getElem_cons_succ]
    refine wpAnyH_ready (rs := [7]) (by kernel_rfl) (by simp) ?_
    refine AllReadyH.cons (i := 7) rfl (fun K hK => ?_) AllReadyH.nil
    go_simp
    skip
    refine hK.out _ _ ⟨keepc ((Below.refl v7.heap.size v7).alloc (Nat.le_refl _) _) D0, keepc ((Below.refl v7.heap.size v7).alloc (Nat.le_refl _) _) D1⟩ (fun hH4 => ?_)
    clear hK K
    try simp only [Act.put, List.setIfInBounds_toArray, List.set_cons_zero, List.set_cons_succ, List.getElem_toArray, List.getElem_cons_zero, List.getElem_cons_succ]
    have X0 : (v7.alloc (.cells #[.int .i64 x, .int .i64 y] 30)).cell? ⟨v7.heap.size, 0, none⟩ = some (.int .i64 x) := by simp
    have X1 : (v7.alloc (.cells #[.int .i64 x, .int .i64 y] 30)).cell? ⟨v7.heap.size, 1, none⟩ = some (.int .i64 y) := by simp
    obtain ⟨v8, hv8⟩ : ∃ v8, v8 = (v7.alloc (.cells #[.int .i64 x, .int .i64 y] 30)) := ⟨_, rfl⟩
    have HC : StV base v8 g _ _ B d _ := hv8 ▸ HHB.out.alloc _
    have hb8 : Below v7.heap.size v7 v8 := hv8 ▸ (Below.refl v7.heap.size v7).alloc (Nat.le_refl _) _
    rw [← hv8] at X0 X1 hH4 ⊢
    clear hv8
    have Y0 := keepc hb8 D0
    have Y1 := keepc hb8 D1
    have Z1 := keepc hb8 E1
    have hb8s : base ≤ v8.heap.size := Nat.le_trans (Nat.le_trans hbase HHbwB.out.size) hb8.size
    have HHC := Lib.hid HC
    have Hb8 := Lib.hid (HHbwB.out.trans (hb8.mono (Nat.le_trans hbase HHbwB.out.size)))
    clear HC hb8
    refine wpAnyH_ready (rs := [8]) (by kernel_rfl) (by simp) ?_
    refine AllReadyH.cons (i := 8) rfl (fun K hK => ?_) AllReadyH.nil
    refine step_tileL rfl (.tmp 64) (.tmp 67) rfl base _ tiles rfl HHC.out.bo x y v7.heap.size rfl X0 X1 (by omega) hb8s ?_
    intro G c8 w8 ho8 hg8 hat8
    have J0 := World.grownBy.cell hg8 Y0 (fun e => Nat.lt_irrefl _ (Hbl.out _ e.symm))
    have J1 := World.grownBy.cell hg8 Y1 (fun e => Nat.lt_irrefl _ (Hbl.out _ e.symm))
    have J3 := World.grownBy.cell hg8 Z1 (fun e => HHC.out.bg _ e.symm rfl)
    have J4 := (hg8.frozen_far ⟨g, 1, none⟩ (block_lt Z1) (fun e => HHC.out.bg _ e.symm rfl)).trans (HHC.out.live 1)
    refine hK.out _ _ ⟨J0, J1⟩ (fun hH5 => ?_)
    clear hK K
    try simp only [Act.put, List.setIfInBounds_toArray, List.set_cons_zero, List.set_cons_succ, List.getElem_toArray, List.getElem_cons_zero, List.getElem_cons_succ]
    refine reg_take 9 rfl (by kernel_rfl) (by kernel_rfl) (by kernel_rfl) (fun _ _ _ h => h) (by rfl) (fun w _ => by (go_simp <;> with_reducible rfl)) (by assumption) ?_
    try simp only [Act.put, List.setIfInBounds_toArray, List.set_cons_zero, List.set_cons_succ, List.getElem_toArray, List.getElem_cons_zero, List.getElem_cons_succ]
    refine reg_take 10 rfl (by kernel_rfl) (by kernel_rfl) (by kernel_rfl) (fun _ _ _ h => h) (by rfl) (fun w _ => by (go_simp <;> with_reducible rfl)) (by assumption) ?_
    try simp only [Act.put, List.setIfInBounds_toArray, List.set_cons_zero, List.set_cons_succ, List.getElem_toArray, List.getElem_cons_zero, List.getElem_cons_succ]
    refine wpAnyH_ready (rs := [11]) (by kernel_rfl) (by simp) ?_
    refine AllReadyH.cons (i := 11) rfl (fun K hK => ?_) AllReadyH.nil
    go_simp
    skip
    refine hK.out _ _ ⟨far1 hgx J0, far1 hgx J1⟩ (fun hH6 => ?_)
    clear hK K
    try simp only [Act.put, List.setIfInBounds_toArray, List.set_cons_zero, List.set_cons_succ, List.getElem_toArray, List.getElem_cons_zero, List.getElem_cons_succ]
    refine wpAnyH_done (by kernel_rfl) ?_ _
    have HD : StV base (w8.setCell ⟨g, 1, none⟩ (.slice (some ⟨G, 0, none⟩) (tiles.length + 1) c8)) g (some ⟨_, 0, none⟩) 2 (some ⟨G, 0, none⟩) c8 ⟨[(x, true, false), (y, true, false)], tiles ++ [(x, y)], spin, waits, first, l0, l1⟩ := HHC.out.tiles_ (x, y) hg8 ho8 (fun gx hgx8 => by have e1 : G = gx := Option.some.inj hgx8; subst e1; rcases hat8 with e2 | e2; exact .inl e2; exact .inr (Nat.le_of_eq e2.symm))
    have HbD : Below base w (w8.setCell ⟨g, 1, none⟩ (.slice (some ⟨G, 0, none⟩) (tiles.length + 1) c8)) := (Below.grown Hb8.out hg8 hb8s (fun gx hgx8 => (HHC.out.bo.lt gx hgx8).1)).setCell (p := ⟨g, 1, none⟩) hlo _
    have J0b : (w8.setCell ⟨g, 1, none⟩ (.slice (some ⟨G, 0, none⟩) (tiles.length + 1) c8)).cell? ⟨w.heap.size, 0, none⟩ = some (.int .i64 x) := far1 hgx J0
    obtain ⟨v9, hv9⟩ : ∃ v9, v9 = (w8.setCell ⟨g, 1, none⟩ (.slice (some ⟨G, 0, none⟩) (tiles.length + 1) c8)) := ⟨_, rfl⟩
    rw [← hv9] at HD HbD J0b hH6 ⊢
    clear hv9 hH0 hH6 hH5 J0 J1 J3 J4 Y0 Y1 Z1 X0 X1 ho8 hg8 hat8 HHC Hb8 HHB HHbwB D0 D1 E1
    have S2 : v9.cell? ⟨g, 2, none⟩ = some (.int .i64 spin) := HD.c2
    have S4 : v9.cell? ⟨g, 4, none⟩ = some (.bool first) := HD.c4
    have Q2 := HD.live 2
    have Q4 := HD.live 4
    have HHD := Lib.hid HD
    have HHbD := Lib.hid HbD
    clear HD HbD
    go_wp2
    go_ret
    exact ⟨rfl, ⟨_, _, _, _, (HHD.out.spin_ x).first_ true⟩, (HHbD.out.setCell (p := ⟨g, 2, none⟩) hlo _).setCell (p := ⟨g, 4, none⟩) hlo _⟩
  · skip
    go_simp
    skip
    refine hK.out _ _ ⟨keepc ((Below.refl v7.heap.size v7).alloc (Nat.le_refl _) _) D0, keepc ((Below.refl v7.heap.size v7).alloc (Nat.le_refl _) _) D1⟩ (fun hH7 => ?_)
    clear hK K
    try simp only [Act.put, List.setIfInBounds_toArray, List.set_cons_zero, List.set_cons_succ, List.getElem_toArray, List.getElem_cons_zero, List.getElem_cons_succ]
    have X0 : (v7.alloc (.cells #[.int .i64 x, .int .i64 y] 30)).cell? ⟨v7.heap.size, 0, none⟩ = some (.int .i64 x) := by simp
    have X1 : (v7.alloc (.cells #[.int .i64 x, .int .i64 y] 30)).cell? ⟨v7.heap.size, 1, none⟩ = some (.int .i64 y) := by simp
    obtain ⟨v8, hv8⟩ : ∃ v8, v8 = (v7.alloc (.cells #[.int .i64 x, .int .i64 y] 30)) := ⟨_, rfl⟩
    have HC : StV base v8 g _ _ B d _ := hv8 ▸ HHB.out.alloc _
    have hb8 : Below v7.heap.size v7 v8 := hv8 ▸ (Below.refl v7.heap.size v7).alloc (Nat.le_refl _) _
    rw [← hv8] at X0 X1 hH7 ⊢
    clear hv8
    have Y0 := keepc hb8 D0
    have Y1 := keepc hb8 D1
    have Z1 := keepc hb8 E1
    have hb8s : base ≤ v8.heap.size := Nat.le_trans (Nat.le_trans hbase HHbwB.out.size) hb8.size
    have HHC := Lib.hid HC
    have Hb8 := Lib.hid (HHbwB.out.trans (hb8.mono (Nat.le_trans hbase HHbwB.out.size)))
    clear HC hb8
    refine wpAnyH_ready (rs := [4]) (by kernel_rfl) (by simp) ?_
    refine AllReadyH.cons (i := 4) rfl (fun K hK => ?_) AllReadyH.nil
    go_simp
    skip
    refine hK.out _ _ (by assumption) (fun hH8 => ?_)
    clear hK K
    try simp only [Act.put, List.setIfInBounds_toArray, List.set_cons_zero, List.set_cons_succ, List.getElem_toArray, List.getElem_cons_zero, List.getElem_cons_succ]
    refine wpAnyH_ready (rs := [8]) (by kernel_rfl) (by simp) ?_
    refine AllReadyH.cons (i := 8) rfl (fun K hK => ?_) AllReadyH.nil
    refine step_tileL rfl (.tmp 64) (.tmp 67) rfl base _ tiles rfl HHC.out.bo x y v7.heap.size rfl X0 X1 (by omega) hb8s ?_
    intro G c8 w8 ho8 hg8 hat8
    have J0 := World.grownBy.cell hg8 Y0 (fun e => Nat.lt_irrefl _ (Hbl.out _ e.symm))
    have J1 := World.grownBy.cell hg8 Y1 (fun e => Nat.lt_irrefl _ (Hbl.out _ e.symm))
    have J3 := World.grownBy.cell hg8 Z1 (fun e => HHC.out.bg _ e.symm rfl)
    have J4 := (hg8.frozen_far ⟨g, 1, none⟩ (block_lt Z1) (fun e => HHC.out.bg _ e.symm rfl)).trans (HHC.out.live 1)
    refine hK.out _ _ ⟨J0, J1⟩ (fun hH9 => ?_)
    clear hK K
    try simp only [Act.put, List.setIfInBounds_toArray, List.set_cons_zero, List.set_cons_succ, List.getElem_toArray, List.getElem_cons_zero, List.getElem_cons_succ]
    refine reg_take 9 rfl (by kernel_rfl) (by kernel_rfl) (by kernel_rfl) (fun _ _ _ h => h) (by rfl) (fun w _ => by (go_simp <;> with_reducible rfl)) (by assumption) ?_
    try simp only [Act.put, List.setIfInBounds_toArray, List.set_cons_zero, List.set_cons_succ, List.getElem_toArray, List.getElem_cons_zero, List.getElem_cons_succ]
    refine reg_take 10 rfl (by kernel_rfl) (by kernel_rfl) (by kernel_rfl) (fun _ _ _ h => h) (by rfl) (fun w _ => by (go_simp <;> with_reducible rfl)) (by assumption) ?_
    try simp only [Act.put, List.setIfInBounds_toArray, List.set_cons_zero, List.set_cons_succ, List.getElem_toArray, List.getElem_cons_zero, List.getElem_cons_succ]
    refine wpAnyH_ready (rs := [11]) (by kernel_rfl) (by simp) ?_
    refine AllReadyH.cons (i := 11) rfl (fun K hK => ?_) AllReadyH.nil
    go_simp
    skip
    refine hK.out _ _ ⟨far1 hgx J0, far1 hgx J1⟩ (fun hH10 => ?_)
    clear hK K
    try simp only [Act.put, List.setIfInBounds_toArray, List.set_cons_zero, List.set_cons_succ, List.getElem_toArray, List.getElem_cons_zero, List.getElem_cons_succ]
    refine wpAnyH_done (by kernel_rfl) ?_ _
    have HD : StV base (w8.setCell ⟨g, 1, none⟩ (.slice (some ⟨G, 0, none⟩) (tiles.length + 1) c8)) g (some ⟨_, 0, none⟩) 2 (some ⟨G, 0, none⟩) c8 ⟨[(x, true, false), (y, true, false)], tiles ++ [(x, y)], spin, waits, first, l0, l1⟩ := HHC.out.tiles_ (x, y) hg8 ho8 (fun gx hgx8 => by have e1 : G = gx := Option.some.inj hgx8; subst e1; rcases hat8 with e2 | e2; exact .inl e2; exact .inr (Nat.le_of_eq e2.symm))
    have HbD : Below base w (w8.setCell ⟨g, 1, none⟩ (.slice (some ⟨G, 0, none⟩) (tiles.length + 1) c8)) := (Below.grown Hb8.out hg8 hb8s (fun gx hgx8 => (HHC.out.bo.lt gx hgx8).1)).setCell (p := ⟨g, 1, none⟩) hlo _
    have J0b : (w8.setCell ⟨g, 1, none⟩ (.slice (some ⟨G, 0, none⟩) (tiles.length + 1) c8)).cell? ⟨w.heap.size, 0, none⟩ = some (.int .i64 x) := far1 hgx J0
    obtain ⟨v9, hv9⟩ : ∃ v9, v9 = (w8.setCell ⟨g, 1, none⟩ (.slice (some ⟨G, 0, none⟩) (tiles.length + 1) c8)) := ⟨_, rfl⟩
    rw [← hv9] at HD HbD J0b hH10 ⊢
    clear hv9 hH0 hH10 hH9 J0 J1 J3 J4 Y0 Y1 Z1 X0 X1 ho8 hg8 hat8 HHC Hb8 HHB HHbwB D0 D1 E1
    have S2 : v9.cell? ⟨g, 2, none⟩ = some (.int .i64 spin) := HD.c2
    have S4 : v9.cell? ⟨g, 4, none⟩ = some (.bool first) := HD.c4
    have Q2 := HD.live 2
    have Q4 := HD.live 4
    have HHD := Lib.hid HD
    have HHbD := Lib.hid HbD
    clear HD HbD
    go_wp2
    go_ret
    exact ⟨rfl, ⟨_, _, _, _, (HHD.out.spin_ x).first_ true⟩, (HHbD.out.setCell (p := ⟨g, 2, none⟩) hlo _).setCell (p := ⟨g, 4, none⟩) hlo _⟩
end Go.Proofs.Ytnnkdnleencofab

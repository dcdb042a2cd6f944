/- A play added to the state of the specification, behind another: N0, L0n, L0y -/
import Derived.Test.YtnnkdnleencofabLyB
namespace Go.Proofs.Ytnnkdnleencofab
open Go.RowKit
set_option linter.unusedVariables false

set_option maxRecDepth 100000 in
set_option maxHeartbeats 4000000 in
theorem c_add_N0 (base g a c d : Nat) (B : Option Addr) (arms : List (Int × Bool × Bool)) (tiles : List (Int × Int)) (spin waits : Int) (l1 : Bool) (x y r : Int) (w : World)
    (h : StV base w g (some ⟨a, 0, none⟩) c B d ⟨arms, tiles, spin, waits, true, true, l1⟩) (hg : goodB x y = true) (hin : placeI tiles (x, y) < 0) (h28 : tiles.length < 28) (h0 : tiles.length ≠ 0) (hk : 0 < arms.length) (h4 : arms.length ≤ 4)
    (ho : othS (x, y, (0 : Int)) arms[0].1 = r) (hr0 : 0 ≤ r) (hw : (waits == (0 : Int)) = false) (hs : 0 ≤ spin) :
    Calls Try.prog 57 #[.pointer (some ⟨g, 0, none⟩), .agg #[.int .i64 x, .int .i64 y, .int .i64 (0 : Int)]] w fun e w' => e = .returned (.bool true) ∧ StAt base w' g ⟨(arms.set 0 (r, (x == y), false)), tiles ++ [(x, y)], spin, waits, true, true, l1⟩ ∧ Below base w w' := by
  have hgl := h.lt
  have hbase : base ≤ w.heap.size := Nat.le_trans h.lo (Nat.le_of_lt hgl)
  have conT := fun W => c_tiGood x y W
  rw [hg] at conT
  have ConT := Lib.hid conT
  have conP := Lib.hid (fun W (hb : Below w.heap.size w W) => c_tiPlace B d tiles x y W (RdT.of_own (own_keep h.bo hb)) (by omega))
  obtain ⟨pl, hpl⟩ : ∃ pl, placeI tiles (x, y) = pl := ⟨_, rfl⟩
  rw [hpl] at conP hin
  have hpn : decide (0 ≤ pl) = false := decide_eq_false (by omega)
  have hrn : decide (r < 0) = false := decide_eq_false (by omega)
  have q28d : decide ((28 : Int) ≤ (tiles.length : Int)) = false := decide_eq_false (by omega)
  have conI := Lib.hid (fun W => (c_l1In (0 : Int) 0 ((arms.length : Int) - 1) W).mono (R' := fun e w' => e = .returned (.bool true) ∧ W = w') (fun e w' hh => by rw [decide_eq_true (by omega : (0 : Int) ≤ (0 : Int)), decide_eq_true (by omega : (0 : Int) ≤ (arms.length : Int) - 1)] at hh; exact hh))
  obtain ⟨ev, hev⟩ : ∃ ev, ev = arms[0] := ⟨_, rfl⟩
  rw [← hev] at ho
  have conO := fun W => c_haOtherS x y (0 : Int) ev.1 W
  rw [ho] at conO
  have ConO := Lib.hid conO
  have i0 : (0 : Int) ≤ (0 : Int) := by omega
  have i1 : (0 : Int) < (arms.length : Int) := by omega
  have q0 : ((tiles.length : Int) == 0) = false := beq_eq_false_iff_ne.2 (by omega)
  have iw1 : IntKind.i64.wrap ((arms.length : Int) - 1) = (arms.length : Int) - 1 := IntWalk.i64_in _ (by omega)
  have q28 : ¬ (28 : Int) ≤ (tiles.length : Int) := by omega
  have hcg := cellsA_get arms 0 hk
  rw [← hev] at hcg
  clear hev
  have hlo : base ≤ g := h.lo
  have hba : base ≤ a := (h.ao.lt a rfl).1
  have hane : a ≠ g := h.ag a rfl
  have hal := (h.ao.lt a rfl).2
  have hbp : Below w.heap.size w (w.alloc (.cells #[.int .i64 x, .int .i64 y, .int .i64 (0 : Int)] 32)) := (Below.refl _ _).alloc (Nat.le_refl _) _
  have p0 : (w.alloc (.cells #[.int .i64 x, .int .i64 y, .int .i64 (0 : Int)] 32)).cell? ⟨w.heap.size, 0, none⟩ = some (.int .i64 x) := by simp
  have p1 : (w.alloc (.cells #[.int .i64 x, .int .i64 y, .int .i64 (0 : Int)] 32)).cell? ⟨w.heap.size, 1, none⟩ = some (.int .i64 y) := by simp
  have p2 : (w.alloc (.cells #[.int .i64 x, .int .i64 y, .int .i64 (0 : Int)] 32)).cell? ⟨w.heap.size, 2, none⟩ = some (.int .i64 (0 : Int)) := by simp
  have g1 : (w.alloc (.cells #[.int .i64 x, .int .i64 y, .int .i64 (0 : Int)] 32)).cell? ⟨g, 1, none⟩ = some (.slice B tiles.length d) := keepc hbp h.c1
  have H := Lib.hid h
  have Hput := Lib.hid (cellsA_put hk)
  have Hcg := Lib.hid hcg
  clear h ho hg hin hpl conT conO hcg
  go_enter Try.func57, Try.ntmps57
  go_wp2_with fail
  refine wp_region_held_drew (S := fun w' => w'.cell? ⟨w.heap.size, 0, none⟩ = some (.int .i64 x) ∧ w'.cell? ⟨w.heap.size, 1, none⟩ = some (.int .i64 y) ∧ w'.cell? ⟨g, 1, none⟩ = some (.slice B tiles.length d)) (by kernel_rfl) ⟨p0, p1, g1⟩ (fun hH0 => ?_)
  refine reg_take 0 rfl (by kernel_rfl) (by kernel_rfl) (by kernel_rfl) (fun _ _ _ h => h) (by rfl) (fun w _ => by first | (go_simp; done) | (go_simp; with_reducible rfl)) (by assumption) ?_
  try simp only [Act.put, List.setIfInBounds_toArray, List.set_cons_zero, List.set_cons_succ, List.getElem_toArray, List.getElem_cons_zero]
  refine reg_take 1 rfl (by kernel_rfl) (by kernel_rfl) (by kernel_rfl) (fun _ _ _ h => h) (by rfl) (fun w hSw => by (try dsimp only at hSw); first | (go_simp; done) | (go_simp; with_reducible rfl)) (by assumption) ?_
  try simp only [Act.put, List.setIfInBounds_toArray, List.set_cons_zero, List.set_cons_succ, List.getElem_toArray, List.getElem_cons_zero, List.getElem_cons_succ]
  refine wpAnyH_ready (rs := [2]) (by kernel_rfl) (by simp) ?_
  refine AllReadyH.cons (i := 2) rfl (fun K hK => ?_) AllReadyH.nil
  go_simp
  go_at_call 99
  refine (ConT.out _).mono ?_
  rintro e w1 ⟨rfl, hb1⟩
  have hbw1 := bstep hbp.drew hb1
  have t0 := keepc hb1 p0
  have t1 := keepc hb1 p1
  have t2 := keepc hb1 g1
  refine hK.out _ _ ⟨t0, t1, t2⟩ (fun hH1 => ?_)
  clear hK K
  try simp only [Act.put, List.setIfInBounds_toArray, List.set_cons_zero, List.set_cons_succ, List.getElem_toArray, List.getElem_cons_zero, List.getElem_cons_succ]
  refine reg_take 3 rfl (by kernel_rfl) (by kernel_rfl) (by kernel_rfl) (fun _ _ _ h => h) (by rfl) (fun w _ => by first | (go_simp; done) | (go_simp; with_reducible rfl)) (by assumption) ?_
  try simp only [Act.put, List.setIfInBounds_toArray, List.set_cons_zero, List.set_cons_succ, List.getElem_toArray, List.getElem_cons_zero, List.getElem_cons_succ]
  refine reg_take 4 rfl (by kernel_rfl) (by kernel_rfl) (by kernel_rfl) (fun _ _ _ h => h) (by rfl) (fun w _ => by first | (go_simp; done) | (go_simp; with_reducible rfl)) (by assumption) ?_
  try simp only [Act.put, List.setIfInBounds_toArray, List.set_cons_zero, List.set_cons_succ, List.getElem_toArray, List.getElem_cons_zero, List.getElem_cons_succ]
  refine reg_take 5 rfl (by kernel_rfl) (by kernel_rfl) (by kernel_rfl) (fun _ _ _ h => h) (by rfl) (fun w _ => by first | (go_simp; done) | (go_simp; with_reducible rfl)) (by assumption) ?_
  try simp only [Act.put, List.setIfInBounds_toArray, List.set_cons_zero, List.set_cons_succ, List.getElem_toArray, List.getElem_cons_zero, List.getElem_cons_succ]
  refine reg_take 6 rfl (by kernel_rfl) (by kernel_rfl) (by kernel_rfl) (fun _ _ _ h => h) (by rfl) (fun w _ => by first | (go_simp; done) | (go_simp; with_reducible rfl)) (by assumption) ?_
  try simp only [Act.put, List.setIfInBounds_toArray, List.set_cons_zero, List.set_cons_succ, List.getElem_toArray, List.getElem_cons_zero, List.getElem_cons_succ]
  refine reg_take 7 rfl (by kernel_rfl) (by kernel_rfl) (by kernel_rfl) (fun _ _ _ h => h) (by rfl) (fun w _ => by first | (go_simp; done) | (go_simp; with_reducible rfl)) (by assumption) ?_
  try simp only [Act.put, List.setIfInBounds_toArray, List.set_cons_zero, List.set_cons_succ, List.getElem_toArray, List.getElem_cons_zero, List.getElem_cons_succ]
  refine reg_take 8 rfl (by kernel_rfl) (by kernel_rfl) (by kernel_rfl) (fun _ _ _ h => h) (by rfl) (fun w hSw => by (try dsimp only at hSw); first | (go_simp; done) | (go_simp; with_reducible rfl)) (by assumption) ?_
  try simp only [Act.put, List.setIfInBounds_toArray, List.set_cons_zero, List.set_cons_succ, List.getElem_toArray, List.getElem_cons_zero, List.getElem_cons_succ]
  refine reg_take 9 rfl (by kernel_rfl) (by kernel_rfl) (by kernel_rfl) (fun _ _ _ h => h) (by rfl) (fun w _ => by first | (go_simp; done) | (go_simp; with_reducible rfl)) (by assumption) ?_
  try simp only [Act.put, List.setIfInBounds_toArray, List.set_cons_zero, List.set_cons_succ, List.getElem_toArray, List.getElem_cons_zero, List.getElem_cons_succ]
  refine reg_take 10 rfl (by kernel_rfl) (by kernel_rfl) (by kernel_rfl) (fun _ _ _ h => h) (by rfl) (fun w hSw => by (try dsimp only at hSw); first | (go_simp; done) | (go_simp; with_reducible rfl)) (by assumption) ?_
  try simp only [Act.put, List.setIfInBounds_toArray, List.set_cons_zero, List.set_cons_succ, List.getElem_toArray, List.getElem_cons_zero, List.getElem_cons_succ]
  refine wpAnyH_ready (rs := [11]) (by kernel_rfl) (by simp) ?_
  refine AllReadyH.cons (i := 11) rfl (fun K hK => ?_) AllReadyH.nil
  go_simp
  go_at_call 100
  refine (conP.out _ hbw1).mono ?_
  rintro e w2 ⟨rfl, hb2⟩
  have u0 := keepc hb2 t0
  have u1 := keepc hb2 t1
  have u2 := keepc hb2 t2
  refine hK.out _ _ ⟨u0, u1, u2⟩ (fun hH2 => ?_)
  clear hK K
  try simp only [Act.put, List.setIfInBounds_toArray, List.set_cons_zero, List.set_cons_succ, List.getElem_toArray, List.getElem_cons_zero, List.getElem_cons_succ]
  refine reg_take 12 rfl (by kernel_rfl) (by kernel_rfl) (by kernel_rfl) (fun _ _ _ h => h) (by rfl) (fun w _ => by first | (go_simp; done) | (go_simp; with_reducible rfl)) (by assumption) ?_
  try simp only [Act.put, List.setIfInBounds_toArray, List.set_cons_zero, List.set_cons_succ, List.getElem_toArray, List.getElem_cons_zero, List.getElem_cons_succ]
  refine reg_take 13 rfl (by kernel_rfl) (by kernel_rfl) (by kernel_rfl) (fun _ _ _ h => h) (by rfl) (fun w _ => by first | (go_simp; done) | (go_simp; with_reducible rfl)) (by assumption) ?_
  try simp only [Act.put, List.setIfInBounds_toArray, List.set_cons_zero, List.set_cons_succ, List.getElem_toArray, List.getElem_cons_zero, List.getElem_cons_succ]
  refine reg_take 14 rfl (by kernel_rfl) (by kernel_rfl) (by kernel_rfl) (fun _ _ _ h => h) (by rfl) (fun w _ => by first | (go_simp; done) | (go_simp; with_reducible rfl)) (by assumption) ?_
  try simp only [Act.put, List.setIfInBounds_toArray, List.set_cons_zero, List.set_cons_succ, List.getElem_toArray, List.getElem_cons_zero, List.getElem_cons_succ]
  refine reg_take 15 rfl (by kernel_rfl) (by kernel_rfl) (by kernel_rfl) (fun _ _ _ h => h) (by rfl) (fun w _ => by first | (go_simp; done) | (go_simp; with_reducible rfl)) (by assumption) ?_
  try simp only [Act.put, List.setIfInBounds_toArray, List.set_cons_zero, List.set_cons_succ, List.getElem_toArray, List.getElem_cons_zero, List.getElem_cons_succ]
  refine reg_take 16 rfl (by kernel_rfl) (by kernel_rfl) (by kernel_rfl) (fun _ _ _ h => h) (by rfl) (fun w _ => by first | (go_simp; done) | (go_simp; with_reducible rfl)) (by assumption) ?_
  try simp only [Act.put, List.setIfInBounds_toArray, List.set_cons_zero, List.set_cons_succ, List.getElem_toArray, List.getElem_cons_zero, List.getElem_cons_succ]
  refine reg_take 17 rfl (by kernel_rfl) (by kernel_rfl) (by kernel_rfl) (fun _ _ _ h => h) (by rfl) (fun w _ => by first | (go_simp; done) | (go_simp; with_reducible rfl)) (by assumption) ?_
  try simp only [Act.put, List.setIfInBounds_toArray, List.set_cons_zero, List.set_cons_succ, List.getElem_toArray, List.getElem_cons_zero, List.getElem_cons_succ]
  refine reg_take 18 rfl (by kernel_rfl) (by kernel_rfl) (by kernel_rfl) (fun _ _ _ h => h) (by rfl) (fun w hSw => by (try dsimp only at hSw); first | (go_simp; done) | (go_simp; with_reducible rfl)) (by assumption) ?_
  try simp only [Act.put, List.setIfInBounds_toArray, List.set_cons_zero, List.set_cons_succ, List.getElem_toArray, List.getElem_cons_zero, List.getElem_cons_succ]
  refine reg_take 19 rfl (by kernel_rfl) (by kernel_rfl) (by kernel_rfl) (fun _ _ _ h => h) (by rfl) (fun w _ => by first | (go_simp; done) | (go_simp; with_reducible rfl)) (by assumption) ?_
  try simp only [Act.put, List.setIfInBounds_toArray, List.set_cons_zero, List.set_cons_succ, List.getElem_toArray, List.getElem_cons_zero, List.getElem_cons_succ]
  refine reg_take 20 rfl (by kernel_rfl) (by kernel_rfl) (by kernel_rfl) (fun _ _ _ h => h) (by rfl) (fun w _ => by first | (go_simp; done) | (go_simp; with_reducible rfl)) (by assumption) ?_
  try simp only [Act.put, List.setIfInBounds_toArray, List.set_cons_zero, List.set_cons_succ, List.getElem_toArray, List.getElem_cons_zero, List.getElem_cons_succ]
  refine reg_take 21 rfl (by kernel_rfl) (by kernel_rfl) (by kernel_rfl) (fun _ _ _ h => h) (by rfl) (fun w _ => by first | (go_simp; done) | (go_simp; with_reducible rfl)) (by assumption) ?_
  try simp only [Act.put, List.setIfInBounds_toArray, List.set_cons_zero, List.set_cons_succ, List.getElem_toArray, List.getElem_cons_zero, List.getElem_cons_succ]
  refine wpAnyH_done (by kernel_rfl) ?_ _
  have hbw2 := bstep hbw1 hb2
  have v2 := keepc hb2 (keepc hb1 p2)
  have H2 := H.out.keep hbw2
  clear hH0 hH1 hH2 t0 t1 t2 u2 p0 p1 p2 g1 hb1 hb2 hbw1
  have c0 : w2.cell? ⟨g, 0, none⟩ = some (.slice (some ⟨a, 0, none⟩) arms.length c) := H2.c0
  have c1 : w2.cell? ⟨g, 1, none⟩ = some (.slice B tiles.length d) := H2.c1
  have ce : w2.cell? ⟨a, 0, none⟩ = some (.int .i64 ev.1) := (H2.ao.cellAt (0 * 3) (by show 0 * 3 < arms.length * 3; omega)).trans Hcg.out.1
  have HH2 := Lib.hid H2
  have hz2 := block_lt u0
  clear H2
  go_wp2_with fail
  refine wp_region_held_drew (S := fun w' => w'.cell? ⟨w.heap.size, 0, none⟩ = some (.int .i64 x) ∧ w'.cell? ⟨w.heap.size, 1, none⟩ = some (.int .i64 y) ∧ w'.cell? ⟨w.heap.size, 2, none⟩ = some (.int .i64 (0 : Int)) ∧ w'.cell? ⟨g, 0, none⟩ = some (.slice (some ⟨a, 0, none⟩) arms.length c) ∧ w'.cell? ⟨a, 0, none⟩ = some (.int .i64 ev.1)) (by kernel_rfl) ⟨u0, u1, v2, c0, ce⟩ (fun hH0 => ?_)
  refine reg_take 0 rfl (by kernel_rfl) (by kernel_rfl) (by kernel_rfl) (fun _ _ _ h => h) (by rfl) (fun w _ => by first | (go_simp; done) | (go_simp; with_reducible rfl)) (by assumption) ?_
  try simp only [Act.put, List.setIfInBounds_toArray, List.set_cons_zero, List.set_cons_succ, List.getElem_toArray, List.getElem_cons_zero]
  refine reg_take 1 rfl (by kernel_rfl) (by kernel_rfl) (by kernel_rfl) (fun _ _ _ h => h) (by rfl) (fun w hSw => by (try dsimp only at hSw); first | (go_simp; done) | (go_simp; with_reducible rfl)) (by assumption) ?_
  try simp only [Act.put, List.setIfInBounds_toArray, List.set_cons_zero, List.set_cons_succ, List.getElem_toArray, List.getElem_cons_zero, List.getElem_cons_succ]
  refine reg_take 2 rfl (by kernel_rfl) (by kernel_rfl) (by kernel_rfl) (fun _ _ _ h => h) (by rfl) (fun w _ => by first | (go_simp; done) | (go_simp; with_reducible rfl)) (by assumption) ?_
  try simp only [Act.put, List.setIfInBounds_toArray, List.set_cons_zero, List.set_cons_succ, List.getElem_toArray, List.getElem_cons_zero, List.getElem_cons_succ]
  refine reg_take 3 rfl (by kernel_rfl) (by kernel_rfl) (by kernel_rfl) (fun _ _ _ h => h) (by rfl) (fun w _ => by first | (go_simp; done) | (go_simp; with_reducible rfl)) (by assumption) ?_
  try simp only [Act.put, List.setIfInBounds_toArray, List.set_cons_zero, List.set_cons_succ, List.getElem_toArray, List.getElem_cons_zero, List.getElem_cons_succ]
  refine reg_take 4 rfl (by kernel_rfl) (by kernel_rfl) (by kernel_rfl) (fun _ _ _ h => h) (by rfl) (fun w _ => by first | (go_simp; done) | (go_simp; with_reducible rfl)) (by assumption) ?_
  try simp only [Act.put, List.setIfInBounds_toArray, List.set_cons_zero, List.set_cons_succ, List.getElem_toArray, List.getElem_cons_zero, List.getElem_cons_succ]
  refine reg_take 5 rfl (by kernel_rfl) (by kernel_rfl) (by kernel_rfl) (fun _ _ _ h => h) (by rfl) (fun w hSw => by (try dsimp only at hSw); first | (go_simp; done) | (go_simp; with_reducible rfl)) (by assumption) ?_
  try simp only [Act.put, List.setIfInBounds_toArray, List.set_cons_zero, List.set_cons_succ, List.getElem_toArray, List.getElem_cons_zero, List.getElem_cons_succ]
  refine reg_take 6 rfl (by kernel_rfl) (by kernel_rfl) (by kernel_rfl) (fun _ _ _ h => h) (by rfl) (fun w _ => by first | (go_simp; done) | (go_simp; with_reducible rfl)) (by assumption) ?_
  try simp only [Act.put, List.setIfInBounds_toArray, List.set_cons_zero, List.set_cons_succ, List.getElem_toArray, List.getElem_cons_zero, List.getElem_cons_succ]
  refine reg_take 7 rfl (by kernel_rfl) (by kernel_rfl) (by kernel_rfl) (fun _ _ _ h => h) (by rfl) (fun w _ => by first | (go_simp; done) | (go_simp; with_reducible rfl)) (by assumption) ?_
  try simp only [Act.put, List.setIfInBounds_toArray, List.set_cons_zero, List.set_cons_succ, List.getElem_toArray, List.getElem_cons_zero, List.getElem_cons_succ]
  refine wpAnyH_ready (rs := [8]) (by kernel_rfl) (by simp) ?_
  refine AllReadyH.cons (i := 8) rfl (fun K hK => ?_) AllReadyH.nil
  go_simp
  go_at_call 50
  refine (conI.out _).mono ?_
  rintro e w9 ⟨rfl, rfl⟩
  refine hK.out _ _ (by assumption) (fun hH3 => ?_)
  clear hK K
  try simp only [Act.put, List.setIfInBounds_toArray, List.set_cons_zero, List.set_cons_succ, List.getElem_toArray, List.getElem_cons_zero, List.getElem_cons_succ]
  refine reg_take 9 rfl (by kernel_rfl) (by kernel_rfl) (by kernel_rfl) (fun _ _ _ h => h) (by rfl) (fun w _ => by first | (go_simp; done) | (go_simp; with_reducible rfl)) (by assumption) ?_
  try simp only [Act.put, List.setIfInBounds_toArray, List.set_cons_zero, List.set_cons_succ, List.getElem_toArray, List.getElem_cons_zero, List.getElem_cons_succ]
  refine reg_take 10 rfl (by kernel_rfl) (by kernel_rfl) (by kernel_rfl) (fun _ _ _ h => h) (by rfl) (fun w _ => by first | (go_simp; done) | (go_simp; with_reducible rfl)) (by assumption) ?_
  try simp only [Act.put, List.setIfInBounds_toArray, List.set_cons_zero, List.set_cons_succ, List.getElem_toArray, List.getElem_cons_zero, List.getElem_cons_succ]
  refine reg_take 11 rfl (by kernel_rfl) (by kernel_rfl) (by kernel_rfl) (fun _ _ _ h => h) (by rfl) (fun w _ => by first | (go_simp; done) | (go_simp; with_reducible rfl)) (by assumption) ?_
  try simp only [Act.put, List.setIfInBounds_toArray, List.set_cons_zero, List.set_cons_succ, List.getElem_toArray, List.getElem_cons_zero, List.getElem_cons_succ]
  refine reg_take 12 rfl (by kernel_rfl) (by kernel_rfl) (by kernel_rfl) (fun _ _ _ h => h) (by rfl) (fun w hSw => by (try dsimp only at hSw); first | (go_simp; done) | (go_simp; with_reducible rfl)) (by assumption) ?_
  try simp only [Act.put, List.setIfInBounds_toArray, List.set_cons_zero, List.set_cons_succ, List.getElem_toArray, List.getElem_cons_zero, List.getElem_cons_succ]
  refine reg_take 13 rfl (by kernel_rfl) (by kernel_rfl) (by kernel_rfl) (fun _ _ _ h => h) (by rfl) (fun w _ => by first | (go_simp; done) | (go_simp; with_reducible rfl)) (by assumption) ?_
  try simp only [Act.put, List.setIfInBounds_toArray, List.set_cons_zero, List.set_cons_succ, List.getElem_toArray, List.getElem_cons_zero, List.getElem_cons_succ]
  refine reg_take 14 rfl (by kernel_rfl) (by kernel_rfl) (by kernel_rfl) (fun _ _ _ h => h) (by rfl) (fun w _ => by first | (go_simp; done) | (go_simp; with_reducible rfl)) (by assumption) ?_
  try simp only [Act.put, List.setIfInBounds_toArray, List.set_cons_zero, List.set_cons_succ, List.getElem_toArray, List.getElem_cons_zero, List.getElem_cons_succ]
  refine reg_take 15 rfl (by kernel_rfl) (by kernel_rfl) (by kernel_rfl) (fun _ _ _ h => h) (by rfl) (fun w _ => by first | (go_simp; done) | (go_simp; with_reducible rfl)) (by assumption) ?_
  try simp only [Act.put, List.setIfInBounds_toArray, List.set_cons_zero, List.set_cons_succ, List.getElem_toArray, List.getElem_cons_zero, List.getElem_cons_succ]
  refine reg_take 16 rfl (by kernel_rfl) (by kernel_rfl) (by kernel_rfl) (fun _ _ _ h => h) (by rfl) (fun w hSw => by (try dsimp only at hSw); first | (go_simp; done) | (go_simp; with_reducible rfl)) (by assumption) ?_
  try simp only [Act.put, List.setIfInBounds_toArray, List.set_cons_zero, List.set_cons_succ, List.getElem_toArray, List.getElem_cons_zero, List.getElem_cons_succ]
  refine reg_take 17 rfl (by kernel_rfl) (by kernel_rfl) (by kernel_rfl) (fun _ _ _ h => h) (by rfl) (fun w _ => by first | (go_simp; done) | (go_simp; with_reducible rfl)) (by assumption) ?_
  try simp only [Act.put, List.setIfInBounds_toArray, List.set_cons_zero, List.set_cons_succ, List.getElem_toArray, List.getElem_cons_zero, List.getElem_cons_succ]
  refine reg_take 18 rfl (by kernel_rfl) (by kernel_rfl) (by kernel_rfl) (fun _ _ _ h => h) (by rfl) (fun w hSw => by (try dsimp only at hSw); first | (go_simp; done) | (go_simp; with_reducible rfl)) (by assumption) ?_
  try simp only [Act.put, List.setIfInBounds_toArray, List.set_cons_zero, List.set_cons_succ, List.getElem_toArray, List.getElem_cons_zero, List.getElem_cons_succ]
  refine reg_take 19 rfl (by kernel_rfl) (by kernel_rfl) (by kernel_rfl) (fun _ _ _ h => h) (by rfl) (fun w _ => by first | (go_simp; done) | (go_simp; with_reducible rfl)) (by assumption) ?_
  try simp only [Act.put, List.setIfInBounds_toArray, List.set_cons_zero, List.set_cons_succ, List.getElem_toArray, List.getElem_cons_zero, List.getElem_cons_succ]
  refine reg_take 20 rfl (by kernel_rfl) (by kernel_rfl) (by kernel_rfl) (fun _ _ _ h => h) (by rfl) (fun w _ => by first | (go_simp; done) | (go_simp; with_reducible rfl)) (by assumption) ?_
  try simp only [Act.put, List.setIfInBounds_toArray, List.set_cons_zero, List.set_cons_succ, List.getElem_toArray, List.getElem_cons_zero, List.getElem_cons_succ]
  refine reg_take 21 rfl (by kernel_rfl) (by kernel_rfl) (by kernel_rfl) (fun _ _ _ h => h) (by rfl) (fun w hSw => by (try dsimp only at hSw); first | (go_simp; done) | (go_simp; with_reducible rfl)) (by assumption) ?_
  try simp only [Act.put, List.setIfInBounds_toArray, List.set_cons_zero, List.set_cons_succ, List.getElem_toArray, List.getElem_cons_zero, List.getElem_cons_succ]
  refine wpAnyH_ready (rs := [22]) (by kernel_rfl) (by simp) ?_
  refine AllReadyH.cons (i := 22) rfl (fun K hK => ?_) AllReadyH.nil
  go_simp
  go_at_call 101
  refine (ConO.out _).mono ?_
  rintro e w3 ⟨rfl, hb3⟩
  replace hb3 := bstep (Below.refl w2.heap.size w2).drew hb3
  have t0 := keepc hb3 u0
  have t1 := keepc hb3 u1
  have t2 := keepc hb3 v2
  have t3 := keepc hb3 c0
  have t4 := keepc hb3 ce
  refine hK.out _ _ ⟨t0, t1, t2, t3, t4⟩ (fun hH4 => ?_)
  clear hK K
  try simp only [Act.put, List.setIfInBounds_toArray, List.set_cons_zero, List.set_cons_succ, List.getElem_toArray, List.getElem_cons_zero, List.getElem_cons_succ]
  refine reg_take 23 rfl (by kernel_rfl) (by kernel_rfl) (by kernel_rfl) (fun _ _ _ h => h) (by rfl) (fun w _ => by first | (go_simp; done) | (go_simp; with_reducible rfl)) (by assumption) ?_
  try simp only [Act.put, List.setIfInBounds_toArray, List.set_cons_zero, List.set_cons_succ, List.getElem_toArray, List.getElem_cons_zero, List.getElem_cons_succ]
  refine reg_take 24 rfl (by kernel_rfl) (by kernel_rfl) (by kernel_rfl) (fun _ _ _ h => h) (by rfl) (fun w _ => by first | (go_simp; done) | (go_simp; with_reducible rfl)) (by assumption) ?_
  try simp only [Act.put, List.setIfInBounds_toArray, List.set_cons_zero, List.set_cons_succ, List.getElem_toArray, List.getElem_cons_zero, List.getElem_cons_succ]
  refine wpAnyH_done (by kernel_rfl) ?_ _
  have H3 := HH2.out.keep hb3
  have hbw3 := bstep hbw2 hb3
  have s2 : w3.cell? ⟨g, 2, none⟩ = some (.int .i64 spin) := H3.c2
  have s3 : w3.cell? ⟨g, 3, none⟩ = some (.int .i64 waits) := H3.c3
  have s4 : w3.cell? ⟨g, 4, none⟩ = some (.bool true) := H3.c4
  have s5 : w3.cell? ⟨g, 5, none⟩ = some (.bool true) := H3.c5
  have s6 : w3.cell? ⟨g, 6, none⟩ = some (.bool l1) := H3.c6
  have l3 := H3.live 3
  have l5 := H3.live 5
  have l6 := H3.live 6
  have f0 : w3.frozen? ⟨a, 0, none⟩ = false := H3.ao.frozenAt (0 * 3)
  have f1 : w3.frozen? ⟨a, 1, none⟩ = false := H3.ao.frozenAt (0 * 3 + 1)
  have f2 : w3.frozen? ⟨a, 2, none⟩ = false := H3.ao.frozenAt (0 * 3 + 2)
  have y1 : w3.cell? ⟨a, 1, none⟩ = some (.bool ev.2.1) := (H3.ao.cellAt (0 * 3 + 1) (by show 0 * 3 + 1 < arms.length * 3; omega)).trans Hcg.out.2.1
  have y2 : w3.cell? ⟨a, 2, none⟩ = some (.bool ev.2.2) := (H3.ao.cellAt (0 * 3 + 2) (by show 0 * 3 + 2 < arms.length * 3; omega)).trans Hcg.out.2.2
  have hgx : g ≠ w.heap.size := by omega
  have hax : a ≠ w.heap.size := by omega
  have Hbl := Lib.hid (fun gx (hg : (Value.slice B tiles.length d).ownBlock = some gx) => (H.out.bo.lt gx hg).2)
  have HH3 := Lib.hid H3
  have Hbw3 := Lib.hid hbw3
  clear H3 hbw3 hH0 hH3 hH4 u0 u1 v2 c0 c1 ce hbw2 hb3
  go_wp2_with fail
  go_quiet (fail)
  have Hbw3b := Lib.hid (Hbw3.out.mono hbase)
  clear Hbw3
  have Hbw3 := Lib.hid Hbw3b.out
  clear Hbw3b
  have Nt0 : (w3.drewN nq).cell? ⟨w.heap.size, 0, none⟩ = some (.int .i64 x) := t0
  have Nt1 : (w3.drewN nq).cell? ⟨w.heap.size, 1, none⟩ = some (.int .i64 y) := t1
  have Nt2 : (w3.drewN nq).cell? ⟨w.heap.size, 2, none⟩ = some (.int .i64 (0 : Int)) := t2
  have Nt3 : (w3.drewN nq).cell? ⟨g, 0, none⟩ = some (.slice (some ⟨a, 0, none⟩) arms.length c) := t3
  have Nt4 : (w3.drewN nq).cell? ⟨a, 0, none⟩ = some (.int .i64 ev.1) := t4
  have Ny1 : (w3.drewN nq).cell? ⟨a, 1, none⟩ = some (.bool ev.2.1) := y1
  have Ny2 : (w3.drewN nq).cell? ⟨a, 2, none⟩ = some (.bool ev.2.2) := y2
  have Ns2 : (w3.drewN nq).cell? ⟨g, 2, none⟩ = some (.int .i64 spin) := s2
  have Ns3 : (w3.drewN nq).cell? ⟨g, 3, none⟩ = some (.int .i64 waits) := s3
  have Ns4 : (w3.drewN nq).cell? ⟨g, 4, none⟩ = some (.bool true) := s4
  have Ns5 : (w3.drewN nq).cell? ⟨g, 5, none⟩ = some (.bool true) := s5
  have Ns6 : (w3.drewN nq).cell? ⟨g, 6, none⟩ = some (.bool l1) := s6
  have Nf0 : (w3.drewN nq).frozen? ⟨a, 0, none⟩ = false := f0
  have Nf1 : (w3.drewN nq).frozen? ⟨a, 1, none⟩ = false := f1
  have Nf2 : (w3.drewN nq).frozen? ⟨a, 2, none⟩ = false := f2
  have Nl3 : (w3.drewN nq).frozen? ⟨g, 3, none⟩ = false := l3
  have Nl5 : (w3.drewN nq).frozen? ⟨g, 5, none⟩ = false := l5
  have Nl6 : (w3.drewN nq).frozen? ⟨g, 6, none⟩ = false := l6
  have NHH : StV base (w3.drewN nq) g (some ⟨a, 0, none⟩) c B d ⟨arms, tiles, spin, waits, true, true, l1⟩ := HH3.out.keep ⟨rfl, rfl, rfl, Nat.le_refl _, fun _ _ => rfl⟩
  have NHb : Below base w (w3.drewN nq) := Hbw3.out.trans ⟨rfl, rfl, rfl, Nat.le_refl _, fun _ _ => rfl⟩
  clear t0 t1 t2 t3 t4 y1 y2 s2 s3 s4 s5 s6 f0 f1 f2 l3 l5 l6 HH3 Hbw3
  obtain ⟨wq0, hwq0⟩ : ∃ wq0, wq0 = (w3.drewN nq) := ⟨_, rfl⟩
  rw [← hwq0] at Nt0 Nt1 Nt2 Nt3 Nt4 Ny1 Ny2 Ns2 Ns3 Ns4 Ns5 Ns6 Nf0 Nf1 Nf2 Nl3 Nl5 Nl6 NHH NHb ⊢
  clear hwq0
  have t0 := Nt0
  have t1 := Nt1
  have t2 := Nt2
  have t3 := Nt3
  have t4 := Nt4
  have y1 := Ny1
  have y2 := Ny2
  have s2 := Ns2
  have s3 := Ns3
  have s4 := Ns4
  have s5 := Ns5
  have s6 := Ns6
  have f0 := Nf0
  have f1 := Nf1
  have f2 := Nf2
  have l3 := Nl3
  have l5 := Nl5
  have l6 := Nl6
  have HH3 := Lib.hid NHH
  have Hbw3 := Lib.hid NHb
  clear NHH NHb Nt0 Nt1 Nt2 Nt3 Nt4 Ny1 Ny2 Ns2 Ns3 Ns4 Ns5 Ns6 Nf0 Nf1 Nf2 Nl3 Nl5 Nl6
  clear nq
  go_wp2_with fail
  go_quiet (fail)
  go_wp2_with fail
  refine wp_region_held_drew (S := fun w' => w'.cell? ⟨w.heap.size, 0, none⟩ = some (.int .i64 x) ∧ w'.cell? ⟨w.heap.size, 1, none⟩ = some (.int .i64 y) ∧ w'.cell? ⟨w.heap.size, 2, none⟩ = some (.int .i64 (0 : Int)) ∧ w'.cell? ⟨g, 0, none⟩ = some (.slice (some ⟨a, 0, none⟩) arms.length c)) (by kernel_rfl) ⟨t0, t1, t2, t3⟩ (fun hH0 => ?_)
  refine reg_take 0 rfl (by kernel_rfl) (by kernel_rfl) (by kernel_rfl) (fun _ _ _ h => h) (by rfl) (fun w _ => by first | (go_simp; done) | (go_simp; with_reducible rfl)) (by assumption) ?_
  try simp only [Act.put, List.setIfInBounds_toArray, List.set_cons_zero, List.set_cons_succ, List.getElem_toArray, List.getElem_cons_zero]
  refine reg_take 1 rfl (by kernel_rfl) (by kernel_rfl) (by kernel_rfl) (fun _ _ _ h => h) (by rfl) (fun w _ => by first | (go_simp; done) | (go_simp; with_reducible rfl)) (by assumption) ?_
  try simp only [Act.put, List.setIfInBounds_toArray, List.set_cons_zero, List.set_cons_succ, List.getElem_toArray, List.getElem_cons_zero, List.getElem_cons_succ]
  refine reg_take 2 rfl (by kernel_rfl) (by kernel_rfl) (by kernel_rfl) (fun _ _ _ h => h) (by rfl) (fun w _ => by first | (go_simp; done) | (go_simp; with_reducible rfl)) (by assumption) ?_
  try simp only [Act.put, List.setIfInBounds_toArray, List.set_cons_zero, List.set_cons_succ, List.getElem_toArray, List.getElem_cons_zero, List.getElem_cons_succ]
  refine reg_take 3 rfl (by kernel_rfl) (by kernel_rfl) (by kernel_rfl) (fun _ _ _ h => h) (by rfl) (fun w hSw => by (try dsimp only at hSw); first | (go_simp; done) | (go_simp; with_reducible rfl)) (by assumption) ?_
  try simp only [Act.put, List.setIfInBounds_toArray, List.set_cons_zero, List.set_cons_succ, List.getElem_toArray, List.getElem_cons_zero, List.getElem_cons_succ]
  refine reg_take 4 rfl (by kernel_rfl) (by kernel_rfl) (by kernel_rfl) (fun _ _ _ h => h) (by rfl) (fun w _ => by first | (go_simp; done) | (go_simp; with_reducible rfl)) (by assumption) ?_
  try simp only [Act.put, List.setIfInBounds_toArray, List.set_cons_zero, List.set_cons_succ, List.getElem_toArray, List.getElem_cons_zero, List.getElem_cons_succ]
  refine reg_take 5 rfl (by kernel_rfl) (by kernel_rfl) (by kernel_rfl) (fun _ _ _ h => h) (by rfl) (fun w hSw => by (try dsimp only at hSw); first | (go_simp; done) | (go_simp; with_reducible rfl)) (by assumption) ?_
  try simp only [Act.put, List.setIfInBounds_toArray, List.set_cons_zero, List.set_cons_succ, List.getElem_toArray, List.getElem_cons_zero, List.getElem_cons_succ]
  refine reg_take 6 rfl (by kernel_rfl) (by kernel_rfl) (by kernel_rfl) (fun _ _ _ h => h) (by rfl) (fun w _ => by first | (go_simp; done) | (go_simp; with_reducible rfl)) (by assumption) ?_
  try simp only [Act.put, List.setIfInBounds_toArray, List.set_cons_zero, List.set_cons_succ, List.getElem_toArray, List.getElem_cons_zero, List.getElem_cons_succ]
  refine reg_take 7 rfl (by kernel_rfl) (by kernel_rfl) (by kernel_rfl) (fun _ _ _ h => h) (by rfl) (fun w hSw => by (try dsimp only at hSw); first | (go_simp; done) | (go_simp; with_reducible rfl)) (by assumption) ?_
  try simp only [Act.put, List.setIfInBounds_toArray, List.set_cons_zero, List.set_cons_succ, List.getElem_toArray, List.getElem_cons_zero, List.getElem_cons_succ]
  refine reg_take 8 rfl (by kernel_rfl) (by kernel_rfl) (by kernel_rfl) (fun _ _ _ h => h) (by rfl) (fun w _ => by first | (go_simp; done) | (go_simp; with_reducible rfl)) (by assumption) ?_
  try simp only [Act.put, List.setIfInBounds_toArray, List.set_cons_zero, List.set_cons_succ, List.getElem_toArray, List.getElem_cons_zero, List.getElem_cons_succ]
  refine reg_take 9 rfl (by kernel_rfl) (by kernel_rfl) (by kernel_rfl) (fun _ _ _ h => h) (by rfl) (fun w _ => by first | (go_simp; done) | (go_simp; with_reducible rfl)) (by assumption) ?_
  try simp only [Act.put, List.setIfInBounds_toArray, List.set_cons_zero, List.set_cons_succ, List.getElem_toArray, List.getElem_cons_zero, List.getElem_cons_succ]
  refine reg_take 10 rfl (by kernel_rfl) (by kernel_rfl) (by kernel_rfl) (fun _ _ _ h => h) (by rfl) (fun w _ => by first | (go_simp; done) | (go_simp; with_reducible rfl)) (by assumption) ?_
  try simp only [Act.put, List.setIfInBounds_toArray, List.set_cons_zero, List.set_cons_succ, List.getElem_toArray, List.getElem_cons_zero, List.getElem_cons_succ]
  refine reg_take 11 rfl (by kernel_rfl) (by kernel_rfl) (by kernel_rfl) (fun _ _ _ h => h) (by rfl) (fun w hSw => by (try dsimp only at hSw); first | (go_simp; done) | (go_simp; with_reducible rfl)) (by assumption) ?_
  try simp only [Act.put, List.setIfInBounds_toArray, List.set_cons_zero, List.set_cons_succ, List.getElem_toArray, List.getElem_cons_zero, List.getElem_cons_succ]
  refine reg_take 12 rfl (by kernel_rfl) (by kernel_rfl) (by kernel_rfl) (fun _ _ _ h => h) (by rfl) (fun w _ => by first | (go_simp; done) | (go_simp; with_reducible rfl)) (by assumption) ?_
  try simp only [Act.put, List.setIfInBounds_toArray, List.set_cons_zero, List.set_cons_succ, List.getElem_toArray, List.getElem_cons_zero, List.getElem_cons_succ]
  refine reg_take 13 rfl (by kernel_rfl) (by kernel_rfl) (by kernel_rfl) (fun _ _ _ h => h) (by rfl) (fun w hSw => by (try dsimp only at hSw); first | (go_simp; done) | (go_simp; with_reducible rfl)) (by assumption) ?_
  try simp only [Act.put, List.setIfInBounds_toArray, List.set_cons_zero, List.set_cons_succ, List.getElem_toArray, List.getElem_cons_zero, List.getElem_cons_succ]
  refine reg_take 14 rfl (by kernel_rfl) (by kernel_rfl) (by kernel_rfl) (fun _ _ _ h => h) (by rfl) (fun w _ => by first | (go_simp; done) | (go_simp; with_reducible rfl)) (by assumption) ?_
  try simp only [Act.put, List.setIfInBounds_toArray, List.set_cons_zero, List.set_cons_succ, List.getElem_toArray, List.getElem_cons_zero, List.getElem_cons_succ]
  refine reg_take 15 rfl (by kernel_rfl) (by kernel_rfl) (by kernel_rfl) (fun _ _ _ h => h) (by rfl) (fun w _ => by first | (go_simp; done) | (go_simp; with_reducible rfl)) (by assumption) ?_
  try simp only [Act.put, List.setIfInBounds_toArray, List.set_cons_zero, List.set_cons_succ, List.getElem_toArray, List.getElem_cons_zero, List.getElem_cons_succ]
  refine reg_take 18 rfl (by kernel_rfl) (by kernel_rfl) (by kernel_rfl) (fun _ _ _ h => h) (by rfl) (fun w _ => by first | (go_simp; done) | (go_simp; with_reducible rfl)) (by assumption) ?_
  try simp only [Act.put, List.setIfInBounds_toArray, List.set_cons_zero, List.set_cons_succ, List.getElem_toArray, List.getElem_cons_zero, List.getElem_cons_succ]
  refine wpAnyH_ready (rs := [16]) (by kernel_rfl) (by simp) ?_
  refine AllReadyH.cons (i := 16) rfl (fun K hK => ?_) AllReadyH.nil
  go_simp
  skip
  refine hK.out _ _ (by assumption) (fun hH5 => ?_)
  clear hK K
  try simp only [Act.put, List.setIfInBounds_toArray, List.set_cons_zero, List.set_cons_succ, List.getElem_toArray, List.getElem_cons_zero, List.getElem_cons_succ]
  refine wpAnyH_ready (rs := [17]) (by kernel_rfl) (by simp) ?_
  refine AllReadyH.cons (i := 17) rfl (fun K hK => ?_) AllReadyH.nil
  go_simp
  go_at_call 101
  refine (ConO.out _).mono ?_
  rintro e w5 ⟨rfl, hb5⟩
  replace hb5 := bstep (a := wq0) (by exact ⟨rfl, rfl, rfl, Nat.le_refl _, fun _ _ => rfl⟩) hb5
  have k0 := keepc hb5 t0
  have k1 := keepc hb5 t1
  have k2 := keepc hb5 t2
  have k3 := keepc hb5 t3
  have k4 := keepc hb5 t4
  have m0 := (hb5.frozen (p := ⟨a, 0, none⟩) (block_lt t4)).trans f0
  have m1 := (hb5.frozen (p := ⟨a, 1, none⟩) (block_lt y1)).trans f1
  have m2 := (hb5.frozen (p := ⟨a, 2, none⟩) (block_lt y2)).trans f2
  have z1 := keepc hb5 y1
  have z2 := keepc hb5 y2
  have H5 := HH3.out.keep hb5
  have hbw5 := Hbw3.out.trans (hb5.mono (Nat.le_trans hbase Hbw3.out.size))
  refine hK.out _ _ ⟨k0, k1, k2, k3⟩ (fun hH6 => ?_)
  clear hK K
  try simp only [Act.put, List.setIfInBounds_toArray, List.set_cons_zero, List.set_cons_succ, List.getElem_toArray, List.getElem_cons_zero, List.getElem_cons_succ]
  refine reg_take 19 rfl (by kernel_rfl) (by kernel_rfl) (by kernel_rfl) (fun _ _ _ h => h) (by rfl) (fun w _ => by first | (go_simp; done) | (go_simp; with_reducible rfl)) (by assumption) ?_
  try simp only [Act.put, List.setIfInBounds_toArray, List.set_cons_zero, List.set_cons_succ, List.getElem_toArray, List.getElem_cons_zero, List.getElem_cons_succ]
  refine reg_take 20 rfl (by kernel_rfl) (by kernel_rfl) (by kernel_rfl) (fun _ _ _ h => h) (by rfl) (fun w _ => by first | (go_simp; done) | (go_simp; with_reducible rfl)) (by assumption) ?_
  try simp only [Act.put, List.setIfInBounds_toArray, List.set_cons_zero, List.set_cons_succ, List.getElem_toArray, List.getElem_cons_zero, List.getElem_cons_succ]
  refine wpAnyH_ready (rs := [21]) (by kernel_rfl) (by simp) ?_
  refine AllReadyH.cons (i := 21) rfl (fun K hK => ?_) AllReadyH.nil
  go_simp
  skip
  refine hK.out _ _ ⟨far3b hax _ _ _ _ _ _ k0, far3b hax _ _ _ _ _ _ k1, far3b hax _ _ _ _ _ _ k2, far3b hane _ _ _ _ _ _ k3⟩ (fun hH7 => ?_)
  clear hK K
  try simp only [Act.put, List.setIfInBounds_toArray, List.set_cons_zero, List.set_cons_succ, List.getElem_toArray, List.getElem_cons_zero, List.getElem_cons_succ]
  refine wpAnyH_done (by kernel_rfl) ?_ _
  have HA : StV base (((w5.setCell ⟨a, 0, none⟩ (.int .i64 r)).setCell ⟨a, 1, none⟩ (.bool (x == y))).setCell ⟨a, 2, none⟩ (.bool false)) g (some ⟨a, 0, none⟩) c B d ⟨arms.set 0 (r, (x == y), false), tiles, spin, waits, true, true, l1⟩ := H5.arm_ hk (r, (x == y), false) (Hput.out (r, (x == y), false))
  have d0 : (((w5.setCell ⟨a, 0, none⟩ (.int .i64 r)).setCell ⟨a, 1, none⟩ (.bool (x == y))).setCell ⟨a, 2, none⟩ (.bool false)).cell? ⟨w.heap.size, 0, none⟩ = some (.int .i64 x) := far3b hax _ _ _ _ _ _ k0
  have d1 : (((w5.setCell ⟨a, 0, none⟩ (.int .i64 r)).setCell ⟨a, 1, none⟩ (.bool (x == y))).setCell ⟨a, 2, none⟩ (.bool false)).cell? ⟨w.heap.size, 1, none⟩ = some (.int .i64 y) := far3b hax _ _ _ _ _ _ k1
  have d2 : (((w5.setCell ⟨a, 0, none⟩ (.int .i64 r)).setCell ⟨a, 1, none⟩ (.bool (x == y))).setCell ⟨a, 2, none⟩ (.bool false)).cell? ⟨w.heap.size, 2, none⟩ = some (.int .i64 (0 : Int)) := far3b hax _ _ _ _ _ _ k2
  have hbwA : Below base w (((w5.setCell ⟨a, 0, none⟩ (.int .i64 r)).setCell ⟨a, 1, none⟩ (.bool (x == y))).setCell ⟨a, 2, none⟩ (.bool false)) := ((hbw5.setCell (p := ⟨a, 0, none⟩) hba _).setCell (p := ⟨a, 1, none⟩) hba _).setCell (p := ⟨a, 2, none⟩) hba _
  obtain ⟨v6, hv6⟩ : ∃ v6, v6 = (((w5.setCell ⟨a, 0, none⟩ (.int .i64 r)).setCell ⟨a, 1, none⟩ (.bool (x == y))).setCell ⟨a, 2, none⟩ (.bool false)) := ⟨_, rfl⟩
  rw [← hv6] at HA d0 d1 d2 hbwA ⊢
  clear hv6 k0 k1 k2 k3 k4 m0 m1 m2 z1 z2 H5 hbw5 hb5 HH3 Hbw3 t0 t1 t2 t3 t4 y1 y2 f0 f1 f2 s2 s3 s4 s5 s6 l3 l5 l6 hH0 hH7 hH6 hH5
  have e1 : v6.cell? ⟨g, 1, none⟩ = some (.slice B tiles.length d) := HA.c1
  have HHA := Lib.hid HA
  have HbwA := Lib.hid hbwA
  clear HA hbwA
  go_wp2_with fail
  refine wp_region_held_drew (S := fun w' => w'.cell? ⟨w.heap.size, 0, none⟩ = some (.int .i64 x) ∧ w'.cell? ⟨w.heap.size, 1, none⟩ = some (.int .i64 y)) (by kernel_rfl) ⟨d0, d1⟩ (fun hH0 => ?_)
  obtain ⟨v7, hv7⟩ : ∃ v7, v7 = v6.drew := ⟨_, rfl⟩
  have HB : StV base v7 g (some ⟨a, 0, none⟩) c B d _ := hv7 ▸ HHA.out.drew
  have HbwB : Below base w v7 := hv7 ▸ HbwA.out.drew
  have D0 : v7.cell? ⟨w.heap.size, 0, none⟩ = some (.int .i64 x) := hv7 ▸ d0
  have D1 : v7.cell? ⟨w.heap.size, 1, none⟩ = some (.int .i64 y) := hv7 ▸ d1
  have D2 : v7.cell? ⟨w.heap.size, 2, none⟩ = some (.int .i64 (0 : Int)) := hv7 ▸ d2
  have E1 : v7.cell? ⟨g, 1, none⟩ = some (.slice B tiles.length d) := hv7 ▸ e1
  rw [← hv7] at hH0 ⊢
  clear hv7 d0 d1 d2 e1 HHA HbwA
  have HHB := Lib.hid HB
  have HHbwB := Lib.hid HbwB
  clear HB HbwB
  refine reg_take 0 rfl (by kernel_rfl) (by kernel_rfl) (by kernel_rfl) (fun _ _ _ h => h) (by rfl) (fun w _ => by first | (go_simp; done) | (go_simp; with_reducible rfl)) (by assumption) ?_
  try simp only [Act.put, List.setIfInBounds_toArray, List.set_cons_zero, List.set_cons_succ, List.getElem_toArray, List.getElem_cons_zero]
  refine reg_take 1 rfl (by kernel_rfl) (by kernel_rfl) (by kernel_rfl) (fun _ _ _ h => h) (by rfl) (fun w _ => by first | (go_simp; done) | (go_simp; with_reducible rfl)) (by assumption) ?_
  try simp only [Act.put, List.setIfInBounds_toArray, List.set_cons_zero, List.set_cons_succ, List.getElem_toArray, List.getElem_cons_zero, List.getElem_cons_succ]
  refine reg_take 2 rfl (by kernel_rfl) (by kernel_rfl) (by kernel_rfl) (fun _ _ _ h => h) (by rfl) (fun w _ => by first | (go_simp; done) | (go_simp; with_reducible rfl)) (by assumption) ?_
  try simp only [Act.put, List.setIfInBounds_toArray, List.set_cons_zero, List.set_cons_succ, List.getElem_toArray, List.getElem_cons_zero, List.getElem_cons_succ]
  refine reg_take 3 rfl (by kernel_rfl) (by kernel_rfl) (by kernel_rfl) (fun _ _ _ h => h) (by rfl) (fun w _ => by first | (go_simp; done) | (go_simp; with_reducible rfl)) (by assumption) ?_
  try simp only [Act.put, List.setIfInBounds_toArray, List.set_cons_zero, List.set_cons_succ, List.getElem_toArray, List.getElem_cons_zero, List.getElem_cons_succ]
  refine reg_take 5 rfl (by kernel_rfl) (by kernel_rfl) (by kernel_rfl) (fun _ _ _ h => h) (by rfl) (fun w _ => by first | (go_simp; done) | (go_simp; with_reducible rfl)) (by assumption) ?_
  try simp only [Act.put, List.setIfInBounds_toArray, List.set_cons_zero, List.set_cons_succ, List.getElem_toArray, List.getElem_cons_zero, List.getElem_cons_succ]
  refine reg_take 6 rfl (by kernel_rfl) (by kernel_rfl) (by kernel_rfl) (fun _ _ _ h => h) (by rfl) (fun w hSw => by (try dsimp only at hSw); first | (go_simp; done) | (go_simp; with_reducible rfl)) (by assumption) ?_
  try simp only [Act.put, List.setIfInBounds_toArray, List.set_cons_zero, List.set_cons_succ, List.getElem_toArray, List.getElem_cons_zero, List.getElem_cons_succ]
  refine wpAnyH_ready (rs := [4, 7]) (by kernel_rfl) (by simp) ?_
  refine AllReadyH.cons (i := 4) rfl (fun K hK => ?_) (AllReadyH.cons (i := 7) rfl (fun K hK => ?_) AllReadyH.nil)
  · skip
    go_simp
    skip
    refine hK.out _ _ (by assumption) (fun hH8 => ?_)
    clear hK K
    try simp only [Act.put, List.setIfInBounds_toArray, List.set_cons_zero, List.set_cons_succ, List.getElem_toArray, List.getElem_cons_zero, List.getElem_cons_succ]
    refine wpAnyH_ready (rs := [7]) (by kernel_rfl) (by simp) ?_
    refine AllReadyH.cons (i := 7) rfl (fun K hK => ?_) AllReadyH.nil
    go_simp
    skip
    refine hK.out _ _ ⟨keepc ((Below.refl v7.heap.size v7).alloc (Nat.le_refl _) _) D0, keepc ((Below.refl v7.heap.size v7).alloc (Nat.le_refl _) _) D1⟩ (fun hH9 => ?_)
    clear hK K
    try simp only [Act.put, List.setIfInBounds_toArray, List.set_cons_zero, List.set_cons_succ, List.getElem_toArray, List.getElem_cons_zero, List.getElem_cons_succ]
    have X0 : (v7.alloc (.cells #[.int .i64 x, .int .i64 y] 30)).cell? ⟨v7.heap.size, 0, none⟩ = some (.int .i64 x) := by simp
    have X1 : (v7.alloc (.cells #[.int .i64 x, .int .i64 y] 30)).cell? ⟨v7.heap.size, 1, none⟩ = some (.int .i64 y) := by simp
    obtain ⟨v8, hv8⟩ : ∃ v8, v8 = (v7.alloc (.cells #[.int .i64 x, .int .i64 y] 30)) := ⟨_, rfl⟩
    have HC : StV base v8 g (some ⟨a, 0, none⟩) c B d _ := hv8 ▸ HHB.out.alloc _
    have hb8 : Below v7.heap.size v7 v8 := hv8 ▸ (Below.refl v7.heap.size v7).alloc (Nat.le_refl _) _
    rw [← hv8] at X0 X1 hH9 ⊢
    clear hv8
    have Y0 := keepc hb8 D0
    have Y1 := keepc hb8 D1
    have Y2 := keepc hb8 D2
    have Z1 := keepc hb8 E1
    have hb8s : base ≤ v8.heap.size := Nat.le_trans (Nat.le_trans hbase HHbwB.out.size) hb8.size
    have HHC := Lib.hid HC
    have Hb8 := Lib.hid (HHbwB.out.trans (hb8.mono (Nat.le_trans hbase HHbwB.out.size)))
    clear HC hb8
    refine wpAnyH_ready (rs := [8]) (by kernel_rfl) (by simp) ?_
    refine AllReadyH.cons (i := 8) rfl (fun K hK => ?_) AllReadyH.nil
    refine step_tileL rfl (.tmp 178) (.tmp 181) rfl base _ tiles rfl HHC.out.bo x y v7.heap.size rfl X0 X1 (by omega) hb8s ?_
    intro G c8 w8 ho8 hg8 hat8
    have J0 := World.grownBy.cell hg8 Y0 (fun e => Nat.lt_irrefl _ (Hbl.out _ e.symm))
    have J1 := World.grownBy.cell hg8 Y1 (fun e => Nat.lt_irrefl _ (Hbl.out _ e.symm))
    have J2 := World.grownBy.cell hg8 Y2 (fun e => Nat.lt_irrefl _ (Hbl.out _ e.symm))
    have J3 := World.grownBy.cell hg8 Z1 (fun e => HHC.out.bg _ e.symm rfl)
    have J4 := (hg8.frozen_far ⟨g, 1, none⟩ (block_lt Z1) (fun e => HHC.out.bg _ e.symm rfl)).trans (HHC.out.live 1)
    refine hK.out _ _ ⟨J0, J1⟩ (fun hH10 => ?_)
    clear hK K
    try simp only [Act.put, List.setIfInBounds_toArray, List.set_cons_zero, List.set_cons_succ, List.getElem_toArray, List.getElem_cons_zero, List.getElem_cons_succ]
    refine reg_take 9 rfl (by kernel_rfl) (by kernel_rfl) (by kernel_rfl) (fun _ _ _ h => h) (by rfl) (fun w _ => by first | (go_simp; done) | (go_simp; with_reducible rfl)) (by assumption) ?_
    try simp only [Act.put, List.setIfInBounds_toArray, List.set_cons_zero, List.set_cons_succ, List.getElem_toArray, List.getElem_cons_zero, List.getElem_cons_succ]
    refine reg_take 10 rfl (by kernel_rfl) (by kernel_rfl) (by kernel_rfl) (fun _ _ _ h => h) (by rfl) (fun w _ => by first | (go_simp; done) | (go_simp; with_reducible rfl)) (by assumption) ?_
    try simp only [Act.put, List.setIfInBounds_toArray, List.set_cons_zero, List.set_cons_succ, List.getElem_toArray, List.getElem_cons_zero, List.getElem_cons_succ]
    refine wpAnyH_ready (rs := [11]) (by kernel_rfl) (by simp) ?_
    refine AllReadyH.cons (i := 11) rfl (fun K hK => ?_) AllReadyH.nil
    go_simp
    skip
    refine hK.out _ _ ⟨far1 hgx J0, far1 hgx J1⟩ (fun hH11 => ?_)
    clear hK K
    try simp only [Act.put, List.setIfInBounds_toArray, List.set_cons_zero, List.set_cons_succ, List.getElem_toArray, List.getElem_cons_zero, List.getElem_cons_succ]
    refine wpAnyH_done (by kernel_rfl) ?_ _
    have HD : StV base (w8.setCell ⟨g, 1, none⟩ (.slice (some ⟨G, 0, none⟩) (tiles.length + 1) c8)) g (some ⟨a, 0, none⟩) c (some ⟨G, 0, none⟩) c8 ⟨arms.set 0 (r, (x == y), false), tiles ++ [(x, y)], spin, waits, true, true, l1⟩ := HHC.out.tiles_ (x, y) hg8 ho8 (fun gx hgx8 => by have e1 : G = gx := Option.some.inj hgx8; subst e1; rcases hat8 with e2 | e2; exact .inl e2; exact .inr (Nat.le_of_eq e2.symm))
    have HbD : Below base w (w8.setCell ⟨g, 1, none⟩ (.slice (some ⟨G, 0, none⟩) (tiles.length + 1) c8)) := (Below.grown Hb8.out hg8 hb8s (fun gx hgx8 => (HHC.out.bo.lt gx hgx8).1)).setCell (p := ⟨g, 1, none⟩) hlo _
    have J2b : (w8.setCell ⟨g, 1, none⟩ (.slice (some ⟨G, 0, none⟩) (tiles.length + 1) c8)).cell? ⟨w.heap.size, 2, none⟩ = some (.int .i64 (0 : Int)) := far1 hgx J2
    have J0b : (w8.setCell ⟨g, 1, none⟩ (.slice (some ⟨G, 0, none⟩) (tiles.length + 1) c8)).cell? ⟨w.heap.size, 0, none⟩ = some (.int .i64 x) := far1 hgx J0
    obtain ⟨v9, hv9⟩ : ∃ v9, v9 = (w8.setCell ⟨g, 1, none⟩ (.slice (some ⟨G, 0, none⟩) (tiles.length + 1) c8)) := ⟨_, rfl⟩
    rw [← hv9] at HD HbD J2b J0b hH11 ⊢
    clear hv9 hH0 hH11 hH10 J0 J1 J2 J3 J4 Y0 Y1 Y2 Z1 X0 X1 ho8 hg8 hat8 HHC Hb8 HHB HHbwB D0 D1 D2 E1
    have S2 : v9.cell? ⟨g, 2, none⟩ = some (.int .i64 spin) := HD.c2
    have HHD := Lib.hid HD
    have HHbD := Lib.hid HbD
    clear HD HbD
    go_wp2
    all_goals
      go_ret
      exact ⟨rfl, ⟨_, _, _, _, HHD.out⟩, HHbD.out⟩
  · skip
    go_simp
    skip
    refine hK.out _ _ ⟨keepc ((Below.refl v7.heap.size v7).alloc (Nat.le_refl _) _) D0, keepc ((Below.refl v7.heap.size v7).alloc (Nat.le_refl _) _) D1⟩ (fun hH12 => ?_)
    clear hK K
    try simp only [Act.put, List.setIfInBounds_toArray, List.set_cons_zero, List.set_cons_succ, List.getElem_toArray, List.getElem_cons_zero, List.getElem_cons_succ]
    have X0 : (v7.alloc (.cells #[.int .i64 x, .int .i64 y] 30)).cell? ⟨v7.heap.size, 0, none⟩ = some (.int .i64 x) := by simp
    have X1 : (v7.alloc (.cells #[.int .i64 x, .int .i64 y] 30)).cell? ⟨v7.heap.size, 1, none⟩ = some (.int .i64 y) := by simp
    obtain ⟨v8, hv8⟩ : ∃ v8, v8 = (v7.alloc (.cells #[.int .i64 x, .int .i64 y] 30)) := ⟨_, rfl⟩
    have HC : StV base v8 g (some ⟨a, 0, none⟩) c B d _ := hv8 ▸ HHB.out.alloc _
    have hb8 : Below v7.heap.size v7 v8 := hv8 ▸ (Below.refl v7.heap.size v7).alloc (Nat.le_refl _) _
    rw [← hv8] at X0 X1 hH12 ⊢
    clear hv8
    have Y0 := keepc hb8 D0
    have Y1 := keepc hb8 D1
    have Y2 := keepc hb8 D2
    have Z1 := keepc hb8 E1
    have hb8s : base ≤ v8.heap.size := Nat.le_trans (Nat.le_trans hbase HHbwB.out.size) hb8.size
    have HHC := Lib.hid HC
    have Hb8 := Lib.hid (HHbwB.out.trans (hb8.mono (Nat.le_trans hbase HHbwB.out.size)))
    clear HC hb8
    refine wpAnyH_ready (rs := [4]) (by kernel_rfl) (by simp) ?_
    refine AllReadyH.cons (i := 4) rfl (fun K hK => ?_) AllReadyH.nil
    go_simp
    skip
    refine hK.out _ _ (by assumption) (fun hH13 => ?_)
    clear hK K
    try simp only [Act.put, List.setIfInBounds_toArray, List.set_cons_zero, List.set_cons_succ, List.getElem_toArray, List.getElem_cons_zero, List.getElem_cons_succ]
    refine wpAnyH_ready (rs := [8]) (by kernel_rfl) (by simp) ?_
    refine AllReadyH.cons (i := 8) rfl (fun K hK => ?_) AllReadyH.nil
    refine step_tileL rfl (.tmp 178) (.tmp 181) rfl base _ tiles rfl HHC.out.bo x y v7.heap.size rfl X0 X1 (by omega) hb8s ?_
    intro G c8 w8 ho8 hg8 hat8
    have J0 := World.grownBy.cell hg8 Y0 (fun e => Nat.lt_irrefl _ (Hbl.out _ e.symm))
    have J1 := World.grownBy.cell hg8 Y1 (fun e => Nat.lt_irrefl _ (Hbl.out _ e.symm))
    have J2 := World.grownBy.cell hg8 Y2 (fun e => Nat.lt_irrefl _ (Hbl.out _ e.symm))
    have J3 := World.grownBy.cell hg8 Z1 (fun e => HHC.out.bg _ e.symm rfl)
    have J4 := (hg8.frozen_far ⟨g, 1, none⟩ (block_lt Z1) (fun e => HHC.out.bg _ e.symm rfl)).trans (HHC.out.live 1)
    refine hK.out _ _ ⟨J0, J1⟩ (fun hH14 => ?_)
    clear hK K
    try simp only [Act.put, List.setIfInBounds_toArray, List.set_cons_zero, List.set_cons_succ, List.getElem_toArray, List.getElem_cons_zero, List.getElem_cons_succ]
    refine reg_take 9 rfl (by kernel_rfl) (by kernel_rfl) (by kernel_rfl) (fun _ _ _ h => h) (by rfl) (fun w _ => by first | (go_simp; done) | (go_simp; with_reducible rfl)) (by assumption) ?_
    try simp only [Act.put, List.setIfInBounds_toArray, List.set_cons_zero, List.set_cons_succ, List.getElem_toArray, List.getElem_cons_zero, List.getElem_cons_succ]
    refine reg_take 10 rfl (by kernel_rfl) (by kernel_rfl) (by kernel_rfl) (fun _ _ _ h => h) (by rfl) (fun w _ => by first | (go_simp; done) | (go_simp; with_reducible rfl)) (by assumption) ?_
    try simp only [Act.put, List.setIfInBounds_toArray, List.set_cons_zero, List.set_cons_succ, List.getElem_toArray, List.getElem_cons_zero, List.getElem_cons_succ]
    refine wpAnyH_ready (rs := [11]) (by kernel_rfl) (by simp) ?_
    refine AllReadyH.cons (i := 11) rfl (fun K hK => ?_) AllReadyH.nil
    go_simp
    skip
    refine hK.out _ _ ⟨far1 hgx J0, far1 hgx J1⟩ (fun hH15 => ?_)
    clear hK K
    try simp only [Act.put, List.setIfInBounds_toArray, List.set_cons_zero, List.set_cons_succ, List.getElem_toArray, List.getElem_cons_zero, List.getElem_cons_succ]
    refine wpAnyH_done (by kernel_rfl) ?_ _
    have HD : StV base (w8.setCell ⟨g, 1, none⟩ (.slice (some ⟨G, 0, none⟩) (tiles.length + 1) c8)) g (some ⟨a, 0, none⟩) c (some ⟨G, 0, none⟩) c8 ⟨arms.set 0 (r, (x == y), false), tiles ++ [(x, y)], spin, waits, true, true, l1⟩ := HHC.out.tiles_ (x, y) hg8 ho8 (fun gx hgx8 => by have e1 : G = gx := Option.some.inj hgx8; subst e1; rcases hat8 with e2 | e2; exact .inl e2; exact .inr (Nat.le_of_eq e2.symm))
    have HbD : Below base w (w8.setCell ⟨g, 1, none⟩ (.slice (some ⟨G, 0, none⟩) (tiles.length + 1) c8)) := (Below.grown Hb8.out hg8 hb8s (fun gx hgx8 => (HHC.out.bo.lt gx hgx8).1)).setCell (p := ⟨g, 1, none⟩) hlo _
    have J2b : (w8.setCell ⟨g, 1, none⟩ (.slice (some ⟨G, 0, none⟩) (tiles.length + 1) c8)).cell? ⟨w.heap.size, 2, none⟩ = some (.int .i64 (0 : Int)) := far1 hgx J2
    have J0b : (w8.setCell ⟨g, 1, none⟩ (.slice (some ⟨G, 0, none⟩) (tiles.length + 1) c8)).cell? ⟨w.heap.size, 0, none⟩ = some (.int .i64 x) := far1 hgx J0
    obtain ⟨v9, hv9⟩ : ∃ v9, v9 = (w8.setCell ⟨g, 1, none⟩ (.slice (some ⟨G, 0, none⟩) (tiles.length + 1) c8)) := ⟨_, rfl⟩
    rw [← hv9] at HD HbD J2b J0b hH15 ⊢
    clear hv9 hH0 hH15 hH14 J0 J1 J2 J3 J4 Y0 Y1 Y2 Z1 X0 X1 ho8 hg8 hat8 HHC Hb8 HHB HHbwB D0 D1 D2 E1
    have S2 : v9.cell? ⟨g, 2, none⟩ = some (.int .i64 spin) := HD.c2
    have HHD := Lib.hid HD
    have HHbD := Lib.hid HbD
    clear HD HbD
    go_wp2
    all_goals
      go_ret
      exact ⟨rfl, ⟨_, _, _, _, HHD.out⟩, HHbD.out⟩

set_option maxRecDepth 100000 in
set_option maxHeartbeats 4000000 in
theorem c_add_L0n (base g a c d : Nat) (B : Option Addr) (arms : List (Int × Bool × Bool)) (tiles : List (Int × Int)) (spin waits : Int) (x y r : Int) (w : World)
    (h : StV base w g (some ⟨a, 0, none⟩) c B d ⟨arms, tiles, spin, waits, true, false, false⟩) (hg : goodB x y = true) (hin : placeI tiles (x, y) < 0) (h28 : tiles.length < 28) (h0 : tiles.length ≠ 0) (hk : 0 < arms.length) (h4 : arms.length ≤ 4)
    (ho : othS (x, y, (0 : Int)) arms[0].1 = r) (hr0 : 0 ≤ r) (hw : (waits == (0 : Int)) = false) (hs : 0 ≤ spin) :
    Calls Try.prog 57 #[.pointer (some ⟨g, 0, none⟩), .agg #[.int .i64 x, .int .i64 y, .int .i64 (0 : Int)]] w fun e w' => e = .returned (.bool true) ∧ StAt base w' g ⟨(arms.set 0 (r, (x == y), false)), tiles ++ [(x, y)], spin, waits, true, true, false⟩ ∧ Below base w w' := by
  have hgl := h.lt
  have hbase : base ≤ w.heap.size := Nat.le_trans h.lo (Nat.le_of_lt hgl)
  have conT := fun W => c_tiGood x y W
  rw [hg] at conT
  have ConT := Lib.hid conT
  have conP := Lib.hid (fun W (hb : Below w.heap.size w W) => c_tiPlace B d tiles x y W (RdT.of_own (own_keep h.bo hb)) (by omega))
  obtain ⟨pl, hpl⟩ : ∃ pl, placeI tiles (x, y) = pl := ⟨_, rfl⟩
  rw [hpl] at conP hin
  have hpn : decide (0 ≤ pl) = false := decide_eq_false (by omega)
  have hrn : decide (r < 0) = false := decide_eq_false (by omega)
  have q28d : decide ((28 : Int) ≤ (tiles.length : Int)) = false := decide_eq_false (by omega)
  have conI := Lib.hid (fun W => (c_l1In (0 : Int) 0 ((arms.length : Int) - 1) W).mono (R' := fun e w' => e = .returned (.bool true) ∧ W = w') (fun e w' hh => by rw [decide_eq_true (by omega : (0 : Int) ≤ (0 : Int)), decide_eq_true (by omega : (0 : Int) ≤ (arms.length : Int) - 1)] at hh; exact hh))
  obtain ⟨ev, hev⟩ : ∃ ev, ev = arms[0] := ⟨_, rfl⟩
  rw [← hev] at ho
  have conO := fun W => c_haOtherS x y (0 : Int) ev.1 W
  rw [ho] at conO
  have ConO := Lib.hid conO
  have i0 : (0 : Int) ≤ (0 : Int) := by omega
  have i1 : (0 : Int) < (arms.length : Int) := by omega
  have q0 : ((tiles.length : Int) == 0) = false := beq_eq_false_iff_ne.2 (by omega)
  have iw1 : IntKind.i64.wrap ((arms.length : Int) - 1) = (arms.length : Int) - 1 := IntWalk.i64_in _ (by omega)
  have q28 : ¬ (28 : Int) ≤ (tiles.length : Int) := by omega
  have hcg := cellsA_get arms 0 hk
  rw [← hev] at hcg
  clear hev
  have hlo : base ≤ g := h.lo
  have hba : base ≤ a := (h.ao.lt a rfl).1
  have hane : a ≠ g := h.ag a rfl
  have hal := (h.ao.lt a rfl).2
  have hbp : Below w.heap.size w (w.alloc (.cells #[.int .i64 x, .int .i64 y, .int .i64 (0 : Int)] 32)) := (Below.refl _ _).alloc (Nat.le_refl _) _
  have p0 : (w.alloc (.cells #[.int .i64 x, .int .i64 y, .int .i64 (0 : Int)] 32)).cell? ⟨w.heap.size, 0, none⟩ = some (.int .i64 x) := by simp
  have p1 : (w.alloc (.cells #[.int .i64 x, .int .i64 y, .int .i64 (0 : Int)] 32)).cell? ⟨w.heap.size, 1, none⟩ = some (.int .i64 y) := by simp
  have p2 : (w.alloc (.cells #[.int .i64 x, .int .i64 y, .int .i64 (0 : Int)] 32)).cell? ⟨w.heap.size, 2, none⟩ = some (.int .i64 (0 : Int)) := by simp
  have g1 : (w.alloc (.cells #[.int .i64 x, .int .i64 y, .int .i64 (0 : Int)] 32)).cell? ⟨g, 1, none⟩ = some (.slice B tiles.length d) := keepc hbp h.c1
  have H := Lib.hid h
  have Hput := Lib.hid (cellsA_put hk)
  have Hcg := Lib.hid hcg
  clear h ho hg hin hpl conT conO hcg
  go_enter Try.func57, Try.ntmps57
  go_wp2_with fail
  refine wp_region_held_drew (S := fun w' => w'.cell? ⟨w.heap.size, 0, none⟩ = some (.int .i64 x) ∧ w'.cell? ⟨w.heap.size, 1, none⟩ = some (.int .i64 y) ∧ w'.cell? ⟨g, 1, none⟩ = some (.slice B tiles.length d)) (by kernel_rfl) ⟨p0, p1, g1⟩ (fun hH0 => ?_)
  refine reg_take 0 rfl (by kernel_rfl) (by kernel_rfl) (by kernel_rfl) (fun _ _ _ h => h) (by rfl) (fun w _ => by first | (go_simp; done) | (go_simp; with_reducible rfl)) (by assumption) ?_
  try simp only [Act.put, List.setIfInBounds_toArray, List.set_cons_zero, List.set_cons_succ, List.getElem_toArray, List.getElem_cons_zero]
  refine reg_take 1 rfl (by kernel_rfl) (by kernel_rfl) (by kernel_rfl) (fun _ _ _ h => h) (by rfl) (fun w hSw => by (try dsimp only at hSw); first | (go_simp; done) | (go_simp; with_reducible rfl)) (by assumption) ?_
  try simp only [Act.put, List.setIfInBounds_toArray, List.set_cons_zero, List.set_cons_succ, List.getElem_toArray, List.getElem_cons_zero, List.getElem_cons_succ]
  refine wpAnyH_ready (rs := [2]) (by kernel_rfl) (by simp) ?_
  refine AllReadyH.cons (i := 2) rfl (fun K hK => ?_) AllReadyH.nil
  go_simp
  go_at_call 99
  refine (ConT.out _).mono ?_
  rintro e w1 ⟨rfl, hb1⟩
  have hbw1 := bstep hbp.drew hb1
  have t0 := keepc hb1 p0
  have t1 := keepc hb1 p1
  have t2 := keepc hb1 g1
  refine hK.out _ _ ⟨t0, t1, t2⟩ (fun hH1 => ?_)
  clear hK K
  try simp only [Act.put, List.setIfInBounds_toArray, List.set_cons_zero, List.set_cons_succ, List.getElem_toArray, List.getElem_cons_zero, List.getElem_cons_succ]
  refine reg_take 3 rfl (by kernel_rfl) (by kernel_rfl) (by kernel_rfl) (fun _ _ _ h => h) (by rfl) (fun w _ => by first | (go_simp; done) | (go_simp; with_reducible rfl)) (by assumption) ?_
  try simp only [Act.put, List.setIfInBounds_toArray, List.set_cons_zero, List.set_cons_succ, List.getElem_toArray, List.getElem_cons_zero, List.getElem_cons_succ]
  refine reg_take 4 rfl (by kernel_rfl) (by kernel_rfl) (by kernel_rfl) (fun _ _ _ h => h) (by rfl) (fun w _ => by first | (go_simp; done) | (go_simp; with_reducible rfl)) (by assumption) ?_
  try simp only [Act.put, List.setIfInBounds_toArray, List.set_cons_zero, List.set_cons_succ, List.getElem_toArray, List.getElem_cons_zero, List.getElem_cons_succ]
  refine reg_take 5 rfl (by kernel_rfl) (by kernel_rfl) (by kernel_rfl) (fun _ _ _ h => h) (by rfl) (fun w _ => by first | (go_simp; done) | (go_simp; with_reducible rfl)) (by assumption) ?_
  try simp only [Act.put, List.setIfInBounds_toArray, List.set_cons_zero, List.set_cons_succ, List.getElem_toArray, List.getElem_cons_zero, List.getElem_cons_succ]
  refine reg_take 6 rfl (by kernel_rfl) (by kernel_rfl) (by kernel_rfl) (fun _ _ _ h => h) (by rfl) (fun w _ => by first | (go_simp; done) | (go_simp; with_reducible rfl)) (by assumption) ?_
  try simp only [Act.put, List.setIfInBounds_toArray, List.set_cons_zero, List.set_cons_succ, List.getElem_toArray, List.getElem_cons_zero, List.getElem_cons_succ]
  refine reg_take 7 rfl (by kernel_rfl) (by kernel_rfl) (by kernel_rfl) (fun _ _ _ h => h) (by rfl) (fun w _ => by first | (go_simp; done) | (go_simp; with_reducible rfl)) (by assumption) ?_
  try simp only [Act.put, List.setIfInBounds_toArray, List.set_cons_zero, List.set_cons_succ, List.getElem_toArray, List.getElem_cons_zero, List.getElem_cons_succ]
  refine reg_take 8 rfl (by kernel_rfl) (by kernel_rfl) (by kernel_rfl) (fun _ _ _ h => h) (by rfl) (fun w hSw => by (try dsimp only at hSw); first | (go_simp; done) | (go_simp; with_reducible rfl)) (by assumption) ?_
  try simp only [Act.put, List.setIfInBounds_toArray, List.set_cons_zero, List.set_cons_succ, List.getElem_toArray, List.getElem_cons_zero, List.getElem_cons_succ]
  refine reg_take 9 rfl (by kernel_rfl) (by kernel_rfl) (by kernel_rfl) (fun _ _ _ h => h) (by rfl) (fun w _ => by first | (go_simp; done) | (go_simp; with_reducible rfl)) (by assumption) ?_
  try simp only [Act.put, List.setIfInBounds_toArray, List.set_cons_zero, List.set_cons_succ, List.getElem_toArray, List.getElem_cons_zero, List.getElem_cons_succ]
  refine reg_take 10 rfl (by kernel_rfl) (by kernel_rfl) (by kernel_rfl) (fun _ _ _ h => h) (by rfl) (fun w hSw => by (try dsimp only at hSw); first | (go_simp; done) | (go_simp; with_reducible rfl)) (by assumption) ?_
  try simp only [Act.put, List.setIfInBounds_toArray, List.set_cons_zero, List.set_cons_succ, List.getElem_toArray, List.getElem_cons_zero, List.getElem_cons_succ]
  refine wpAnyH_ready (rs := [11]) (by kernel_rfl) (by simp) ?_
  refine AllReadyH.cons (i := 11) rfl (fun K hK => ?_) AllReadyH.nil
  go_simp
  go_at_call 100
  refine (conP.out _ hbw1).mono ?_
  rintro e w2 ⟨rfl, hb2⟩
  have u0 := keepc hb2 t0
  have u1 := keepc hb2 t1
  have u2 := keepc hb2 t2
  refine hK.out _ _ ⟨u0, u1, u2⟩ (fun hH2 => ?_)
  clear hK K
  try simp only [Act.put, List.setIfInBounds_toArray, List.set_cons_zero, List.set_cons_succ, List.getElem_toArray, List.getElem_cons_zero, List.getElem_cons_succ]
  refine reg_take 12 rfl (by kernel_rfl) (by kernel_rfl) (by kernel_rfl) (fun _ _ _ h => h) (by rfl) (fun w _ => by first | (go_simp; done) | (go_simp; with_reducible rfl)) (by assumption) ?_
  try simp only [Act.put, List.setIfInBounds_toArray, List.set_cons_zero, List.set_cons_succ, List.getElem_toArray, List.getElem_cons_zero, List.getElem_cons_succ]
  refine reg_take 13 rfl (by kernel_rfl) (by kernel_rfl) (by kernel_rfl) (fun _ _ _ h => h) (by rfl) (fun w _ => by first | (go_simp; done) | (go_simp; with_reducible rfl)) (by assumption) ?_
  try simp only [Act.put, List.setIfInBounds_toArray, List.set_cons_zero, List.set_cons_succ, List.getElem_toArray, List.getElem_cons_zero, List.getElem_cons_succ]
  refine reg_take 14 rfl (by kernel_rfl) (by kernel_rfl) (by kernel_rfl) (fun _ _ _ h => h) (by rfl) (fun w _ => by first | (go_simp; done) | (go_simp; with_reducible rfl)) (by assumption) ?_
  try simp only [Act.put, List.setIfInBounds_toArray, List.set_cons_zero, List.set_cons_succ, List.getElem_toArray, List.getElem_cons_zero, List.getElem_cons_succ]
  refine reg_take 15 rfl (by kernel_rfl) (by kernel_rfl) (by kernel_rfl) (fun _ _ _ h => h) (by rfl) (fun w _ => by first | (go_simp; done) | (go_simp; with_reducible rfl)) (by assumption) ?_
  try simp only [Act.put, List.setIfInBounds_toArray, List.set_cons_zero, List.set_cons_succ, List.getElem_toArray, List.getElem_cons_zero, List.getElem_cons_succ]
  refine reg_take 16 rfl (by kernel_rfl) (by kernel_rfl) (by kernel_rfl) (fun _ _ _ h => h) (by rfl) (fun w _ => by first | (go_simp; done) | (go_simp; with_reducible rfl)) (by assumption) ?_
  try simp only [Act.put, List.setIfInBounds_toArray, List.set_cons_zero, List.set_cons_succ, List.getElem_toArray, List.getElem_cons_zero, List.getElem_cons_succ]
  refine reg_take 17 rfl (by kernel_rfl) (by kernel_rfl) (by kernel_rfl) (fun _ _ _ h => h) (by rfl) (fun w _ => by first | (go_simp; done) | (go_simp; with_reducible rfl)) (by assumption) ?_
  try simp only [Act.put, List.setIfInBounds_toArray, List.set_cons_zero, List.set_cons_succ, List.getElem_toArray, List.getElem_cons_zero, List.getElem_cons_succ]
  refine reg_take 18 rfl (by kernel_rfl) (by kernel_rfl) (by kernel_rfl) (fun _ _ _ h => h) (by rfl) (fun w hSw => by (try dsimp only at hSw); first | (go_simp; done) | (go_simp; with_reducible rfl)) (by assumption) ?_
  try simp only [Act.put, List.setIfInBounds_toArray, List.set_cons_zero, List.set_cons_succ, List.getElem_toArray, List.getElem_cons_zero, List.getElem_cons_succ]
  refine reg_take 19 rfl (by kernel_rfl) (by kernel_rfl) (by kernel_rfl) (fun _ _ _ h => h) (by rfl) (fun w _ => by first | (go_simp; done) | (go_simp; with_reducible rfl)) (by assumption) ?_
  try simp only [Act.put, List.setIfInBounds_toArray, List.set_cons_zero, List.set_cons_succ, List.getElem_toArray, List.getElem_cons_zero, List.getElem_cons_succ]
  refine reg_take 20 rfl (by kernel_rfl) (by kernel_rfl) (by kernel_rfl) (fun _ _ _ h => h) (by rfl) (fun w _ => by first | (go_simp; done) | (go_simp; with_reducible rfl)) (by assumption) ?_
  try simp only [Act.put, List.setIfInBounds_toArray, List.set_cons_zero, List.set_cons_succ, List.getElem_toArray, List.getElem_cons_zero, List.getElem_cons_succ]
  refine reg_take 21 rfl (by kernel_rfl) (by kernel_rfl) (by kernel_rfl) (fun _ _ _ h => h) (by rfl) (fun w _ => by first | (go_simp; done) | (go_simp; with_reducible rfl)) (by assumption) ?_
  try simp only [Act.put, List.setIfInBounds_toArray, List.set_cons_zero, List.set_cons_succ, List.getElem_toArray, List.getElem_cons_zero, List.getElem_cons_succ]
  refine wpAnyH_done (by kernel_rfl) ?_ _
  have hbw2 := bstep hbw1 hb2
  have v2 := keepc hb2 (keepc hb1 p2)
  have H2 := H.out.keep hbw2
  clear hH0 hH1 hH2 t0 t1 t2 u2 p0 p1 p2 g1 hb1 hb2 hbw1
  have c0 : w2.cell? ⟨g, 0, none⟩ = some (.slice (some ⟨a, 0, none⟩) arms.length c) := H2.c0
  have c1 : w2.cell? ⟨g, 1, none⟩ = some (.slice B tiles.length d) := H2.c1
  have ce : w2.cell? ⟨a, 0, none⟩ = some (.int .i64 ev.1) := (H2.ao.cellAt (0 * 3) (by show 0 * 3 < arms.length * 3; omega)).trans Hcg.out.1
  have HH2 := Lib.hid H2
  have hz2 := block_lt u0
  clear H2
  go_wp2_with fail
  refine wp_region_held_drew (S := fun w' => w'.cell? ⟨w.heap.size, 0, none⟩ = some (.int .i64 x) ∧ w'.cell? ⟨w.heap.size, 1, none⟩ = some (.int .i64 y) ∧ w'.cell? ⟨w.heap.size, 2, none⟩ = some (.int .i64 (0 : Int)) ∧ w'.cell? ⟨g, 0, none⟩ = some (.slice (some ⟨a, 0, none⟩) arms.length c) ∧ w'.cell? ⟨a, 0, none⟩ = some (.int .i64 ev.1)) (by kernel_rfl) ⟨u0, u1, v2, c0, ce⟩ (fun hH0 => ?_)
  refine reg_take 0 rfl (by kernel_rfl) (by kernel_rfl) (by kernel_rfl) (fun _ _ _ h => h) (by rfl) (fun w _ => by first | (go_simp; done) | (go_simp; with_reducible rfl)) (by assumption) ?_
  try simp only [Act.put, List.setIfInBounds_toArray, List.set_cons_zero, List.set_cons_succ, List.getElem_toArray, List.getElem_cons_zero]
  refine reg_take 1 rfl (by kernel_rfl) (by kernel_rfl) (by kernel_rfl) (fun _ _ _ h => h) (by rfl) (fun w hSw => by (try dsimp only at hSw); first | (go_simp; done) | (go_simp; with_reducible rfl)) (by assumption) ?_
  try simp only [Act.put, List.setIfInBounds_toArray, List.set_cons_zero, List.set_cons_succ, List.getElem_toArray, List.getElem_cons_zero, List.getElem_cons_succ]
  refine reg_take 2 rfl (by kernel_rfl) (by kernel_rfl) (by kernel_rfl) (fun _ _ _ h => h) (by rfl) (fun w _ => by first | (go_simp; done) | (go_simp; with_reducible rfl)) (by assumption) ?_
  try simp only [Act.put, List.setIfInBounds_toArray, List.set_cons_zero, List.set_cons_succ, List.getElem_toArray, List.getElem_cons_zero, List.getElem_cons_succ]
  refine reg_take 3 rfl (by kernel_rfl) (by kernel_rfl) (by kernel_rfl) (fun _ _ _ h => h) (by rfl) (fun w _ => by first | (go_simp; done) | (go_simp; with_reducible rfl)) (by assumption) ?_
  try simp only [Act.put, List.setIfInBounds_toArray, List.set_cons_zero, List.set_cons_succ, List.getElem_toArray, List.getElem_cons_zero, List.getElem_cons_succ]
  refine reg_take 4 rfl (by kernel_rfl) (by kernel_rfl) (by kernel_rfl) (fun _ _ _ h => h) (by rfl) (fun w _ => by first | (go_simp; done) | (go_simp; with_reducible rfl)) (by assumption) ?_
  try simp only [Act.put, List.setIfInBounds_toArray, List.set_cons_zero, List.set_cons_succ, List.getElem_toArray, List.getElem_cons_zero, List.getElem_cons_succ]
  refine reg_take 5 rfl (by kernel_rfl) (by kernel_rfl) (by kernel_rfl) (fun _ _ _ h => h) (by rfl) (fun w hSw => by (try dsimp only at hSw); first | (go_simp; done) | (go_simp; with_reducible rfl)) (by assumption) ?_
  try simp only [Act.put, List.setIfInBounds_toArray, List.set_cons_zero, List.set_cons_succ, List.getElem_toArray, List.getElem_cons_zero, List.getElem_cons_succ]
  refine reg_take 6 rfl (by kernel_rfl) (by kernel_rfl) (by kernel_rfl) (fun _ _ _ h => h) (by rfl) (fun w _ => by first | (go_simp; done) | (go_simp; with_reducible rfl)) (by assumption) ?_
  try simp only [Act.put, List.setIfInBounds_toArray, List.set_cons_zero, List.set_cons_succ, List.getElem_toArray, List.getElem_cons_zero, List.getElem_cons_succ]
  refine reg_take 7 rfl (by kernel_rfl) (by kernel_rfl) (by kernel_rfl) (fun _ _ _ h => h) (by rfl) (fun w _ => by first | (go_simp; done) | (go_simp; with_reducible rfl)) (by assumption) ?_
  try simp only [Act.put, List.setIfInBounds_toArray, List.set_cons_zero, List.set_cons_succ, List.getElem_toArray, List.getElem_cons_zero, List.getElem_cons_succ]
  refine wpAnyH_ready (rs := [8]) (by kernel_rfl) (by simp) ?_
  refine AllReadyH.cons (i := 8) rfl (fun K hK => ?_) AllReadyH.nil
  go_simp
  go_at_call 50
  refine (conI.out _).mono ?_
  rintro e w9 ⟨rfl, rfl⟩
  refine hK.out _ _ (by assumption) (fun hH3 => ?_)
  clear hK K
  try simp only [Act.put, List.setIfInBounds_toArray, List.set_cons_zero, List.set_cons_succ, List.getElem_toArray, List.getElem_cons_zero, List.getElem_cons_succ]
  refine reg_take 9 rfl (by kernel_rfl) (by kernel_rfl) (by kernel_rfl) (fun _ _ _ h => h) (by rfl) (fun w _ => by first | (go_simp; done) | (go_simp; with_reducible rfl)) (by assumption) ?_
  try simp only [Act.put, List.setIfInBounds_toArray, List.set_cons_zero, List.set_cons_succ, List.getElem_toArray, List.getElem_cons_zero, List.getElem_cons_succ]
  refine reg_take 10 rfl (by kernel_rfl) (by kernel_rfl) (by kernel_rfl) (fun _ _ _ h => h) (by rfl) (fun w _ => by first | (go_simp; done) | (go_simp; with_reducible rfl)) (by assumption) ?_
  try simp only [Act.put, List.setIfInBounds_toArray, List.set_cons_zero, List.set_cons_succ, List.getElem_toArray, List.getElem_cons_zero, List.getElem_cons_succ]
  refine reg_take 11 rfl (by kernel_rfl) (by kernel_rfl) (by kernel_rfl) (fun _ _ _ h => h) (by rfl) (fun w _ => by first | (go_simp; done) | (go_simp; with_reducible rfl)) (by assumption) ?_
  try simp only [Act.put, List.setIfInBounds_toArray, List.set_cons_zero, List.set_cons_succ, List.getElem_toArray, List.getElem_cons_zero, List.getElem_cons_succ]
  refine reg_take 12 rfl (by kernel_rfl) (by kernel_rfl) (by kernel_rfl) (fun _ _ _ h => h) (by rfl) (fun w hSw => by (try dsimp only at hSw); first | (go_simp; done) | (go_simp; with_reducible rfl)) (by assumption) ?_
  try simp only [Act.put, List.setIfInBounds_toArray, List.set_cons_zero, List.set_cons_succ, List.getElem_toArray, List.getElem_cons_zero, List.getElem_cons_succ]
  refine reg_take 13 rfl (by kernel_rfl) (by kernel_rfl) (by kernel_rfl) (fun _ _ _ h => h) (by rfl) (fun w _ => by first | (go_simp; done) | (go_simp; with_reducible rfl)) (by assumption) ?_
  try simp only [Act.put, List.setIfInBounds_toArray, List.set_cons_zero, List.set_cons_succ, List.getElem_toArray, List.getElem_cons_zero, List.getElem_cons_succ]
  refine reg_take 14 rfl (by kernel_rfl) (by kernel_rfl) (by kernel_rfl) (fun _ _ _ h => h) (by rfl) (fun w _ => by first | (go_simp; done) | (go_simp; with_reducible rfl)) (by assumption) ?_
  try simp only [Act.put, List.setIfInBounds_toArray, List.set_cons_zero, List.set_cons_succ, List.getElem_toArray, List.getElem_cons_zero, List.getElem_cons_succ]
  refine reg_take 15 rfl (by kernel_rfl) (by kernel_rfl) (by kernel_rfl) (fun _ _ _ h => h) (by rfl) (fun w _ => by first | (go_simp; done) | (go_simp; with_reducible rfl)) (by assumption) ?_
  try simp only [Act.put, List.setIfInBounds_toArray, List.set_cons_zero, List.set_cons_succ, List.getElem_toArray, List.getElem_cons_zero, List.getElem_cons_succ]
  refine reg_take 16 rfl (by kernel_rfl) (by kernel_rfl) (by kernel_rfl) (fun _ _ _ h => h) (by rfl) (fun w hSw => by (try dsimp only at hSw); first | (go_simp; done) | (go_simp; with_reducible rfl)) (by assumption) ?_
  try simp only [Act.put, List.setIfInBounds_toArray, List.set_cons_zero, List.set_cons_succ, List.getElem_toArray, List.getElem_cons_zero, List.getElem_cons_succ]
  refine reg_take 17 rfl (by kernel_rfl) (by kernel_rfl) (by kernel_rfl) (fun _ _ _ h => h) (by rfl) (fun w _ => by first | (go_simp; done) | (go_simp; with_reducible rfl)) (by assumption) ?_
  try simp only [Act.put, List.setIfInBounds_toArray, List.set_cons_zero, List.set_cons_succ, List.getElem_toArray, List.getElem_cons_zero, List.getElem_cons_succ]
  refine reg_take 18 rfl (by kernel_rfl) (by kernel_rfl) (by kernel_rfl) (fun _ _ _ h => h) (by rfl) (fun w hSw => by (try dsimp only at hSw); first | (go_simp; done) | (go_simp; with_reducible rfl)) (by assumption) ?_
  try simp only [Act.put, List.setIfInBounds_toArray, List.set_cons_zero, List.set_cons_succ, List.getElem_toArray, List.getElem_cons_zero, List.getElem_cons_succ]
  refine reg_take 19 rfl (by kernel_rfl) (by kernel_rfl) (by kernel_rfl) (fun _ _ _ h => h) (by rfl) (fun w _ => by first | (go_simp; done) | (go_simp; with_reducible rfl)) (by assumption) ?_
  try simp only [Act.put, List.setIfInBounds_toArray, List.set_cons_zero, List.set_cons_succ, List.getElem_toArray, List.getElem_cons_zero, List.getElem_cons_succ]
  refine reg_take 20 rfl (by kernel_rfl) (by kernel_rfl) (by kernel_rfl) (fun _ _ _ h => h) (by rfl) (fun w _ => by first | (go_simp; done) | (go_simp; with_reducible rfl)) (by assumption) ?_
  try simp only [Act.put, List.setIfInBounds_toArray, List.set_cons_zero, List.set_cons_succ, List.getElem_toArray, List.getElem_cons_zero, List.getElem_cons_succ]
  refine reg_take 21 rfl (by kernel_rfl) (by kernel_rfl) (by kernel_rfl) (fun _ _ _ h => h) (by rfl) (fun w hSw => by (try dsimp only at hSw); first | (go_simp; done) | (go_simp; with_reducible rfl)) (by assumption) ?_
  try simp only [Act.put, List.setIfInBounds_toArray, List.set_cons_zero, List.set_cons_succ, List.getElem_toArray, List.getElem_cons_zero, List.getElem_cons_succ]
  refine wpAnyH_ready (rs := [22]) (by kernel_rfl) (by simp) ?_
  refine AllReadyH.cons (i := 22) rfl (fun K hK => ?_) AllReadyH.nil
  go_simp
  go_at_call 101
  refine (ConO.out _).mono ?_
  rintro e w3 ⟨rfl, hb3⟩
  replace hb3 := bstep (Below.refl w2.heap.size w2).drew hb3
  have t0 := keepc hb3 u0
  have t1 := keepc hb3 u1
  have t2 := keepc hb3 v2
  have t3 := keepc hb3 c0
  have t4 := keepc hb3 ce
  refine hK.out _ _ ⟨t0, t1, t2, t3, t4⟩ (fun hH4 => ?_)
  clear hK K
  try simp only [Act.put, List.setIfInBounds_toArray, List.set_cons_zero, List.set_cons_succ, List.getElem_toArray, List.getElem_cons_zero, List.getElem_cons_succ]
  refine reg_take 23 rfl (by kernel_rfl) (by kernel_rfl) (by kernel_rfl) (fun _ _ _ h => h) (by rfl) (fun w _ => by first | (go_simp; done) | (go_simp; with_reducible rfl)) (by assumption) ?_
  try simp only [Act.put, List.setIfInBounds_toArray, List.set_cons_zero, List.set_cons_succ, List.getElem_toArray, List.getElem_cons_zero, List.getElem_cons_succ]
  refine reg_take 24 rfl (by kernel_rfl) (by kernel_rfl) (by kernel_rfl) (fun _ _ _ h => h) (by rfl) (fun w _ => by first | (go_simp; done) | (go_simp; with_reducible rfl)) (by assumption) ?_
  try simp only [Act.put, List.setIfInBounds_toArray, List.set_cons_zero, List.set_cons_succ, List.getElem_toArray, List.getElem_cons_zero, List.getElem_cons_succ]
  refine wpAnyH_done (by kernel_rfl) ?_ _
  have H3 := HH2.out.keep hb3
  have hbw3 := bstep hbw2 hb3
  have s2 : w3.cell? ⟨g, 2, none⟩ = some (.int .i64 spin) := H3.c2
  have s3 : w3.cell? ⟨g, 3, none⟩ = some (.int .i64 waits) := H3.c3
  have s4 : w3.cell? ⟨g, 4, none⟩ = some (.bool true) := H3.c4
  have s5 : w3.cell? ⟨g, 5, none⟩ = some (.bool false) := H3.c5
  have s6 : w3.cell? ⟨g, 6, none⟩ = some (.bool false) := H3.c6
  have l3 := H3.live 3
  have l5 := H3.live 5
  have l6 := H3.live 6
  have f0 : w3.frozen? ⟨a, 0, none⟩ = false := H3.ao.frozenAt (0 * 3)
  have f1 : w3.frozen? ⟨a, 1, none⟩ = false := H3.ao.frozenAt (0 * 3 + 1)
  have f2 : w3.frozen? ⟨a, 2, none⟩ = false := H3.ao.frozenAt (0 * 3 + 2)
  have y1 : w3.cell? ⟨a, 1, none⟩ = some (.bool ev.2.1) := (H3.ao.cellAt (0 * 3 + 1) (by show 0 * 3 + 1 < arms.length * 3; omega)).trans Hcg.out.2.1
  have y2 : w3.cell? ⟨a, 2, none⟩ = some (.bool ev.2.2) := (H3.ao.cellAt (0 * 3 + 2) (by show 0 * 3 + 2 < arms.length * 3; omega)).trans Hcg.out.2.2
  have hgx : g ≠ w.heap.size := by omega
  have hax : a ≠ w.heap.size := by omega
  have Hbl := Lib.hid (fun gx (hg : (Value.slice B tiles.length d).ownBlock = some gx) => (H.out.bo.lt gx hg).2)
  have HH3 := Lib.hid H3
  have Hbw3 := Lib.hid hbw3
  clear H3 hbw3 hH0 hH3 hH4 u0 u1 v2 c0 c1 ce hbw2 hb3
  go_wp2_with fail
  go_quiet (fail)
  have Hbw3b := Lib.hid (Hbw3.out.mono hbase)
  clear Hbw3
  have Hbw3 := Lib.hid Hbw3b.out
  clear Hbw3b
  have Nt0 : (w3.drewN nq).cell? ⟨w.heap.size, 0, none⟩ = some (.int .i64 x) := t0
  have Nt1 : (w3.drewN nq).cell? ⟨w.heap.size, 1, none⟩ = some (.int .i64 y) := t1
  have Nt2 : (w3.drewN nq).cell? ⟨w.heap.size, 2, none⟩ = some (.int .i64 (0 : Int)) := t2
  have Nt3 : (w3.drewN nq).cell? ⟨g, 0, none⟩ = some (.slice (some ⟨a, 0, none⟩) arms.length c) := t3
  have Nt4 : (w3.drewN nq).cell? ⟨a, 0, none⟩ = some (.int .i64 ev.1) := t4
  have Ny1 : (w3.drewN nq).cell? ⟨a, 1, none⟩ = some (.bool ev.2.1) := y1
  have Ny2 : (w3.drewN nq).cell? ⟨a, 2, none⟩ = some (.bool ev.2.2) := y2
  have Ns2 : (w3.drewN nq).cell? ⟨g, 2, none⟩ = some (.int .i64 spin) := s2
  have Ns3 : (w3.drewN nq).cell? ⟨g, 3, none⟩ = some (.int .i64 waits) := s3
  have Ns4 : (w3.drewN nq).cell? ⟨g, 4, none⟩ = some (.bool true) := s4
  have Ns5 : (w3.drewN nq).cell? ⟨g, 5, none⟩ = some (.bool false) := s5
  have Ns6 : (w3.drewN nq).cell? ⟨g, 6, none⟩ = some (.bool false) := s6
  have Nf0 : (w3.drewN nq).frozen? ⟨a, 0, none⟩ = false := f0
  have Nf1 : (w3.drewN nq).frozen? ⟨a, 1, none⟩ = false := f1
  have Nf2 : (w3.drewN nq).frozen? ⟨a, 2, none⟩ = false := f2
  have Nl3 : (w3.drewN nq).frozen? ⟨g, 3, none⟩ = false := l3
  have Nl5 : (w3.drewN nq).frozen? ⟨g, 5, none⟩ = false := l5
  have Nl6 : (w3.drewN nq).frozen? ⟨g, 6, none⟩ = false := l6
  have NHH : StV base (w3.drewN nq) g (some ⟨a, 0, none⟩) c B d ⟨arms, tiles, spin, waits, true, false, false⟩ := HH3.out.keep ⟨rfl, rfl, rfl, Nat.le_refl _, fun _ _ => rfl⟩
  have NHb : Below base w (w3.drewN nq) := Hbw3.out.trans ⟨rfl, rfl, rfl, Nat.le_refl _, fun _ _ => rfl⟩
  clear t0 t1 t2 t3 t4 y1 y2 s2 s3 s4 s5 s6 f0 f1 f2 l3 l5 l6 HH3 Hbw3
  obtain ⟨wq0, hwq0⟩ : ∃ wq0, wq0 = (w3.drewN nq) := ⟨_, rfl⟩
  rw [← hwq0] at Nt0 Nt1 Nt2 Nt3 Nt4 Ny1 Ny2 Ns2 Ns3 Ns4 Ns5 Ns6 Nf0 Nf1 Nf2 Nl3 Nl5 Nl6 NHH NHb ⊢
  clear hwq0
  have t0 := Nt0
  have t1 := Nt1
  have t2 := Nt2
  have t3 := Nt3
  have t4 := Nt4
  have y1 := Ny1
  have y2 := Ny2
  have s2 := Ns2
  have s3 := Ns3
  have s4 := Ns4
  have s5 := Ns5
  have s6 := Ns6
  have f0 := Nf0
  have f1 := Nf1
  have f2 := Nf2
  have l3 := Nl3
  have l5 := Nl5
  have l6 := Nl6
  have HH3 := Lib.hid NHH
  have Hbw3 := Lib.hid NHb
  clear NHH NHb Nt0 Nt1 Nt2 Nt3 Nt4 Ny1 Ny2 Ns2 Ns3 Ns4 Ns5 Ns6 Nf0 Nf1 Nf2 Nl3 Nl5 Nl6
  clear nq
  go_wp2_with fail
  refine wp_region_held_drew (S := fun w' => w'.cell? ⟨w.heap.size, 2, none⟩ = some (.int .i64 (0 : Int))) (by kernel_rfl) t2 (fun hH0 => ?_)
  refine reg_take 0 rfl (by kernel_rfl) (by kernel_rfl) (by kernel_rfl) (fun _ _ _ h => h) (by rfl) (fun w _ => by first | (go_simp; done) | (go_simp; with_reducible rfl)) (by assumption) ?_
  try simp only [Act.put, List.setIfInBounds_toArray, List.set_cons_zero, List.set_cons_succ, List.getElem_toArray, List.getElem_cons_zero]
  refine reg_take 1 rfl (by kernel_rfl) (by kernel_rfl) (by kernel_rfl) (fun _ _ _ h => h) (by rfl) (fun w _ => by first | (go_simp; done) | (go_simp; with_reducible rfl)) (by assumption) ?_
  try simp only [Act.put, List.setIfInBounds_toArray, List.set_cons_zero, List.set_cons_succ, List.getElem_toArray, List.getElem_cons_zero, List.getElem_cons_succ]
  refine reg_take 2 rfl (by kernel_rfl) (by kernel_rfl) (by kernel_rfl) (fun _ _ _ h => h) (by rfl) (fun w hSw => by (try dsimp only at hSw); first | (go_simp; done) | (go_simp; with_reducible rfl)) (by assumption) ?_
  try simp only [Act.put, List.setIfInBounds_toArray, List.set_cons_zero, List.set_cons_succ, List.getElem_toArray, List.getElem_cons_zero, List.getElem_cons_succ]
  refine reg_take 3 rfl (by kernel_rfl) (by kernel_rfl) (by kernel_rfl) (fun _ _ _ h => h) (by rfl) (fun w _ => by first | (go_simp; done) | (go_simp; with_reducible rfl)) (by assumption) ?_
  try simp only [Act.put, List.setIfInBounds_toArray, List.set_cons_zero, List.set_cons_succ, List.getElem_toArray, List.getElem_cons_zero, List.getElem_cons_succ]
  refine reg_take 4 rfl (by kernel_rfl) (by kernel_rfl) (by kernel_rfl) (fun _ _ _ h => h) (by rfl) (fun w _ => by first | (go_simp; done) | (go_simp; with_reducible rfl)) (by assumption) ?_
  try simp only [Act.put, List.setIfInBounds_toArray, List.set_cons_zero, List.set_cons_succ, List.getElem_toArray, List.getElem_cons_zero, List.getElem_cons_succ]
  refine reg_take 5 rfl (by kernel_rfl) (by kernel_rfl) (by kernel_rfl) (fun _ _ _ h => h) (by rfl) (fun w _ => by first | (go_simp; done) | (go_simp; with_reducible rfl)) (by assumption) ?_
  try simp only [Act.put, List.setIfInBounds_toArray, List.set_cons_zero, List.set_cons_succ, List.getElem_toArray, List.getElem_cons_zero, List.getElem_cons_succ]
  refine wpAnyH_ready (rs := [6]) (by kernel_rfl) (by simp) ?_
  refine AllReadyH.cons (i := 6) rfl (fun K hK => ?_) AllReadyH.nil
  go_simp
  skip
  refine hK.out _ _ (far1 hgx t2) (fun hH5 => ?_)
  clear hK K
  try simp only [Act.put, List.setIfInBounds_toArray, List.set_cons_zero, List.set_cons_succ, List.getElem_toArray, List.getElem_cons_zero, List.getElem_cons_succ]
  refine wpAnyH_done (by kernel_rfl) ?_ _
  clear hH0 hH5
  have Nt0 : ((wq0.setCell ⟨g, 5, none⟩ (.bool true)).drew).cell? ⟨w.heap.size, 0, none⟩ = some (.int .i64 x) := far1 hgx t0
  have Nt1 : ((wq0.setCell ⟨g, 5, none⟩ (.bool true)).drew).cell? ⟨w.heap.size, 1, none⟩ = some (.int .i64 y) := far1 hgx t1
  have Nt2 : ((wq0.setCell ⟨g, 5, none⟩ (.bool true)).drew).cell? ⟨w.heap.size, 2, none⟩ = some (.int .i64 (0 : Int)) := far1 hgx t2
  have Nt3 : ((wq0.setCell ⟨g, 5, none⟩ (.bool true)).drew).cell? ⟨g, 0, none⟩ = some (.slice (some ⟨a, 0, none⟩) arms.length c) := same_ne (by omega) t3
  have Nt4 : ((wq0.setCell ⟨g, 5, none⟩ (.bool true)).drew).cell? ⟨a, 0, none⟩ = some (.int .i64 ev.1) := far1 hane.symm t4
  have Ny1 : ((wq0.setCell ⟨g, 5, none⟩ (.bool true)).drew).cell? ⟨a, 1, none⟩ = some (.bool ev.2.1) := far1 hane.symm y1
  have Ny2 : ((wq0.setCell ⟨g, 5, none⟩ (.bool true)).drew).cell? ⟨a, 2, none⟩ = some (.bool ev.2.2) := far1 hane.symm y2
  have Ns2 : ((wq0.setCell ⟨g, 5, none⟩ (.bool true)).drew).cell? ⟨g, 2, none⟩ = some (.int .i64 spin) := same_ne (by omega) s2
  have Ns3 : ((wq0.setCell ⟨g, 5, none⟩ (.bool true)).drew).cell? ⟨g, 3, none⟩ = some (.int .i64 waits) := same_ne (by omega) s3
  have Ns4 : ((wq0.setCell ⟨g, 5, none⟩ (.bool true)).drew).cell? ⟨g, 4, none⟩ = some (.bool true) := same_ne (by omega) s4
  have Ns5 : ((wq0.setCell ⟨g, 5, none⟩ (.bool true)).drew).cell? ⟨g, 5, none⟩ = some (.bool true) := World.cell?_setCell_same _ _ _ s5
  have Ns6 : ((wq0.setCell ⟨g, 5, none⟩ (.bool true)).drew).cell? ⟨g, 6, none⟩ = some (.bool false) := same_ne (by omega) s6
  have Nf0 : ((wq0.setCell ⟨g, 5, none⟩ (.bool true)).drew).frozen? ⟨a, 0, none⟩ = false := (World.frozen?_setCell _ _ _ _).trans f0
  have Nf1 : ((wq0.setCell ⟨g, 5, none⟩ (.bool true)).drew).frozen? ⟨a, 1, none⟩ = false := (World.frozen?_setCell _ _ _ _).trans f1
  have Nf2 : ((wq0.setCell ⟨g, 5, none⟩ (.bool true)).drew).frozen? ⟨a, 2, none⟩ = false := (World.frozen?_setCell _ _ _ _).trans f2
  have Nl3 : ((wq0.setCell ⟨g, 5, none⟩ (.bool true)).drew).frozen? ⟨g, 3, none⟩ = false := (World.frozen?_setCell _ _ _ _).trans l3
  have Nl5 : ((wq0.setCell ⟨g, 5, none⟩ (.bool true)).drew).frozen? ⟨g, 5, none⟩ = false := (World.frozen?_setCell _ _ _ _).trans l5
  have Nl6 : ((wq0.setCell ⟨g, 5, none⟩ (.bool true)).drew).frozen? ⟨g, 6, none⟩ = false := (World.frozen?_setCell _ _ _ _).trans l6
  have NHH : StV base ((wq0.setCell ⟨g, 5, none⟩ (.bool true)).drew) g (some ⟨a, 0, none⟩) c B d ⟨arms, tiles, spin, waits, true, true, false⟩ := (HH3.out.l0_ true).drew
  have NHb : Below base w ((wq0.setCell ⟨g, 5, none⟩ (.bool true)).drew) := (Hbw3.out.setCell (p := ⟨g, 5, none⟩) hlo (.bool true)).drew
  clear t0 t1 t2 t3 t4 y1 y2 s2 s3 s4 s5 s6 f0 f1 f2 l3 l5 l6 HH3 Hbw3
  obtain ⟨wq1, hwq1⟩ : ∃ wq1, wq1 = ((wq0.setCell ⟨g, 5, none⟩ (.bool true)).drew) := ⟨_, rfl⟩
  rw [← hwq1] at Nt0 Nt1 Nt2 Nt3 Nt4 Ny1 Ny2 Ns2 Ns3 Ns4 Ns5 Ns6 Nf0 Nf1 Nf2 Nl3 Nl5 Nl6 NHH NHb ⊢
  clear hwq1
  have t0 := Nt0
  have t1 := Nt1
  have t2 := Nt2
  have t3 := Nt3
  have t4 := Nt4
  have y1 := Ny1
  have y2 := Ny2
  have s2 := Ns2
  have s3 := Ns3
  have s4 := Ns4
  have s5 := Ns5
  have s6 := Ns6
  have f0 := Nf0
  have f1 := Nf1
  have f2 := Nf2
  have l3 := Nl3
  have l5 := Nl5
  have l6 := Nl6
  have HH3 := Lib.hid NHH
  have Hbw3 := Lib.hid NHb
  clear NHH NHb Nt0 Nt1 Nt2 Nt3 Nt4 Ny1 Ny2 Ns2 Ns3 Ns4 Ns5 Ns6 Nf0 Nf1 Nf2 Nl3 Nl5 Nl6
  go_wp2_with fail
  go_quiet (fail)
  go_wp2_with fail
  refine wp_region_held_drew (S := fun w' => w'.cell? ⟨w.heap.size, 0, none⟩ = some (.int .i64 x) ∧ w'.cell? ⟨w.heap.size, 1, none⟩ = some (.int .i64 y) ∧ w'.cell? ⟨w.heap.size, 2, none⟩ = some (.int .i64 (0 : Int)) ∧ w'.cell? ⟨g, 0, none⟩ = some (.slice (some ⟨a, 0, none⟩) arms.length c)) (by kernel_rfl) ⟨t0, t1, t2, t3⟩ (fun hH0 => ?_)
  refine reg_take 0 rfl (by kernel_rfl) (by kernel_rfl) (by kernel_rfl) (fun _ _ _ h => h) (by rfl) (fun w _ => by first | (go_simp; done) | (go_simp; with_reducible rfl)) (by assumption) ?_
  try simp only [Act.put, List.setIfInBounds_toArray, List.set_cons_zero, List.set_cons_succ, List.getElem_toArray, List.getElem_cons_zero]
  refine reg_take 1 rfl (by kernel_rfl) (by kernel_rfl) (by kernel_rfl) (fun _ _ _ h => h) (by rfl) (fun w _ => by first | (go_simp; done) | (go_simp; with_reducible rfl)) (by assumption) ?_
  try simp only [Act.put, List.setIfInBounds_toArray, List.set_cons_zero, List.set_cons_succ, List.getElem_toArray, List.getElem_cons_zero, List.getElem_cons_succ]
  refine reg_take 2 rfl (by kernel_rfl) (by kernel_rfl) (by kernel_rfl) (fun _ _ _ h => h) (by rfl) (fun w _ => by first | (go_simp; done) | (go_simp; with_reducible rfl)) (by assumption) ?_
  try simp only [Act.put, List.setIfInBounds_toArray, List.set_cons_zero, List.set_cons_succ, List.getElem_toArray, List.getElem_cons_zero, List.getElem_cons_succ]
  refine reg_take 3 rfl (by kernel_rfl) (by kernel_rfl) (by kernel_rfl) (fun _ _ _ h => h) (by rfl) (fun w hSw => by (try dsimp only at hSw); first | (go_simp; done) | (go_simp; with_reducible rfl)) (by assumption) ?_
  try simp only [Act.put, List.setIfInBounds_toArray, List.set_cons_zero, List.set_cons_succ, List.getElem_toArray, List.getElem_cons_zero, List.getElem_cons_succ]
  refine reg_take 4 rfl (by kernel_rfl) (by kernel_rfl) (by kernel_rfl) (fun _ _ _ h => h) (by rfl) (fun w _ => by first | (go_simp; done) | (go_simp; with_reducible rfl)) (by assumption) ?_
  try simp only [Act.put, List.setIfInBounds_toArray, List.set_cons_zero, List.set_cons_succ, List.getElem_toArray, List.getElem_cons_zero, List.getElem_cons_succ]
  refine reg_take 5 rfl (by kernel_rfl) (by kernel_rfl) (by kernel_rfl) (fun _ _ _ h => h) (by rfl) (fun w hSw => by (try dsimp only at hSw); first | (go_simp; done) | (go_simp; with_reducible rfl)) (by assumption) ?_
  try simp only [Act.put, List.setIfInBounds_toArray, List.set_cons_zero, List.set_cons_succ, List.getElem_toArray, List.getElem_cons_zero, List.getElem_cons_succ]
  refine reg_take 6 rfl (by kernel_rfl) (by kernel_rfl) (by kernel_rfl) (fun _ _ _ h => h) (by rfl) (fun w _ => by first | (go_simp; done) | (go_simp; with_reducible rfl)) (by assumption) ?_
  try simp only [Act.put, List.setIfInBounds_toArray, List.set_cons_zero, List.set_cons_succ, List.getElem_toArray, List.getElem_cons_zero, List.getElem_cons_succ]
  refine reg_take 7 rfl (by kernel_rfl) (by kernel_rfl) (by kernel_rfl) (fun _ _ _ h => h) (by rfl) (fun w hSw => by (try dsimp only at hSw); first | (go_simp; done) | (go_simp; with_reducible rfl)) (by assumption) ?_
  try simp only [Act.put, List.setIfInBounds_toArray, List.set_cons_zero, List.set_cons_succ, List.getElem_toArray, List.getElem_cons_zero, List.getElem_cons_succ]
  refine reg_take 8 rfl (by kernel_rfl) (by kernel_rfl) (by kernel_rfl) (fun _ _ _ h => h) (by rfl) (fun w _ => by first | (go_simp; done) | (go_simp; with_reducible rfl)) (by assumption) ?_
  try simp only [Act.put, List.setIfInBounds_toArray, List.set_cons_zero, List.set_cons_succ, List.getElem_toArray, List.getElem_cons_zero, List.getElem_cons_succ]
  refine reg_take 9 rfl (by kernel_rfl) (by kernel_rfl) (by kernel_rfl) (fun _ _ _ h => h) (by rfl) (fun w _ => by first | (go_simp; done) | (go_simp; with_reducible rfl)) (by assumption) ?_
  try simp only [Act.put, List.setIfInBounds_toArray, List.set_cons_zero, List.set_cons_succ, List.getElem_toArray, List.getElem_cons_zero, List.getElem_cons_succ]
  refine reg_take 10 rfl (by kernel_rfl) (by kernel_rfl) (by kernel_rfl) (fun _ _ _ h => h) (by rfl) (fun w _ => by first | (go_simp; done) | (go_simp; with_reducible rfl)) (by assumption) ?_
  try simp only [Act.put, List.setIfInBounds_toArray, List.set_cons_zero, List.set_cons_succ, List.getElem_toArray, List.getElem_cons_zero, List.getElem_cons_succ]
  refine reg_take 11 rfl (by kernel_rfl) (by kernel_rfl) (by kernel_rfl) (fun _ _ _ h => h) (by rfl) (fun w hSw => by (try dsimp only at hSw); first | (go_simp; done) | (go_simp; with_reducible rfl)) (by assumption) ?_
  try simp only [Act.put, List.setIfInBounds_toArray, List.set_cons_zero, List.set_cons_succ, List.getElem_toArray, List.getElem_cons_zero, List.getElem_cons_succ]
  refine reg_take 12 rfl (by kernel_rfl) (by kernel_rfl) (by kernel_rfl) (fun _ _ _ h => h) (by rfl) (fun w _ => by first | (go_simp; done) | (go_simp; with_reducible rfl)) (by assumption) ?_
  try simp only [Act.put, List.setIfInBounds_toArray, List.set_cons_zero, List.set_cons_succ, List.getElem_toArray, List.getElem_cons_zero, List.getElem_cons_succ]
  refine reg_take 13 rfl (by kernel_rfl) (by kernel_rfl) (by kernel_rfl) (fun _ _ _ h => h) (by rfl) (fun w hSw => by (try dsimp only at hSw); first | (go_simp; done) | (go_simp; with_reducible rfl)) (by assumption) ?_
  try simp only [Act.put, List.setIfInBounds_toArray, List.set_cons_zero, List.set_cons_succ, List.getElem_toArray, List.getElem_cons_zero, List.getElem_cons_succ]
  refine reg_take 14 rfl (by kernel_rfl) (by kernel_rfl) (by kernel_rfl) (fun _ _ _ h => h) (by rfl) (fun w _ => by first | (go_simp; done) | (go_simp; with_reducible rfl)) (by assumption) ?_
  try simp only [Act.put, List.setIfInBounds_toArray, List.set_cons_zero, List.set_cons_succ, List.getElem_toArray, List.getElem_cons_zero, List.getElem_cons_succ]
  refine reg_take 15 rfl (by kernel_rfl) (by kernel_rfl) (by kernel_rfl) (fun _ _ _ h => h) (by rfl) (fun w _ => by first | (go_simp; done) | (go_simp; with_reducible rfl)) (by assumption) ?_
  try simp only [Act.put, List.setIfInBounds_toArray, List.set_cons_zero, List.set_cons_succ, List.getElem_toArray, List.getElem_cons_zero, List.getElem_cons_succ]
  refine reg_take 18 rfl (by kernel_rfl) (by kernel_rfl) (by kernel_rfl) (fun _ _ _ h => h) (by rfl) (fun w _ => by first | (go_simp; done) | (go_simp; with_reducible rfl)) (by assumption) ?_
  try simp only [Act.put, List.setIfInBounds_toArray, List.set_cons_zero, List.set_cons_succ, List.getElem_toArray, List.getElem_cons_zero, List.getElem_cons_succ]
  refine wpAnyH_ready (rs := [16]) (by kernel_rfl) (by simp) ?_
  refine AllReadyH.cons (i := 16) rfl (fun K hK => ?_) AllReadyH.nil
  go_simp
  skip
  refine hK.out _ _ (by assumption) (fun hH6 => ?_)
  clear hK K
  try simp only [Act.put, List.setIfInBounds_toArray, List.set_cons_zero, List.set_cons_succ, List.getElem_toArray, List.getElem_cons_zero, List.getElem_cons_succ]
  refine wpAnyH_ready (rs := [17]) (by kernel_rfl) (by simp) ?_
  refine AllReadyH.cons (i := 17) rfl (fun K hK => ?_) AllReadyH.nil
  go_simp
  go_at_call 101
  refine (ConO.out _).mono ?_
  rintro e w5 ⟨rfl, hb5⟩
  replace hb5 := bstep (a := wq1) (by exact ⟨rfl, rfl, rfl, Nat.le_refl _, fun _ _ => rfl⟩) hb5
  have k0 := keepc hb5 t0
  have k1 := keepc hb5 t1
  have k2 := keepc hb5 t2
  have k3 := keepc hb5 t3
  have k4 := keepc hb5 t4
  have m0 := (hb5.frozen (p := ⟨a, 0, none⟩) (block_lt t4)).trans f0
  have m1 := (hb5.frozen (p := ⟨a, 1, none⟩) (block_lt y1)).trans f1
  have m2 := (hb5.frozen (p := ⟨a, 2, none⟩) (block_lt y2)).trans f2
  have z1 := keepc hb5 y1
  have z2 := keepc hb5 y2
  have H5 := HH3.out.keep hb5
  have hbw5 := Hbw3.out.trans (hb5.mono (Nat.le_trans hbase Hbw3.out.size))
  refine hK.out _ _ ⟨k0, k1, k2, k3⟩ (fun hH7 => ?_)
  clear hK K
  try simp only [Act.put, List.setIfInBounds_toArray, List.set_cons_zero, List.set_cons_succ, List.getElem_toArray, List.getElem_cons_zero, List.getElem_cons_succ]
  refine reg_take 19 rfl (by kernel_rfl) (by kernel_rfl) (by kernel_rfl) (fun _ _ _ h => h) (by rfl) (fun w _ => by first | (go_simp; done) | (go_simp; with_reducible rfl)) (by assumption) ?_
  try simp only [Act.put, List.setIfInBounds_toArray, List.set_cons_zero, List.set_cons_succ, List.getElem_toArray, List.getElem_cons_zero, List.getElem_cons_succ]
  refine reg_take 20 rfl (by kernel_rfl) (by kernel_rfl) (by kernel_rfl) (fun _ _ _ h => h) (by rfl) (fun w _ => by first | (go_simp; done) | (go_simp; with_reducible rfl)) (by assumption) ?_
  try simp only [Act.put, List.setIfInBounds_toArray, List.set_cons_zero, List.set_cons_succ, List.getElem_toArray, List.getElem_cons_zero, List.getElem_cons_succ]
  refine wpAnyH_ready (rs := [21]) (by kernel_rfl) (by simp) ?_
  refine AllReadyH.cons (i := 21) rfl (fun K hK => ?_) AllReadyH.nil
  go_simp
  skip
  refine hK.out _ _ ⟨far3b hax _ _ _ _ _ _ k0, far3b hax _ _ _ _ _ _ k1, far3b hax _ _ _ _ _ _ k2, far3b hane _ _ _ _ _ _ k3⟩ (fun hH8 => ?_)
  clear hK K
  try simp only [Act.put, List.setIfInBounds_toArray, List.set_cons_zero, List.set_cons_succ, List.getElem_toArray, List.getElem_cons_zero, List.getElem_cons_succ]
  refine wpAnyH_done (by kernel_rfl) ?_ _
  have HA : StV base (((w5.setCell ⟨a, 0, none⟩ (.int .i64 r)).setCell ⟨a, 1, none⟩ (.bool (x == y))).setCell ⟨a, 2, none⟩ (.bool false)) g (some ⟨a, 0, none⟩) c B d ⟨arms.set 0 (r, (x == y), false), tiles, spin, waits, true, true, false⟩ := H5.arm_ hk (r, (x == y), false) (Hput.out (r, (x == y), false))
  have d0 : (((w5.setCell ⟨a, 0, none⟩ (.int .i64 r)).setCell ⟨a, 1, none⟩ (.bool (x == y))).setCell ⟨a, 2, none⟩ (.bool false)).cell? ⟨w.heap.size, 0, none⟩ = some (.int .i64 x) := far3b hax _ _ _ _ _ _ k0
  have d1 : (((w5.setCell ⟨a, 0, none⟩ (.int .i64 r)).setCell ⟨a, 1, none⟩ (.bool (x == y))).setCell ⟨a, 2, none⟩ (.bool false)).cell? ⟨w.heap.size, 1, none⟩ = some (.int .i64 y) := far3b hax _ _ _ _ _ _ k1
  have d2 : (((w5.setCell ⟨a, 0, none⟩ (.int .i64 r)).setCell ⟨a, 1, none⟩ (.bool (x == y))).setCell ⟨a, 2, none⟩ (.bool false)).cell? ⟨w.heap.size, 2, none⟩ = some (.int .i64 (0 : Int)) := far3b hax _ _ _ _ _ _ k2
  have hbwA : Below base w (((w5.setCell ⟨a, 0, none⟩ (.int .i64 r)).setCell ⟨a, 1, none⟩ (.bool (x == y))).setCell ⟨a, 2, none⟩ (.bool false)) := ((hbw5.setCell (p := ⟨a, 0, none⟩) hba _).setCell (p := ⟨a, 1, none⟩) hba _).setCell (p := ⟨a, 2, none⟩) hba _
  obtain ⟨v6, hv6⟩ : ∃ v6, v6 = (((w5.setCell ⟨a, 0, none⟩ (.int .i64 r)).setCell ⟨a, 1, none⟩ (.bool (x == y))).setCell ⟨a, 2, none⟩ (.bool false)) := ⟨_, rfl⟩
  rw [← hv6] at HA d0 d1 d2 hbwA ⊢
  clear hv6 k0 k1 k2 k3 k4 m0 m1 m2 z1 z2 H5 hbw5 hb5 HH3 Hbw3 t0 t1 t2 t3 t4 y1 y2 f0 f1 f2 s2 s3 s4 s5 s6 l3 l5 l6 hH0 hH8 hH7 hH6
  have e1 : v6.cell? ⟨g, 1, none⟩ = some (.slice B tiles.length d) := HA.c1
  have HHA := Lib.hid HA
  have HbwA := Lib.hid hbwA
  clear HA hbwA
  go_wp2_with fail
  refine wp_region_held_drew (S := fun w' => w'.cell? ⟨w.heap.size, 0, none⟩ = some (.int .i64 x) ∧ w'.cell? ⟨w.heap.size, 1, none⟩ = some (.int .i64 y)) (by kernel_rfl) ⟨d0, d1⟩ (fun hH0 => ?_)
  obtain ⟨v7, hv7⟩ : ∃ v7, v7 = v6.drew := ⟨_, rfl⟩
  have HB : StV base v7 g (some ⟨a, 0, none⟩) c B d _ := hv7 ▸ HHA.out.drew
  have HbwB : Below base w v7 := hv7 ▸ HbwA.out.drew
  have D0 : v7.cell? ⟨w.heap.size, 0, none⟩ = some (.int .i64 x) := hv7 ▸ d0
  have D1 : v7.cell? ⟨w.heap.size, 1, none⟩ = some (.int .i64 y) := hv7 ▸ d1
  have D2 : v7.cell? ⟨w.heap.size, 2, none⟩ = some (.int .i64 (0 : Int)) := hv7 ▸ d2
  have E1 : v7.cell? ⟨g, 1, none⟩ = some (.slice B tiles.length d) := hv7 ▸ e1
  rw [← hv7] at hH0 ⊢
  clear hv7 d0 d1 d2 e1 HHA HbwA
  have HHB := Lib.hid HB
  have HHbwB := Lib.hid HbwB
  clear HB HbwB
  refine reg_take 0 rfl (by kernel_rfl) (by kernel_rfl) (by kernel_rfl) (fun _ _ _ h => h) (by rfl) (fun w _ => by first | (go_simp; done) | (go_simp; with_reducible rfl)) (by assumption) ?_
  try simp only [Act.put, List.setIfInBounds_toArray, List.set_cons_zero, List.set_cons_succ, List.getElem_toArray, List.getElem_cons_zero]
  refine reg_take 1 rfl (by kernel_rfl) (by kernel_rfl) (by kernel_rfl) (fun _ _ _ h => h) (by rfl) (fun w _ => by first | (go_simp; done) | (go_simp; with_reducible rfl)) (by assumption) ?_
  try simp only [Act.put, List.setIfInBounds_toArray, List.set_cons_zero, List.set_cons_succ, List.getElem_toArray, List.getElem_cons_zero, List.getElem_cons_succ]
  refine reg_take 2 rfl (by kernel_rfl) (by kernel_rfl) (by kernel_rfl) (fun _ _ _ h => h) (by rfl) (fun w _ => by first | (go_simp; done) | (go_simp; with_reducible rfl)) (by assumption) ?_
  try simp only [Act.put, List.setIfInBounds_toArray, List.set_cons_zero, List.set_cons_succ, List.getElem_toArray, List.getElem_cons_zero, List.getElem_cons_succ]
  refine reg_take 3 rfl (by kernel_rfl) (by kernel_rfl) (by kernel_rfl) (fun _ _ _ h => h) (by rfl) (fun w _ => by first | (go_simp; done) | (go_simp; with_reducible rfl)) (by assumption) ?_
  try simp only [Act.put, List.setIfInBounds_toArray, List.set_cons_zero, List.set_cons_succ, List.getElem_toArray, List.getElem_cons_zero, List.getElem_cons_succ]
  refine reg_take 5 rfl (by kernel_rfl) (by kernel_rfl) (by kernel_rfl) (fun _ _ _ h => h) (by rfl) (fun w _ => by first | (go_simp; done) | (go_simp; with_reducible rfl)) (by assumption) ?_
  try simp only [Act.put, List.setIfInBounds_toArray, List.set_cons_zero, List.set_cons_succ, List.getElem_toArray, List.getElem_cons_zero, List.getElem_cons_succ]
  refine reg_take 6 rfl (by kernel_rfl) (by kernel_rfl) (by kernel_rfl) (fun _ _ _ h => h) (by rfl) (fun w hSw => by (try dsimp only at hSw); first | (go_simp; done) | (go_simp; with_reducible rfl)) (by assumption) ?_
  try simp only [Act.put, List.setIfInBounds_toArray, List.set_cons_zero, List.set_cons_succ, List.getElem_toArray, List.getElem_cons_zero, List.getElem_cons_succ]
  refine wpAnyH_ready (rs := [4, 7]) (by kernel_rfl) (by simp) ?_
  refine AllReadyH.cons (i := 4) rfl (fun K hK => ?_) (AllReadyH.cons (i := 7) rfl (fun K hK => ?_) AllReadyH.nil)
  · skip
    go_simp
    skip
    refine hK.out _ _ (by assumption) (fun hH9 => ?_)
    clear hK K
    try simp only [Act.put, List.setIfInBounds_toArray, List.set_cons_zero, List.set_cons_succ, List.getElem_toArray, List.getElem_cons_zero, List.getElem_cons_succ]
    refine wpAnyH_ready (rs := [7]) (by kernel_rfl) (by simp) ?_
    refine AllReadyH.cons (i := 7) rfl (fun K hK => ?_) AllReadyH.nil
    go_simp
    skip
    refine hK.out _ _ ⟨keepc ((Below.refl v7.heap.size v7).alloc (Nat.le_refl _) _) D0, keepc ((Below.refl v7.heap.size v7).alloc (Nat.le_refl _) _) D1⟩ (fun hH10 => ?_)
    clear hK K
    try simp only [Act.put, List.setIfInBounds_toArray, List.set_cons_zero, List.set_cons_succ, List.getElem_toArray, List.getElem_cons_zero, List.getElem_cons_succ]
    have X0 : (v7.alloc (.cells #[.int .i64 x, .int .i64 y] 30)).cell? ⟨v7.heap.size, 0, none⟩ = some (.int .i64 x) := by simp
    have X1 : (v7.alloc (.cells #[.int .i64 x, .int .i64 y] 30)).cell? ⟨v7.heap.size, 1, none⟩ = some (.int .i64 y) := by simp
    obtain ⟨v8, hv8⟩ : ∃ v8, v8 = (v7.alloc (.cells #[.int .i64 x, .int .i64 y] 30)) := ⟨_, rfl⟩
    have HC : StV base v8 g (some ⟨a, 0, none⟩) c B d _ := hv8 ▸ HHB.out.alloc _
    have hb8 : Below v7.heap.size v7 v8 := hv8 ▸ (Below.refl v7.heap.size v7).alloc (Nat.le_refl _) _
    rw [← hv8] at X0 X1 hH10 ⊢
    clear hv8
    have Y0 := keepc hb8 D0
    have Y1 := keepc hb8 D1
    have Y2 := keepc hb8 D2
    have Z1 := keepc hb8 E1
    have hb8s : base ≤ v8.heap.size := Nat.le_trans (Nat.le_trans hbase HHbwB.out.size) hb8.size
    have HHC := Lib.hid HC
    have Hb8 := Lib.hid (HHbwB.out.trans (hb8.mono (Nat.le_trans hbase HHbwB.out.size)))
    clear HC hb8
    refine wpAnyH_ready (rs := [8]) (by kernel_rfl) (by simp) ?_
    refine AllReadyH.cons (i := 8) rfl (fun K hK => ?_) AllReadyH.nil
    refine step_tileL rfl (.tmp 178) (.tmp 181) rfl base _ tiles rfl HHC.out.bo x y v7.heap.size rfl X0 X1 (by omega) hb8s ?_
    intro G c8 w8 ho8 hg8 hat8
    have J0 := World.grownBy.cell hg8 Y0 (fun e => Nat.lt_irrefl _ (Hbl.out _ e.symm))
    have J1 := World.grownBy.cell hg8 Y1 (fun e => Nat.lt_irrefl _ (Hbl.out _ e.symm))
    have J2 := World.grownBy.cell hg8 Y2 (fun e => Nat.lt_irrefl _ (Hbl.out _ e.symm))
    have J3 := World.grownBy.cell hg8 Z1 (fun e => HHC.out.bg _ e.symm rfl)
    have J4 := (hg8.frozen_far ⟨g, 1, none⟩ (block_lt Z1) (fun e => HHC.out.bg _ e.symm rfl)).trans (HHC.out.live 1)
    refine hK.out _ _ ⟨J0, J1⟩ (fun hH11 => ?_)
    clear hK K
    try simp only [Act.put, List.setIfInBounds_toArray, List.set_cons_zero, List.set_cons_succ, List.getElem_toArray, List.getElem_cons_zero, List.getElem_cons_succ]
    refine reg_take 9 rfl (by kernel_rfl) (by kernel_rfl) (by kernel_rfl) (fun _ _ _ h => h) (by rfl) (fun w _ => by first | (go_simp; done) | (go_simp; with_reducible rfl)) (by assumption) ?_
    try simp only [Act.put, List.setIfInBounds_toArray, List.set_cons_zero, List.set_cons_succ, List.getElem_toArray, List.getElem_cons_zero, List.getElem_cons_succ]
    refine reg_take 10 rfl (by kernel_rfl) (by kernel_rfl) (by kernel_rfl) (fun _ _ _ h => h) (by rfl) (fun w _ => by first | (go_simp; done) | (go_simp; with_reducible rfl)) (by assumption) ?_
    try simp only [Act.put, List.setIfInBounds_toArray, List.set_cons_zero, List.set_cons_succ, List.getElem_toArray, List.getElem_cons_zero, List.getElem_cons_succ]
    refine wpAnyH_ready (rs := [11]) (by kernel_rfl) (by simp) ?_
    refine AllReadyH.cons (i := 11) rfl (fun K hK => ?_) AllReadyH.nil
    go_simp
    skip
    refine hK.out _ _ ⟨far1 hgx J0, far1 hgx J1⟩ (fun hH12 => ?_)
    clear hK K
    try simp only [Act.put, List.setIfInBounds_toArray, List.set_cons_zero, List.set_cons_succ, List.getElem_toArray, List.getElem_cons_zero, List.getElem_cons_succ]
    refine wpAnyH_done (by kernel_rfl) ?_ _
    have HD : StV base (w8.setCell ⟨g, 1, none⟩ (.slice (some ⟨G, 0, none⟩) (tiles.length + 1) c8)) g (some ⟨a, 0, none⟩) c (some ⟨G, 0, none⟩) c8 ⟨arms.set 0 (r, (x == y), false), tiles ++ [(x, y)], spin, waits, true, true, false⟩ := HHC.out.tiles_ (x, y) hg8 ho8 (fun gx hgx8 => by have e1 : G = gx := Option.some.inj hgx8; subst e1; rcases hat8 with e2 | e2; exact .inl e2; exact .inr (Nat.le_of_eq e2.symm))
    have HbD : Below base w (w8.setCell ⟨g, 1, none⟩ (.slice (some ⟨G, 0, none⟩) (tiles.length + 1) c8)) := (Below.grown Hb8.out hg8 hb8s (fun gx hgx8 => (HHC.out.bo.lt gx hgx8).1)).setCell (p := ⟨g, 1, none⟩) hlo _
    have J2b : (w8.setCell ⟨g, 1, none⟩ (.slice (some ⟨G, 0, none⟩) (tiles.length + 1) c8)).cell? ⟨w.heap.size, 2, none⟩ = some (.int .i64 (0 : Int)) := far1 hgx J2
    have J0b : (w8.setCell ⟨g, 1, none⟩ (.slice (some ⟨G, 0, none⟩) (tiles.length + 1) c8)).cell? ⟨w.heap.size, 0, none⟩ = some (.int .i64 x) := far1 hgx J0
    obtain ⟨v9, hv9⟩ : ∃ v9, v9 = (w8.setCell ⟨g, 1, none⟩ (.slice (some ⟨G, 0, none⟩) (tiles.length + 1) c8)) := ⟨_, rfl⟩
    rw [← hv9] at HD HbD J2b J0b hH12 ⊢
    clear hv9 hH0 hH12 hH11 J0 J1 J2 J3 J4 Y0 Y1 Y2 Z1 X0 X1 ho8 hg8 hat8 HHC Hb8 HHB HHbwB D0 D1 D2 E1
    have S2 : v9.cell? ⟨g, 2, none⟩ = some (.int .i64 spin) := HD.c2
    have HHD := Lib.hid HD
    have HHbD := Lib.hid HbD
    clear HD HbD
    go_wp2
    all_goals
      go_ret
      exact ⟨rfl, ⟨_, _, _, _, HHD.out⟩, HHbD.out⟩
  · skip
    go_simp
    skip
    refine hK.out _ _ ⟨keepc ((Below.refl v7.heap.size v7).alloc (Nat.le_refl _) _) D0, keepc ((Below.refl v7.heap.size v7).alloc (Nat.le_refl _) _) D1⟩ (fun hH13 => ?_)
    clear hK K
    try simp only [Act.put, List.setIfInBounds_toArray, List.set_cons_zero, List.set_cons_succ, List.getElem_toArray, List.getElem_cons_zero, List.getElem_cons_succ]
    have X0 : (v7.alloc (.cells #[.int .i64 x, .int .i64 y] 30)).cell? ⟨v7.heap.size, 0, none⟩ = some (.int .i64 x) := by simp
    have X1 : (v7.alloc (.cells #[.int .i64 x, .int .i64 y] 30)).cell? ⟨v7.heap.size, 1, none⟩ = some (.int .i64 y) := by simp
    obtain ⟨v8, hv8⟩ : ∃ v8, v8 = (v7.alloc (.cells #[.int .i64 x, .int .i64 y] 30)) := ⟨_, rfl⟩
    have HC : StV base v8 g (some ⟨a, 0, none⟩) c B d _ := hv8 ▸ HHB.out.alloc _
    have hb8 : Below v7.heap.size v7 v8 := hv8 ▸ (Below.refl v7.heap.size v7).alloc (Nat.le_refl _) _
    rw [← hv8] at X0 X1 hH13 ⊢
    clear hv8
    have Y0 := keepc hb8 D0
    have Y1 := keepc hb8 D1
    have Y2 := keepc hb8 D2
    have Z1 := keepc hb8 E1
    have hb8s : base ≤ v8.heap.size := Nat.le_trans (Nat.le_trans hbase HHbwB.out.size) hb8.size
    have HHC := Lib.hid HC
    have Hb8 := Lib.hid (HHbwB.out.trans (hb8.mono (Nat.le_trans hbase HHbwB.out.size)))
    clear HC hb8
    refine wpAnyH_ready (rs := [4]) (by kernel_rfl) (by simp) ?_
    refine AllReadyH.cons (i := 4) rfl (fun K hK => ?_) AllReadyH.nil
    go_simp
    skip
    refine hK.out _ _ (by assumption) (fun hH14 => ?_)
    clear hK K
    try simp only [Act.put, List.setIfInBounds_toArray, List.set_cons_zero, List.set_cons_succ, List.getElem_toArray, List.getElem_cons_zero, List.getElem_cons_succ]
    refine wpAnyH_ready (rs := [8]) (by kernel_rfl) (by simp) ?_
    refine AllReadyH.cons (i := 8) rfl (fun K hK => ?_) AllReadyH.nil
    refine step_tileL rfl (.tmp 178) (.tmp 181) rfl base _ tiles rfl HHC.out.bo x y v7.heap.size rfl X0 X1 (by omega) hb8s ?_
    intro G c8 w8 ho8 hg8 hat8
    have J0 := World.grownBy.cell hg8 Y0 (fun e => Nat.lt_irrefl _ (Hbl.out _ e.symm))
    have J1 := World.grownBy.cell hg8 Y1 (fun e => Nat.lt_irrefl _ (Hbl.out _ e.symm))
    have J2 := World.grownBy.cell hg8 Y2 (fun e => Nat.lt_irrefl _ (Hbl.out _ e.symm))
    have J3 := World.grownBy.cell hg8 Z1 (fun e => HHC.out.bg _ e.symm rfl)
    have J4 := (hg8.frozen_far ⟨g, 1, none⟩ (block_lt Z1) (fun e => HHC.out.bg _ e.symm rfl)).trans (HHC.out.live 1)
    refine hK.out _ _ ⟨J0, J1⟩ (fun hH15 => ?_)
    clear hK K
    try simp only [Act.put, List.setIfInBounds_toArray, List.set_cons_zero, List.set_cons_succ, List.getElem_toArray, List.getElem_cons_zero, List.getElem_cons_succ]
    refine reg_take 9 rfl (by kernel_rfl) (by kernel_rfl) (by kernel_rfl) (fun _ _ _ h => h) (by rfl) (fun w _ => by first | (go_simp; done) | (go_simp; with_reducible rfl)) (by assumption) ?_
    try simp only [Act.put, List.setIfInBounds_toArray, List.set_cons_zero, List.set_cons_succ, List.getElem_toArray, List.getElem_cons_zero, List.getElem_cons_succ]
    refine reg_take 10 rfl (by kernel_rfl) (by kernel_rfl) (by kernel_rfl) (fun _ _ _ h => h) (by rfl) (fun w _ => by first | (go_simp; done) | (go_simp; with_reducible rfl)) (by assumption) ?_
    try simp only [Act.put, List.setIfInBounds_toArray, List.set_cons_zero, List.set_cons_succ, List.getElem_toArray, List.getElem_cons_zero, List.getElem_cons_succ]
    refine wpAnyH_ready (rs := [11]) (by kernel_rfl) (by simp) ?_
    refine AllReadyH.cons (i := 11) rfl (fun K hK => ?_) AllReadyH.nil
    go_simp
    skip
    refine hK.out _ _ ⟨far1 hgx J0, far1 hgx J1⟩ (fun hH16 => ?_)
    clear hK K
    try simp only [Act.put, List.setIfInBounds_toArray, List.set_cons_zero, List.set_cons_succ, List.getElem_toArray, List.getElem_cons_zero, List.getElem_cons_succ]
    refine wpAnyH_done (by kernel_rfl) ?_ _
    have HD : StV base (w8.setCell ⟨g, 1, none⟩ (.slice (some ⟨G, 0, none⟩) (tiles.length + 1) c8)) g (some ⟨a, 0, none⟩) c (some ⟨G, 0, none⟩) c8 ⟨arms.set 0 (r, (x == y), false), tiles ++ [(x, y)], spin, waits, true, true, false⟩ := HHC.out.tiles_ (x, y) hg8 ho8 (fun gx hgx8 => by have e1 : G = gx := Option.some.inj hgx8; subst e1; rcases hat8 with e2 | e2; exact .inl e2; exact .inr (Nat.le_of_eq e2.symm))
    have HbD : Below base w (w8.setCell ⟨g, 1, none⟩ (.slice (some ⟨G, 0, none⟩) (tiles.length + 1) c8)) := (Below.grown Hb8.out hg8 hb8s (fun gx hgx8 => (HHC.out.bo.lt gx hgx8).1)).setCell (p := ⟨g, 1, none⟩) hlo _
    have J2b : (w8.setCell ⟨g, 1, none⟩ (.slice (some ⟨G, 0, none⟩) (tiles.length + 1) c8)).cell? ⟨w.heap.size, 2, none⟩ = some (.int .i64 (0 : Int)) := far1 hgx J2
    have J0b : (w8.setCell ⟨g, 1, none⟩ (.slice (some ⟨G, 0, none⟩) (tiles.length + 1) c8)).cell? ⟨w.heap.size, 0, none⟩ = some (.int .i64 x) := far1 hgx J0
    obtain ⟨v9, hv9⟩ : ∃ v9, v9 = (w8.setCell ⟨g, 1, none⟩ (.slice (some ⟨G, 0, none⟩) (tiles.length + 1) c8)) := ⟨_, rfl⟩
    rw [← hv9] at HD HbD J2b J0b hH16 ⊢
    clear hv9 hH0 hH16 hH15 J0 J1 J2 J3 J4 Y0 Y1 Y2 Z1 X0 X1 ho8 hg8 hat8 HHC Hb8 HHB HHbwB D0 D1 D2 E1
    have S2 : v9.cell? ⟨g, 2, none⟩ = some (.int .i64 spin) := HD.c2
    have HHD := Lib.hid HD
    have HHbD := Lib.hid HbD
    clear HD HbD
    go_wp2
    all_goals
      go_ret
      exact ⟨rfl, ⟨_, _, _, _, HHD.out⟩, HHbD.out⟩

set_option maxRecDepth 100000 in
set_option maxHeartbeats 4000000 in
theorem c_add_L0y (base g a c d : Nat) (B : Option Addr) (arms : List (Int × Bool × Bool)) (tiles : List (Int × Int)) (spin waits : Int) (x y r : Int) (w : World)
    (h : StV base w g (some ⟨a, 0, none⟩) c B d ⟨arms, tiles, spin, waits, true, false, true⟩) (hg : goodB x y = true) (hin : placeI tiles (x, y) < 0) (h28 : tiles.length < 28) (h0 : tiles.length ≠ 0) (hk : 0 < arms.length) (h4 : arms.length ≤ 4)
    (ho : othS (x, y, (0 : Int)) arms[0].1 = r) (hr0 : 0 ≤ r) (hw : (waits == (0 : Int)) = false) (hs : 0 ≤ spin) :
    Calls Try.prog 57 #[.pointer (some ⟨g, 0, none⟩), .agg #[.int .i64 x, .int .i64 y, .int .i64 (0 : Int)]] w fun e w' => e = .returned (.bool true) ∧ StAt base w' g ⟨(arms.set 0 (r, (x == y), false) ++ [(spin, false, true), (spin, false, true)]), tiles ++ [(x, y)], spin, waits, true, true, true⟩ ∧ Below base w w' := by
  have hgl := h.lt
  have hbase : base ≤ w.heap.size := Nat.le_trans h.lo (Nat.le_of_lt hgl)
  have conT := fun W => c_tiGood x y W
  rw [hg] at conT
  have ConT := Lib.hid conT
  have conP := Lib.hid (fun W (hb : Below w.heap.size w W) => c_tiPlace B d tiles x y W (RdT.of_own (own_keep h.bo hb)) (by omega))
  obtain ⟨pl, hpl⟩ : ∃ pl, placeI tiles (x, y) = pl := ⟨_, rfl⟩
  rw [hpl] at conP hin
  have hpn : decide (0 ≤ pl) = false := decide_eq_false (by omega)
  have hrn : decide (r < 0) = false := decide_eq_false (by omega)
  have q28d : decide ((28 : Int) ≤ (tiles.length : Int)) = false := decide_eq_false (by omega)
  have conI := Lib.hid (fun W => (c_l1In (0 : Int) 0 ((arms.length : Int) - 1) W).mono (R' := fun e w' => e = .returned (.bool true) ∧ W = w') (fun e w' hh => by rw [decide_eq_true (by omega : (0 : Int) ≤ (0 : Int)), decide_eq_true (by omega : (0 : Int) ≤ (arms.length : Int) - 1)] at hh; exact hh))
  obtain ⟨ev, hev⟩ : ∃ ev, ev = arms[0] := ⟨_, rfl⟩
  rw [← hev] at ho
  have conO := fun W => c_haOtherS x y (0 : Int) ev.1 W
  rw [ho] at conO
  have ConO := Lib.hid conO
  have i0 : (0 : Int) ≤ (0 : Int) := by omega
  have i1 : (0 : Int) < (arms.length : Int) := by omega
  have q0 : ((tiles.length : Int) == 0) = false := beq_eq_false_iff_ne.2 (by omega)
  have iw1 : IntKind.i64.wrap ((arms.length : Int) - 1) = (arms.length : Int) - 1 := IntWalk.i64_in _ (by omega)
  have q28 : ¬ (28 : Int) ≤ (tiles.length : Int) := by omega
  have hcg := cellsA_get arms 0 hk
  rw [← hev] at hcg
  clear hev
  have hlo : base ≤ g := h.lo
  have hba : base ≤ a := (h.ao.lt a rfl).1
  have hane : a ≠ g := h.ag a rfl
  have hal := (h.ao.lt a rfl).2
  have hbp : Below w.heap.size w (w.alloc (.cells #[.int .i64 x, .int .i64 y, .int .i64 (0 : Int)] 32)) := (Below.refl _ _).alloc (Nat.le_refl _) _
  have p0 : (w.alloc (.cells #[.int .i64 x, .int .i64 y, .int .i64 (0 : Int)] 32)).cell? ⟨w.heap.size, 0, none⟩ = some (.int .i64 x) := by simp
  have p1 : (w.alloc (.cells #[.int .i64 x, .int .i64 y, .int .i64 (0 : Int)] 32)).cell? ⟨w.heap.size, 1, none⟩ = some (.int .i64 y) := by simp
  have p2 : (w.alloc (.cells #[.int .i64 x, .int .i64 y, .int .i64 (0 : Int)] 32)).cell? ⟨w.heap.size, 2, none⟩ = some (.int .i64 (0 : Int)) := by simp
  have g1 : (w.alloc (.cells #[.int .i64 x, .int .i64 y, .int .i64 (0 : Int)] 32)).cell? ⟨g, 1, none⟩ = some (.slice B tiles.length d) := keepc hbp h.c1
  have H := Lib.hid h
  have Hput := Lib.hid (cellsA_put hk)
  have Hcg := Lib.hid hcg
  clear h ho hg hin hpl conT conO hcg
  go_enter Try.func57, Try.ntmps57
  go_wp2_with fail
  refine wp_region_held_drew (S := fun w' => w'.cell? ⟨w.heap.size, 0, none⟩ = some (.int .i64 x) ∧ w'.cell? ⟨w.heap.size, 1, none⟩ = some (.int .i64 y) ∧ w'.cell? ⟨g, 1, none⟩ = some (.slice B tiles.length d)) (by kernel_rfl) ⟨p0, p1, g1⟩ (fun hH0 => ?_)
  refine reg_take 0 rfl (by kernel_rfl) (by kernel_rfl) (by kernel_rfl) (fun _ _ _ h => h) (by rfl) (fun w _ => by first | (go_simp; done) | (go_simp; with_reducible rfl)) (by assumption) ?_
  try simp only [Act.put, List.setIfInBounds_toArray, List.set_cons_zero, List.set_cons_succ, List.getElem_toArray, List.getElem_cons_zero]
  refine reg_take 1 rfl (by kernel_rfl) (by kernel_rfl) (by kernel_rfl) (fun _ _ _ h => h) (by rfl) (fun w hSw => by (try dsimp only at hSw); first | (go_simp; done) | (go_simp; with_reducible rfl)) (by assumption) ?_
  try simp only [Act.put, List.setIfInBounds_toArray, List.set_cons_zero, List.set_cons_succ, List.getElem_toArray, List.getElem_cons_zero, List.getElem_cons_succ]
  refine wpAnyH_ready (rs := [2]) (by kernel_rfl) (by simp) ?_
  refine AllReadyH.cons (i := 2) rfl (fun K hK => ?_) AllReadyH.nil
  go_simp
  go_at_call 99
  refine (ConT.out _).mono ?_
  rintro e w1 ⟨rfl, hb1⟩
  have hbw1 := bstep hbp.drew hb1
  have t0 := keepc hb1 p0
  have t1 := keepc hb1 p1
  have t2 := keepc hb1 g1
  refine hK.out _ _ ⟨t0, t1, t2⟩ (fun hH1 => ?_)
  clear hK K
  try simp only [Act.put, List.setIfInBounds_toArray, List.set_cons_zero, List.set_cons_succ, List.getElem_toArray, List.getElem_cons_zero, List.getElem_cons_succ]
  refine reg_take 3 rfl (by kernel_rfl) (by kernel_rfl) (by kernel_rfl) (fun _ _ _ h => h) (by rfl) (fun w _ => by first | (go_simp; done) | (go_simp; with_reducible rfl)) (by assumption) ?_
  try simp only [Act.put, List.setIfInBounds_toArray, List.set_cons_zero, List.set_cons_succ, List.getElem_toArray, List.getElem_cons_zero, List.getElem_cons_succ]
  refine reg_take 4 rfl (by kernel_rfl) (by kernel_rfl) (by kernel_rfl) (fun _ _ _ h => h) (by rfl) (fun w _ => by first | (go_simp; done) | (go_simp; with_reducible rfl)) (by assumption) ?_
  try simp only [Act.put, List.setIfInBounds_toArray, List.set_cons_zero, List.set_cons_succ, List.getElem_toArray, List.getElem_cons_zero, List.getElem_cons_succ]
  refine reg_take 5 rfl (by kernel_rfl) (by kernel_rfl) (by kernel_rfl) (fun _ _ _ h => h) (by rfl) (fun w _ => by first | (go_simp; done) | (go_simp; with_reducible rfl)) (by assumption) ?_
  try simp only [Act.put, List.setIfInBounds_toArray, List.set_cons_zero, List.set_cons_succ, List.getElem_toArray, List.getElem_cons_zero, List.getElem_cons_succ]
  refine reg_take 6 rfl (by kernel_rfl) (by kernel_rfl) (by kernel_rfl) (fun _ _ _ h => h) (by rfl) (fun w _ => by first | (go_simp; done) | (go_simp; with_reducible rfl)) (by assumption) ?_
  try simp only [Act.put, List.setIfInBounds_toArray, List.set_cons_zero, List.set_cons_succ, List.getElem_toArray, List.getElem_cons_zero, List.getElem_cons_succ]
  refine reg_take 7 rfl (by kernel_rfl) (by kernel_rfl) (by kernel_rfl) (fun _ _ _ h => h) (by rfl) (fun w _ => by first | (go_simp; done) | (go_simp; with_reducible rfl)) (by assumption) ?_
  try simp only [Act.put, List.setIfInBounds_toArray, List.set_cons_zero, List.set_cons_succ, List.getElem_toArray, List.getElem_cons_zero, List.getElem_cons_succ]
  refine reg_take 8 rfl (by kernel_rfl) (by kernel_rfl) (by kernel_rfl) (fun _ _ _ h => h) (by rfl) (fun w hSw => by (try dsimp only at hSw); first | (go_simp; done) | (go_simp; with_reducible rfl)) (by assumption) ?_
  try simp only [Act.put, List.setIfInBounds_toArray, List.set_cons_zero, List.set_cons_succ, List.getElem_toArray, List.getElem_cons_zero, List.getElem_cons_succ]
  refine reg_take 9 rfl (by kernel_rfl) (by kernel_rfl) (by kernel_rfl) (fun _ _ _ h => h) (by rfl) (fun w _ => by first | (go_simp; done) | (go_simp; with_reducible rfl)) (by assumption) ?_
  try simp only [Act.put, List.setIfInBounds_toArray, List.set_cons_zero, List.set_cons_succ, List.getElem_toArray, List.getElem_cons_zero, List.getElem_cons_succ]
  refine reg_take 10 rfl (by kernel_rfl) (by kernel_rfl) (by kernel_rfl) (fun _ _ _ h => h) (by rfl) (fun w hSw => by (try dsimp only at hSw); first | (go_simp; done) | (go_simp; with_reducible rfl)) (by assumption) ?_
  try simp only [Act.put, List.setIfInBounds_toArray, List.set_cons_zero, List.set_cons_succ, List.getElem_toArray, List.getElem_cons_zero, List.getElem_cons_succ]
  refine wpAnyH_ready (rs := [11]) (by kernel_rfl) (by simp) ?_
  refine AllReadyH.cons (i := 11) rfl (fun K hK => ?_) AllReadyH.nil
  go_simp
  go_at_call 100
  refine (conP.out _ hbw1).mono ?_
  rintro e w2 ⟨rfl, hb2⟩
  have u0 := keepc hb2 t0
  have u1 := keepc hb2 t1
  have u2 := keepc hb2 t2
  refine hK.out _ _ ⟨u0, u1, u2⟩ (fun hH2 => ?_)
  clear hK K
  try simp only [Act.put, List.setIfInBounds_toArray, List.set_cons_zero, List.set_cons_succ, List.getElem_toArray, List.getElem_cons_zero, List.getElem_cons_succ]
  refine reg_take 12 rfl (by kernel_rfl) (by kernel_rfl) (by kernel_rfl) (fun _ _ _ h => h) (by rfl) (fun w _ => by first | (go_simp; done) | (go_simp; with_reducible rfl)) (by assumption) ?_
  try simp only [Act.put, List.setIfInBounds_toArray, List.set_cons_zero, List.set_cons_succ, List.getElem_toArray, List.getElem_cons_zero, List.getElem_cons_succ]
  refine reg_take 13 rfl (by kernel_rfl) (by kernel_rfl) (by kernel_rfl) (fun _ _ _ h => h) (by rfl) (fun w _ => by first | (go_simp; done) | (go_simp; with_reducible rfl)) (by assumption) ?_
  try simp only [Act.put, List.setIfInBounds_toArray, List.set_cons_zero, List.set_cons_succ, List.getElem_toArray, List.getElem_cons_zero, List.getElem_cons_succ]
  refine reg_take 14 rfl (by kernel_rfl) (by kernel_rfl) (by kernel_rfl) (fun _ _ _ h => h) (by rfl) (fun w _ => by first | (go_simp; done) | (go_simp; with_reducible rfl)) (by assumption) ?_
  try simp only [Act.put, List.setIfInBounds_toArray, List.set_cons_zero, List.set_cons_succ, List.getElem_toArray, List.getElem_cons_zero, List.getElem_cons_succ]
  refine reg_take 15 rfl (by kernel_rfl) (by kernel_rfl) (by kernel_rfl) (fun _ _ _ h => h) (by rfl) (fun w _ => by first | (go_simp; done) | (go_simp; with_reducible rfl)) (by assumption) ?_
  try simp only [Act.put, List.setIfInBounds_toArray, List.set_cons_zero, List.set_cons_succ, List.getElem_toArray, List.getElem_cons_zero, List.getElem_cons_succ]
  refine reg_take 16 rfl (by kernel_rfl) (by kernel_rfl) (by kernel_rfl) (fun _ _ _ h => h) (by rfl) (fun w _ => by first | (go_simp; done) | (go_simp; with_reducible rfl)) (by assumption) ?_
  try simp only [Act.put, List.setIfInBounds_toArray, List.set_cons_zero, List.set_cons_succ, List.getElem_toArray, List.getElem_cons_zero, List.getElem_cons_succ]
  refine reg_take 17 rfl (by kernel_rfl) (by kernel_rfl) (by kernel_rfl) (fun _ _ _ h => h) (by rfl) (fun w _ => by first | (go_simp; done) | (go_simp; with_reducible rfl)) (by assumption) ?_
  try simp only [Act.put, List.setIfInBounds_toArray, List.set_cons_zero, List.set_cons_succ, List.getElem_toArray, List.getElem_cons_zero, List.getElem_cons_succ]
  refine reg_take 18 rfl (by kernel_rfl) (by kernel_rfl) (by kernel_rfl) (fun _ _ _ h => h) (by rfl) (fun w hSw => by (try dsimp only at hSw); first | (go_simp; done) | (go_simp; with_reducible rfl)) (by assumption) ?_
  try simp only [Act.put, List.setIfInBounds_toArray, List.set_cons_zero, List.set_cons_succ, List.getElem_toArray, List.getElem_cons_zero, List.getElem_cons_succ]
  refine reg_take 19 rfl (by kernel_rfl) (by kernel_rfl) (by kernel_rfl) (fun _ _ _ h => h) (by rfl) (fun w _ => by first | (go_simp; done) | (go_simp; with_reducible rfl)) (by assumption) ?_
  try simp only [Act.put, List.setIfInBounds_toArray, List.set_cons_zero, List.set_cons_succ, List.getElem_toArray, List.getElem_cons_zero, List.getElem_cons_succ]
  refine reg_take 20 rfl (by kernel_rfl) (by kernel_rfl) (by kernel_rfl) (fun _ _ _ h => h) (by rfl) (fun w _ => by first | (go_simp; done) | (go_simp; with_reducible rfl)) (by assumption) ?_
  try simp only [Act.put, List.setIfInBounds_toArray, List.set_cons_zero, List.set_cons_succ, List.getElem_toArray, List.getElem_cons_zero, List.getElem_cons_succ]
  refine reg_take 21 rfl (by kernel_rfl) (by kernel_rfl) (by kernel_rfl) (fun _ _ _ h => h) (by rfl) (fun w _ => by first | (go_simp; done) | (go_simp; with_reducible rfl)) (by assumption) ?_
  try simp only [Act.put, List.setIfInBounds_toArray, List.set_cons_zero, List.set_cons_succ, List.getElem_toArray, List.getElem_cons_zero, List.getElem_cons_succ]
  refine wpAnyH_done (by kernel_rfl) ?_ _
  have hbw2 := bstep hbw1 hb2
  have v2 := keepc hb2 (keepc hb1 p2)
  have H2 := H.out.keep hbw2
  clear hH0 hH1 hH2 t0 t1 t2 u2 p0 p1 p2 g1 hb1 hb2 hbw1
  have c0 : w2.cell? ⟨g, 0, none⟩ = some (.slice (some ⟨a, 0, none⟩) arms.length c) := H2.c0
  have c1 : w2.cell? ⟨g, 1, none⟩ = some (.slice B tiles.length d) := H2.c1
  have ce : w2.cell? ⟨a, 0, none⟩ = some (.int .i64 ev.1) := (H2.ao.cellAt (0 * 3) (by show 0 * 3 < arms.length * 3; omega)).trans Hcg.out.1
  have HH2 := Lib.hid H2
  have hz2 := block_lt u0
  clear H2
  go_wp2_with fail
  refine wp_region_held_drew (S := fun w' => w'.cell? ⟨w.heap.size, 0, none⟩ = some (.int .i64 x) ∧ w'.cell? ⟨w.heap.size, 1, none⟩ = some (.int .i64 y) ∧ w'.cell? ⟨w.heap.size, 2, none⟩ = some (.int .i64 (0 : Int)) ∧ w'.cell? ⟨g, 0, none⟩ = some (.slice (some ⟨a, 0, none⟩) arms.length c) ∧ w'.cell? ⟨a, 0, none⟩ = some (.int .i64 ev.1)) (by kernel_rfl) ⟨u0, u1, v2, c0, ce⟩ (fun hH0 => ?_)
  refine reg_take 0 rfl (by kernel_rfl) (by kernel_rfl) (by kernel_rfl) (fun _ _ _ h => h) (by rfl) (fun w _ => by first | (go_simp; done) | (go_simp; with_reducible rfl)) (by assumption) ?_
  try simp only [Act.put, List.setIfInBounds_toArray, List.set_cons_zero, List.set_cons_succ, List.getElem_toArray, List.getElem_cons_zero]
  refine reg_take 1 rfl (by kernel_rfl) (by kernel_rfl) (by kernel_rfl) (fun _ _ _ h => h) (by rfl) (fun w hSw => by (try dsimp only at hSw); first | (go_simp; done) | (go_simp; with_reducible rfl)) (by assumption) ?_
  try simp only [Act.put, List.setIfInBounds_toArray, List.set_cons_zero, List.set_cons_succ, List.getElem_toArray, List.getElem_cons_zero, List.getElem_cons_succ]
  refine reg_take 2 rfl (by kernel_rfl) (by kernel_rfl) (by kernel_rfl) (fun _ _ _ h => h) (by rfl) (fun w _ => by first | (go_simp; done) | (go_simp; with_reducible rfl)) (by assumption) ?_
  try simp only [Act.put, List.setIfInBounds_toArray, List.set_cons_zero, List.set_cons_succ, List.getElem_toArray, List.getElem_cons_zero, List.getElem_cons_succ]
  refine reg_take 3 rfl (by kernel_rfl) (by kernel_rfl) (by kernel_rfl) (fun _ _ _ h => h) (by rfl) (fun w _ => by first | (go_simp; done) | (go_simp; with_reducible rfl)) (by assumption) ?_
  try simp only [Act.put, List.setIfInBounds_toArray, List.set_cons_zero, List.set_cons_succ, List.getElem_toArray, List.getElem_cons_zero, List.getElem_cons_succ]
  refine reg_take 4 rfl (by kernel_rfl) (by kernel_rfl) (by kernel_rfl) (fun _ _ _ h => h) (by rfl) (fun w _ => by first | (go_simp; done) | (go_simp; with_reducible rfl)) (by assumption) ?_
  try simp only [Act.put, List.setIfInBounds_toArray, List.set_cons_zero, List.set_cons_succ, List.getElem_toArray, List.getElem_cons_zero, List.getElem_cons_succ]
  refine reg_take 5 rfl (by kernel_rfl) (by kernel_rfl) (by kernel_rfl) (fun _ _ _ h => h) (by rfl) (fun w hSw => by (try dsimp only at hSw); first | (go_simp; done) | (go_simp; with_reducible rfl)) (by assumption) ?_
  try simp only [Act.put, List.setIfInBounds_toArray, List.set_cons_zero, List.set_cons_succ, List.getElem_toArray, List.getElem_cons_zero, List.getElem_cons_succ]
  refine reg_take 6 rfl (by kernel_rfl) (by kernel_rfl) (by kernel_rfl) (fun _ _ _ h => h) (by rfl) (fun w _ => by first | (go_simp; done) | (go_simp; with_reducible rfl)) (by assumption) ?_
  try simp only [Act.put, List.setIfInBounds_toArray, List.set_cons_zero, List.set_cons_succ, List.getElem_toArray, List.getElem_cons_zero, List.getElem_cons_succ]
  refine reg_take 7 rfl (by kernel_rfl) (by kernel_rfl) (by kernel_rfl) (fun _ _ _ h => h) (by rfl) (fun w _ => by first | (go_simp; done) | (go_simp; with_reducible rfl)) (by assumption) ?_
  try simp only [Act.put, List.setIfInBounds_toArray, List.set_cons_zero, List.set_cons_succ, List.getElem_toArray, List.getElem_cons_zero, List.getElem_cons_succ]
  refine wpAnyH_ready (rs := [8]) (by kernel_rfl) (by simp) ?_
  refine AllReadyH.cons (i := 8) rfl (fun K hK => ?_) AllReadyH.nil
  go_simp
  go_at_call 50
  refine (conI.out _).mono ?_
  rintro e w9 ⟨rfl, rfl⟩
  refine hK.out _ _ (by assumption) (fun hH3 => ?_)
  clear hK K
  try simp only [Act.put, List.setIfInBounds_toArray, List.set_cons_zero, List.set_cons_succ, List.getElem_toArray, List.getElem_cons_zero, List.getElem_cons_succ]
  refine reg_take 9 rfl (by kernel_rfl) (by kernel_rfl) (by kernel_rfl) (fun _ _ _ h => h) (by rfl) (fun w _ => by first | (go_simp; done) | (go_simp; with_reducible rfl)) (by assumption) ?_
  try simp only [Act.put, List.setIfInBounds_toArray, List.set_cons_zero, List.set_cons_succ, List.getElem_toArray, List.getElem_cons_zero, List.getElem_cons_succ]
  refine reg_take 10 rfl (by kernel_rfl) (by kernel_rfl) (by kernel_rfl) (fun _ _ _ h => h) (by rfl) (fun w _ => by first | (go_simp; done) | (go_simp; with_reducible rfl)) (by assumption) ?_
  try simp only [Act.put, List.setIfInBounds_toArray, List.set_cons_zero, List.set_cons_succ, List.getElem_toArray, List.getElem_cons_zero, List.getElem_cons_succ]
  refine reg_take 11 rfl (by kernel_rfl) (by kernel_rfl) (by kernel_rfl) (fun _ _ _ h => h) (by rfl) (fun w _ => by first | (go_simp; done) | (go_simp; with_reducible rfl)) (by assumption) ?_
  try simp only [Act.put, List.setIfInBounds_toArray, List.set_cons_zero, List.set_cons_succ, List.getElem_toArray, List.getElem_cons_zero, List.getElem_cons_succ]
  refine reg_take 12 rfl (by kernel_rfl) (by kernel_rfl) (by kernel_rfl) (fun _ _ _ h => h) (by rfl) (fun w hSw => by (try dsimp only at hSw); first | (go_simp; done) | (go_simp; with_reducible rfl)) (by assumption) ?_
  try simp only [Act.put, List.setIfInBounds_toArray, List.set_cons_zero, List.set_cons_succ, List.getElem_toArray, List.getElem_cons_zero, List.getElem_cons_succ]
  refine reg_take 13 rfl (by kernel_rfl) (by kernel_rfl) (by kernel_rfl) (fun _ _ _ h => h) (by rfl) (fun w _ => by first | (go_simp; done) | (go_simp; with_reducible rfl)) (by assumption) ?_
  try simp only [Act.put, List.setIfInBounds_toArray, List.set_cons_zero, List.set_cons_succ, List.getElem_toArray, List.getElem_cons_zero, List.getElem_cons_succ]
  refine reg_take 14 rfl (by kernel_rfl) (by kernel_rfl) (by kernel_rfl) (fun _ _ _ h => h) (by rfl) (fun w _ => by first | (go_simp; done) | (go_simp; with_reducible rfl)) (by assumption) ?_
  try simp only [Act.put, List.setIfInBounds_toArray, List.set_cons_zero, List.set_cons_succ, List.getElem_toArray, List.getElem_cons_zero, List.getElem_cons_succ]
  refine reg_take 15 rfl (by kernel_rfl) (by kernel_rfl) (by kernel_rfl) (fun _ _ _ h => h) (by rfl) (fun w _ => by first | (go_simp; done) | (go_simp; with_reducible rfl)) (by assumption) ?_
  try simp only [Act.put, List.setIfInBounds_toArray, List.set_cons_zero, List.set_cons_succ, List.getElem_toArray, List.getElem_cons_zero, List.getElem_cons_succ]
  refine reg_take 16 rfl (by kernel_rfl) (by kernel_rfl) (by kernel_rfl) (fun _ _ _ h => h) (by rfl) (fun w hSw => by (try dsimp only at hSw); first | (go_simp; done) | (go_simp; with_reducible rfl)) (by assumption) ?_
  try simp only [Act.put, List.setIfInBounds_toArray, List.set_cons_zero, List.set_cons_succ, List.getElem_toArray, List.getElem_cons_zero, List.getElem_cons_succ]
  refine reg_take 17 rfl (by kernel_rfl) (by kernel_rfl) (by kernel_rfl) (fun _ _ _ h => h) (by rfl) (fun w _ => by first | (go_simp; done) | (go_simp; with_reducible rfl)) (by assumption) ?_
  try simp only [Act.put, List.setIfInBounds_toArray, List.set_cons_zero, List.set_cons_succ, List.getElem_toArray, List.getElem_cons_zero, List.getElem_cons_succ]
  refine reg_take 18 rfl (by kernel_rfl) (by kernel_rfl) (by kernel_rfl) (fun _ _ _ h => h) (by rfl) (fun w hSw => by (try dsimp only at hSw); first | (go_simp; done) | (go_simp; with_reducible rfl)) (by assumption) ?_
  try simp only [Act.put, List.setIfInBounds_toArray, List.set_cons_zero, List.set_cons_succ, List.getElem_toArray, List.getElem_cons_zero, List.getElem_cons_succ]
  refine reg_take 19 rfl (by kernel_rfl) (by kernel_rfl) (by kernel_rfl) (fun _ _ _ h => h) (by rfl) (fun w _ => by first | (go_simp; done) | (go_simp; with_reducible rfl)) (by assumption) ?_
  try simp only [Act.put, List.setIfInBounds_toArray, List.set_cons_zero, List.set_cons_succ, List.getElem_toArray, List.getElem_cons_zero, List.getElem_cons_succ]
  refine reg_take 20 rfl (by kernel_rfl) (by kernel_rfl) (by kernel_rfl) (fun _ _ _ h => h) (by rfl) (fun w _ => by first | (go_simp; done) | (go_simp; with_reducible rfl)) (by assumption) ?_
  try simp only [Act.put, List.setIfInBounds_toArray, List.set_cons_zero, List.set_cons_succ, List.getElem_toArray, List.getElem_cons_zero, List.getElem_cons_succ]
  refine reg_take 21 rfl (by kernel_rfl) (by kernel_rfl) (by kernel_rfl) (fun _ _ _ h => h) (by rfl) (fun w hSw => by (try dsimp only at hSw); first | (go_simp; done) | (go_simp; with_reducible rfl)) (by assumption) ?_
  try simp only [Act.put, List.setIfInBounds_toArray, List.set_cons_zero, List.set_cons_succ, List.getElem_toArray, List.getElem_cons_zero, List.getElem_cons_succ]
  refine wpAnyH_ready (rs := [22]) (by kernel_rfl) (by simp) ?_
  refine AllReadyH.cons (i := 22) rfl (fun K hK => ?_) AllReadyH.nil
  go_simp
  go_at_call 101
  refine (ConO.out _).mono ?_
  rintro e w3 ⟨rfl, hb3⟩
  replace hb3 := bstep (Below.refl w2.heap.size w2).drew hb3
  have t0 := keepc hb3 u0
  have t1 := keepc hb3 u1
  have t2 := keepc hb3 v2
  have t3 := keepc hb3 c0
  have t4 := keepc hb3 ce
  refine hK.out _ _ ⟨t0, t1, t2, t3, t4⟩ (fun hH4 => ?_)
  clear hK K
  try simp only [Act.put, List.setIfInBounds_toArray, List.set_cons_zero, List.set_cons_succ, List.getElem_toArray, List.getElem_cons_zero, List.getElem_cons_succ]
  refine reg_take 23 rfl (by kernel_rfl) (by kernel_rfl) (by kernel_rfl) (fun _ _ _ h => h) (by rfl) (fun w _ => by first | (go_simp; done) | (go_simp; with_reducible rfl)) (by assumption) ?_
  try simp only [Act.put, List.setIfInBounds_toArray, List.set_cons_zero, List.set_cons_succ, List.getElem_toArray, List.getElem_cons_zero, List.getElem_cons_succ]
  refine reg_take 24 rfl (by kernel_rfl) (by kernel_rfl) (by kernel_rfl) (fun _ _ _ h => h) (by rfl) (fun w _ => by first | (go_simp; done) | (go_simp; with_reducible rfl)) (by assumption) ?_
  try simp only [Act.put, List.setIfInBounds_toArray, List.set_cons_zero, List.set_cons_succ, List.getElem_toArray, List.getElem_cons_zero, List.getElem_cons_succ]
  refine wpAnyH_done (by kernel_rfl) ?_ _
  have H3 := HH2.out.keep hb3
  have hbw3 := bstep hbw2 hb3
  have s2 : w3.cell? ⟨g, 2, none⟩ = some (.int .i64 spin) := H3.c2
  have s3 : w3.cell? ⟨g, 3, none⟩ = some (.int .i64 waits) := H3.c3
  have s4 : w3.cell? ⟨g, 4, none⟩ = some (.bool true) := H3.c4
  have s5 : w3.cell? ⟨g, 5, none⟩ = some (.bool false) := H3.c5
  have s6 : w3.cell? ⟨g, 6, none⟩ = some (.bool true) := H3.c6
  have l3 := H3.live 3
  have l5 := H3.live 5
  have l6 := H3.live 6
  have f0 : w3.frozen? ⟨a, 0, none⟩ = false := H3.ao.frozenAt (0 * 3)
  have f1 : w3.frozen? ⟨a, 1, none⟩ = false := H3.ao.frozenAt (0 * 3 + 1)
  have f2 : w3.frozen? ⟨a, 2, none⟩ = false := H3.ao.frozenAt (0 * 3 + 2)
  have y1 : w3.cell? ⟨a, 1, none⟩ = some (.bool ev.2.1) := (H3.ao.cellAt (0 * 3 + 1) (by show 0 * 3 + 1 < arms.length * 3; omega)).trans Hcg.out.2.1
  have y2 : w3.cell? ⟨a, 2, none⟩ = some (.bool ev.2.2) := (H3.ao.cellAt (0 * 3 + 2) (by show 0 * 3 + 2 < arms.length * 3; omega)).trans Hcg.out.2.2
  have hgx : g ≠ w.heap.size := by omega
  have hax : a ≠ w.heap.size := by omega
  have Hbl := Lib.hid (fun gx (hg : (Value.slice B tiles.length d).ownBlock = some gx) => (H.out.bo.lt gx hg).2)
  have HH3 := Lib.hid H3
  have Hbw3 := Lib.hid hbw3
  clear H3 hbw3 hH0 hH3 hH4 u0 u1 v2 c0 c1 ce hbw2 hb3
  go_wp2_with fail
  go_quiet (fail)
  have Hbw3b := Lib.hid (Hbw3.out.mono hbase)
  clear Hbw3
  have Hbw3 := Lib.hid Hbw3b.out
  clear Hbw3b
  have Nt0 : (w3.drewN nq).cell? ⟨w.heap.size, 0, none⟩ = some (.int .i64 x) := t0
  have Nt1 : (w3.drewN nq).cell? ⟨w.heap.size, 1, none⟩ = some (.int .i64 y) := t1
  have Nt2 : (w3.drewN nq).cell? ⟨w.heap.size, 2, none⟩ = some (.int .i64 (0 : Int)) := t2
  have Nt3 : (w3.drewN nq).cell? ⟨g, 0, none⟩ = some (.slice (some ⟨a, 0, none⟩) arms.length c) := t3
  have Nt4 : (w3.drewN nq).cell? ⟨a, 0, none⟩ = some (.int .i64 ev.1) := t4
  have Ny1 : (w3.drewN nq).cell? ⟨a, 1, none⟩ = some (.bool ev.2.1) := y1
  have Ny2 : (w3.drewN nq).cell? ⟨a, 2, none⟩ = some (.bool ev.2.2) := y2
  have Ns2 : (w3.drewN nq).cell? ⟨g, 2, none⟩ = some (.int .i64 spin) := s2
  have Ns3 : (w3.drewN nq).cell? ⟨g, 3, none⟩ = some (.int .i64 waits) := s3
  have Ns4 : (w3.drewN nq).cell? ⟨g, 4, none⟩ = some (.bool true) := s4
  have Ns5 : (w3.drewN nq).cell? ⟨g, 5, none⟩ = some (.bool false) := s5
  have Ns6 : (w3.drewN nq).cell? ⟨g, 6, none⟩ = some (.bool true) := s6
  have Nf0 : (w3.drewN nq).frozen? ⟨a, 0, none⟩ = false := f0
  have Nf1 : (w3.drewN nq).frozen? ⟨a, 1, none⟩ = false := f1
  have Nf2 : (w3.drewN nq).frozen? ⟨a, 2, none⟩ = false := f2
  have Nl3 : (w3.drewN nq).frozen? ⟨g, 3, none⟩ = false := l3
  have Nl5 : (w3.drewN nq).frozen? ⟨g, 5, none⟩ = false := l5
  have Nl6 : (w3.drewN nq).frozen? ⟨g, 6, none⟩ = false := l6
  have NHH : StV base (w3.drewN nq) g (some ⟨a, 0, none⟩) c B d ⟨arms, tiles, spin, waits, true, false, true⟩ := HH3.out.keep ⟨rfl, rfl, rfl, Nat.le_refl _, fun _ _ => rfl⟩
  have NHb : Below base w (w3.drewN nq) := Hbw3.out.trans ⟨rfl, rfl, rfl, Nat.le_refl _, fun _ _ => rfl⟩
  clear t0 t1 t2 t3 t4 y1 y2 s2 s3 s4 s5 s6 f0 f1 f2 l3 l5 l6 HH3 Hbw3
  obtain ⟨wq0, hwq0⟩ : ∃ wq0, wq0 = (w3.drewN nq) := ⟨_, rfl⟩
  rw [← hwq0] at Nt0 Nt1 Nt2 Nt3 Nt4 Ny1 Ny2 Ns2 Ns3 Ns4 Ns5 Ns6 Nf0 Nf1 Nf2 Nl3 Nl5 Nl6 NHH NHb ⊢
  clear hwq0
  have t0 := Nt0
  have t1 := Nt1
  have t2 := Nt2
  have t3 := Nt3
  have t4 := Nt4
  have y1 := Ny1
  have y2 := Ny2
  have s2 := Ns2
  have s3 := Ns3
  have s4 := Ns4
  have s5 := Ns5
  have s6 := Ns6
  have f0 := Nf0
  have f1 := Nf1
  have f2 := Nf2
  have l3 := Nl3
  have l5 := Nl5
  have l6 := Nl6
  have HH3 := Lib.hid NHH
  have Hbw3 := Lib.hid NHb
  clear NHH NHb Nt0 Nt1 Nt2 Nt3 Nt4 Ny1 Ny2 Ns2 Ns3 Ns4 Ns5 Ns6 Nf0 Nf1 Nf2 Nl3 Nl5 Nl6
  clear nq
  go_wp2_with fail
  refine wp_region_held_drew (S := fun w' => w'.cell? ⟨w.heap.size, 2, none⟩ = some (.int .i64 (0 : Int))) (by kernel_rfl) t2 (fun hH0 => ?_)
  refine reg_take 0 rfl (by kernel_rfl) (by kernel_rfl) (by kernel_rfl) (fun _ _ _ h => h) (by rfl) (fun w _ => by first | (go_simp; done) | (go_simp; with_reducible rfl)) (by assumption) ?_
  try simp only [Act.put, List.setIfInBounds_toArray, List.set_cons_zero, List.set_cons_succ, List.getElem_toArray, List.getElem_cons_zero]
  refine reg_take 1 rfl (by kernel_rfl) (by kernel_rfl) (by kernel_rfl) (fun _ _ _ h => h) (by rfl) (fun w _ => by first | (go_simp; done) | (go_simp; with_reducible rfl)) (by assumption) ?_
  try simp only [Act.put, List.setIfInBounds_toArray, List.set_cons_zero, List.set_cons_succ, List.getElem_toArray, List.getElem_cons_zero, List.getElem_cons_succ]
  refine reg_take 2 rfl (by kernel_rfl) (by kernel_rfl) (by kernel_rfl) (fun _ _ _ h => h) (by rfl) (fun w hSw => by (try dsimp only at hSw); first | (go_simp; done) | (go_simp; with_reducible rfl)) (by assumption) ?_
  try simp only [Act.put, List.setIfInBounds_toArray, List.set_cons_zero, List.set_cons_succ, List.getElem_toArray, List.getElem_cons_zero, List.getElem_cons_succ]
  refine reg_take 3 rfl (by kernel_rfl) (by kernel_rfl) (by kernel_rfl) (fun _ _ _ h => h) (by rfl) (fun w _ => by first | (go_simp; done) | (go_simp; with_reducible rfl)) (by assumption) ?_
  try simp only [Act.put, List.setIfInBounds_toArray, List.set_cons_zero, List.set_cons_succ, List.getElem_toArray, List.getElem_cons_zero, List.getElem_cons_succ]
  refine reg_take 4 rfl (by kernel_rfl) (by kernel_rfl) (by kernel_rfl) (fun _ _ _ h => h) (by rfl) (fun w _ => by first | (go_simp; done) | (go_simp; with_reducible rfl)) (by assumption) ?_
  try simp only [Act.put, List.setIfInBounds_toArray, List.set_cons_zero, List.set_cons_succ, List.getElem_toArray, List.getElem_cons_zero, List.getElem_cons_succ]
  refine reg_take 5 rfl (by kernel_rfl) (by kernel_rfl) (by kernel_rfl) (fun _ _ _ h => h) (by rfl) (fun w _ => by first | (go_simp; done) | (go_simp; with_reducible rfl)) (by assumption) ?_
  try simp only [Act.put, List.setIfInBounds_toArray, List.set_cons_zero, List.set_cons_succ, List.getElem_toArray, List.getElem_cons_zero, List.getElem_cons_succ]
  refine wpAnyH_ready (rs := [6]) (by kernel_rfl) (by simp) ?_
  refine AllReadyH.cons (i := 6) rfl (fun K hK => ?_) AllReadyH.nil
  go_simp
  skip
  refine hK.out _ _ (far1 hgx t2) (fun hH5 => ?_)
  clear hK K
  try simp only [Act.put, List.setIfInBounds_toArray, List.set_cons_zero, List.set_cons_succ, List.getElem_toArray, List.getElem_cons_zero, List.getElem_cons_succ]
  refine wpAnyH_done (by kernel_rfl) ?_ _
  clear hH0 hH5
  have Nt0 : ((wq0.setCell ⟨g, 5, none⟩ (.bool true)).drew).cell? ⟨w.heap.size, 0, none⟩ = some (.int .i64 x) := far1 hgx t0
  have Nt1 : ((wq0.setCell ⟨g, 5, none⟩ (.bool true)).drew).cell? ⟨w.heap.size, 1, none⟩ = some (.int .i64 y) := far1 hgx t1
  have Nt2 : ((wq0.setCell ⟨g, 5, none⟩ (.bool true)).drew).cell? ⟨w.heap.size, 2, none⟩ = some (.int .i64 (0 : Int)) := far1 hgx t2
  have Nt3 : ((wq0.setCell ⟨g, 5, none⟩ (.bool true)).drew).cell? ⟨g, 0, none⟩ = some (.slice (some ⟨a, 0, none⟩) arms.length c) := same_ne (by omega) t3
  have Nt4 : ((wq0.setCell ⟨g, 5, none⟩ (.bool true)).drew).cell? ⟨a, 0, none⟩ = some (.int .i64 ev.1) := far1 hane.symm t4
  have Ny1 : ((wq0.setCell ⟨g, 5, none⟩ (.bool true)).drew).cell? ⟨a, 1, none⟩ = some (.bool ev.2.1) := far1 hane.symm y1
  have Ny2 : ((wq0.setCell ⟨g, 5, none⟩ (.bool true)).drew).cell? ⟨a, 2, none⟩ = some (.bool ev.2.2) := far1 hane.symm y2
  have Ns2 : ((wq0.setCell ⟨g, 5, none⟩ (.bool true)).drew).cell? ⟨g, 2, none⟩ = some (.int .i64 spin) := same_ne (by omega) s2
  have Ns3 : ((wq0.setCell ⟨g, 5, none⟩ (.bool true)).drew).cell? ⟨g, 3, none⟩ = some (.int .i64 waits) := same_ne (by omega) s3
  have Ns4 : ((wq0.setCell ⟨g, 5, none⟩ (.bool true)).drew).cell? ⟨g, 4, none⟩ = some (.bool true) := same_ne (by omega) s4
  have Ns5 : ((wq0.setCell ⟨g, 5, none⟩ (.bool true)).drew).cell? ⟨g, 5, none⟩ = some (.bool true) := World.cell?_setCell_same _ _ _ s5
  have Ns6 : ((wq0.setCell ⟨g, 5, none⟩ (.bool true)).drew).cell? ⟨g, 6, none⟩ = some (.bool true) := same_ne (by omega) s6
  have Nf0 : ((wq0.setCell ⟨g, 5, none⟩ (.bool true)).drew).frozen? ⟨a, 0, none⟩ = false := (World.frozen?_setCell _ _ _ _).trans f0
  have Nf1 : ((wq0.setCell ⟨g, 5, none⟩ (.bool true)).drew).frozen? ⟨a, 1, none⟩ = false := (World.frozen?_setCell _ _ _ _).trans f1
  have Nf2 : ((wq0.setCell ⟨g, 5, none⟩ (.bool true)).drew).frozen? ⟨a, 2, none⟩ = false := (World.frozen?_setCell _ _ _ _).trans f2
  have Nl3 : ((wq0.setCell ⟨g, 5, none⟩ (.bool true)).drew).frozen? ⟨g, 3, none⟩ = false := (World.frozen?_setCell _ _ _ _).trans l3
  have Nl5 : ((wq0.setCell ⟨g, 5, none⟩ (.bool true)).drew).frozen? ⟨g, 5, none⟩ = false := (World.frozen?_setCell _ _ _ _).trans l5
  have Nl6 : ((wq0.setCell ⟨g, 5, none⟩ (.bool true)).drew).frozen? ⟨g, 6, none⟩ = false := (World.frozen?_setCell _ _ _ _).trans l6
  have NHH : StV base ((wq0.setCell ⟨g, 5, none⟩ (.bool true)).drew) g (some ⟨a, 0, none⟩) c B d ⟨arms, tiles, spin, waits, true, true, true⟩ := (HH3.out.l0_ true).drew
  have NHb : Below base w ((wq0.setCell ⟨g, 5, none⟩ (.bool true)).drew) := (Hbw3.out.setCell (p := ⟨g, 5, none⟩) hlo (.bool true)).drew
  clear t0 t1 t2 t3 t4 y1 y2 s2 s3 s4 s5 s6 f0 f1 f2 l3 l5 l6 HH3 Hbw3
  obtain ⟨wq1, hwq1⟩ : ∃ wq1, wq1 = ((wq0.setCell ⟨g, 5, none⟩ (.bool true)).drew) := ⟨_, rfl⟩
  rw [← hwq1] at Nt0 Nt1 Nt2 Nt3 Nt4 Ny1 Ny2 Ns2 Ns3 Ns4 Ns5 Ns6 Nf0 Nf1 Nf2 Nl3 Nl5 Nl6 NHH NHb ⊢
  clear hwq1
  have t0 := Nt0
  have t1 := Nt1
  have t2 := Nt2
  have t3 := Nt3
  have t4 := Nt4
  have y1 := Ny1
  have y2 := Ny2
  have s2 := Ns2
  have s3 := Ns3
  have s4 := Ns4
  have s5 := Ns5
  have s6 := Ns6
  have f0 := Nf0
  have f1 := Nf1
  have f2 := Nf2
  have l3 := Nl3
  have l5 := Nl5
  have l6 := Nl6
  have HH3 := Lib.hid NHH
  have Hbw3 := Lib.hid NHb
  clear NHH NHb Nt0 Nt1 Nt2 Nt3 Nt4 Ny1 Ny2 Ns2 Ns3 Ns4 Ns5 Ns6 Nf0 Nf1 Nf2 Nl3 Nl5 Nl6
  go_wp2_with fail
  go_quiet (fail)
  go_wp2_with fail
  refine wp_region_held_drew (S := fun w' => w'.cell? ⟨w.heap.size, 0, none⟩ = some (.int .i64 x) ∧ w'.cell? ⟨w.heap.size, 1, none⟩ = some (.int .i64 y) ∧ w'.cell? ⟨w.heap.size, 2, none⟩ = some (.int .i64 (0 : Int)) ∧ w'.cell? ⟨g, 0, none⟩ = some (.slice (some ⟨a, 0, none⟩) arms.length c)) (by kernel_rfl) ⟨t0, t1, t2, t3⟩ (fun hH0 => ?_)
  refine reg_take 0 rfl (by kernel_rfl) (by kernel_rfl) (by kernel_rfl) (fun _ _ _ h => h) (by rfl) (fun w _ => by first | (go_simp; done) | (go_simp; with_reducible rfl)) (by assumption) ?_
  try simp only [Act.put, List.setIfInBounds_toArray, List.set_cons_zero, List.set_cons_succ, List.getElem_toArray, List.getElem_cons_zero]
  refine reg_take 1 rfl (by kernel_rfl) (by kernel_rfl) (by kernel_rfl) (fun _ _ _ h => h) (by rfl) (fun w _ => by first | (go_simp; done) | (go_simp; with_reducible rfl)) (by assumption) ?_
  try simp only [Act.put, List.setIfInBounds_toArray, List.set_cons_zero, List.set_cons_succ, List.getElem_toArray, List.getElem_cons_zero, List.getElem_cons_succ]
  refine reg_take 2 rfl (by kernel_rfl) (by kernel_rfl) (by kernel_rfl) (fun _ _ _ h => h) (by rfl) (fun w _ => by first | (go_simp; done) | (go_simp; with_reducible rfl)) (by assumption) ?_
  try simp only [Act.put, List.setIfInBounds_toArray, List.set_cons_zero, List.set_cons_succ, List.getElem_toArray, List.getElem_cons_zero, List.getElem_cons_succ]
  refine reg_take 3 rfl (by kernel_rfl) (by kernel_rfl) (by kernel_rfl) (fun _ _ _ h => h) (by rfl) (fun w hSw => by (try dsimp only at hSw); first | (go_simp; done) | (go_simp; with_reducible rfl)) (by assumption) ?_
  try simp only [Act.put, List.setIfInBounds_toArray, List.set_cons_zero, List.set_cons_succ, List.getElem_toArray, List.getElem_cons_zero, List.getElem_cons_succ]
  refine reg_take 4 rfl (by kernel_rfl) (by kernel_rfl) (by kernel_rfl) (fun _ _ _ h => h) (by rfl) (fun w _ => by first | (go_simp; done) | (go_simp; with_reducible rfl)) (by assumption) ?_
  try simp only [Act.put, List.setIfInBounds_toArray, List.set_cons_zero, List.set_cons_succ, List.getElem_toArray, List.getElem_cons_zero, List.getElem_cons_succ]
  refine reg_take 5 rfl (by kernel_rfl) (by kernel_rfl) (by kernel_rfl) (fun _ _ _ h => h) (by rfl) (fun w hSw => by (try dsimp only at hSw); first | (go_simp; done) | (go_simp; with_reducible rfl)) (by assumption) ?_
  try simp only [Act.put, List.setIfInBounds_toArray, List.set_cons_zero, List.set_cons_succ, List.getElem_toArray, List.getElem_cons_zero, List.getElem_cons_succ]
  refine reg_take 6 rfl (by kernel_rfl) (by kernel_rfl) (by kernel_rfl) (fun _ _ _ h => h) (by rfl) (fun w _ => by first | (go_simp; done) | (go_simp; with_reducible rfl)) (by assumption) ?_
  try simp only [Act.put, List.setIfInBounds_toArray, List.set_cons_zero, List.set_cons_succ, List.getElem_toArray, List.getElem_cons_zero, List.getElem_cons_succ]
  refine reg_take 7 rfl (by kernel_rfl) (by kernel_rfl) (by kernel_rfl) (fun _ _ _ h => h) (by rfl) (fun w hSw => by (try dsimp only at hSw); first | (go_simp; done) | (go_simp; with_reducible rfl)) (by assumption) ?_
  try simp only [Act.put, List.setIfInBounds_toArray, List.set_cons_zero, List.set_cons_succ, List.getElem_toArray, List.getElem_cons_zero, List.getElem_cons_succ]
  refine reg_take 8 rfl (by kernel_rfl) (by kernel_rfl) (by kernel_rfl) (fun _ _ _ h => h) (by rfl) (fun w _ => by first | (go_simp; done) | (go_simp; with_reducible rfl)) (by assumption) ?_
  try simp only [Act.put, List.setIfInBounds_toArray, List.set_cons_zero, List.set_cons_succ, List.getElem_toArray, List.getElem_cons_zero, List.getElem_cons_succ]
  refine reg_take 9 rfl (by kernel_rfl) (by kernel_rfl) (by kernel_rfl) (fun _ _ _ h => h) (by rfl) (fun w _ => by first | (go_simp; done) | (go_simp; with_reducible rfl)) (by assumption) ?_
  try simp only [Act.put, List.setIfInBounds_toArray, List.set_cons_zero, List.set_cons_succ, List.getElem_toArray, List.getElem_cons_zero, List.getElem_cons_succ]
  refine reg_take 10 rfl (by kernel_rfl) (by kernel_rfl) (by kernel_rfl) (fun _ _ _ h => h) (by rfl) (fun w _ => by first | (go_simp; done) | (go_simp; with_reducible rfl)) (by assumption) ?_
  try simp only [Act.put, List.setIfInBounds_toArray, List.set_cons_zero, List.set_cons_succ, List.getElem_toArray, List.getElem_cons_zero, List.getElem_cons_succ]
  refine reg_take 11 rfl (by kernel_rfl) (by kernel_rfl) (by kernel_rfl) (fun _ _ _ h => h) (by rfl) (fun w hSw => by (try dsimp only at hSw); first | (go_simp; done) | (go_simp; with_reducible rfl)) (by assumption) ?_
  try simp only [Act.put, List.setIfInBounds_toArray, List.set_cons_zero, List.set_cons_succ, List.getElem_toArray, List.getElem_cons_zero, List.getElem_cons_succ]
  refine reg_take 12 rfl (by kernel_rfl) (by kernel_rfl) (by kernel_rfl) (fun _ _ _ h => h) (by rfl) (fun w _ => by first | (go_simp; done) | (go_simp; with_reducible rfl)) (by assumption) ?_
  try simp only [Act.put, List.setIfInBounds_toArray, List.set_cons_zero, List.set_cons_succ, List.getElem_toArray, List.getElem_cons_zero, List.getElem_cons_succ]
  refine reg_take 13 rfl (by kernel_rfl) (by kernel_rfl) (by kernel_rfl) (fun _ _ _ h => h) (by rfl) (fun w hSw => by (try dsimp only at hSw); first | (go_simp; done) | (go_simp; with_reducible rfl)) (by assumption) ?_
  try simp only [Act.put, List.setIfInBounds_toArray, List.set_cons_zero, List.set_cons_succ, List.getElem_toArray, List.getElem_cons_zero, List.getElem_cons_succ]
  refine reg_take 14 rfl (by kernel_rfl) (by kernel_rfl) (by kernel_rfl) (fun _ _ _ h => h) (by rfl) (fun w _ => by first | (go_simp; done) | (go_simp; with_reducible rfl)) (by assumption) ?_
  try simp only [Act.put, List.setIfInBounds_toArray, List.set_cons_zero, List.set_cons_succ, List.getElem_toArray, List.getElem_cons_zero, List.getElem_cons_succ]
  refine reg_take 15 rfl (by kernel_rfl) (by kernel_rfl) (by kernel_rfl) (fun _ _ _ h => h) (by rfl) (fun w _ => by first | (go_simp; done) | (go_simp; with_reducible rfl)) (by assumption) ?_
  try simp only [Act.put, List.setIfInBounds_toArray, List.set_cons_zero, List.set_cons_succ, List.getElem_toArray, List.getElem_cons_zero, List.getElem_cons_succ]
  refine reg_take 18 rfl (by kernel_rfl) (by kernel_rfl) (by kernel_rfl) (fun _ _ _ h => h) (by rfl) (fun w _ => by first | (go_simp; done) | (go_simp; with_reducible rfl)) (by assumption) ?_
  try simp only [Act.put, List.setIfInBounds_toArray, List.set_cons_zero, List.set_cons_succ, List.getElem_toArray, List.getElem_cons_zero, List.getElem_cons_succ]
  refine wpAnyH_ready (rs := [16]) (by kernel_rfl) (by simp) ?_
  refine AllReadyH.cons (i := 16) rfl (fun K hK => ?_) AllReadyH.nil
  go_simp
  skip
  refine hK.out _ _ (by assumption) (fun hH6 => ?_)
  clear hK K
  try simp only [Act.put, List.setIfInBounds_toArray, List.set_cons_zero, List.set_cons_succ, List.getElem_toArray, List.getElem_cons_zero, List.getElem_cons_succ]
  refine wpAnyH_ready (rs := [17]) (by kernel_rfl) (by simp) ?_
  refine AllReadyH.cons (i := 17) rfl (fun K hK => ?_) AllReadyH.nil
  go_simp
  go_at_call 101
  refine (ConO.out _).mono ?_
  rintro e w5 ⟨rfl, hb5⟩
  replace hb5 := bstep (a := wq1) (by exact ⟨rfl, rfl, rfl, Nat.le_refl _, fun _ _ => rfl⟩) hb5
  have k0 := keepc hb5 t0
  have k1 := keepc hb5 t1
  have k2 := keepc hb5 t2
  have k3 := keepc hb5 t3
  have k4 := keepc hb5 t4
  have m0 := (hb5.frozen (p := ⟨a, 0, none⟩) (block_lt t4)).trans f0
  have m1 := (hb5.frozen (p := ⟨a, 1, none⟩) (block_lt y1)).trans f1
  have m2 := (hb5.frozen (p := ⟨a, 2, none⟩) (block_lt y2)).trans f2
  have z1 := keepc hb5 y1
  have z2 := keepc hb5 y2
  have H5 := HH3.out.keep hb5
  have hbw5 := Hbw3.out.trans (hb5.mono (Nat.le_trans hbase Hbw3.out.size))
  refine hK.out _ _ ⟨k0, k1, k2, k3⟩ (fun hH7 => ?_)
  clear hK K
  try simp only [Act.put, List.setIfInBounds_toArray, List.set_cons_zero, List.set_cons_succ, List.getElem_toArray, List.getElem_cons_zero, List.getElem_cons_succ]
  refine reg_take 19 rfl (by kernel_rfl) (by kernel_rfl) (by kernel_rfl) (fun _ _ _ h => h) (by rfl) (fun w _ => by first | (go_simp; done) | (go_simp; with_reducible rfl)) (by assumption) ?_
  try simp only [Act.put, List.setIfInBounds_toArray, List.set_cons_zero, List.set_cons_succ, List.getElem_toArray, List.getElem_cons_zero, List.getElem_cons_succ]
  refine reg_take 20 rfl (by kernel_rfl) (by kernel_rfl) (by kernel_rfl) (fun _ _ _ h => h) (by rfl) (fun w _ => by first | (go_simp; done) | (go_simp; with_reducible rfl)) (by assumption) ?_
  try simp only [Act.put, List.setIfInBounds_toArray, List.set_cons_zero, List.set_cons_succ, List.getElem_toArray, List.getElem_cons_zero, List.getElem_cons_succ]
  refine wpAnyH_ready (rs := [21]) (by kernel_rfl) (by simp) ?_
  refine AllReadyH.cons (i := 21) rfl (fun K hK => ?_) AllReadyH.nil
  go_simp
  skip
  refine hK.out _ _ ⟨far3b hax _ _ _ _ _ _ k0, far3b hax _ _ _ _ _ _ k1, far3b hax _ _ _ _ _ _ k2, far3b hane _ _ _ _ _ _ k3⟩ (fun hH8 => ?_)
  clear hK K
  try simp only [Act.put, List.setIfInBounds_toArray, List.set_cons_zero, List.set_cons_succ, List.getElem_toArray, List.getElem_cons_zero, List.getElem_cons_succ]
  refine wpAnyH_done (by kernel_rfl) ?_ _
  have HA : StV base (((w5.setCell ⟨a, 0, none⟩ (.int .i64 r)).setCell ⟨a, 1, none⟩ (.bool (x == y))).setCell ⟨a, 2, none⟩ (.bool false)) g (some ⟨a, 0, none⟩) c B d ⟨arms.set 0 (r, (x == y), false), tiles, spin, waits, true, true, true⟩ := H5.arm_ hk (r, (x == y), false) (Hput.out (r, (x == y), false))
  have d0 : (((w5.setCell ⟨a, 0, none⟩ (.int .i64 r)).setCell ⟨a, 1, none⟩ (.bool (x == y))).setCell ⟨a, 2, none⟩ (.bool false)).cell? ⟨w.heap.size, 0, none⟩ = some (.int .i64 x) := far3b hax _ _ _ _ _ _ k0
  have d1 : (((w5.setCell ⟨a, 0, none⟩ (.int .i64 r)).setCell ⟨a, 1, none⟩ (.bool (x == y))).setCell ⟨a, 2, none⟩ (.bool false)).cell? ⟨w.heap.size, 1, none⟩ = some (.int .i64 y) := far3b hax _ _ _ _ _ _ k1
  have d2 : (((w5.setCell ⟨a, 0, none⟩ (.int .i64 r)).setCell ⟨a, 1, none⟩ (.bool (x == y))).setCell ⟨a, 2, none⟩ (.bool false)).cell? ⟨w.heap.size, 2, none⟩ = some (.int .i64 (0 : Int)) := far3b hax _ _ _ _ _ _ k2
  have hbwA : Below base w (((w5.setCell ⟨a, 0, none⟩ (.int .i64 r)).setCell ⟨a, 1, none⟩ (.bool (x == y))).setCell ⟨a, 2, none⟩ (.bool false)) := ((hbw5.setCell (p := ⟨a, 0, none⟩) hba _).setCell (p := ⟨a, 1, none⟩) hba _).setCell (p := ⟨a, 2, none⟩) hba _
  obtain ⟨v6, hv6⟩ : ∃ v6, v6 = (((w5.setCell ⟨a, 0, none⟩ (.int .i64 r)).setCell ⟨a, 1, none⟩ (.bool (x == y))).setCell ⟨a, 2, none⟩ (.bool false)) := ⟨_, rfl⟩
  rw [← hv6] at HA d0 d1 d2 hbwA ⊢
  clear hv6 k0 k1 k2 k3 k4 m0 m1 m2 z1 z2 H5 hbw5 hb5 HH3 Hbw3 t0 t1 t2 t3 t4 y1 y2 f0 f1 f2 s2 s3 s4 s5 s6 l3 l5 l6 hH0 hH8 hH7 hH6
  have e1 : v6.cell? ⟨g, 1, none⟩ = some (.slice B tiles.length d) := HA.c1
  have HHA := Lib.hid HA
  have HbwA := Lib.hid hbwA
  clear HA hbwA
  go_wp2_with fail
  refine wp_region_held_drew (S := fun w' => w'.cell? ⟨w.heap.size, 0, none⟩ = some (.int .i64 x) ∧ w'.cell? ⟨w.heap.size, 1, none⟩ = some (.int .i64 y)) (by kernel_rfl) ⟨d0, d1⟩ (fun hH0 => ?_)
  obtain ⟨v7, hv7⟩ : ∃ v7, v7 = v6.drew := ⟨_, rfl⟩
  have HB : StV base v7 g (some ⟨a, 0, none⟩) c B d _ := hv7 ▸ HHA.out.drew
  have HbwB : Below base w v7 := hv7 ▸ HbwA.out.drew
  have D0 : v7.cell? ⟨w.heap.size, 0, none⟩ = some (.int .i64 x) := hv7 ▸ d0
  have D1 : v7.cell? ⟨w.heap.size, 1, none⟩ = some (.int .i64 y) := hv7 ▸ d1
  have D2 : v7.cell? ⟨w.heap.size, 2, none⟩ = some (.int .i64 (0 : Int)) := hv7 ▸ d2
  have E1 : v7.cell? ⟨g, 1, none⟩ = some (.slice B tiles.length d) := hv7 ▸ e1
  rw [← hv7] at hH0 ⊢
  clear hv7 d0 d1 d2 e1 HHA HbwA
  have HHB := Lib.hid HB
  have HHbwB := Lib.hid HbwB
  clear HB HbwB
  refine reg_take 0 rfl (by kernel_rfl) (by kernel_rfl) (by kernel_rfl) (fun _ _ _ h => h) (by rfl) (fun w _ => by first | (go_simp; done) | (go_simp; with_reducible rfl)) (by assumption) ?_
  try simp only [Act.put, List.setIfInBounds_toArray, List.set_cons_zero, List.set_cons_succ, List.getElem_toArray, List.getElem_cons_zero]
  refine reg_take 1 rfl (by kernel_rfl) (by kernel_rfl) (by kernel_rfl) (fun _ _ _ h => h) (by rfl) (fun w _ => by first | (go_simp; done) | (go_simp; with_reducible rfl)) (by assumption) ?_
  try simp only [Act.put, List.setIfInBounds_toArray, List.set_cons_zero, List.set_cons_succ, List.getElem_toArray, List.getElem_cons_zero, List.getElem_cons_succ]
  refine reg_take 2 rfl (by kernel_rfl) (by kernel_rfl) (by kernel_rfl) (fun _ _ _ h => h) (by rfl) (fun w _ => by first | (go_simp; done) | (go_simp; with_reducible rfl)) (by assumption) ?_
  try simp only [Act.put, List.setIfInBounds_toArray, List.set_cons_zero, List.set_cons_succ, List.getElem_toArray, List.getElem_cons_zero, List.getElem_cons_succ]
  refine reg_take 3 rfl (by kernel_rfl) (by kernel_rfl) (by kernel_rfl) (fun _ _ _ h => h) (by rfl) (fun w _ => by first | (go_simp; done) | (go_simp; with_reducible rfl)) (by assumption) ?_
  try simp only [Act.put, List.setIfInBounds_toArray, List.set_cons_zero, List.set_cons_succ, List.getElem_toArray, List.getElem_cons_zero, List.getElem_cons_succ]
  refine reg_take 5 rfl (by kernel_rfl) (by kernel_rfl) (by kernel_rfl) (fun _ _ _ h => h) (by rfl) (fun w _ => by first | (go_simp; done) | (go_simp; with_reducible rfl)) (by assumption) ?_
  try simp only [Act.put, List.setIfInBounds_toArray, List.set_cons_zero, List.set_cons_succ, List.getElem_toArray, List.getElem_cons_zero, List.getElem_cons_succ]
  refine reg_take 6 rfl (by kernel_rfl) (by kernel_rfl) (by kernel_rfl) (fun _ _ _ h => h) (by rfl) (fun w hSw => by (try dsimp only at hSw); first | (go_simp; done) | (go_simp; with_reducible rfl)) (by assumption) ?_
  try simp only [Act.put, List.setIfInBounds_toArray, List.set_cons_zero, List.set_cons_succ, List.getElem_toArray, List.getElem_cons_zero, List.getElem_cons_succ]
  refine wpAnyH_ready (rs := [4, 7]) (by kernel_rfl) (by simp) ?_
  refine AllReadyH.cons (i := 4) rfl (fun K hK => ?_) (AllReadyH.cons (i := 7) rfl (fun K hK => ?_) AllReadyH.nil)
  · skip
    go_simp
    skip
    refine hK.out _ _ (by assumption) (fun hH9 => ?_)
    clear hK K
    try simp only [Act.put, List.setIfInBounds_toArray, List.set_cons_zero, List.set_cons_succ, List.getElem_toArray, List.getElem_cons_zero, List.getElem_cons_succ]
    refine wpAnyH_ready (rs := [7]) (by kernel_rfl) (by simp) ?_
    refine AllReadyH.cons (i := 7) rfl (fun K hK => ?_) AllReadyH.nil
    go_simp
    skip
    refine hK.out _ _ ⟨keepc ((Below.refl v7.heap.size v7).alloc (Nat.le_refl _) _) D0, keepc ((Below.refl v7.heap.size v7).alloc (Nat.le_refl _) _) D1⟩ (fun hH10 => ?_)
    clear hK K
    try simp only [Act.put, List.setIfInBounds_toArray, List.set_cons_zero, List.set_cons_succ, List.getElem_toArray, List.getElem_cons_zero, List.getElem_cons_succ]
    have X0 : (v7.alloc (.cells #[.int .i64 x, .int .i64 y] 30)).cell? ⟨v7.heap.size, 0, none⟩ = some (.int .i64 x) := by simp
    have X1 : (v7.alloc (.cells #[.int .i64 x, .int .i64 y] 30)).cell? ⟨v7.heap.size, 1, none⟩ = some (.int .i64 y) := by simp
    obtain ⟨v8, hv8⟩ : ∃ v8, v8 = (v7.alloc (.cells #[.int .i64 x, .int .i64 y] 30)) := ⟨_, rfl⟩
    have HC : StV base v8 g (some ⟨a, 0, none⟩) c B d _ := hv8 ▸ HHB.out.alloc _
    have hb8 : Below v7.heap.size v7 v8 := hv8 ▸ (Below.refl v7.heap.size v7).alloc (Nat.le_refl _) _
    rw [← hv8] at X0 X1 hH10 ⊢
    clear hv8
    have Y0 := keepc hb8 D0
    have Y1 := keepc hb8 D1
    have Y2 := keepc hb8 D2
    have Z1 := keepc hb8 E1
    have hb8s : base ≤ v8.heap.size := Nat.le_trans (Nat.le_trans hbase HHbwB.out.size) hb8.size
    have HHC := Lib.hid HC
    have Hb8 := Lib.hid (HHbwB.out.trans (hb8.mono (Nat.le_trans hbase HHbwB.out.size)))
    clear HC hb8
    refine wpAnyH_ready (rs := [8]) (by kernel_rfl) (by simp) ?_
    refine AllReadyH.cons (i := 8) rfl (fun K hK => ?_) AllReadyH.nil
    refine step_tileL rfl (.tmp 178) (.tmp 181) rfl base _ tiles rfl HHC.out.bo x y v7.heap.size rfl X0 X1 (by omega) hb8s ?_
    intro G c8 w8 ho8 hg8 hat8
    have J0 := World.grownBy.cell hg8 Y0 (fun e => Nat.lt_irrefl _ (Hbl.out _ e.symm))
    have J1 := World.grownBy.cell hg8 Y1 (fun e => Nat.lt_irrefl _ (Hbl.out _ e.symm))
    have J2 := World.grownBy.cell hg8 Y2 (fun e => Nat.lt_irrefl _ (Hbl.out _ e.symm))
    have J3 := World.grownBy.cell hg8 Z1 (fun e => HHC.out.bg _ e.symm rfl)
    have J4 := (hg8.frozen_far ⟨g, 1, none⟩ (block_lt Z1) (fun e => HHC.out.bg _ e.symm rfl)).trans (HHC.out.live 1)
    refine hK.out _ _ ⟨J0, J1⟩ (fun hH11 => ?_)
    clear hK K
    try simp only [Act.put, List.setIfInBounds_toArray, List.set_cons_zero, List.set_cons_succ, List.getElem_toArray, List.getElem_cons_zero, List.getElem_cons_succ]
    refine reg_take 9 rfl (by kernel_rfl) (by kernel_rfl) (by kernel_rfl) (fun _ _ _ h => h) (by rfl) (fun w _ => by first | (go_simp; done) | (go_simp; with_reducible rfl)) (by assumption) ?_
    try simp only [Act.put, List.setIfInBounds_toArray, List.set_cons_zero, List.set_cons_succ, List.getElem_toArray, List.getElem_cons_zero, List.getElem_cons_succ]
    refine reg_take 10 rfl (by kernel_rfl) (by kernel_rfl) (by kernel_rfl) (fun _ _ _ h => h) (by rfl) (fun w _ => by first | (go_simp; done) | (go_simp; with_reducible rfl)) (by assumption) ?_
    try simp only [Act.put, List.setIfInBounds_toArray, List.set_cons_zero, List.set_cons_succ, List.getElem_toArray, List.getElem_cons_zero, List.getElem_cons_succ]
    refine wpAnyH_ready (rs := [11]) (by kernel_rfl) (by simp) ?_
    refine AllReadyH.cons (i := 11) rfl (fun K hK => ?_) AllReadyH.nil
    go_simp
    skip
    refine hK.out _ _ ⟨far1 hgx J0, far1 hgx J1⟩ (fun hH12 => ?_)
    clear hK K
    try simp only [Act.put, List.setIfInBounds_toArray, List.set_cons_zero, List.set_cons_succ, List.getElem_toArray, List.getElem_cons_zero, List.getElem_cons_succ]
    refine wpAnyH_done (by kernel_rfl) ?_ _
    have HD : StV base (w8.setCell ⟨g, 1, none⟩ (.slice (some ⟨G, 0, none⟩) (tiles.length + 1) c8)) g (some ⟨a, 0, none⟩) c (some ⟨G, 0, none⟩) c8 ⟨arms.set 0 (r, (x == y), false), tiles ++ [(x, y)], spin, waits, true, true, true⟩ := HHC.out.tiles_ (x, y) hg8 ho8 (fun gx hgx8 => by have e1 : G = gx := Option.some.inj hgx8; subst e1; rcases hat8 with e2 | e2; exact .inl e2; exact .inr (Nat.le_of_eq e2.symm))
    have HbD : Below base w (w8.setCell ⟨g, 1, none⟩ (.slice (some ⟨G, 0, none⟩) (tiles.length + 1) c8)) := (Below.grown Hb8.out hg8 hb8s (fun gx hgx8 => (HHC.out.bo.lt gx hgx8).1)).setCell (p := ⟨g, 1, none⟩) hlo _
    have J2b : (w8.setCell ⟨g, 1, none⟩ (.slice (some ⟨G, 0, none⟩) (tiles.length + 1) c8)).cell? ⟨w.heap.size, 2, none⟩ = some (.int .i64 (0 : Int)) := far1 hgx J2
    have J0b : (w8.setCell ⟨g, 1, none⟩ (.slice (some ⟨G, 0, none⟩) (tiles.length + 1) c8)).cell? ⟨w.heap.size, 0, none⟩ = some (.int .i64 x) := far1 hgx J0
    obtain ⟨v9, hv9⟩ : ∃ v9, v9 = (w8.setCell ⟨g, 1, none⟩ (.slice (some ⟨G, 0, none⟩) (tiles.length + 1) c8)) := ⟨_, rfl⟩
    rw [← hv9] at HD HbD J2b J0b hH12 ⊢
    clear hv9 hH0 hH12 hH11 J0 J1 J2 J3 J4 Y0 Y1 Y2 Z1 X0 X1 ho8 hg8 hat8 HHC Hb8 HHB HHbwB D0 D1 D2 E1
    have S2 : v9.cell? ⟨g, 2, none⟩ = some (.int .i64 spin) := HD.c2
    have HHD := Lib.hid HD
    have HHbD := Lib.hid HbD
    clear HD HbD
    have A0 : (v9.alloc (.cells #[.int .i64 spin, .bool false, .bool true] 141)).cell? ⟨v9.heap.size, 0, none⟩ = some (.int .i64 spin) := by simp
    have A1 : (v9.alloc (.cells #[.int .i64 spin, .bool false, .bool true] 141)).cell? ⟨v9.heap.size, 1, none⟩ = some (.bool false) := by simp
    have A2 : (v9.alloc (.cells #[.int .i64 spin, .bool false, .bool true] 141)).cell? ⟨v9.heap.size, 2, none⟩ = some (.bool true) := by simp
    have S0 : (v9.alloc (.cells #[.int .i64 spin, .bool false, .bool true] 141)).cell? ⟨g, 0, none⟩ = some (.slice (some ⟨a, 0, none⟩) arms.length c) := by have h := (HHD.out.alloc (.cells #[.int .i64 spin, .bool false, .bool true] 141)).c0; simp only [List.length_set] at h; exact h
    have hgs : v9.heap.size ≠ g := fun e => by have := HHD.out.lt; omega
    have has : v9.heap.size ≠ a := fun e => by have := (HHD.out.ao.lt a rfl).2; omega
    go_wp2_with fail
    refine wp_region_held_drew (S := fun w' => w'.cell? ⟨v9.heap.size, 0, none⟩ = some (.int .i64 spin) ∧ w'.cell? ⟨v9.heap.size, 1, none⟩ = some (.bool false) ∧ w'.cell? ⟨v9.heap.size, 2, none⟩ = some (.bool true)) (by kernel_rfl) ⟨A0, A1, A2⟩ (fun hH0 => ?_)
    obtain ⟨va, hva⟩ : ∃ va, va = (v9.alloc (.cells #[.int .i64 spin, .bool false, .bool true] 141)).drew := ⟨_, rfl⟩
    have HE : StV base va g (some ⟨a, 0, none⟩) c _ _ _ := hva ▸ (HHD.out.alloc (.cells #[.int .i64 spin, .bool false, .bool true] 141)).drew
    have HbE : Below base w va := hva ▸ (HHbD.out.alloc (Nat.le_trans hbase HHbD.out.size) _).drew
    have B0 : va.cell? ⟨v9.heap.size, 0, none⟩ = some (.int .i64 spin) := hva ▸ A0
    have B1 : va.cell? ⟨v9.heap.size, 1, none⟩ = some (.bool false) := hva ▸ A1
    have B2 : va.cell? ⟨v9.heap.size, 2, none⟩ = some (.bool true) := hva ▸ A2
    have T0 : va.cell? ⟨g, 0, none⟩ = some (.slice (some ⟨a, 0, none⟩) arms.length c) := hva ▸ S0
    rw [← hva] at hH0 ⊢
    clear hva A0 A1 A2 S0 S2 J2b J0b HHD HHbD
    have HHE := Lib.hid HE
    have HHbE := Lib.hid HbE
    clear HE HbE
    refine reg_take 0 rfl (by kernel_rfl) (by kernel_rfl) (by kernel_rfl) (fun _ _ _ h => h) (by rfl) (fun w _ => by first | (go_simp; done) | (go_simp; with_reducible rfl)) (by assumption) ?_
    try simp only [Act.put, List.setIfInBounds_toArray, List.set_cons_zero, List.set_cons_succ, List.getElem_toArray, List.getElem_cons_zero]
    refine reg_take 1 rfl (by kernel_rfl) (by kernel_rfl) (by kernel_rfl) (fun _ _ _ h => h) (by rfl) (fun w _ => by first | (go_simp; done) | (go_simp; with_reducible rfl)) (by assumption) ?_
    try simp only [Act.put, List.setIfInBounds_toArray, List.set_cons_zero, List.set_cons_succ, List.getElem_toArray, List.getElem_cons_zero, List.getElem_cons_succ]
    refine reg_take 2 rfl (by kernel_rfl) (by kernel_rfl) (by kernel_rfl) (fun _ _ _ h => h) (by rfl) (fun w _ => by first | (go_simp; done) | (go_simp; with_reducible rfl)) (by assumption) ?_
    try simp only [Act.put, List.setIfInBounds_toArray, List.set_cons_zero, List.set_cons_succ, List.getElem_toArray, List.getElem_cons_zero, List.getElem_cons_succ]
    refine reg_take 3 rfl (by kernel_rfl) (by kernel_rfl) (by kernel_rfl) (fun _ _ _ h => h) (by rfl) (fun w _ => by first | (go_simp; done) | (go_simp; with_reducible rfl)) (by assumption) ?_
    try simp only [Act.put, List.setIfInBounds_toArray, List.set_cons_zero, List.set_cons_succ, List.getElem_toArray, List.getElem_cons_zero, List.getElem_cons_succ]
    refine reg_take 5 rfl (by kernel_rfl) (by kernel_rfl) (by kernel_rfl) (fun _ _ _ h => h) (by rfl) (fun w hSw => by (try dsimp only at hSw); first | (go_simp; done) | (go_simp; with_reducible rfl)) (by assumption) ?_
    try simp only [Act.put, List.setIfInBounds_toArray, List.set_cons_zero, List.set_cons_succ, List.getElem_toArray, List.getElem_cons_zero, List.getElem_cons_succ]
    refine reg_take 6 rfl (by kernel_rfl) (by kernel_rfl) (by kernel_rfl) (fun _ _ _ h => h) (by rfl) (fun w hSw => by (try dsimp only at hSw); first | (go_simp; done) | (go_simp; with_reducible rfl)) (by assumption) ?_
    try simp only [Act.put, List.setIfInBounds_toArray, List.set_cons_zero, List.set_cons_succ, List.getElem_toArray, List.getElem_cons_zero, List.getElem_cons_succ]
    refine wpAnyH_ready (rs := [4, 7]) (by kernel_rfl) (by simp) ?_
    refine AllReadyH.cons (i := 4) rfl (fun K hK => ?_) (AllReadyH.cons (i := 7) rfl (fun K hK => ?_) AllReadyH.nil)
    · skip
      go_simp
      skip
      refine hK.out _ _ (by assumption) (fun hH13 => ?_)
      clear hK K
      try simp only [Act.put, List.setIfInBounds_toArray, List.set_cons_zero, List.set_cons_succ, List.getElem_toArray, List.getElem_cons_zero, List.getElem_cons_succ]
      refine wpAnyH_ready (rs := [7]) (by kernel_rfl) (by simp) ?_
      refine AllReadyH.cons (i := 7) rfl (fun K hK => ?_) AllReadyH.nil
      go_simp
      skip
      refine hK.out _ _ ⟨keepc ((Below.refl va.heap.size va).alloc (Nat.le_refl _) _) B0, keepc ((Below.refl va.heap.size va).alloc (Nat.le_refl _) _) B1, keepc ((Below.refl va.heap.size va).alloc (Nat.le_refl _) _) B2⟩ (fun hH14 => ?_)
      clear hK K
      try simp only [Act.put, List.setIfInBounds_toArray, List.set_cons_zero, List.set_cons_succ, List.getElem_toArray, List.getElem_cons_zero, List.getElem_cons_succ]
      have X0 : (va.alloc (.cells #[.int .i64 spin, .bool false, .bool true, .int .i64 spin, .bool false, .bool true] 141)).cell? ⟨va.heap.size, 0, none⟩ = some (.int .i64 spin) := by simp
      have X1 : (va.alloc (.cells #[.int .i64 spin, .bool false, .bool true, .int .i64 spin, .bool false, .bool true] 141)).cell? ⟨va.heap.size, 1, none⟩ = some (.bool false) := by simp
      have X2 : (va.alloc (.cells #[.int .i64 spin, .bool false, .bool true, .int .i64 spin, .bool false, .bool true] 141)).cell? ⟨va.heap.size, 2, none⟩ = some (.bool true) := by simp
      have X3 : (va.alloc (.cells #[.int .i64 spin, .bool false, .bool true, .int .i64 spin, .bool false, .bool true] 141)).cell? ⟨va.heap.size, 3, none⟩ = some (.int .i64 spin) := by simp
      have X4 : (va.alloc (.cells #[.int .i64 spin, .bool false, .bool true, .int .i64 spin, .bool false, .bool true] 141)).cell? ⟨va.heap.size, 4, none⟩ = some (.bool false) := by simp
      have X5 : (va.alloc (.cells #[.int .i64 spin, .bool false, .bool true, .int .i64 spin, .bool false, .bool true] 141)).cell? ⟨va.heap.size, 5, none⟩ = some (.bool true) := by simp
      obtain ⟨vu, hvu⟩ : ∃ vu, vu = (va.alloc (.cells #[.int .i64 spin, .bool false, .bool true, .int .i64 spin, .bool false, .bool true] 141)) := ⟨_, rfl⟩
      have HU : StV base vu g (some ⟨a, 0, none⟩) c _ _ _ := hvu ▸ HHE.out.alloc _
      have hbu : Below va.heap.size va vu := hvu ▸ (Below.refl va.heap.size va).alloc (Nat.le_refl _) _
      rw [← hvu] at X0 X1 X2 X3 X4 X5 hH14 ⊢
      clear hvu
      have Y0 := keepc hbu B0
      have Y1 := keepc hbu B1
      have Y2 := keepc hbu B2
      have Z0 := keepc hbu T0
      have hbus : base ≤ vu.heap.size := Nat.le_trans (Nat.le_trans hbase HHbE.out.size) hbu.size
      have HHU := Lib.hid HU
      have HbU := Lib.hid (HHbE.out.trans (hbu.mono (Nat.le_trans hbase HHbE.out.size)))
      clear HU hbu
      have hoa : vu.ownsRow base 141 3 (.slice (some ⟨a, 0, none⟩) arms.length c) arms.length (cellsA (arms.set 0 (r, (x == y), false))) := by have h := HHU.out.ao; simp only [List.length_set] at h; exact h
      have Hoa := Lib.hid hoa
      clear hoa
      refine wpAnyH_ready (rs := [8]) (by kernel_rfl) (by simp) ?_
      refine AllReadyH.cons (i := 8) rfl (fun K hK => ?_) AllReadyH.nil
      refine step_armsL rfl (.tmp 195) (.tmp 198) rfl base (.slice (some ⟨a, 0, none⟩) arms.length c) (arms.set 0 (r, (x == y), false)) arms.length (by simp) rfl Hoa.out spin false true va.heap.size rfl X0 X1 X2 X3 X4 X5 (by omega) hbus ?_
      intro G2 c9 w9 ho9 hg9 hat9
      have J0 := World.grownBy.cell hg9 Y0 (fun e => has (Option.some.inj e))
      have J1 := World.grownBy.cell hg9 Y1 (fun e => has (Option.some.inj e))
      have J2 := World.grownBy.cell hg9 Y2 (fun e => has (Option.some.inj e))
      have J3 := World.grownBy.cell hg9 Z0 (fun e => hane (Option.some.inj e).symm)
      have J4 := (hg9.frozen_far ⟨g, 0, none⟩ (block_lt Z0) (fun e => hane (Option.some.inj e).symm)).trans (HHU.out.live 0)
      refine hK.out _ _ ⟨J0, J1, J2⟩ (fun hH15 => ?_)
      clear hK K
      try simp only [Act.put, List.setIfInBounds_toArray, List.set_cons_zero, List.set_cons_succ, List.getElem_toArray, List.getElem_cons_zero, List.getElem_cons_succ]
      refine reg_take 9 rfl (by kernel_rfl) (by kernel_rfl) (by kernel_rfl) (fun _ _ _ h => h) (by rfl) (fun w _ => by first | (go_simp; done) | (go_simp; with_reducible rfl)) (by assumption) ?_
      try simp only [Act.put, List.setIfInBounds_toArray, List.set_cons_zero, List.set_cons_succ, List.getElem_toArray, List.getElem_cons_zero, List.getElem_cons_succ]
      refine reg_take 10 rfl (by kernel_rfl) (by kernel_rfl) (by kernel_rfl) (fun _ _ _ h => h) (by rfl) (fun w _ => by first | (go_simp; done) | (go_simp; with_reducible rfl)) (by assumption) ?_
      try simp only [Act.put, List.setIfInBounds_toArray, List.set_cons_zero, List.set_cons_succ, List.getElem_toArray, List.getElem_cons_zero, List.getElem_cons_succ]
      refine wpAnyH_ready (rs := [11]) (by kernel_rfl) (by simp) ?_
      refine AllReadyH.cons (i := 11) rfl (fun K hK => ?_) AllReadyH.nil
      go_simp
      skip
      refine hK.out _ _ ⟨far1 hgs.symm J0, far1 hgs.symm J1, far1 hgs.symm J2⟩ (fun hH16 => ?_)
      clear hK K
      try simp only [Act.put, List.setIfInBounds_toArray, List.set_cons_zero, List.set_cons_succ, List.getElem_toArray, List.getElem_cons_zero, List.getElem_cons_succ]
      refine wpAnyH_done (by kernel_rfl) ?_ _
      have hul : (arms.set 0 (r, (x == y), false) ++ [(spin, false, true), (spin, false, true)]).length = arms.length + 2 := by simp
      have HF := HHU.out.arms_ (arms.set 0 (r, (x == y), false) ++ [(spin, false, true), (spin, false, true)]) _ hg9 (fun gx hx => by simpa using hx) (by rw [hul]; exact ho9) (fun gx hgx9 => by have e1 : G2 = gx := Option.some.inj hgx9; subst e1; rcases hat9 with e2 | e2; exact .inl (by simpa using e2); exact .inr (Nat.le_of_eq e2.symm))
      rw [hul] at HF
      have HbF := (Below.grown HbU.out hg9 hbus (fun gx hx => (Hoa.out.lt gx hx).1)).setCell (p := ⟨g, 0, none⟩) hlo (.slice (some ⟨G2, 0, none⟩) (arms.length + 2) c9)
      have S2 := HF.c2
      have HHF := Lib.hid HF
      have HHbF := Lib.hid HbF
      clear HF HbF
      go_wp2
      all_goals
        go_ret
        first
          | exact ⟨rfl, ⟨_, _, _, _, HHF.out⟩, HHbF.out⟩
          | (have hf := HHF.out; have hxy : x = y := (by assumption); subst hxy; rw [beq_self_eq_true] at hf; exact ⟨rfl, ⟨_, _, _, _, hf⟩, HHbF.out⟩)
    · skip
      go_simp
      skip
      refine hK.out _ _ ⟨keepc ((Below.refl va.heap.size va).alloc (Nat.le_refl _) _) B0, keepc ((Below.refl va.heap.size va).alloc (Nat.le_refl _) _) B1, keepc ((Below.refl va.heap.size va).alloc (Nat.le_refl _) _) B2⟩ (fun hH17 => ?_)
      clear hK K
      try simp only [Act.put, List.setIfInBounds_toArray, List.set_cons_zero, List.set_cons_succ, List.getElem_toArray, List.getElem_cons_zero, List.getElem_cons_succ]
      have X0 : (va.alloc (.cells #[.int .i64 spin, .bool false, .bool true, .int .i64 spin, .bool false, .bool true] 141)).cell? ⟨va.heap.size, 0, none⟩ = some (.int .i64 spin) := by simp
      have X1 : (va.alloc (.cells #[.int .i64 spin, .bool false, .bool true, .int .i64 spin, .bool false, .bool true] 141)).cell? ⟨va.heap.size, 1, none⟩ = some (.bool false) := by simp
      have X2 : (va.alloc (.cells #[.int .i64 spin, .bool false, .bool true, .int .i64 spin, .bool false, .bool true] 141)).cell? ⟨va.heap.size, 2, none⟩ = some (.bool true) := by simp
      have X3 : (va.alloc (.cells #[.int .i64 spin, .bool false, .bool true, .int .i64 spin, .bool false, .bool true] 141)).cell? ⟨va.heap.size, 3, none⟩ = some (.int .i64 spin) := by simp
      have X4 : (va.alloc (.cells #[.int .i64 spin, .bool false, .bool true, .int .i64 spin, .bool false, .bool true] 141)).cell? ⟨va.heap.size, 4, none⟩ = some (.bool false) := by simp
      have X5 : (va.alloc (.cells #[.int .i64 spin, .bool false, .bool true, .int .i64 spin, .bool false, .bool true] 141)).cell? ⟨va.heap.size, 5, none⟩ = some (.bool true) := by simp
      obtain ⟨vu, hvu⟩ : ∃ vu, vu = (va.alloc (.cells #[.int .i64 spin, .bool false, .bool true, .int .i64 spin, .bool false, .bool true] 141)) := ⟨_, rfl⟩
      have HU : StV base vu g (some ⟨a, 0, none⟩) c _ _ _ := hvu ▸ HHE.out.alloc _
      have hbu : Below va.heap.size va vu := hvu ▸ (Below.refl va.heap.size va).alloc (Nat.le_refl _) _
      rw [← hvu] at X0 X1 X2 X3 X4 X5 hH17 ⊢
      clear hvu
      have Y0 := keepc hbu B0
      have Y1 := keepc hbu B1
      have Y2 := keepc hbu B2
      have Z0 := keepc hbu T0
      have hbus : base ≤ vu.heap.size := Nat.le_trans (Nat.le_trans hbase HHbE.out.size) hbu.size
      have HHU := Lib.hid HU
      have HbU := Lib.hid (HHbE.out.trans (hbu.mono (Nat.le_trans hbase HHbE.out.size)))
      clear HU hbu
      refine wpAnyH_ready (rs := [4]) (by kernel_rfl) (by simp) ?_
      refine AllReadyH.cons (i := 4) rfl (fun K hK => ?_) AllReadyH.nil
      go_simp
      skip
      refine hK.out _ _ (by assumption) (fun hH18 => ?_)
      clear hK K
      try simp only [Act.put, List.setIfInBounds_toArray, List.set_cons_zero, List.set_cons_succ, List.getElem_toArray, List.getElem_cons_zero, List.getElem_cons_succ]
      have hoa : vu.ownsRow base 141 3 (.slice (some ⟨a, 0, none⟩) arms.length c) arms.length (cellsA (arms.set 0 (r, (x == y), false))) := by have h := HHU.out.ao; simp only [List.length_set] at h; exact h
      have Hoa := Lib.hid hoa
      clear hoa
      refine wpAnyH_ready (rs := [8]) (by kernel_rfl) (by simp) ?_
      refine AllReadyH.cons (i := 8) rfl (fun K hK => ?_) AllReadyH.nil
      refine step_armsL rfl (.tmp 195) (.tmp 198) rfl base (.slice (some ⟨a, 0, none⟩) arms.length c) (arms.set 0 (r, (x == y), false)) arms.length (by simp) rfl Hoa.out spin false true va.heap.size rfl X0 X1 X2 X3 X4 X5 (by omega) hbus ?_
      intro G2 c9 w9 ho9 hg9 hat9
      have J0 := World.grownBy.cell hg9 Y0 (fun e => has (Option.some.inj e))
      have J1 := World.grownBy.cell hg9 Y1 (fun e => has (Option.some.inj e))
      have J2 := World.grownBy.cell hg9 Y2 (fun e => has (Option.some.inj e))
      have J3 := World.grownBy.cell hg9 Z0 (fun e => hane (Option.some.inj e).symm)
      have J4 := (hg9.frozen_far ⟨g, 0, none⟩ (block_lt Z0) (fun e => hane (Option.some.inj e).symm)).trans (HHU.out.live 0)
      refine hK.out _ _ ⟨J0, J1, J2⟩ (fun hH19 => ?_)
      clear hK K
      try simp only [Act.put, List.setIfInBounds_toArray, List.set_cons_zero, List.set_cons_succ, List.getElem_toArray, List.getElem_cons_zero, List.getElem_cons_succ]
      refine reg_take 9 rfl (by kernel_rfl) (by kernel_rfl) (by kernel_rfl) (fun _ _ _ h => h) (by rfl) (fun w _ => by first | (go_simp; done) | (go_simp; with_reducible rfl)) (by assumption) ?_
      try simp only [Act.put, List.setIfInBounds_toArray, List.set_cons_zero, List.set_cons_succ, List.getElem_toArray, List.getElem_cons_zero, List.getElem_cons_succ]
      refine reg_take 10 rfl (by kernel_rfl) (by kernel_rfl) (by kernel_rfl) (fun _ _ _ h => h) (by rfl) (fun w _ => by first | (go_simp; done) | (go_simp; with_reducible rfl)) (by assumption) ?_
      try simp only [Act.put, List.setIfInBounds_toArray, List.set_cons_zero, List.set_cons_succ, List.getElem_toArray, List.getElem_cons_zero, List.getElem_cons_succ]
      refine wpAnyH_ready (rs := [11]) (by kernel_rfl) (by simp) ?_
      refine AllReadyH.cons (i := 11) rfl (fun K hK => ?_) AllReadyH.nil
      go_simp
      skip
      refine hK.out _ _ ⟨far1 hgs.symm J0, far1 hgs.symm J1, far1 hgs.symm J2⟩ (fun hH20 => ?_)
      clear hK K
      try simp only [Act.put, List.setIfInBounds_toArray, List.set_cons_zero, List.set_cons_succ, List.getElem_toArray, List.getElem_cons_zero, List.getElem_cons_succ]
      refine wpAnyH_done (by kernel_rfl) ?_ _
      have hul : (arms.set 0 (r, (x == y), false) ++ [(spin, false, true), (spin, false, true)]).length = arms.length + 2 := by simp
      have HF := HHU.out.arms_ (arms.set 0 (r, (x == y), false) ++ [(spin, false, true), (spin, false, true)]) _ hg9 (fun gx hx => by simpa using hx) (by rw [hul]; exact ho9) (fun gx hgx9 => by have e1 : G2 = gx := Option.some.inj hgx9; subst e1; rcases hat9 with e2 | e2; exact .inl (by simpa using e2); exact .inr (Nat.le_of_eq e2.symm))
      rw [hul] at HF
      have HbF := (Below.grown HbU.out hg9 hbus (fun gx hx => (Hoa.out.lt gx hx).1)).setCell (p := ⟨g, 0, none⟩) hlo (.slice (some ⟨G2, 0, none⟩) (arms.length + 2) c9)
      have S2 := HF.c2
      have HHF := Lib.hid HF
      have HHbF := Lib.hid HbF
      clear HF HbF
      go_wp2
      all_goals
        go_ret
        first
          | exact ⟨rfl, ⟨_, _, _, _, HHF.out⟩, HHbF.out⟩
          | (have hf := HHF.out; have hxy : x = y := (by assumption); subst hxy; rw [beq_self_eq_true] at hf; exact ⟨rfl, ⟨_, _, _, _, hf⟩, HHbF.out⟩)
  · skip
    go_simp
    skip
    refine hK.out _ _ ⟨keepc ((Below.refl v7.heap.size v7).alloc (Nat.le_refl _) _) D0, keepc ((Below.refl v7.heap.size v7).alloc (Nat.le_refl _) _) D1⟩ (fun hH21 => ?_)
    clear hK K
    try simp only [Act.put, List.setIfInBounds_toArray, List.set_cons_zero, List.set_cons_succ, List.getElem_toArray, List.getElem_cons_zero, List.getElem_cons_succ]
    have X0 : (v7.alloc (.cells #[.int .i64 x, .int .i64 y] 30)).cell? ⟨v7.heap.size, 0, none⟩ = some (.int .i64 x) := by simp
    have X1 : (v7.alloc (.cells #[.int .i64 x, .int .i64 y] 30)).cell? ⟨v7.heap.size, 1, none⟩ = some (.int .i64 y) := by simp
    obtain ⟨v8, hv8⟩ : ∃ v8, v8 = (v7.alloc (.cells #[.int .i64 x, .int .i64 y] 30)) := ⟨_, rfl⟩
    have HC : StV base v8 g (some ⟨a, 0, none⟩) c B d _ := hv8 ▸ HHB.out.alloc _
    have hb8 : Below v7.heap.size v7 v8 := hv8 ▸ (Below.refl v7.heap.size v7).alloc (Nat.le_refl _) _
    rw [← hv8] at X0 X1 hH21 ⊢
    clear hv8
    have Y0 := keepc hb8 D0
    have Y1 := keepc hb8 D1
    have Y2 := keepc hb8 D2
    have Z1 := keepc hb8 E1
    have hb8s : base ≤ v8.heap.size := Nat.le_trans (Nat.le_trans hbase HHbwB.out.size) hb8.size
    have HHC := Lib.hid HC
    have Hb8 := Lib.hid (HHbwB.out.trans (hb8.mono (Nat.le_trans hbase HHbwB.out.size)))
    clear HC hb8
    refine wpAnyH_ready (rs := [4]) (by kernel_rfl) (by simp) ?_
    refine AllReadyH.cons (i := 4) rfl (fun K hK => ?_) AllReadyH.nil
    go_simp
    skip
    refine hK.out _ _ (by assumption) (fun hH22 => ?_)
    clear hK K
    try simp only [Act.put, List.setIfInBounds_toArray, List.set_cons_zero, List.set_cons_succ, List.getElem_toArray, List.getElem_cons_zero, List.getElem_cons_succ]
    refine wpAnyH_ready (rs := [8]) (by kernel_rfl) (by simp) ?_
    refine AllReadyH.cons (i := 8) rfl (fun K hK => ?_) AllReadyH.nil
    refine step_tileL rfl (.tmp 178) (.tmp 181) rfl base _ tiles rfl HHC.out.bo x y v7.heap.size rfl X0 X1 (by omega) hb8s ?_
    intro G c8 w8 ho8 hg8 hat8
    have J0 := World.grownBy.cell hg8 Y0 (fun e => Nat.lt_irrefl _ (Hbl.out _ e.symm))
    have J1 := World.grownBy.cell hg8 Y1 (fun e => Nat.lt_irrefl _ (Hbl.out _ e.symm))
    have J2 := World.grownBy.cell hg8 Y2 (fun e => Nat.lt_irrefl _ (Hbl.out _ e.symm))
    have J3 := World.grownBy.cell hg8 Z1 (fun e => HHC.out.bg _ e.symm rfl)
    have J4 := (hg8.frozen_far ⟨g, 1, none⟩ (block_lt Z1) (fun e => HHC.out.bg _ e.symm rfl)).trans (HHC.out.live 1)
    refine hK.out _ _ ⟨J0, J1⟩ (fun hH23 => ?_)
    clear hK K
    try simp only [Act.put, List.setIfInBounds_toArray, List.set_cons_zero, List.set_cons_succ, List.getElem_toArray, List.getElem_cons_zero, List.getElem_cons_succ]
    refine reg_take 9 rfl (by kernel_rfl) (by kernel_rfl) (by kernel_rfl) (fun _ _ _ h => h) (by rfl) (fun w _ => by first | (go_simp; done) | (go_simp; with_reducible rfl)) (by assumption) ?_
    try simp only [Act.put, List.setIfInBounds_toArray, List.set_cons_zero, List.set_cons_succ, List.getElem_toArray, List.getElem_cons_zero, List.getElem_cons_succ]
    refine reg_take 10 rfl (by kernel_rfl) (by kernel_rfl) (by kernel_rfl) (fun _ _ _ h => h) (by rfl) (fun w _ => by first | (go_simp; done) | (go_simp; with_reducible rfl)) (by assumption) ?_
    try simp only [Act.put, List.setIfInBounds_toArray, List.set_cons_zero, List.set_cons_succ, List.getElem_toArray, List.getElem_cons_zero, List.getElem_cons_succ]
    refine wpAnyH_ready (rs := [11]) (by kernel_rfl) (by simp) ?_
    refine AllReadyH.cons (i := 11) rfl (fun K hK => ?_) AllReadyH.nil
    go_simp
    skip
    refine hK.out _ _ ⟨far1 hgx J0, far1 hgx J1⟩ (fun hH24 => ?_)
    clear hK K
    try simp only [Act.put, List.setIfInBounds_toArray, List.set_cons_zero, List.set_cons_succ, List.getElem_toArray, List.getElem_cons_zero, List.getElem_cons_succ]
    refine wpAnyH_done (by kernel_rfl) ?_ _
    have HD : StV base (w8.setCell ⟨g, 1, none⟩ (.slice (some ⟨G, 0, none⟩) (tiles.length + 1) c8)) g (some ⟨a, 0, none⟩) c (some ⟨G, 0, none⟩) c8 ⟨arms.set 0 (r, (x == y), false), tiles ++ [(x, y)], spin, waits, true, true, true⟩ := HHC.out.tiles_ (x, y) hg8 ho8 (fun gx hgx8 => by have e1 : G = gx := Option.some.inj hgx8; subst e1; rcases hat8 with e2 | e2; exact .inl e2; exact .inr (Nat.le_of_eq e2.symm))
    have HbD : Below base w (w8.setCell ⟨g, 1, none⟩ (.slice (some ⟨G, 0, none⟩) (tiles.length + 1) c8)) := (Below.grown Hb8.out hg8 hb8s (fun gx hgx8 => (HHC.out.bo.lt gx hgx8).1)).setCell (p := ⟨g, 1, none⟩) hlo _
    have J2b : (w8.setCell ⟨g, 1, none⟩ (.slice (some ⟨G, 0, none⟩) (tiles.length + 1) c8)).cell? ⟨w.heap.size, 2, none⟩ = some (.int .i64 (0 : Int)) := far1 hgx J2
    have J0b : (w8.setCell ⟨g, 1, none⟩ (.slice (some ⟨G, 0, none⟩) (tiles.length + 1) c8)).cell? ⟨w.heap.size, 0, none⟩ = some (.int .i64 x) := far1 hgx J0
    obtain ⟨v9, hv9⟩ : ∃ v9, v9 = (w8.setCell ⟨g, 1, none⟩ (.slice (some ⟨G, 0, none⟩) (tiles.length + 1) c8)) := ⟨_, rfl⟩
    rw [← hv9] at HD HbD J2b J0b hH24 ⊢
    clear hv9 hH0 hH24 hH23 J0 J1 J2 J3 J4 Y0 Y1 Y2 Z1 X0 X1 ho8 hg8 hat8 HHC Hb8 HHB HHbwB D0 D1 D2 E1
    have S2 : v9.cell? ⟨g, 2, none⟩ = some (.int .i64 spin) := HD.c2
    have HHD := Lib.hid HD
    have HHbD := Lib.hid HbD
    clear HD HbD
    have A0 : (v9.alloc (.cells #[.int .i64 spin, .bool false, .bool true] 141)).cell? ⟨v9.heap.size, 0, none⟩ = some (.int .i64 spin) := by simp
    have A1 : (v9.alloc (.cells #[.int .i64 spin, .bool false, .bool true] 141)).cell? ⟨v9.heap.size, 1, none⟩ = some (.bool false) := by simp
    have A2 : (v9.alloc (.cells #[.int .i64 spin, .bool false, .bool true] 141)).cell? ⟨v9.heap.size, 2, none⟩ = some (.bool true) := by simp
    have S0 : (v9.alloc (.cells #[.int .i64 spin, .bool false, .bool true] 141)).cell? ⟨g, 0, none⟩ = some (.slice (some ⟨a, 0, none⟩) arms.length c) := by have h := (HHD.out.alloc (.cells #[.int .i64 spin, .bool false, .bool true] 141)).c0; simp only [List.length_set] at h; exact h
    have hgs : v9.heap.size ≠ g := fun e => by have := HHD.out.lt; omega
    have has : v9.heap.size ≠ a := fun e => by have := (HHD.out.ao.lt a rfl).2; omega
    go_wp2_with fail
    refine wp_region_held_drew (S := fun w' => w'.cell? ⟨v9.heap.size, 0, none⟩ = some (.int .i64 spin) ∧ w'.cell? ⟨v9.heap.size, 1, none⟩ = some (.bool false) ∧ w'.cell? ⟨v9.heap.size, 2, none⟩ = some (.bool true)) (by kernel_rfl) ⟨A0, A1, A2⟩ (fun hH0 => ?_)
    obtain ⟨va, hva⟩ : ∃ va, va = (v9.alloc (.cells #[.int .i64 spin, .bool false, .bool true] 141)).drew := ⟨_, rfl⟩
    have HE : StV base va g (some ⟨a, 0, none⟩) c _ _ _ := hva ▸ (HHD.out.alloc (.cells #[.int .i64 spin, .bool false, .bool true] 141)).drew
    have HbE : Below base w va := hva ▸ (HHbD.out.alloc (Nat.le_trans hbase HHbD.out.size) _).drew
    have B0 : va.cell? ⟨v9.heap.size, 0, none⟩ = some (.int .i64 spin) := hva ▸ A0
    have B1 : va.cell? ⟨v9.heap.size, 1, none⟩ = some (.bool false) := hva ▸ A1
    have B2 : va.cell? ⟨v9.heap.size, 2, none⟩ = some (.bool true) := hva ▸ A2
    have T0 : va.cell? ⟨g, 0, none⟩ = some (.slice (some ⟨a, 0, none⟩) arms.length c) := hva ▸ S0
    rw [← hva] at hH0 ⊢
    clear hva A0 A1 A2 S0 S2 J2b J0b HHD HHbD
    have HHE := Lib.hid HE
    have HHbE := Lib.hid HbE
    clear HE HbE
    refine reg_take 0 rfl (by kernel_rfl) (by kernel_rfl) (by kernel_rfl) (fun _ _ _ h => h) (by rfl) (fun w _ => by first | (go_simp; done) | (go_simp; with_reducible rfl)) (by assumption) ?_
    try simp only [Act.put, List.setIfInBounds_toArray, List.set_cons_zero, List.set_cons_succ, List.getElem_toArray, List.getElem_cons_zero]
    refine reg_take 1 rfl (by kernel_rfl) (by kernel_rfl) (by kernel_rfl) (fun _ _ _ h => h) (by rfl) (fun w _ => by first | (go_simp; done) | (go_simp; with_reducible rfl)) (by assumption) ?_
    try simp only [Act.put, List.setIfInBounds_toArray, List.set_cons_zero, List.set_cons_succ, List.getElem_toArray, List.getElem_cons_zero, List.getElem_cons_succ]
    refine reg_take 2 rfl (by kernel_rfl) (by kernel_rfl) (by kernel_rfl) (fun _ _ _ h => h) (by rfl) (fun w _ => by first | (go_simp; done) | (go_simp; with_reducible rfl)) (by assumption) ?_
    try simp only [Act.put, List.setIfInBounds_toArray, List.set_cons_zero, List.set_cons_succ, List.getElem_toArray, List.getElem_cons_zero, List.getElem_cons_succ]
    refine reg_take 3 rfl (by kernel_rfl) (by kernel_rfl) (by kernel_rfl) (fun _ _ _ h => h) (by rfl) (fun w _ => by first | (go_simp; done) | (go_simp; with_reducible rfl)) (by assumption) ?_
    try simp only [Act.put, List.setIfInBounds_toArray, List.set_cons_zero, List.set_cons_succ, List.getElem_toArray, List.getElem_cons_zero, List.getElem_cons_succ]
    refine reg_take 5 rfl (by kernel_rfl) (by kernel_rfl) (by kernel_rfl) (fun _ _ _ h => h) (by rfl) (fun w hSw => by (try dsimp only at hSw); first | (go_simp; done) | (go_simp; with_reducible rfl)) (by assumption) ?_
    try simp only [Act.put, List.setIfInBounds_toArray, List.set_cons_zero, List.set_cons_succ, List.getElem_toArray, List.getElem_cons_zero, List.getElem_cons_succ]
    refine reg_take 6 rfl (by kernel_rfl) (by kernel_rfl) (by kernel_rfl) (fun _ _ _ h => h) (by rfl) (fun w hSw => by (try dsimp only at hSw); first | (go_simp; done) | (go_simp; with_reducible rfl)) (by assumption) ?_
    try simp only [Act.put, List.setIfInBounds_toArray, List.set_cons_zero, List.set_cons_succ, List.getElem_toArray, List.getElem_cons_zero, List.getElem_cons_succ]
    refine wpAnyH_ready (rs := [4, 7]) (by kernel_rfl) (by simp) ?_
    refine AllReadyH.cons (i := 4) rfl (fun K hK => ?_) (AllReadyH.cons (i := 7) rfl (fun K hK => ?_) AllReadyH.nil)
    · skip
      go_simp
      skip
      refine hK.out _ _ (by assumption) (fun hH25 => ?_)
      clear hK K
      try simp only [Act.put, List.setIfInBounds_toArray, List.set_cons_zero, List.set_cons_succ, List.getElem_toArray, List.getElem_cons_zero, List.getElem_cons_succ]
      refine wpAnyH_ready (rs := [7]) (by kernel_rfl) (by simp) ?_
      refine AllReadyH.cons (i := 7) rfl (fun K hK => ?_) AllReadyH.nil
      go_simp
      skip
      refine hK.out _ _ ⟨keepc ((Below.refl va.heap.size va).alloc (Nat.le_refl _) _) B0, keepc ((Below.refl va.heap.size va).alloc (Nat.le_refl _) _) B1, keepc ((Below.refl va.heap.size va).alloc (Nat.le_refl _) _) B2⟩ (fun hH26 => ?_)
      clear hK K
      try simp only [Act.put, List.setIfInBounds_toArray, List.set_cons_zero, List.set_cons_succ, List.getElem_toArray, List.getElem_cons_zero, List.getElem_cons_succ]
      have X0 : (va.alloc (.cells #[.int .i64 spin, .bool false, .bool true, .int .i64 spin, .bool false, .bool true] 141)).cell? ⟨va.heap.size, 0, none⟩ = some (.int .i64 spin) := by simp
      have X1 : (va.alloc (.cells #[.int .i64 spin, .bool false, .bool true, .int .i64 spin, .bool false, .bool true] 141)).cell? ⟨va.heap.size, 1, none⟩ = some (.bool false) := by simp
      have X2 : (va.alloc (.cells #[.int .i64 spin, .bool false, .bool true, .int .i64 spin, .bool false, .bool true] 141)).cell? ⟨va.heap.size, 2, none⟩ = some (.bool true) := by simp
      have X3 : (va.alloc (.cells #[.int .i64 spin, .bool false, .bool true, .int .i64 spin, .bool false, .bool true] 141)).cell? ⟨va.heap.size, 3, none⟩ = some (.int .i64 spin) := by simp
      have X4 : (va.alloc (.cells #[.int .i64 spin, .bool false, .bool true, .int .i64 spin, .bool false, .bool true] 141)).cell? ⟨va.heap.size, 4, none⟩ = some (.bool false) := by simp
      have X5 : (va.alloc (.cells #[.int .i64 spin, .bool false, .bool true, .int .i64 spin, .bool false, .bool true] 141)).cell? ⟨va.heap.size, 5, none⟩ = some (.bool true) := by simp
      obtain ⟨vu, hvu⟩ : ∃ vu, vu = (va.alloc (.cells #[.int .i64 spin, .bool false, .bool true, .int .i64 spin, .bool false, .bool true] 141)) := ⟨_, rfl⟩
      have HU : StV base vu g (some ⟨a, 0, none⟩) c _ _ _ := hvu ▸ HHE.out.alloc _
      have hbu : Below va.heap.size va vu := hvu ▸ (Below.refl va.heap.size va).alloc (Nat.le_refl _) _
      rw [← hvu] at X0 X1 X2 X3 X4 X5 hH26 ⊢
      clear hvu
      have Y0 := keepc hbu B0
      have Y1 := keepc hbu B1
      have Y2 := keepc hbu B2
      have Z0 := keepc hbu T0
      have hbus : base ≤ vu.heap.size := Nat.le_trans (Nat.le_trans hbase HHbE.out.size) hbu.size
      have HHU := Lib.hid HU
      have HbU := Lib.hid (HHbE.out.trans (hbu.mono (Nat.le_trans hbase HHbE.out.size)))
      clear HU hbu
      have hoa : vu.ownsRow base 141 3 (.slice (some ⟨a, 0, none⟩) arms.length c) arms.length (cellsA (arms.set 0 (r, (x == y), false))) := by have h := HHU.out.ao; simp only [List.length_set] at h; exact h
      have Hoa := Lib.hid hoa
      clear hoa
      refine wpAnyH_ready (rs := [8]) (by kernel_rfl) (by simp) ?_
      refine AllReadyH.cons (i := 8) rfl (fun K hK => ?_) AllReadyH.nil
      refine step_armsL rfl (.tmp 195) (.tmp 198) rfl base (.slice (some ⟨a, 0, none⟩) arms.length c) (arms.set 0 (r, (x == y), false)) arms.length (by simp) rfl Hoa.out spin false true va.heap.size rfl X0 X1 X2 X3 X4 X5 (by omega) hbus ?_
      intro G2 c9 w9 ho9 hg9 hat9
      have J0 := World.grownBy.cell hg9 Y0 (fun e => has (Option.some.inj e))
      have J1 := World.grownBy.cell hg9 Y1 (fun e => has (Option.some.inj e))
      have J2 := World.grownBy.cell hg9 Y2 (fun e => has (Option.some.inj e))
      have J3 := World.grownBy.cell hg9 Z0 (fun e => hane (Option.some.inj e).symm)
      have J4 := (hg9.frozen_far ⟨g, 0, none⟩ (block_lt Z0) (fun e => hane (Option.some.inj e).symm)).trans (HHU.out.live 0)
      refine hK.out _ _ ⟨J0, J1, J2⟩ (fun hH27 => ?_)
      clear hK K
      try simp only [Act.put, List.setIfInBounds_toArray, List.set_cons_zero, List.set_cons_succ, List.getElem_toArray, List.getElem_cons_zero, List.getElem_cons_succ]
      refine reg_take 9 rfl (by kernel_rfl) (by kernel_rfl) (by kernel_rfl) (fun _ _ _ h => h) (by rfl) (fun w _ => by first | (go_simp; done) | (go_simp; with_reducible rfl)) (by assumption) ?_
      try simp only [Act.put, List.setIfInBounds_toArray, List.set_cons_zero, List.set_cons_succ, List.getElem_toArray, List.getElem_cons_zero, List.getElem_cons_succ]
      refine reg_take 10 rfl (by kernel_rfl) (by kernel_rfl) (by kernel_rfl) (fun _ _ _ h => h) (by rfl) (fun w _ => by first | (go_simp; done) | (go_simp; with_reducible rfl)) (by assumption) ?_
      try simp only [Act.put, List.setIfInBounds_toArray, List.set_cons_zero, List.set_cons_succ, List.getElem_toArray, List.getElem_cons_zero, List.getElem_cons_succ]
      refine wpAnyH_ready (rs := [11]) (by kernel_rfl) (by simp) ?_
      refine AllReadyH.cons (i := 11) rfl (fun K hK => ?_) AllReadyH.nil
      go_simp
      skip
      refine hK.out _ _ ⟨far1 hgs.symm J0, far1 hgs.symm J1, far1 hgs.symm J2⟩ (fun hH28 => ?_)
      clear hK K
      try simp only [Act.put, List.setIfInBounds_toArray, List.set_cons_zero, List.set_cons_succ, List.getElem_toArray, List.getElem_cons_zero, List.getElem_cons_succ]
      refine wpAnyH_done (by kernel_rfl) ?_ _
      have hul : (arms.set 0 (r, (x == y), false) ++ [(spin, false, true), (spin, false, true)]).length = arms.length + 2 := by simp
      have HF := HHU.out.arms_ (arms.set 0 (r, (x == y), false) ++ [(spin, false, true), (spin, false, true)]) _ hg9 (fun gx hx => by simpa using hx) (by rw [hul]; exact ho9) (fun gx hgx9 => by have e1 : G2 = gx := Option.some.inj hgx9; subst e1; rcases hat9 with e2 | e2; exact .inl (by simpa using e2); exact .inr (Nat.le_of_eq e2.symm))
      rw [hul] at HF
      have HbF := (Below.grown HbU.out hg9 hbus (fun gx hx => (Hoa.out.lt gx hx).1)).setCell (p := ⟨g, 0, none⟩) hlo (.slice (some ⟨G2, 0, none⟩) (arms.length + 2) c9)
      have S2 := HF.c2
      have HHF := Lib.hid HF
      have HHbF := Lib.hid HbF
      clear HF HbF
      go_wp2
      all_goals
        go_ret
        first
          | exact ⟨rfl, ⟨_, _, _, _, HHF.out⟩, HHbF.out⟩
          | (have hf := HHF.out; have hxy : x = y := (by assumption); subst hxy; rw [beq_self_eq_true] at hf; exact ⟨rfl, ⟨_, _, _, _, hf⟩, HHbF.out⟩)
    · skip
      go_simp
      skip
      refine hK.out _ _ ⟨keepc ((Below.refl va.heap.size va).alloc (Nat.le_refl _) _) B0, keepc ((Below.refl va.heap.size va).alloc (Nat.le_refl _) _) B1, keepc ((Below.refl va.heap.size va).alloc (Nat.le_refl _) _) B2⟩ (fun hH29 => ?_)
      clear hK K
      try simp only [Act.put, List.setIfInBounds_toArray, List.set_cons_zero, List.set_cons_succ, List.getElem_toArray, List.getElem_cons_zero, List.getElem_cons_succ]
      have X0 : (va.alloc (.cells #[.int .i64 spin, .bool false, .bool true, .int .i64 spin, .bool false, .bool true] 141)).cell? ⟨va.heap.size, 0, none⟩ = some (.int .i64 spin) := by simp
      have X1 : (va.alloc (.cells #[.int .i64 spin, .bool false, .bool true, .int .i64 spin, .bool false, .bool true] 141)).cell? ⟨va.heap.size, 1, none⟩ = some (.bool false) := by simp
      have X2 : (va.alloc (.cells #[.int .i64 spin, .bool false, .bool true, .int .i64 spin, .bool false, .bool true] 141)).cell? ⟨va.heap.size, 2, none⟩ = some (.bool true) := by simp
      have X3 : (va.alloc (.cells #[.int .i64 spin, .bool false, .bool true, .int .i64 spin, .bool false, .bool true] 141)).cell? ⟨va.heap.size, 3, none⟩ = some (.int .i64 spin) := by simp
      have X4 : (va.alloc (.cells #[.int .i64 spin, .bool false, .bool true, .int .i64 spin, .bool false, .bool true] 141)).cell? ⟨va.heap.size, 4, none⟩ = some (.bool false) := by simp
      have X5 : (va.alloc (.cells #[.int .i64 spin, .bool false, .bool true, .int .i64 spin, .bool false, .bool true] 141)).cell? ⟨va.heap.size, 5, none⟩ = some (.bool true) := by simp
      obtain ⟨vu, hvu⟩ : ∃ vu, vu = (va.alloc (.cells #[.int .i64 spin, .bool false, .bool true, .int .i64 spin, .bool false, .bool true] 141)) := ⟨_, rfl⟩
      have HU : StV base vu g (some ⟨a, 0, none⟩) c _ _ _ := hvu ▸ HHE.out.alloc _
      have hbu : Below va.heap.size va vu := hvu ▸ (Below.refl va.heap.size va).alloc (Nat.le_refl _) _
      rw [← hvu] at X0 X1 X2 X3 X4 X5 hH29 ⊢
      clear hvu
      have Y0 := keepc hbu B0
      have Y1 := keepc hbu B1
      have Y2 := keepc hbu B2
      have Z0 := keepc hbu T0
      have hbus : base ≤ vu.heap.size := Nat.le_trans (Nat.le_trans hbase HHbE.out.size) hbu.size
      have HHU := Lib.hid HU
      have HbU := Lib.hid (HHbE.out.trans (hbu.mono (Nat.le_trans hbase HHbE.out.size)))
      clear HU hbu
      refine wpAnyH_ready (rs := [4]) (by kernel_rfl) (by simp) ?_
      refine AllReadyH.cons (i := 4) rfl (fun K hK => ?_) AllReadyH.nil
      go_simp
      skip
      refine hK.out _ _ (by assumption) (fun hH30 => ?_)
      clear hK K
      try simp only [Act.put, List.setIfInBounds_toArray, List.set_cons_zero, List.set_cons_succ, List.getElem_toArray, List.getElem_cons_zero, List.getElem_cons_succ]
      have hoa : vu.ownsRow base 141 3 (.slice (some ⟨a, 0, none⟩) arms.length c) arms.length (cellsA (arms.set 0 (r, (x == y), false))) := by have h := HHU.out.ao; simp only [List.length_set] at h; exact h
      have Hoa := Lib.hid hoa
      clear hoa
      refine wpAnyH_ready (rs := [8]) (by kernel_rfl) (by simp) ?_
      refine AllReadyH.cons (i := 8) rfl (fun K hK => ?_) AllReadyH.nil
      refine step_armsL rfl (.tmp 195) (.tmp 198) rfl base (.slice (some ⟨a, 0, none⟩) arms.length c) (arms.set 0 (r, (x == y), false)) arms.length (by simp) rfl Hoa.out spin false true va.heap.size rfl X0 X1 X2 X3 X4 X5 (by omega) hbus ?_
      intro G2 c9 w9 ho9 hg9 hat9
      have J0 := World.grownBy.cell hg9 Y0 (fun e => has (Option.some.inj e))
      have J1 := World.grownBy.cell hg9 Y1 (fun e => has (Option.some.inj e))
      have J2 := World.grownBy.cell hg9 Y2 (fun e => has (Option.some.inj e))
      have J3 := World.grownBy.cell hg9 Z0 (fun e => hane (Option.some.inj e).symm)
      have J4 := (hg9.frozen_far ⟨g, 0, none⟩ (block_lt Z0) (fun e => hane (Option.some.inj e).symm)).trans (HHU.out.live 0)
      refine hK.out _ _ ⟨J0, J1, J2⟩ (fun hH31 => ?_)
      clear hK K
      try simp only [Act.put, List.setIfInBounds_toArray, List.set_cons_zero, List.set_cons_succ, List.getElem_toArray, List.getElem_cons_zero, List.getElem_cons_succ]
      refine reg_take 9 rfl (by kernel_rfl) (by kernel_rfl) (by kernel_rfl) (fun _ _ _ h => h) (by rfl) (fun w _ => by first | (go_simp; done) | (go_simp; with_reducible rfl)) (by assumption) ?_
      try simp only [Act.put, List.setIfInBounds_toArray, List.set_cons_zero, List.set_cons_succ, List.getElem_toArray, List.getElem_cons_zero, List.getElem_cons_succ]
      refine reg_take 10 rfl (by kernel_rfl) (by kernel_rfl) (by kernel_rfl) (fun _ _ _ h => h) (by rfl) (fun w _ => by first | (go_simp; done) | (go_simp; with_reducible rfl)) (by assumption) ?_
      try simp only [Act.put, List.setIfInBounds_toArray, List.set_cons_zero, List.set_cons_succ, List.getElem_toArray, List.getElem_cons_zero, List.getElem_cons_succ]
      refine wpAnyH_ready (rs := [11]) (by kernel_rfl) (by simp) ?_
      refine AllReadyH.cons (i := 11) rfl (fun K hK => ?_) AllReadyH.nil
      go_simp
      skip
      refine hK.out _ _ ⟨far1 hgs.symm J0, far1 hgs.symm J1, far1 hgs.symm J2⟩ (fun hH32 => ?_)
      clear hK K
      try simp only [Act.put, List.setIfInBounds_toArray, List.set_cons_zero, List.set_cons_succ, List.getElem_toArray, List.getElem_cons_zero, List.getElem_cons_succ]
      refine wpAnyH_done (by kernel_rfl) ?_ _
      have hul : (arms.set 0 (r, (x == y), false) ++ [(spin, false, true), (spin, false, true)]).length = arms.length + 2 := by simp
      have HF := HHU.out.arms_ (arms.set 0 (r, (x == y), false) ++ [(spin, false, true), (spin, false, true)]) _ hg9 (fun gx hx => by simpa using hx) (by rw [hul]; exact ho9) (fun gx hgx9 => by have e1 : G2 = gx := Option.some.inj hgx9; subst e1; rcases hat9 with e2 | e2; exact .inl (by simpa using e2); exact .inr (Nat.le_of_eq e2.symm))
      rw [hul] at HF
      have HbF := (Below.grown HbU.out hg9 hbus (fun gx hx => (Hoa.out.lt gx hx).1)).setCell (p := ⟨g, 0, none⟩) hlo (.slice (some ⟨G2, 0, none⟩) (arms.length + 2) c9)
      have S2 := HF.c2
      have HHF := Lib.hid HF
      have HHbF := Lib.hid HbF
      clear HF HbF
      go_wp2
      all_goals
        go_ret
        first
          | exact ⟨rfl, ⟨_, _, _, _, HHF.out⟩, HHbF.out⟩
          | (have hf := HHF.out; have hxy : x = y := (by assumption); subst hxy; rw [beq_self_eq_true] at hf; exact ⟨rfl, ⟨_, _, _, _, hf⟩, HHbF.out⟩)
end Go.Proofs.Ytnnkdnleencofab

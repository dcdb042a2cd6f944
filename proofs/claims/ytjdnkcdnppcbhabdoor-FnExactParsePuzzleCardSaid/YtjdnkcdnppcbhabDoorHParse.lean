/- The parsing of one tile: the program's own. -/
import Derived.Test.YtjdnkcdnppcbhabDoorHWords
import Derived.Test.YtjdnkcdnppcbhabDoorHTextI
namespace Go.Proofs.YtjdnkcdnppcbhabDoor
open Go.RowKit
set_option linter.unusedVariables false

def digI (x : UInt8) : Int := (x.toNat : Int) - 48
theorem two_set {w : World} {G : Nat} {a b : Value} (h0 : w.cell? ⟨G, 0, none⟩ = some a) (h1 : w.cell? ⟨G, 1, none⟩ = some b) (u v : Value) :
    (w.setCell ⟨G, 0, none⟩ u).cell? ⟨G, 0, none⟩ = some u ∧ ((w.setCell ⟨G, 0, none⟩ u).setCell ⟨G, 1, none⟩ v).cell? ⟨G, 1, none⟩ = some v := by
  refine ⟨World.cell?_setCell_same _ _ _ h0, World.cell?_setCell_same _ _ _ (u := b) ?_⟩
  rw [World.cell?_setCell_other _ _ _ _ (fun e => by injection e; omega)]
  exact h1
theorem byte_le2 (x : UInt8) : x.toNat ≤ 255 := by have := x.toNat_lt; omega

set_option maxRecDepth 100000 in
set_option maxHeartbeats 1000000 in
theorem c_parseBad (b : ByteArray) (h : b.size ≠ 2) (w : World) :
    Calls Tryd.prog 49 #[.string b] w fun e w' => e = .returned (.tuple #[.agg #[.int .i64 0, .int .i64 0], .bool false]) ∧ Below w.heap.size w w' := by
  have hn : ((b.size : Int) != 2) = true := by simp; omega
  go_enter Tryd.func49, Tryd.ntmps49
  go_wp2
  go_returns
  exact ⟨rfl, by go_grown⟩

set_option maxRecDepth 100000 in
set_option maxHeartbeats 1000000 in
theorem c_parseTwo (b : ByteArray) (h0 : 0 < b.size) (h1 : 1 < b.size) (h2 : ((b.size : Int) != 2) = false) (w : World) :
    Calls Tryd.prog 49 #[.string b] w fun e w' => e = .returned (.tuple #[.agg #[.int .i64 (if goodB (digI b[0]) (digI b[1]) = true then digI b[0] else 0), .int .i64 (if goodB (digI b[0]) (digI b[1]) = true then digI b[1] else 0)], .bool (goodB (digI b[0]) (digI b[1]))]) ∧ Below w.heap.size w w' := by
  have hx := byte_le2 b[0]
  have hy := byte_le2 b[1]
  have con := Lib.hid (fun W => c_implIsTile (digI b[0]) (digI b[1]) W)
  have wx : IntKind.i64.wrap (b[0].toNat : Int) = (b[0].toNat : Int) := IntWalk.i64_in _ (by omega)
  have wy : IntKind.i64.wrap (b[1].toNat : Int) = (b[1].toNat : Int) := IntWalk.i64_in _ (by omega)
  have wx2 : IntKind.i64.wrap ((b[0].toNat : Int) - 48) = digI b[0] := IntWalk.i64_in _ (by omega)
  have wy2 : IntKind.i64.wrap ((b[1].toNat : Int) - 48) = digI b[1] := IntWalk.i64_in _ (by omega)
  obtain ⟨p, hp⟩ : ∃ p, p = digI b[0] := ⟨_, rfl⟩
  obtain ⟨q, hq⟩ : ∃ q, q = digI b[1] := ⟨_, rfl⟩
  rw [← hp] at wx2 con ⊢
  rw [← hq] at wy2 con ⊢
  have i0 : (0 : Int) < (b.size : Int) := by omega
  have i1 : (1 : Int) < (b.size : Int) := by omega
  clear hx hy hp hq
  cases hg : goodB p q
  · rw [hg] at con
    rw [if_neg (by decide), if_neg (by decide)]
    clear hg
    go_enter Tryd.func49, Tryd.ntmps49
    go_wp2_with fail
    refine wp_region_held_drew (S := fun w' => True) (by kernel_rfl) trivial (fun hH0 => ?_)
    refine reg_take 0 rfl (by kernel_rfl) (by kernel_rfl) (by kernel_rfl) (fun _ _ _ h => h) (by rfl) (fun w _ => by first | (go_simp; done) | (go_simp; with_reducible rfl)) trivial ?_
    try simp only [Act.put, List.setIfInBounds_toArray, List.set_cons_zero, List.set_cons_succ, List.getElem_toArray, List.getElem_cons_zero]
    refine reg_take 1 rfl (by kernel_rfl) (by kernel_rfl) (by kernel_rfl) (fun _ _ _ h => h) (by rfl) (fun w _ => by first | (go_simp; done) | (go_simp; with_reducible rfl)) trivial ?_
    try simp only [Act.put, List.setIfInBounds_toArray, List.set_cons_zero, List.set_cons_succ, List.getElem_toArray, List.getElem_cons_zero, List.getElem_cons_succ]
    refine reg_take 2 rfl (by kernel_rfl) (by kernel_rfl) (by kernel_rfl) (fun _ _ _ h => h) (by rfl) (fun w _ => by first | (go_simp; done) | (go_simp; with_reducible rfl)) trivial ?_
    try simp only [Act.put, List.setIfInBounds_toArray, List.set_cons_zero, List.set_cons_succ, List.getElem_toArray, List.getElem_cons_zero, List.getElem_cons_succ]
    refine reg_take 3 rfl (by kernel_rfl) (by kernel_rfl) (by kernel_rfl) (fun _ _ _ h => h) (by rfl) (fun w _ => by first | (go_simp; done) | (go_simp; with_reducible rfl)) trivial ?_
    try simp only [Act.put, List.setIfInBounds_toArray, List.set_cons_zero, List.set_cons_succ, List.getElem_toArray, List.getElem_cons_zero, List.getElem_cons_succ]
    refine reg_take 4 rfl (by kernel_rfl) (by kernel_rfl) (by kernel_rfl) (fun _ _ _ h => h) (by rfl) (fun w _ => by first | (go_simp; done) | (go_simp; with_reducible rfl)) trivial ?_
    try simp only [Act.put, List.setIfInBounds_toArray, List.set_cons_zero, List.set_cons_succ, List.getElem_toArray, List.getElem_cons_zero, List.getElem_cons_succ]
    refine reg_take 5 rfl (by kernel_rfl) (by kernel_rfl) (by kernel_rfl) (fun _ _ _ h => h) (by rfl) (fun w _ => by first | (go_simp; done) | (go_simp; with_reducible rfl)) trivial ?_
    try simp only [Act.put, List.setIfInBounds_toArray, List.set_cons_zero, List.set_cons_succ, List.getElem_toArray, List.getElem_cons_zero, List.getElem_cons_succ]
    refine reg_take 6 rfl (by kernel_rfl) (by kernel_rfl) (by kernel_rfl) (fun _ _ _ h => h) (by rfl) (fun w _ => by first | (go_simp; done) | (go_simp; with_reducible rfl)) trivial ?_
    try simp only [Act.put, List.setIfInBounds_toArray, List.set_cons_zero, List.set_cons_succ, List.getElem_toArray, List.getElem_cons_zero, List.getElem_cons_succ]
    refine reg_take 7 rfl (by kernel_rfl) (by kernel_rfl) (by kernel_rfl) (fun _ _ _ h => h) (by rfl) (fun w _ => by first | (go_simp; done) | (go_simp; with_reducible rfl)) trivial ?_
    try simp only [Act.put, List.setIfInBounds_toArray, List.set_cons_zero, List.set_cons_succ, List.getElem_toArray, List.getElem_cons_zero, List.getElem_cons_succ]
    refine reg_take 8 rfl (by kernel_rfl) (by kernel_rfl) (by kernel_rfl) (fun _ _ _ h => h) (by rfl) (fun w _ => by first | (go_simp; done) | (go_simp; with_reducible rfl)) trivial ?_
    try simp only [Act.put, List.setIfInBounds_toArray, List.set_cons_zero, List.set_cons_succ, List.getElem_toArray, List.getElem_cons_zero, List.getElem_cons_succ]
    refine wpAnyH_ready (rs := [9]) (by kernel_rfl) (by simp) ?_
    refine AllReadyH.cons (i := 9) rfl (fun K hK => ?_) AllReadyH.nil
    go_simp
    skip
    refine hK.out _ _ trivial (fun hH9 => ?_)
    clear hK K
    try simp only [Act.put, List.setIfInBounds_toArray, List.set_cons_zero, List.set_cons_succ, List.getElem_toArray, List.getElem_cons_zero, List.getElem_cons_succ]
    refine wpAnyH_ready (rs := [10]) (by kernel_rfl) (by simp) ?_
    refine AllReadyH.cons (i := 10) rfl (fun K hK => ?_) AllReadyH.nil
    go_simp
    skip
    refine hK.out _ _ trivial (fun hH10 => ?_)
    clear hK K
    try simp only [Act.put, List.setIfInBounds_toArray, List.set_cons_zero, List.set_cons_succ, List.getElem_toArray, List.getElem_cons_zero, List.getElem_cons_succ]
    refine wpAnyH_done (by kernel_rfl) ?_ _
    have hbv : Below w.heap.size w ((w.alloc (.cells #[.int .i64 0, .int .i64 0] 61)).alloc (.cells #[.int .i64 p, .int .i64 q] 61)) := by go_grown
    have x0 : ((w.alloc (.cells #[.int .i64 0, .int .i64 0] 61)).alloc (.cells #[.int .i64 p, .int .i64 q] 61)).cell? ⟨w.heap.size + 1, 0, none⟩ = some (.int .i64 p) := by simp
    have x1 : ((w.alloc (.cells #[.int .i64 0, .int .i64 0] 61)).alloc (.cells #[.int .i64 p, .int .i64 q] 61)).cell? ⟨w.heap.size + 1, 1, none⟩ = some (.int .i64 q) := by simp
    have x2 : ((w.alloc (.cells #[.int .i64 0, .int .i64 0] 61)).alloc (.cells #[.int .i64 p, .int .i64 q] 61)).cell? ⟨w.heap.size, 0, none⟩ = some (.int .i64 0) := by simp
    have x3 : ((w.alloc (.cells #[.int .i64 0, .int .i64 0] 61)).alloc (.cells #[.int .i64 p, .int .i64 q] 61)).cell? ⟨w.heap.size, 1, none⟩ = some (.int .i64 0) := by simp
    have f0 : ((w.alloc (.cells #[.int .i64 0, .int .i64 0] 61)).alloc (.cells #[.int .i64 p, .int .i64 q] 61)).frozen? ⟨w.heap.size, 0, none⟩ = false := by simp
    have f1 : ((w.alloc (.cells #[.int .i64 0, .int .i64 0] 61)).alloc (.cells #[.int .i64 p, .int .i64 q] 61)).frozen? ⟨w.heap.size, 1, none⟩ = false := by simp
    have hsv : w.heap.size < ((w.alloc (.cells #[.int .i64 0, .int .i64 0] 61)).alloc (.cells #[.int .i64 p, .int .i64 q] 61)).heap.size := by simp; omega
    generalize ((w.alloc (.cells #[.int .i64 0, .int .i64 0] 61)).alloc (.cells #[.int .i64 p, .int .i64 q] 61)) = wv at hbv x0 x1 x2 x3 f0 f1 hsv ⊢
    have Hbv := Lib.hid hbv
    clear hbv
    go_wp2_with (go_at_call 53; refine (con.out _).mono ?_; rintro e w2 ⟨rfl, hb2⟩; have y0 := keepc hb2 (gdH _ x0); have y1 := keepc hb2 (gdH _ x1); have y2 := keepc hb2 (gdH _ x2); have y3 := keepc hb2 (gdH _ x3); have l0 : w2.frozen? ⟨w.heap.size, 0, none⟩ = false := (hb2.frozen (p := ⟨w.heap.size, 0, none⟩) hsv).trans f0; have l1 : w2.frozen? ⟨w.heap.size, 1, none⟩ = false := (hb2.frozen (p := ⟨w.heap.size, 1, none⟩) hsv).trans f1; obtain ⟨s0, s1⟩ := two_set y2 y3 (.int .i64 0) (.int .i64 0); clear x0 x1 x2 x3 f0 f1)
    refine bodyPost_ret (v := .tuple #[.agg #[.int .i64 0, .int .i64 0], .bool false]) (by simp [results, Tryd.results49, go_sem, s0, s1]) rfl ⟨rfl, ?_⟩
    refine Below.setCell (Below.setCell (bstep Hbv.out.drew hb2) ?_ _) ?_ _ <;> simp
  · rw [hg] at con
    rw [if_pos rfl, if_pos rfl]
    clear hg
    go_enter Tryd.func49, Tryd.ntmps49
    go_wp2_with fail
    refine wp_region_held_drew (S := fun w' => True) (by kernel_rfl) trivial (fun hH0 => ?_)
    refine reg_take 0 rfl (by kernel_rfl) (by kernel_rfl) (by kernel_rfl) (fun _ _ _ h => h) (by rfl) (fun w _ => by first | (go_simp; done) | (go_simp; with_reducible rfl)) trivial ?_
    try simp only [Act.put, List.setIfInBounds_toArray, List.set_cons_zero, List.set_cons_succ, List.getElem_toArray, List.getElem_cons_zero]
    refine reg_take 1 rfl (by kernel_rfl) (by kernel_rfl) (by kernel_rfl) (fun _ _ _ h => h) (by rfl) (fun w _ => by first | (go_simp; done) | (go_simp; with_reducible rfl)) trivial ?_
    try simp only [Act.put, List.setIfInBounds_toArray, List.set_cons_zero, List.set_cons_succ, List.getElem_toArray, List.getElem_cons_zero, List.getElem_cons_succ]
    refine reg_take 2 rfl (by kernel_rfl) (by kernel_rfl) (by kernel_rfl) (fun _ _ _ h => h) (by rfl) (fun w _ => by first | (go_simp; done) | (go_simp; with_reducible rfl)) trivial ?_
    try simp only [Act.put, List.setIfInBounds_toArray, List.set_cons_zero, List.set_cons_succ, List.getElem_toArray, List.getElem_cons_zero, List.getElem_cons_succ]
    refine reg_take 3 rfl (by kernel_rfl) (by kernel_rfl) (by kernel_rfl) (fun _ _ _ h => h) (by rfl) (fun w _ => by first | (go_simp; done) | (go_simp; with_reducible rfl)) trivial ?_
    try simp only [Act.put, List.setIfInBounds_toArray, List.set_cons_zero, List.set_cons_succ, List.getElem_toArray, List.getElem_cons_zero, List.getElem_cons_succ]
    refine reg_take 4 rfl (by kernel_rfl) (by kernel_rfl) (by kernel_rfl) (fun _ _ _ h => h) (by rfl) (fun w _ => by first | (go_simp; done) | (go_simp; with_reducible rfl)) trivial ?_
    try simp only [Act.put, List.setIfInBounds_toArray, List.set_cons_zero, List.set_cons_succ, List.getElem_toArray, List.getElem_cons_zero, List.getElem_cons_succ]
    refine reg_take 5 rfl (by kernel_rfl) (by kernel_rfl) (by kernel_rfl) (fun _ _ _ h => h) (by rfl) (fun w _ => by first | (go_simp; done) | (go_simp; with_reducible rfl)) trivial ?_
    try simp only [Act.put, List.setIfInBounds_toArray, List.set_cons_zero, List.set_cons_succ, List.getElem_toArray, List.getElem_cons_zero, List.getElem_cons_succ]
    refine reg_take 6 rfl (by kernel_rfl) (by kernel_rfl) (by kernel_rfl) (fun _ _ _ h => h) (by rfl) (fun w _ => by first | (go_simp; done) | (go_simp; with_reducible rfl)) trivial ?_
    try simp only [Act.put, List.setIfInBounds_toArray, List.set_cons_zero, List.set_cons_succ, List.getElem_toArray, List.getElem_cons_zero, List.getElem_cons_succ]
    refine reg_take 7 rfl (by kernel_rfl) (by kernel_rfl) (by kernel_rfl) (fun _ _ _ h => h) (by rfl) (fun w _ => by first | (go_simp; done) | (go_simp; with_reducible rfl)) trivial ?_
    try simp only [Act.put, List.setIfInBounds_toArray, List.set_cons_zero, List.set_cons_succ, List.getElem_toArray, List.getElem_cons_zero, List.getElem_cons_succ]
    refine reg_take 8 rfl (by kernel_rfl) (by kernel_rfl) (by kernel_rfl) (fun _ _ _ h => h) (by rfl) (fun w _ => by first | (go_simp; done) | (go_simp; with_reducible rfl)) trivial ?_
    try simp only [Act.put, List.setIfInBounds_toArray, List.set_cons_zero, List.set_cons_succ, List.getElem_toArray, List.getElem_cons_zero, List.getElem_cons_succ]
    refine wpAnyH_ready (rs := [9]) (by kernel_rfl) (by simp) ?_
    refine AllReadyH.cons (i := 9) rfl (fun K hK => ?_) AllReadyH.nil
    go_simp
    skip
    refine hK.out _ _ trivial (fun hH9 => ?_)
    clear hK K
    try simp only [Act.put, List.setIfInBounds_toArray, List.set_cons_zero, List.set_cons_succ, List.getElem_toArray, List.getElem_cons_zero, List.getElem_cons_succ]
    refine wpAnyH_ready (rs := [10]) (by kernel_rfl) (by simp) ?_
    refine AllReadyH.cons (i := 10) rfl (fun K hK => ?_) AllReadyH.nil
    go_simp
    skip
    refine hK.out _ _ trivial (fun hH10 => ?_)
    clear hK K
    try simp only [Act.put, List.setIfInBounds_toArray, List.set_cons_zero, List.set_cons_succ, List.getElem_toArray, List.getElem_cons_zero, List.getElem_cons_succ]
    refine wpAnyH_done (by kernel_rfl) ?_ _
    have hbv : Below w.heap.size w ((w.alloc (.cells #[.int .i64 0, .int .i64 0] 61)).alloc (.cells #[.int .i64 p, .int .i64 q] 61)) := by go_grown
    have x0 : ((w.alloc (.cells #[.int .i64 0, .int .i64 0] 61)).alloc (.cells #[.int .i64 p, .int .i64 q] 61)).cell? ⟨w.heap.size + 1, 0, none⟩ = some (.int .i64 p) := by simp
    have x1 : ((w.alloc (.cells #[.int .i64 0, .int .i64 0] 61)).alloc (.cells #[.int .i64 p, .int .i64 q] 61)).cell? ⟨w.heap.size + 1, 1, none⟩ = some (.int .i64 q) := by simp
    have x2 : ((w.alloc (.cells #[.int .i64 0, .int .i64 0] 61)).alloc (.cells #[.int .i64 p, .int .i64 q] 61)).cell? ⟨w.heap.size, 0, none⟩ = some (.int .i64 0) := by simp
    have x3 : ((w.alloc (.cells #[.int .i64 0, .int .i64 0] 61)).alloc (.cells #[.int .i64 p, .int .i64 q] 61)).cell? ⟨w.heap.size, 1, none⟩ = some (.int .i64 0) := by simp
    have f0 : ((w.alloc (.cells #[.int .i64 0, .int .i64 0] 61)).alloc (.cells #[.int .i64 p, .int .i64 q] 61)).frozen? ⟨w.heap.size, 0, none⟩ = false := by simp
    have f1 : ((w.alloc (.cells #[.int .i64 0, .int .i64 0] 61)).alloc (.cells #[.int .i64 p, .int .i64 q] 61)).frozen? ⟨w.heap.size, 1, none⟩ = false := by simp
    have hsv : w.heap.size < ((w.alloc (.cells #[.int .i64 0, .int .i64 0] 61)).alloc (.cells #[.int .i64 p, .int .i64 q] 61)).heap.size := by simp; omega
    generalize ((w.alloc (.cells #[.int .i64 0, .int .i64 0] 61)).alloc (.cells #[.int .i64 p, .int .i64 q] 61)) = wv at hbv x0 x1 x2 x3 f0 f1 hsv ⊢
    have Hbv := Lib.hid hbv
    clear hbv
    go_wp2_with (go_at_call 53; refine (con.out _).mono ?_; rintro e w2 ⟨rfl, hb2⟩; have y0 := keepc hb2 (gdH _ x0); have y1 := keepc hb2 (gdH _ x1); have y2 := keepc hb2 (gdH _ x2); have y3 := keepc hb2 (gdH _ x3); have l0 : w2.frozen? ⟨w.heap.size, 0, none⟩ = false := (hb2.frozen (p := ⟨w.heap.size, 0, none⟩) hsv).trans f0; have l1 : w2.frozen? ⟨w.heap.size, 1, none⟩ = false := (hb2.frozen (p := ⟨w.heap.size, 1, none⟩) hsv).trans f1; obtain ⟨s0, s1⟩ := two_set y2 y3 (.int .i64 p) (.int .i64 q); clear x0 x1 x2 x3 f0 f1)
    refine bodyPost_ret (v := .tuple #[.agg #[.int .i64 p, .int .i64 q], .bool true]) (by simp [results, Tryd.results49, go_sem, s0, s1]) rfl ⟨rfl, ?_⟩
    refine Below.setCell (Below.setCell (bstep Hbv.out.drew hb2) ?_ _) ?_ _ <;> simp

end Go.Proofs.YtjdnkcdnppcbhabDoor

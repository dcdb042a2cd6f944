/- Layouts: the specification's CountTilings. -/
import Derived.Test.YtmijbgkfkaijjaaTlS
namespace Go.Proofs.Ytmijbgkfkaijjaa
open Go.RowKit
set_option linter.unusedVariables false

/-- 'make([]E, n)', elements of one cell, at a step of a region that draws its order. -/
theorem step_make_one {w : World} {ops : Array Oper} {o : Oper} {a : Act} {K : Act → World → Prop} {Q : Exit → Act → World → Prop} {E : Prop}
    (hgd : o.guard = none) (l c : Operand) (t : TypeId) (hop : o.op = Op.makeSlice t l c) (e : TypeId) (i : TypeInfo) (z u : Value) (h1 : Try.prog.underlying t = some (.slice e)) (h2 : Try.prog.info? e = some i) (h3 : i.zero = some z) (h4 : i.size = 1) (hz : z.cells = #[u])
    (kl kc : IntKind) (L : Int) (n : Nat) (hl : a.eval l = .int kl L) (hc : a.eval c = .int kc L) (hL : L = (n : Int)) (b2 : (i.bytes : Int) * (n : Int) ≤ 281474976710656) (b3 : n ≤ 9223372036854775807)
    (hK : ∀ w', w'.heap.size = w.heap.size + 1 → (∀ j, j < n → w'.cell? ⟨w.heap.size, j, none⟩ = some u) → (∀ m, w'.frozen? ⟨w.heap.size, m, none⟩ = false) → Below w.heap.size w w' → K (a.put o.dst (.slice (some ⟨w.heap.size, 0, none⟩) n n)) w') :
    if Region.wanted o (yielded ops a.tmps) = true then Oper.wp Try.prog o a w K Q else E := by
  have hw : Region.wanted o (yielded ops a.tmps) = true := by simp [Region.wanted, hgd]
  rw [if_pos hw]
  subst hL
  have hrun := run_make (P := Try.prog) w t e i z h1 h2 h3 kl kc n n (by omega) (Int.le_refl _) b2 (by omega)
  simp only [Int.toNat_natCast] at hrun
  unfold Oper.wp
  simp [execOp, hop, hl, hc, hrun, Result.andThen]
  refine hK _ (by simp) ?_ (fun m => bx2_frozen _ _ _ m) ((Below.refl _ _).alloc (Nat.le_refl _) _)
  intro j hj
  rw [hz, h4]
  simp [madeCells, hj, Nat.mod_one]
theorem keepr {w w' : World} {b n : Nat} {u : Value} (hb : Below w.heap.size w w') (h : ∀ j, j < n → w.cell? ⟨b, j, none⟩ = some u) : ∀ j, j < n → w'.cell? ⟨b, j, none⟩ = some u := fun j hj => keepc hb (h j hj)

/-- The search at its start. -/
theorem TaS.start (w : World) (gl W H n : Nat) (gv : Value) (hg : gl < w.heap.size) (hl : ∀ j, j < n → w.cell? ⟨gl, j, none⟩ = some (.int .u8 0)) (hf : ∀ m, w.frozen? ⟨gl, m, none⟩ = false) :
    TaS (w.alloc (.cells #[.int .i64 W, .int .i64 H, gv, .bool true, .slice none 0 0, .slice (some ⟨gl, 0, none⟩) n n, .slice none 0 0, .int .i64 0, .int .i64 0] 34)) w.heap.size gl W H n gv (fun _ => 0) 0 := by
  have hb : Below w.heap.size w (w.alloc (.cells #[.int .i64 W, .int .i64 H, gv, .bool true, .slice none 0 0, .slice (some ⟨gl, 0, none⟩) n n, .slice none 0 0, .int .i64 0, .int .i64 0] 34)) := (Below.refl _ _).alloc (Nat.le_refl _) _
  refine ⟨by simp, by simp, by simp, by simp, by simp, by simp, by simp, by simp, by simp, fun k hk => keepc hb (hl k hk), fun m => bx2_frozen w _ _ m, fun m => (hb.frozen (p := ⟨gl, m, none⟩) hg).trans (hf m), by omega, fun k _ => by omega⟩

theorem has_none : hasL (fun _ => 0) = fun _ => false := by
  funext k
  simp [hasL]

set_option maxRecDepth 100000 in
set_option maxHeartbeats 4000000 in
theorem c_specTilings (W H : Nat) (w : World) (hW : 0 < W) (hH : 0 < H) (h30 : H * W ≤ 30) (hW30 : W ≤ 30) (hH30 : H ≤ 30) : Calls Try.prog 4 #[.int .i64 W, .int .i64 H] w fun e w' => e = .returned (.tuple #[.int .i64 ((allLay W (H * W)).length : Int), .bool true]) ∧ Below w.heap.size w w' := by
  have hal := allLay_le (W := W) h30
  have hn0 : 0 < H * W := Nat.mul_pos hH hW
  have ho := layL_odd (W := W) (n := H * W) (H := H) hW rfl
  obtain ⟨n, hn⟩ : ∃ n, n = H * W := ⟨_, rfl⟩
  rw [← hn] at hal h30 hn0 ho ⊢
  have hnW : (W : Int) * (H : Int) = (n : Int) := by rw [hn, Int.natCast_mul, Int.mul_comm]
  have HN := Lib.hid hn
  have iw : IntKind.i64.wrap ((W : Int) * (H : Int)) = (n : Int) := by rw [hnW]; exact IntWalk.i64_in _ (by omega)
  have a5 : ¬ (30 : Int) < (n : Int) := by omega
  have Con1 := Lib.hid (fun w => (show Calls Try.prog 6 #[.int .i64 (W : Int), .int .i64 1, .int .i64 30] w fun e w' => e = .returned (.bool true) ∧ w = w' by
    have h := c_l1In (W : Int) 1 30 w
    rw [show (decide ((1 : Int) ≤ (W : Int)) && decide ((W : Int) ≤ 30)) = true by simp; omega] at h
    exact h))
  have Con2 := Lib.hid (fun w => (show Calls Try.prog 6 #[.int .i64 (H : Int), .int .i64 1, .int .i64 30] w fun e w' => e = .returned (.bool true) ∧ w = w' by
    have h := c_l1In (H : Int) 1 30 w
    rw [show (decide ((1 : Int) ≤ (H : Int)) && decide ((H : Int) ≤ 30)) = true by simp; omega] at h
    exact h))
  clear hn hnW
  by_cases hodd : n % 2 = 1
  · have hz : (allLay W n).length = 0 := by unfold allLay; rw [ho hodd]; rfl
    rw [hz]
    have ir : ((n : Int) % 2 == 1) = true := by simp; omega
    clear ho hal hodd hz
    go_enter Try.func4, Try.ntmps4
    go_wp2_with fail
    refine (Con1.out _).mono ?_
    rintro e w1 ⟨rfl, rfl⟩
    go_wp2_with fail
    refine (Con2.out _).mono ?_
    rintro e w2 ⟨rfl, rfl⟩
    go_wp2
    go_ret2
    exact ⟨rfl, Below.refl _ _⟩
  · have hev : n % 2 = 0 := by omega
    have ir : ((n : Int) % 2 == 1) = false := by simp; omega
    obtain ⟨iI, hI, zI, sI, bI⟩ := info_parts Try.info_int
    obtain ⟨iB, hB, zB, sB, bB⟩ := info_parts Try.info_u8
    clear ho hodd hev
    go_enter Try.func4, Try.ntmps4
    go_wp2_with fail
    refine (Con1.out _).mono ?_
    rintro e w1 ⟨rfl, rfl⟩
    go_wp2_with fail
    refine (Con2.out _).mono ?_
    rintro e w2 ⟨rfl, rfl⟩
    go_wp2_with fail
    refine wp_region_held_drew (S := fun w' => True) (by kernel_rfl) trivial (fun hH0 => ?_)
    refine reg_take 0 rfl (by kernel_rfl) (by kernel_rfl) (by kernel_rfl) (fun _ _ _ h => h) (by rfl) (fun w _ => by first | (go_simp; done) | (go_simp; with_reducible rfl)) trivial ?_
    try simp only [Act.put, List.setIfInBounds_toArray, List.set_cons_zero, List.set_cons_succ, List.getElem_toArray, List.getElem_cons_zero]
    refine reg_take 1 rfl (by kernel_rfl) (by kernel_rfl) (by kernel_rfl) (fun _ _ _ h => h) (by rfl) (fun w _ => by first | (go_simp; done) | (go_simp; with_reducible rfl)) trivial ?_
    try simp only [Act.put, List.setIfInBounds_toArray, List.set_cons_zero, List.set_cons_succ, List.getElem_toArray, List.getElem_cons_zero, List.getElem_cons_succ]
    refine reg_take 2 rfl (by kernel_rfl) (by kernel_rfl) (by kernel_rfl) (fun _ _ _ h => h) (by rfl) (fun w _ => by first | (go_simp; done) | (go_simp; with_reducible rfl)) trivial ?_
    try simp only [Act.put, List.setIfInBounds_toArray, List.set_cons_zero, List.set_cons_succ, List.getElem_toArray, List.getElem_cons_zero, List.getElem_cons_succ]
    refine reg_take 3 rfl (by kernel_rfl) (by kernel_rfl) (by kernel_rfl) (fun _ _ _ h => h) (by rfl) (fun w _ => by first | (go_simp; done) | (go_simp; with_reducible rfl)) trivial ?_
    try simp only [Act.put, List.setIfInBounds_toArray, List.set_cons_zero, List.set_cons_succ, List.getElem_toArray, List.getElem_cons_zero, List.getElem_cons_succ]
    refine reg_take 4 rfl (by kernel_rfl) (by kernel_rfl) (by kernel_rfl) (fun _ _ _ h => h) (by rfl) (fun w _ => by first | (go_simp; done) | (go_simp; with_reducible rfl)) trivial ?_
    try simp only [Act.put, List.setIfInBounds_toArray, List.set_cons_zero, List.set_cons_succ, List.getElem_toArray, List.getElem_cons_zero, List.getElem_cons_succ]
    refine reg_take 7 rfl (by kernel_rfl) (by kernel_rfl) (by kernel_rfl) (fun _ _ _ h => h) (by rfl) (fun w _ => by first | (go_simp; done) | (go_simp; with_reducible rfl)) trivial ?_
    try simp only [Act.put, List.setIfInBounds_toArray, List.set_cons_zero, List.set_cons_succ, List.getElem_toArray, List.getElem_cons_zero, List.getElem_cons_succ]
    refine reg_take 8 rfl (by kernel_rfl) (by kernel_rfl) (by kernel_rfl) (fun _ _ _ h => h) (by rfl) (fun w _ => by first | (go_simp; done) | (go_simp; with_reducible rfl)) trivial ?_
    try simp only [Act.put, List.setIfInBounds_toArray, List.set_cons_zero, List.set_cons_succ, List.getElem_toArray, List.getElem_cons_zero, List.getElem_cons_succ]
    refine reg_take 9 rfl (by kernel_rfl) (by kernel_rfl) (by kernel_rfl) (fun _ _ _ h => h) (by rfl) (fun w _ => by first | (go_simp; done) | (go_simp; with_reducible rfl)) trivial ?_
    try simp only [Act.put, List.setIfInBounds_toArray, List.set_cons_zero, List.set_cons_succ, List.getElem_toArray, List.getElem_cons_zero, List.getElem_cons_succ]
    refine wpAnyH_ready (rs := [5, 10]) (by kernel_rfl) (by simp) ?_
    refine AllReadyH.cons (i := 5) rfl (fun K hK => ?_) (AllReadyH.cons (i := 10) rfl (fun K hK => ?_) AllReadyH.nil)
    · refine step_make_one rfl _ _ 27 rfl 3 iI _ (.int .i64 0) Try.underlying27 hI zI sI rfl .i64 .i64 _ n rfl rfl rfl (by rw [bI]; omega) (by omega) ?_
      intro v1 s_v1 c_v1 f_v1 b_v1
      refine hK.out _ _ trivial (fun hH5 => ?_)
      clear hK K
      try simp only [Act.put, List.setIfInBounds_toArray, List.set_cons_zero, List.set_cons_succ, List.getElem_toArray, List.getElem_cons_zero, List.getElem_cons_succ]
      refine reg_take 6 rfl (by kernel_rfl) (by kernel_rfl) (by kernel_rfl) (fun _ _ _ h => h) (by rfl) (fun w _ => by first | (go_simp; done) | (go_simp; with_reducible rfl)) trivial ?_
      try simp only [Act.put, List.setIfInBounds_toArray, List.set_cons_zero, List.set_cons_succ, List.getElem_toArray, List.getElem_cons_zero, List.getElem_cons_succ]
      refine wpAnyH_ready (rs := [10]) (by kernel_rfl) (by simp) ?_
      refine AllReadyH.cons (i := 10) rfl (fun K hK => ?_) AllReadyH.nil
      refine step_make_one rfl _ _ 30 rfl 5 iB _ (.int .u8 0) Try.underlying30 hB zB sB rfl .i64 .i64 _ n rfl rfl rfl (by rw [bB]; omega) (by omega) ?_
      intro v2 s_v2 c_v2 f_v2 b_v2
      refine hK.out _ _ trivial (fun hH10 => ?_)
      clear hK K
      try simp only [Act.put, List.setIfInBounds_toArray, List.set_cons_zero, List.set_cons_succ, List.getElem_toArray, List.getElem_cons_zero, List.getElem_cons_succ]
      refine reg_take 11 rfl (by kernel_rfl) (by kernel_rfl) (by kernel_rfl) (fun _ _ _ h => h) (by rfl) (fun w _ => by first | (go_simp; done) | (go_simp; with_reducible rfl)) trivial ?_
      try simp only [Act.put, List.setIfInBounds_toArray, List.set_cons_zero, List.set_cons_succ, List.getElem_toArray, List.getElem_cons_zero, List.getElem_cons_succ]
      refine wpAnyH_ready (rs := [12]) (by kernel_rfl) (by simp) ?_
      refine AllReadyH.cons (i := 12) rfl (fun K hK => ?_) AllReadyH.nil
      go_simp
      refine hK.out _ _ trivial (fun hH12 => ?_)
      clear hK K
      try simp only [Act.put, List.setIfInBounds_toArray, List.set_cons_zero, List.set_cons_succ, List.getElem_toArray, List.getElem_cons_zero, List.getElem_cons_succ]
      refine reg_take 13 rfl (by kernel_rfl) (by kernel_rfl) (by kernel_rfl) (fun _ _ _ h => h) (by rfl) (fun w _ => by first | (go_simp; done) | (go_simp; with_reducible rfl)) trivial ?_
      try simp only [Act.put, List.setIfInBounds_toArray, List.set_cons_zero, List.set_cons_succ, List.getElem_toArray, List.getElem_cons_zero, List.getElem_cons_succ]
      refine wpAnyH_done (by kernel_rfl) ?_ _
      have sv1 : v1.heap.size = w.heap.size + 1 := s_v1
      have sv2 : v2.heap.size = w.heap.size + 1 + 1 := by omega
      have bw1 : Below w.heap.size w v1 := (Below.refl w.heap.size w).drew.trans b_v1
      have bw2 : Below w.heap.size w v2 := bstep bw1 b_v2
      have cl : ∀ j, j < n → v2.cell? ⟨w.heap.size + 1, j, none⟩ = some (.int .u8 0) := by rw [← sv1]; exact c_v2
      have fl : ∀ m, v2.frozen? ⟨w.heap.size + 1, m, none⟩ = false := by rw [← sv1]; exact f_v2
      have st := TaS.start v2 (w.heap.size + 1) W H n (.slice (some ⟨w.heap.size, 0, none⟩) n n) (by omega) cl fl
      have bw3 : Below w.heap.size w (v2.alloc (.cells #[.int .i64 W, .int .i64 H, .slice (some ⟨w.heap.size, 0, none⟩) n n, .bool true, .slice none 0 0, .slice (some ⟨w.heap.size + 1, 0, none⟩) n n, .slice none 0 0, .int .i64 0, .int .i64 0] 34)) := bw2.alloc bw2.size _
      obtain ⟨v3, hv3⟩ : ∃ v3, v3 = v2.alloc (.cells #[.int .i64 W, .int .i64 H, .slice (some ⟨w.heap.size, 0, none⟩) n n, .bool true, .slice none 0 0, .slice (some ⟨w.heap.size + 1, 0, none⟩) n n, .slice none 0 0, .int .i64 0, .int .i64 0] 34) := ⟨_, rfl⟩
      rw [← hv3] at st bw3 ⊢
      rw [sv2] at st
      have con := c_look (w.heap.size + 1 + 1) ((w.heap.size + 1)) W H n (some ⟨w.heap.size, 0, none⟩) n n hW HN.out h30 hn0 hW30 (n + 1) 0 (fun _ => 0) 0 v3 (by omega) (Nat.zero_le _) st (by rw [has_none]; unfold allLay at hal; omega)
      rw [has_none] at con
      have Con := Lib.hid con
      have BW3 := Lib.hid bw3
      clear con st hv3 cl fl c_v1 f_v1 c_v2 f_v2 b_v1 b_v2 bw1 bw2 bw3 s_v1 s_v2 sv1 sv2
      go_wp2_with fail
      refine Con.out.mono ?_
      rintro e v4 ⟨rfl, ht4, tt4⟩
      have c7 := ht4.c7
      have HT4 := Lib.hid tt4
      clear ht4 tt4
      go_wp2
      go_ret2
      refine ⟨rfl, BW3.out.trans (HT4.out.below BW3.out.size (fun k hk => by rcases hk with h | h <;> omega))⟩
    · refine step_make_one rfl _ _ 30 rfl 5 iB _ (.int .u8 0) Try.underlying30 hB zB sB rfl .i64 .i64 _ n rfl rfl rfl (by rw [bB]; omega) (by omega) ?_
      intro v1 s_v1 c_v1 f_v1 b_v1
      refine hK.out _ _ trivial (fun hH10 => ?_)
      clear hK K
      try simp only [Act.put, List.setIfInBounds_toArray, List.set_cons_zero, List.set_cons_succ, List.getElem_toArray, List.getElem_cons_zero, List.getElem_cons_succ]
      refine wpAnyH_ready (rs := [5]) (by kernel_rfl) (by simp) ?_
      refine AllReadyH.cons (i := 5) rfl (fun K hK => ?_) AllReadyH.nil
      refine step_make_one rfl _ _ 27 rfl 3 iI _ (.int .i64 0) Try.underlying27 hI zI sI rfl .i64 .i64 _ n rfl rfl rfl (by rw [bI]; omega) (by omega) ?_
      intro v2 s_v2 c_v2 f_v2 b_v2
      refine hK.out _ _ trivial (fun hH5 => ?_)
      clear hK K
      try simp only [Act.put, List.setIfInBounds_toArray, List.set_cons_zero, List.set_cons_succ, List.getElem_toArray, List.getElem_cons_zero, List.getElem_cons_succ]
      refine reg_take 6 rfl (by kernel_rfl) (by kernel_rfl) (by kernel_rfl) (fun _ _ _ h => h) (by rfl) (fun w _ => by first | (go_simp; done) | (go_simp; with_reducible rfl)) trivial ?_
      try simp only [Act.put, List.setIfInBounds_toArray, List.set_cons_zero, List.set_cons_succ, List.getElem_toArray, List.getElem_cons_zero, List.getElem_cons_succ]
      refine reg_take 11 rfl (by kernel_rfl) (by kernel_rfl) (by kernel_rfl) (fun _ _ _ h => h) (by rfl) (fun w _ => by first | (go_simp; done) | (go_simp; with_reducible rfl)) trivial ?_
      try simp only [Act.put, List.setIfInBounds_toArray, List.set_cons_zero, List.set_cons_succ, List.getElem_toArray, List.getElem_cons_zero, List.getElem_cons_succ]
      refine wpAnyH_ready (rs := [12]) (by kernel_rfl) (by simp) ?_
      refine AllReadyH.cons (i := 12) rfl (fun K hK => ?_) AllReadyH.nil
      go_simp
      refine hK.out _ _ trivial (fun hH12 => ?_)
      clear hK K
      try simp only [Act.put, List.setIfInBounds_toArray, List.set_cons_zero, List.set_cons_succ, List.getElem_toArray, List.getElem_cons_zero, List.getElem_cons_succ]
      refine reg_take 13 rfl (by kernel_rfl) (by kernel_rfl) (by kernel_rfl) (fun _ _ _ h => h) (by rfl) (fun w _ => by first | (go_simp; done) | (go_simp; with_reducible rfl)) trivial ?_
      try simp only [Act.put, List.setIfInBounds_toArray, List.set_cons_zero, List.set_cons_succ, List.getElem_toArray, List.getElem_cons_zero, List.getElem_cons_succ]
      refine wpAnyH_done (by kernel_rfl) ?_ _
      have sv1 : v1.heap.size = w.heap.size + 1 := s_v1
      have sv2 : v2.heap.size = w.heap.size + 1 + 1 := by omega
      have bw1 : Below w.heap.size w v1 := (Below.refl w.heap.size w).drew.trans b_v1
      have bw2 : Below w.heap.size w v2 := bstep bw1 b_v2
      have cl : ∀ j, j < n → v2.cell? ⟨w.heap.size, j, none⟩ = some (.int .u8 0) := keepr b_v2 c_v1
      have fl : ∀ m, v2.frozen? ⟨w.heap.size, m, none⟩ = false := fun m => (b_v2.frozen (p := ⟨w.heap.size, m, none⟩) (by show w.heap.size < v1.heap.size; omega)).trans (f_v1 m)
      have st := TaS.start v2 w.heap.size W H n (.slice (some ⟨w.heap.size + 1, 0, none⟩) n n) (by omega) cl fl
      have bw3 : Below w.heap.size w (v2.alloc (.cells #[.int .i64 W, .int .i64 H, .slice (some ⟨w.heap.size + 1, 0, none⟩) n n, .bool true, .slice none 0 0, .slice (some ⟨w.heap.size, 0, none⟩) n n, .slice none 0 0, .int .i64 0, .int .i64 0] 34)) := bw2.alloc bw2.size _
      obtain ⟨v3, hv3⟩ : ∃ v3, v3 = v2.alloc (.cells #[.int .i64 W, .int .i64 H, .slice (some ⟨w.heap.size + 1, 0, none⟩) n n, .bool true, .slice none 0 0, .slice (some ⟨w.heap.size, 0, none⟩) n n, .slice none 0 0, .int .i64 0, .int .i64 0] 34) := ⟨_, rfl⟩
      rw [← hv3] at st bw3 ⊢
      rw [sv2] at st
      have con := c_look (w.heap.size + 1 + 1) (w.heap.size) W H n (some ⟨w.heap.size + 1, 0, none⟩) n n hW HN.out h30 hn0 hW30 (n + 1) 0 (fun _ => 0) 0 v3 (by omega) (Nat.zero_le _) st (by rw [has_none]; unfold allLay at hal; omega)
      rw [has_none] at con
      have Con := Lib.hid con
      have BW3 := Lib.hid bw3
      clear con st hv3 cl fl c_v1 f_v1 c_v2 f_v2 b_v1 b_v2 bw1 bw2 bw3 s_v1 s_v2 sv1 sv2
      go_wp2_with fail
      refine Con.out.mono ?_
      rintro e v4 ⟨rfl, ht4, tt4⟩
      have c7 := ht4.c7
      have HT4 := Lib.hid tt4
      clear ht4 tt4
      go_wp2
      go_ret2
      refine ⟨rfl, BW3.out.trans (HT4.out.below BW3.out.size (fun k hk => by rcases hk with h | h <;> omega))⟩

set_option maxRecDepth 100000 in
set_option maxHeartbeats 2000000 in
theorem c_specTilingsNot (x y : Int) (w : World) (hg : gTil x y = false) : Calls Try.prog 4 #[.int .i64 x, .int .i64 y] w fun e w' => e = .returned (.tuple #[.int .i64 0, .bool false]) ∧ Below w.heap.size w w' := by
  have h1 := of_decide_eq_false hg
  have con1 := fun w => c_l1In x 1 30 w
  have con2 := fun w => c_l1In y 1 30 w
  by_cases a1 : 1 ≤ x ∧ x ≤ 30
  · rw [show (decide ((1 : Int) ≤ x) && decide (x ≤ 30)) = true by simp; omega] at con1
    by_cases a2 : 1 ≤ y ∧ y ≤ 30
    · rw [show (decide ((1 : Int) ≤ y) && decide (y ≤ 30)) = true by simp; omega] at con2
      obtain ⟨X, rfl⟩ : ∃ X : Nat, x = X := ⟨x.toNat, by omega⟩
      obtain ⟨Y, rfl⟩ : ∃ Y : Nat, y = Y := ⟨y.toNat, by omega⟩
      have h3 : ¬ ((X : Int) * (Y : Int) ≤ 30) := fun h => h1 ⟨by omega, by omega, h⟩
      have h4 : X * Y ≤ 30 * 30 := Nat.mul_le_mul (by omega) (by omega)
      rw [← Int.natCast_mul] at h3
      have iw : IntKind.i64.wrap ((X : Int) * (Y : Int)) = ((X * Y : Nat) : Int) := by rw [← Int.natCast_mul]; exact IntWalk.i64_in _ (by omega)
      generalize X * Y = Z at iw h3 h4
      have h5 : (30 : Int) < (Z : Int) := by omega
      have Con1 := Lib.hid con1
      have Con2 := Lib.hid con2
      clear con1 con2 hg h1 h3
      go_enter Try.func4, Try.ntmps4
      go_wp2_with fail
      refine (Con1.out _).mono ?_
      rintro e w1 ⟨rfl, rfl⟩
      go_wp2_with fail
      refine (Con2.out _).mono ?_
      rintro e w2 ⟨rfl, rfl⟩
      go_wp2
      go_ret2
      exact ⟨rfl, Below.refl _ _⟩
    · rw [show (decide ((1 : Int) ≤ y) && decide (y ≤ 30)) = false by simp; omega] at con2
      have Con1 := Lib.hid con1
      have Con2 := Lib.hid con2
      clear con1 con2 hg h1
      go_enter Try.func4, Try.ntmps4
      go_wp2_with fail
      refine (Con1.out _).mono ?_
      rintro e w1 ⟨rfl, rfl⟩
      go_wp2_with fail
      refine (Con2.out _).mono ?_
      rintro e w2 ⟨rfl, rfl⟩
      go_wp2
      go_ret2
      exact ⟨rfl, Below.refl _ _⟩
  · rw [show (decide ((1 : Int) ≤ x) && decide (x ≤ 30)) = false by simp; omega] at con1
    have Con1 := Lib.hid con1
    clear con1 con2 hg h1
    go_enter Try.func4, Try.ntmps4
    go_wp2_with fail
    refine (Con1.out _).mono ?_
    rintro e w1 ⟨rfl, rfl⟩
    go_wp2
    go_ret2
    exact ⟨rfl, Below.refl _ _⟩

theorem c_specTil (x y : Int) (w : World) : Calls Try.prog 4 #[.int .i64 x, .int .i64 y] w fun e w' => e = .returned (.tuple #[.int .i64 (mTil x y), .bool (gTil x y)]) ∧ Below w.heap.size w w' := by
  cases hg : gTil x y
  · have em : mTil x y = 0 := by unfold mTil; rw [hg]; rfl
    rw [em]
    exact c_specTilingsNot x y w hg
  · obtain ⟨W, H, rfl, rfl, hW, hH, h1, h2, h3⟩ := til_nat hg
    have em : mTil (W : Int) (H : Int) = ((allLay W (H * W)).length : Int) := by unfold mTil tilN; rw [hg, if_pos rfl, Int.toNat_natCast, Int.toNat_natCast]
    rw [em]
    exact c_specTilings W H w hW hH h1 h2 h3

end Go.Proofs.Ytmijbgkfkaijjaa

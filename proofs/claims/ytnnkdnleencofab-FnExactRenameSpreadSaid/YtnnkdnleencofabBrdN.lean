/- The board of the program with a play more. -/
import Derived.Test.YtnnkdnleencofabBrdS
import Derived.Test.YtnnkdnleencofabCatP
import Derived.OneCell
namespace Go.Proofs.Ytnnkdnleencofab
open Go.RowKit
set_option linter.unusedVariables false

theorem rdP_one {w : World} {g : Nat} {x y k : Int} (h0 : w.cell? ⟨g, 0, none⟩ = some (.int .i64 x)) (h1 : w.cell? ⟨g, 1, none⟩ = some (.int .i64 y)) (h2 : w.cell? ⟨g, 2, none⟩ = some (.int .i64 k)) : RdP w (some ⟨g, 0, none⟩) [(x, y, k)] := by
  refine ⟨g, 0, fun _ => rfl, fun j hj => ?_⟩
  match j, hj with
  | 0, _ => exact ⟨h0, h1, h2⟩
theorem same_ne {w : World} {g i j : Nat} {u v : Value} (h : j ≠ i) (hc : w.cell? ⟨g, j, none⟩ = some v) : (w.setCell ⟨g, i, none⟩ u).cell? ⟨g, j, none⟩ = some v := (World.cell?_setCell_other _ _ _ _ (by simp <;> omega)).trans hc
theorem far1 {w : World} {g a i j : Nat} {u v : Value} (h : a ≠ g) (hc : w.cell? ⟨g, j, none⟩ = some v) : (w.setCell ⟨a, i, none⟩ u).cell? ⟨g, j, none⟩ = some v := (set_far3 h).trans hc

theorem armsW_len {B : Brd} (hB : Bok B) (p : Int × Int × Int) : (armsW B p).length ≤ 4 := by
  have := hB.four
  unfold armsW
  split
  · simp
  · simpa using this

set_option maxRecDepth 100000 in
set_option maxHeartbeats 4000000 in
theorem c_with (A : Option Addr) (c : Nat) (D : Option Addr) (d : Nat) (B : Brd) (x y k : Int) (w : World) (hr : RdP w A B.ps) (hq : RdA w D B.arms) (hB : Bok B) (hf : fitsL B (x, y, k) = true) :
    Calls Try.prog 63 #[.agg #[.slice A B.ps.length c, .slice D B.arms.length d, .int .i64 B.fives], .agg #[.int .i64 x, .int .i64 y, .int .i64 k]] w fun e w' => ∃ A' c' D' d', e = .returned (.agg #[.slice A' (withL B (x, y, k)).ps.length c', .slice D' (withL B (x, y, k)).arms.length d', .int .i64 (withL B (x, y, k)).fives]) ∧
      w'.ownsRow w.heap.size 32 3 (.slice A' (withL B (x, y, k)).ps.length c') (withL B (x, y, k)).ps.length (cellsP (withL B (x, y, k)).ps) ∧
      w'.ownsRow w.heap.size 141 3 (.slice D' (withL B (x, y, k)).arms.length d') (withL B (x, y, k)).arms.length (cellsA (withL B (x, y, k)).arms) ∧ Below w.heap.size w w' := by
  have hBn := hB.with_ hf
  have hl := hB.len
  have hln := hBn.len
  have h4n := hBn.four
  have hfv := hB.fives
  have hfn := hBn.fives
  have hgn := hBn.good
  have hen := hBn.ends
  have h4w := armsW_len hB (x, y, k)
  have eps : (withL B (x, y, k)).ps = (B.ps ++ [(x, y, k)]) := rfl
  have earms : (withL B (x, y, k)).arms = sidesL (B.ps ++ [(x, y, k)]) (armsW B (x, y, k)) := rfl
  have efv : (withL B (x, y, k)).fives = B.fives + ptsL (B.ps ++ [(x, y, k)]).length (sidesL (B.ps ++ [(x, y, k)]) (armsW B (x, y, k))) := by rw [List.length_append]; rfl
  rw [eps] at hln hgn
  rw [earms] at h4n hen
  rw [efv] at hfn
  rw [eps, earms, efv]
  clear eps earms efv hBn
  obtain ⟨ps, hps⟩ : ∃ ps, ps = (B.ps ++ [(x, y, k)]) := ⟨_, rfl⟩
  obtain ⟨arms, harms⟩ : ∃ arms, arms = sidesL (B.ps ++ [(x, y, k)]) (armsW B (x, y, k)) := ⟨_, rfl⟩
  obtain ⟨pts, hpts⟩ : ∃ pts, pts = ptsL (B.ps ++ [(x, y, k)]).length arms := ⟨_, rfl⟩
  rw [← harms] at h4n hen hfn ⊢
  rw [← hpts] at hfn ⊢
  rw [← hps] at hln hgn hpts harms ⊢
  have hbz : Below w.heap.size w (((((w.alloc (.cells #[.slice A B.ps.length c, .slice D B.arms.length d, .int .i64 B.fives] 94)).alloc (.cells #[.int .i64 x, .int .i64 y, .int .i64 k] 32)).alloc (.cells #[.slice none 0 0, .slice none 0 0, .int .i64 0] 94)).alloc (.cells #[.int .i64 x, .int .i64 y, .int .i64 k] 32)).alloc (.cells #[.slice A B.ps.length c, .slice (some ⟨w.heap.size + 1 + 1 + 1, 0, none⟩) 1 1] 35)) := by go_grown
  have b0 : (((((w.alloc (.cells #[.slice A B.ps.length c, .slice D B.arms.length d, .int .i64 B.fives] 94)).alloc (.cells #[.int .i64 x, .int .i64 y, .int .i64 k] 32)).alloc (.cells #[.slice none 0 0, .slice none 0 0, .int .i64 0] 94)).alloc (.cells #[.int .i64 x, .int .i64 y, .int .i64 k] 32)).alloc (.cells #[.slice A B.ps.length c, .slice (some ⟨w.heap.size + 1 + 1 + 1, 0, none⟩) 1 1] 35)).cell? ⟨w.heap.size, 0, none⟩ = some (.slice A B.ps.length c) := by simp [go_sem]
  have b1 : (((((w.alloc (.cells #[.slice A B.ps.length c, .slice D B.arms.length d, .int .i64 B.fives] 94)).alloc (.cells #[.int .i64 x, .int .i64 y, .int .i64 k] 32)).alloc (.cells #[.slice none 0 0, .slice none 0 0, .int .i64 0] 94)).alloc (.cells #[.int .i64 x, .int .i64 y, .int .i64 k] 32)).alloc (.cells #[.slice A B.ps.length c, .slice (some ⟨w.heap.size + 1 + 1 + 1, 0, none⟩) 1 1] 35)).cell? ⟨w.heap.size, 1, none⟩ = some (.slice D B.arms.length d) := by simp [go_sem]
  have b2 : (((((w.alloc (.cells #[.slice A B.ps.length c, .slice D B.arms.length d, .int .i64 B.fives] 94)).alloc (.cells #[.int .i64 x, .int .i64 y, .int .i64 k] 32)).alloc (.cells #[.slice none 0 0, .slice none 0 0, .int .i64 0] 94)).alloc (.cells #[.int .i64 x, .int .i64 y, .int .i64 k] 32)).alloc (.cells #[.slice A B.ps.length c, .slice (some ⟨w.heap.size + 1 + 1 + 1, 0, none⟩) 1 1] 35)).cell? ⟨w.heap.size, 2, none⟩ = some (.int .i64 B.fives) := by simp [go_sem]
  have p0 : (((((w.alloc (.cells #[.slice A B.ps.length c, .slice D B.arms.length d, .int .i64 B.fives] 94)).alloc (.cells #[.int .i64 x, .int .i64 y, .int .i64 k] 32)).alloc (.cells #[.slice none 0 0, .slice none 0 0, .int .i64 0] 94)).alloc (.cells #[.int .i64 x, .int .i64 y, .int .i64 k] 32)).alloc (.cells #[.slice A B.ps.length c, .slice (some ⟨w.heap.size + 1 + 1 + 1, 0, none⟩) 1 1] 35)).cell? ⟨w.heap.size + 1, 0, none⟩ = some (.int .i64 x) := by simp [go_sem]
  have p1 : (((((w.alloc (.cells #[.slice A B.ps.length c, .slice D B.arms.length d, .int .i64 B.fives] 94)).alloc (.cells #[.int .i64 x, .int .i64 y, .int .i64 k] 32)).alloc (.cells #[.slice none 0 0, .slice none 0 0, .int .i64 0] 94)).alloc (.cells #[.int .i64 x, .int .i64 y, .int .i64 k] 32)).alloc (.cells #[.slice A B.ps.length c, .slice (some ⟨w.heap.size + 1 + 1 + 1, 0, none⟩) 1 1] 35)).cell? ⟨w.heap.size + 1, 1, none⟩ = some (.int .i64 y) := by simp [go_sem]
  have p2 : (((((w.alloc (.cells #[.slice A B.ps.length c, .slice D B.arms.length d, .int .i64 B.fives] 94)).alloc (.cells #[.int .i64 x, .int .i64 y, .int .i64 k] 32)).alloc (.cells #[.slice none 0 0, .slice none 0 0, .int .i64 0] 94)).alloc (.cells #[.int .i64 x, .int .i64 y, .int .i64 k] 32)).alloc (.cells #[.slice A B.ps.length c, .slice (some ⟨w.heap.size + 1 + 1 + 1, 0, none⟩) 1 1] 35)).cell? ⟨w.heap.size + 1, 2, none⟩ = some (.int .i64 k) := by simp [go_sem]
  have r0 : (((((w.alloc (.cells #[.slice A B.ps.length c, .slice D B.arms.length d, .int .i64 B.fives] 94)).alloc (.cells #[.int .i64 x, .int .i64 y, .int .i64 k] 32)).alloc (.cells #[.slice none 0 0, .slice none 0 0, .int .i64 0] 94)).alloc (.cells #[.int .i64 x, .int .i64 y, .int .i64 k] 32)).alloc (.cells #[.slice A B.ps.length c, .slice (some ⟨w.heap.size + 1 + 1 + 1, 0, none⟩) 1 1] 35)).cell? ⟨w.heap.size + 1 + 1, 0, none⟩ = some (.slice none 0 0) := by simp [go_sem]
  have r1 : (((((w.alloc (.cells #[.slice A B.ps.length c, .slice D B.arms.length d, .int .i64 B.fives] 94)).alloc (.cells #[.int .i64 x, .int .i64 y, .int .i64 k] 32)).alloc (.cells #[.slice none 0 0, .slice none 0 0, .int .i64 0] 94)).alloc (.cells #[.int .i64 x, .int .i64 y, .int .i64 k] 32)).alloc (.cells #[.slice A B.ps.length c, .slice (some ⟨w.heap.size + 1 + 1 + 1, 0, none⟩) 1 1] 35)).cell? ⟨w.heap.size + 1 + 1, 1, none⟩ = some (.slice none 0 0) := by simp [go_sem]
  have r2 : (((((w.alloc (.cells #[.slice A B.ps.length c, .slice D B.arms.length d, .int .i64 B.fives] 94)).alloc (.cells #[.int .i64 x, .int .i64 y, .int .i64 k] 32)).alloc (.cells #[.slice none 0 0, .slice none 0 0, .int .i64 0] 94)).alloc (.cells #[.int .i64 x, .int .i64 y, .int .i64 k] 32)).alloc (.cells #[.slice A B.ps.length c, .slice (some ⟨w.heap.size + 1 + 1 + 1, 0, none⟩) 1 1] 35)).cell? ⟨w.heap.size + 1 + 1, 2, none⟩ = some (.int .i64 0) := by simp [go_sem]
  have fr0 : (((((w.alloc (.cells #[.slice A B.ps.length c, .slice D B.arms.length d, .int .i64 B.fives] 94)).alloc (.cells #[.int .i64 x, .int .i64 y, .int .i64 k] 32)).alloc (.cells #[.slice none 0 0, .slice none 0 0, .int .i64 0] 94)).alloc (.cells #[.int .i64 x, .int .i64 y, .int .i64 k] 32)).alloc (.cells #[.slice A B.ps.length c, .slice (some ⟨w.heap.size + 1 + 1 + 1, 0, none⟩) 1 1] 35)).frozen? ⟨w.heap.size + 1 + 1, 0, none⟩ = false := by simp [go_sem]
  have fr1 : (((((w.alloc (.cells #[.slice A B.ps.length c, .slice D B.arms.length d, .int .i64 B.fives] 94)).alloc (.cells #[.int .i64 x, .int .i64 y, .int .i64 k] 32)).alloc (.cells #[.slice none 0 0, .slice none 0 0, .int .i64 0] 94)).alloc (.cells #[.int .i64 x, .int .i64 y, .int .i64 k] 32)).alloc (.cells #[.slice A B.ps.length c, .slice (some ⟨w.heap.size + 1 + 1 + 1, 0, none⟩) 1 1] 35)).frozen? ⟨w.heap.size + 1 + 1, 1, none⟩ = false := by simp [go_sem]
  have fr2 : (((((w.alloc (.cells #[.slice A B.ps.length c, .slice D B.arms.length d, .int .i64 B.fives] 94)).alloc (.cells #[.int .i64 x, .int .i64 y, .int .i64 k] 32)).alloc (.cells #[.slice none 0 0, .slice none 0 0, .int .i64 0] 94)).alloc (.cells #[.int .i64 x, .int .i64 y, .int .i64 k] 32)).alloc (.cells #[.slice A B.ps.length c, .slice (some ⟨w.heap.size + 1 + 1 + 1, 0, none⟩) 1 1] 35)).frozen? ⟨w.heap.size + 1 + 1, 2, none⟩ = false := by simp [go_sem]
  have con := c_concatP (w.heap.size + 1 + 1 + 1 + 1) 0 A c B.ps (some ⟨w.heap.size + 1 + 1 + 1, 0, none⟩) 1 [(x, y, k)] (((((w.alloc (.cells #[.slice A B.ps.length c, .slice D B.arms.length d, .int .i64 B.fives] 94)).alloc (.cells #[.int .i64 x, .int .i64 y, .int .i64 k] 32)).alloc (.cells #[.slice none 0 0, .slice none 0 0, .int .i64 0] 94)).alloc (.cells #[.int .i64 x, .int .i64 y, .int .i64 k] 32)).alloc (.cells #[.slice A B.ps.length c, .slice (some ⟨w.heap.size + 1 + 1 + 1, 0, none⟩) 1 1] 35)) (by simp [go_sem]) (by simp [go_sem]) (hr.below hbz) (rdP_one (by simp [go_sem]) (by simp [go_sem]) (by simp [go_sem])) (by omega) (by simp)
  rw [← hps] at con
  have Con := Lib.hid con
  have hsz1 : (((((w.alloc (.cells #[.slice A B.ps.length c, .slice D B.arms.length d, .int .i64 B.fives] 94)).alloc (.cells #[.int .i64 x, .int .i64 y, .int .i64 k] 32)).alloc (.cells #[.slice none 0 0, .slice none 0 0, .int .i64 0] 94)).alloc (.cells #[.int .i64 x, .int .i64 y, .int .i64 k] 32)).alloc (.cells #[.slice A B.ps.length c, .slice (some ⟨w.heap.size + 1 + 1 + 1, 0, none⟩) 1 1] 35)).heap.size = w.heap.size + 5 := by simp
  have conA := Lib.hid (fun W (hb : Below w.heap.size w W) => c_armsWith A c D d B x y k W (hq.below hb) hB hf)
  have conS := Lib.hid (fun A1 c1 E e0 base W (hr1 : RdP W A1 ps) (ho : W.ownsRow base 141 3 (.slice E (armsW B (x, y, k)).length e0) (armsW B (x, y, k)).length (cellsA (armsW B (x, y, k)))) (hbase : base ≤ W.heap.size) => c_withSides A1 c1 none 0 0 0 ps E e0 (armsW B (x, y, k)) base W hr1 hln hgn ho hbase h4w)
  rw [← harms] at conS
  have conP := Lib.hid (fun A1 c1 D1 d1 W (hr1 : RdA W D1 arms) => c_points A1 ps.length c1 D1 d1 0 arms W hr1 h4n hen hln)
  rw [← hpts] at conP
  have iw : IntKind.i64.wrap (B.fives + pts) = B.fives + pts := IntWalk.i64_in _ (by omega)
  obtain ⟨mr, hmr⟩ : ∃ mr, mr = armsW B (x, y, k) := ⟨_, rfl⟩
  rw [← hmr] at conA conS h4w
  clear hmr hps harms hpts con hgn hen hr hq hf hB
  go_enter Try.func63, Try.ntmps63
  go_wp2_with (go_at_call 106; refine Con.out.mono ?_; rintro e w1 ⟨A1, c1, rfl, ho1, hb1⟩; have b01 := keepc hb1 b0; have b11 := keepc hb1 b1; have b21 := keepc hb1 b2; have p01 := keepc hb1 p0; have p11 := keepc hb1 p1; have p21 := keepc hb1 p2; have r01 := keepc hb1 r0; have r11 := keepc hb1 r1; have r21 := keepc hb1 r2; have fr01 := (hb1.frozen (p := ⟨w.heap.size + 1 + 1, 0, none⟩) (block_lt r0)).trans fr0; have fr11 := (hb1.frozen (p := ⟨w.heap.size + 1 + 1, 1, none⟩) (block_lt r1)).trans fr1; have fr21 := (hb1.frozen (p := ⟨w.heap.size + 1 + 1, 2, none⟩) (block_lt r2)).trans fr2; have hz1 := hb1.size; rw [hsz1] at hz1; have hbw1 := bstep hbz hb1)
  have n0 : (w1.alloc (.cells #[.slice A1 ps.length c1, .slice none 0 0, .int .i64 0] 94)).cell? ⟨w1.heap.size, 0, none⟩ = some (.slice A1 ps.length c1) := by simp
  have n1 : (w1.alloc (.cells #[.slice A1 ps.length c1, .slice none 0 0, .int .i64 0] 94)).cell? ⟨w1.heap.size, 1, none⟩ = some (.slice none 0 0) := by simp
  have n2 : (w1.alloc (.cells #[.slice A1 ps.length c1, .slice none 0 0, .int .i64 0] 94)).cell? ⟨w1.heap.size, 2, none⟩ = some (.int .i64 0) := by simp
  have fn1 : (w1.alloc (.cells #[.slice A1 ps.length c1, .slice none 0 0, .int .i64 0] 94)).frozen? ⟨w1.heap.size, 1, none⟩ = false := by simp
  have fn2 : (w1.alloc (.cells #[.slice A1 ps.length c1, .slice none 0 0, .int .i64 0] 94)).frozen? ⟨w1.heap.size, 2, none⟩ = false := by simp
  have hnx : (w1.alloc (.cells #[.slice A1 ps.length c1, .slice none 0 0, .int .i64 0] 94)).heap.size = w1.heap.size + 1 := by simp
  have hbA : Below w1.heap.size w1 (w1.alloc (.cells #[.slice A1 ps.length c1, .slice none 0 0, .int .i64 0] 94)) := (Below.refl _ _).alloc (Nat.le_refl _) _
  obtain ⟨v0, hv0⟩ : ∃ v0, v0 = (w1.alloc (.cells #[.slice A1 ps.length c1, .slice none 0 0, .int .i64 0] 94)) := ⟨_, rfl⟩
  rw [← hv0] at n0 n1 n2 fn1 fn2 hnx hbA ⊢
  clear hv0
  have b02 := keepc hbA b01
  have b12 := keepc hbA b11
  have b22 := keepc hbA b21
  have p02 := keepc hbA p01
  have p12 := keepc hbA p11
  have p22 := keepc hbA p21
  have r02 := keepc hbA r01
  have r12 := keepc hbA r11
  have r22 := keepc hbA r21
  have fr02 := (hbA.frozen (p := ⟨w.heap.size + 1 + 1, 0, none⟩) (block_lt r01)).trans fr01
  have fr12 := (hbA.frozen (p := ⟨w.heap.size + 1 + 1, 1, none⟩) (block_lt r11)).trans fr11
  have fr22 := (hbA.frozen (p := ⟨w.heap.size + 1 + 1, 2, none⟩) (block_lt r21)).trans fr21
  have hbw2 := Lib.hid (bstep hbw1 hbA)
  have hpl5 := Lib.hid (fun g (hg : (Value.slice A1 ps.length c1).ownBlock = some g) => (Nat.le_trans (Nat.le_of_eq hsz1.symm) (ho1.lt g hg).1 : w.heap.size + 5 ≤ g))
  have Ho1low := Lib.hid (fun g (hg : (Value.slice A1 ps.length c1).ownBlock = some g) => (ho1.lt g hg).2)
  have Ho2 := Lib.hid (own_base (own_keep ho1 hbA) (Nat.le_trans (by omega : w.heap.size ≤ w.heap.size + 5) (Nat.le_of_eq hsz1.symm)))
  clear b0 b01 b1 b11 b2 b21 p0 p01 p1 p11 p2 p21 r0 r01 r1 r11 r2 r21 fr0 fr01 fr1 fr11 fr2 fr21 hbA hb1 ho1 hbw1 hbz Con hsz1
  obtain ⟨G, hG⟩ : ∃ G, G = w1.heap.size := ⟨_, rfl⟩
  rw [← hG] at n0 n1 n2 fn1 fn2 hnx hz1 Ho1low ⊢
  clear hG
  refine wp_region_held_drew (S := fun w' => w'.cell? ⟨w.heap.size, 0, none⟩ = some (.slice A B.ps.length c) ∧ w'.cell? ⟨w.heap.size, 1, none⟩ = some (.slice D B.arms.length d) ∧ w'.cell? ⟨w.heap.size, 2, none⟩ = some (.int .i64 B.fives) ∧ w'.cell? ⟨w.heap.size + 1, 0, none⟩ = some (.int .i64 x) ∧ w'.cell? ⟨w.heap.size + 1, 1, none⟩ = some (.int .i64 y) ∧ w'.cell? ⟨w.heap.size + 1, 2, none⟩ = some (.int .i64 k)) (by kernel_rfl) ⟨b02, b12, b22, p02, p12, p22⟩ (fun hH0 => ?_)
  refine reg_take 1 rfl (by kernel_rfl) (by kernel_rfl) (by kernel_rfl) (fun _ _ _ h => h) (by rfl) (fun w hSw => by (try dsimp only at hSw); first | (go_simp; done) | (go_simp; with_reducible rfl)) (by assumption) ?_
  try simp only [Act.put, List.setIfInBounds_toArray, List.set_cons_zero, List.set_cons_succ, List.getElem_toArray, List.getElem_cons_zero, List.getElem_cons_succ]
  refine reg_take 2 rfl (by kernel_rfl) (by kernel_rfl) (by kernel_rfl) (fun _ _ _ h => h) (by rfl) (fun w hSw => by (try dsimp only at hSw); first | (go_simp; done) | (go_simp; with_reducible rfl)) (by assumption) ?_
  try simp only [Act.put, List.setIfInBounds_toArray, List.set_cons_zero, List.set_cons_succ, List.getElem_toArray, List.getElem_cons_zero, List.getElem_cons_succ]
  have hplow := Lib.hid (fun g (hg : (Value.slice A1 ps.length c1).ownBlock = some g) => (by have := (Ho1low.out g hg); omega : g < G))
  refine wpAnyH_ready (rs := [0, 3]) (by kernel_rfl) (by simp) ?_
  refine AllReadyH.cons (i := 0) rfl (fun K hK => ?_) (AllReadyH.cons (i := 3) rfl (fun K hK => ?_) AllReadyH.nil)
  · go_simp
    skip
    refine hK.out _ _ (by assumption) (fun hH0 => ?_)
    clear hK K
    try simp only [Act.put, List.setIfInBounds_toArray, List.set_cons_zero, List.set_cons_succ, List.getElem_toArray, List.getElem_cons_zero, List.getElem_cons_succ]
    refine wpAnyH_ready (rs := [3]) (by kernel_rfl) (by simp) ?_
    refine AllReadyH.cons (i := 3) rfl (fun K hK => ?_) AllReadyH.nil
    go_simp
    go_at_call 108
    refine (conA.out _ hbw2.out.drew).mono ?_
    rintro e w3 ⟨A3, c3, rfl, ho3, hb3⟩
    replace hb3 := bstep (Below.refl v0.heap.size v0).drew hb3
    have b03 := keepc hb3 (b02)
    have b13 := keepc hb3 (b12)
    have b23 := keepc hb3 (b22)
    have p03 := keepc hb3 (p02)
    have p13 := keepc hb3 (p12)
    have p23 := keepc hb3 (p22)
    have r03 := keepc hb3 (r02)
    have r13 := keepc hb3 (r12)
    have r23 := keepc hb3 (r22)
    have fr03 := (hb3.frozen (p := ⟨w.heap.size + 1 + 1, 0, none⟩) (block_lt r02)).trans fr02
    have fr13 := (hb3.frozen (p := ⟨w.heap.size + 1 + 1, 1, none⟩) (block_lt r12)).trans fr12
    have fr23 := (hb3.frozen (p := ⟨w.heap.size + 1 + 1, 2, none⟩) (block_lt r22)).trans fr22
    have n03 := keepc hb3 (n0)
    have n13 := keepc hb3 (n1)
    have n23 := keepc hb3 (n2)
    have fn13 := (hb3.frozen (p := ⟨G, 1, none⟩) (block_lt n1)).trans fn1
    have fn23 := (hb3.frozen (p := ⟨G, 2, none⟩) (block_lt n2)).trans fn2
    have hz3 : G + 1 ≤ w3.heap.size := by have := hb3.size; omega
    have Ho3 := Lib.hid (own_keep Ho2.out hb3)
    have hbw3 := Lib.hid (bstep hbw2.out hb3)
    refine hK.out _ _ ⟨b03, b13, b23, p03, p13, p23⟩ (fun hH3 => ?_)
    clear hK K
    try simp only [Act.put, List.setIfInBounds_toArray, List.set_cons_zero, List.set_cons_succ, List.getElem_toArray, List.getElem_cons_zero, List.getElem_cons_succ]
    refine wpAnyH_ready (rs := [4]) (by kernel_rfl) (by simp) ?_
    refine AllReadyH.cons (i := 4) rfl (fun K hK => ?_) AllReadyH.nil
    go_simp
    go_at_call 107
    refine (conS.out A1 c1 A3 c3 v0.heap.size w3 (RdP.of_own Ho3.out) ho3 (by rw [hnx]; exact hz3)).mono ?_
    rintro e w4 ⟨A4, c4, rfl, ho4, hb4⟩
    have b04 := (hb4.cell (p := ⟨w.heap.size, 0, none⟩) (by rw [hnx]; simp; omega)).trans b03
    have b14 := (hb4.cell (p := ⟨w.heap.size, 1, none⟩) (by rw [hnx]; simp; omega)).trans b13
    have b24 := (hb4.cell (p := ⟨w.heap.size, 2, none⟩) (by rw [hnx]; simp; omega)).trans b23
    have p04 := (hb4.cell (p := ⟨w.heap.size + 1, 0, none⟩) (by rw [hnx]; simp; omega)).trans p03
    have p14 := (hb4.cell (p := ⟨w.heap.size + 1, 1, none⟩) (by rw [hnx]; simp; omega)).trans p13
    have p24 := (hb4.cell (p := ⟨w.heap.size + 1, 2, none⟩) (by rw [hnx]; simp; omega)).trans p23
    have r04 := (hb4.cell (p := ⟨w.heap.size + 1 + 1, 0, none⟩) (by rw [hnx]; simp; omega)).trans r03
    have r14 := (hb4.cell (p := ⟨w.heap.size + 1 + 1, 1, none⟩) (by rw [hnx]; simp; omega)).trans r13
    have r24 := (hb4.cell (p := ⟨w.heap.size + 1 + 1, 2, none⟩) (by rw [hnx]; simp; omega)).trans r23
    have fr04 := (hb4.frozen (p := ⟨w.heap.size + 1 + 1, 0, none⟩) (by rw [hnx]; simp; omega)).trans fr03
    have fr14 := (hb4.frozen (p := ⟨w.heap.size + 1 + 1, 1, none⟩) (by rw [hnx]; simp; omega)).trans fr13
    have fr24 := (hb4.frozen (p := ⟨w.heap.size + 1 + 1, 2, none⟩) (by rw [hnx]; simp; omega)).trans fr23
    have n04 := (hb4.cell (p := ⟨G, 0, none⟩) (by rw [hnx]; simp)).trans n03
    have n14 := (hb4.cell (p := ⟨G, 1, none⟩) (by rw [hnx]; simp)).trans n13
    have n24 := (hb4.cell (p := ⟨G, 2, none⟩) (by rw [hnx]; simp)).trans n23
    have fn14 := (hb4.frozen (p := ⟨G, 1, none⟩) (by rw [hnx]; simp)).trans fn13
    have fn24 := (hb4.frozen (p := ⟨G, 2, none⟩) (by rw [hnx]; simp)).trans fn23
    have hbw4 := Lib.hid (hbw3.out.trans (hb4.mono (by rw [hnx]; omega)))
    refine hK.out _ _ ⟨b04, b14, b24, p04, p14, p24⟩ (fun hH4 => ?_)
    clear hK K
    try simp only [Act.put, List.setIfInBounds_toArray, List.set_cons_zero, List.set_cons_succ, List.getElem_toArray, List.getElem_cons_zero, List.getElem_cons_succ]
    refine reg_take 5 rfl (by kernel_rfl) (by kernel_rfl) (by kernel_rfl) (fun _ _ _ h => h) (by rfl) (fun w _ => by first | (go_simp; done) | (go_simp; with_reducible rfl)) (by assumption) ?_
    try simp only [Act.put, List.setIfInBounds_toArray, List.set_cons_zero, List.set_cons_succ, List.getElem_toArray, List.getElem_cons_zero, List.getElem_cons_succ]
    refine wpAnyH_ready (rs := [6]) (by kernel_rfl) (by simp) ?_
    refine AllReadyH.cons (i := 6) rfl (fun K hK => ?_) AllReadyH.nil
    go_simp
    skip
    refine hK.out _ _ ⟨far1 (by omega) b04, far1 (by omega) b14, far1 (by omega) b24, far1 (by omega) p04, far1 (by omega) p14, far1 (by omega) p24⟩ (fun hH6 => ?_)
    clear hK K
    try simp only [Act.put, List.setIfInBounds_toArray, List.set_cons_zero, List.set_cons_succ, List.getElem_toArray, List.getElem_cons_zero, List.getElem_cons_succ]
    refine wpAnyH_done (by kernel_rfl) ?_ _
    have b05 : (w4.setCell ⟨G, 1, none⟩ (.slice A4 arms.length c4)).cell? _ = _ := far1 (by omega) b04
    have b15 : (w4.setCell ⟨G, 1, none⟩ (.slice A4 arms.length c4)).cell? _ = _ := far1 (by omega) b14
    have b25 : (w4.setCell ⟨G, 1, none⟩ (.slice A4 arms.length c4)).cell? _ = _ := far1 (by omega) b24
    have p05 : (w4.setCell ⟨G, 1, none⟩ (.slice A4 arms.length c4)).cell? _ = _ := far1 (by omega) p04
    have p15 : (w4.setCell ⟨G, 1, none⟩ (.slice A4 arms.length c4)).cell? _ = _ := far1 (by omega) p14
    have p25 : (w4.setCell ⟨G, 1, none⟩ (.slice A4 arms.length c4)).cell? _ = _ := far1 (by omega) p24
    have r05 : (w4.setCell ⟨G, 1, none⟩ (.slice A4 arms.length c4)).cell? _ = _ := far1 (by omega) r04
    have r15 : (w4.setCell ⟨G, 1, none⟩ (.slice A4 arms.length c4)).cell? _ = _ := far1 (by omega) r14
    have r25 : (w4.setCell ⟨G, 1, none⟩ (.slice A4 arms.length c4)).cell? _ = _ := far1 (by omega) r24
    have fr05 : (w4.setCell ⟨G, 1, none⟩ (.slice A4 arms.length c4)).frozen? _ = _ := (World.frozen?_setCell _ _ _ _).trans fr04
    have fr15 : (w4.setCell ⟨G, 1, none⟩ (.slice A4 arms.length c4)).frozen? _ = _ := (World.frozen?_setCell _ _ _ _).trans fr14
    have fr25 : (w4.setCell ⟨G, 1, none⟩ (.slice A4 arms.length c4)).frozen? _ = _ := (World.frozen?_setCell _ _ _ _).trans fr24
    have n05 : (w4.setCell ⟨G, 1, none⟩ (.slice A4 arms.length c4)).cell? _ = _ := same_ne (by omega) n04
    have n15 : (w4.setCell ⟨G, 1, none⟩ (.slice A4 arms.length c4)).cell? _ = _ := World.cell?_setCell_same _ _ _ n14
    have n25 : (w4.setCell ⟨G, 1, none⟩ (.slice A4 arms.length c4)).cell? _ = _ := same_ne (by omega) n24
    have fn25 : (w4.setCell ⟨G, 1, none⟩ (.slice A4 arms.length c4)).frozen? _ = _ := (World.frozen?_setCell _ _ _ _).trans fn24
    have hap : ∀ g, (Value.slice A4 arms.length c4).ownBlock = some g → G + 1 ≤ g := fun g hg => by have := (ho4.lt g hg).1; omega
    have Ho5A : (w4.setCell ⟨G, 1, none⟩ (.slice A4 arms.length c4)).ownsRow v0.heap.size 141 3 (.slice A4 arms.length c4) arms.length (cellsA arms) := ownsRow_setCell_other ho4 (a := ⟨G, 1, none⟩) (fun e => by have := hap G e; omega) _
    have hpl : ∀ g, (Value.slice A1 ps.length c1).ownBlock = some g → g < G := hplow.out
    have Ho5P : (w4.setCell ⟨G, 1, none⟩ (.slice A4 arms.length c4)).ownsRow w.heap.size 32 3 (.slice A1 ps.length c1) ps.length (cellsP ps) := ownsRow_setCell_other (own_below Ho3.out hb4 (fun g hg => by have := hpl g hg; omega)) (a := ⟨G, 1, none⟩) (fun e => by have := hpl G e; omega) _
    have hbw5 : Below w.heap.size w (w4.setCell ⟨G, 1, none⟩ (.slice A4 arms.length c4)) := hbw4.out.setCell (p := ⟨G, 1, none⟩) (by simp; omega) _
    have hz5 : G + 1 ≤ (w4.setCell ⟨G, 1, none⟩ (.slice A4 arms.length c4)).heap.size := by have := hb4.size; simp [World.setCell] at *; omega
    obtain ⟨v5, hv5⟩ : ∃ v5, v5 = (w4.setCell ⟨G, 1, none⟩ (.slice A4 arms.length c4)) := ⟨_, rfl⟩
    rw [← hv5] at Ho5A Ho5P hbw5 hz5 b05 b15 b25 p05 p15 p25 r05 r15 r25 n05 n15 n25 fn25 fr05 fr15 fr25 ⊢
    clear hv5 ho4 hb4 hb3 ho3 Ho3 hbw3 hbw4 hz3 hH0 hH3 hH4 hH6 b04 b03 b14 b13 b24 b23 p04 p03 p14 p13 p24 p23 r04 r03 r14 r13 r24 r23 n04 n03 n14 n13 n24 n23 fr04 fr03 fr14 fr13 fr24 fr23 fn14 fn24 fn13 fn23
    try clear hH0
    go_wp2_with fail
    refine wp_region_held_drew (S := fun w' => w'.cell? ⟨w.heap.size, 2, none⟩ = some (.int .i64 B.fives) ∧ w'.cell? ⟨G, 0, none⟩ = some (.slice A1 ps.length c1) ∧ w'.cell? ⟨G, 1, none⟩ = some (.slice A4 arms.length c4)) (by kernel_rfl) ⟨b25, n05, n15⟩ (fun hJ0 => ?_)
    refine reg_take 0 rfl (by kernel_rfl) (by kernel_rfl) (by kernel_rfl) (fun _ _ _ h => h) (by rfl) (fun w _ => by first | (go_simp; done) | (go_simp; with_reducible rfl)) (by assumption) ?_
    try simp only [Act.put, List.setIfInBounds_toArray, List.set_cons_zero, List.set_cons_succ, List.getElem_toArray, List.getElem_cons_zero]
    refine reg_take 1 rfl (by kernel_rfl) (by kernel_rfl) (by kernel_rfl) (fun _ _ _ h => h) (by rfl) (fun w hSw => by (try dsimp only at hSw); first | (go_simp; done) | (go_simp; with_reducible rfl)) (by assumption) ?_
    try simp only [Act.put, List.setIfInBounds_toArray, List.set_cons_zero, List.set_cons_succ, List.getElem_toArray, List.getElem_cons_zero, List.getElem_cons_succ]
    refine wpAnyH_ready (rs := [2]) (by kernel_rfl) (by simp) ?_
    refine AllReadyH.cons (i := 2) rfl (fun K hK => ?_) AllReadyH.nil
    go_simp
    skip
    refine hK.out _ _ (by assumption) (fun hH2 => ?_)
    clear hK K
    try simp only [Act.put, List.setIfInBounds_toArray, List.set_cons_zero, List.set_cons_succ, List.getElem_toArray, List.getElem_cons_zero, List.getElem_cons_succ]
    have rdx : RdA v5.drew A4 arms := RdA.of_own Ho5A
    refine wpAnyH_ready (rs := [3]) (by kernel_rfl) (by simp) ?_
    refine AllReadyH.cons (i := 3) rfl (fun K hK => ?_) AllReadyH.nil
    go_simp
    go_at_call 64
    refine (conP.out A1 c1 A4 c4 _ rdx).mono ?_
    rintro e w6 ⟨rfl, hb6⟩
    replace hb6 := bstep (Below.refl v5.heap.size v5).drew hb6
    have b06 := keepc hb6 b05
    have b16 := keepc hb6 b15
    have b26 := keepc hb6 b25
    have p06 := keepc hb6 p05
    have p16 := keepc hb6 p15
    have p26 := keepc hb6 p25
    have r06 := keepc hb6 r05
    have r16 := keepc hb6 r15
    have r26 := keepc hb6 r25
    have n06 := keepc hb6 n05
    have n16 := keepc hb6 n15
    have n26 := keepc hb6 n25
    have fr06 := (hb6.frozen (p := ⟨w.heap.size + 1 + 1, 0, none⟩) (block_lt r05)).trans fr05
    have fr16 := (hb6.frozen (p := ⟨w.heap.size + 1 + 1, 1, none⟩) (block_lt r15)).trans fr15
    have fr26 := (hb6.frozen (p := ⟨w.heap.size + 1 + 1, 2, none⟩) (block_lt r25)).trans fr25
    have fn26 := (hb6.frozen (p := ⟨G, 2, none⟩) (block_lt n25)).trans fn25
    have Ho6A := own_keep Ho5A hb6
    have Ho6P := own_keep Ho5P hb6
    have hbw6 := bstep hbw5 hb6
    refine hK.out _ _ ⟨b26, n06, n16⟩ (fun hH3 => ?_)
    clear hK K
    try simp only [Act.put, List.setIfInBounds_toArray, List.set_cons_zero, List.set_cons_succ, List.getElem_toArray, List.getElem_cons_zero, List.getElem_cons_succ]
    refine reg_take 4 rfl (by kernel_rfl) (by kernel_rfl) (by kernel_rfl) (fun _ _ _ h => h) (by rfl) (fun w _ => by first | (go_simp; done) | (go_simp; with_reducible rfl)) (by assumption) ?_
    try simp only [Act.put, List.setIfInBounds_toArray, List.set_cons_zero, List.set_cons_succ, List.getElem_toArray, List.getElem_cons_zero, List.getElem_cons_succ]
    refine reg_take 5 rfl (by kernel_rfl) (by kernel_rfl) (by kernel_rfl) (fun _ _ _ h => h) (by rfl) (fun w _ => by first | (go_simp; done) | (go_simp; with_reducible rfl)) (by assumption) ?_
    try simp only [Act.put, List.setIfInBounds_toArray, List.set_cons_zero, List.set_cons_succ, List.getElem_toArray, List.getElem_cons_zero, List.getElem_cons_succ]
    refine wpAnyH_ready (rs := [6]) (by kernel_rfl) (by simp) ?_
    refine AllReadyH.cons (i := 6) rfl (fun K hK => ?_) AllReadyH.nil
    go_simp
    skip
    refine hK.out _ _ ⟨far1 (by omega) b26, same_ne (by omega) n06, same_ne (by omega) n16⟩ (fun hH6 => ?_)
    clear hK K
    try simp only [Act.put, List.setIfInBounds_toArray, List.set_cons_zero, List.set_cons_succ, List.getElem_toArray, List.getElem_cons_zero, List.getElem_cons_succ]
    refine wpAnyH_done (by kernel_rfl) ?_ _
    have r07 : (w6.setCell ⟨G, 2, none⟩ (.int .i64 (B.fives + pts))).cell? _ = _ := far1 (by omega) r06
    have r17 : (w6.setCell ⟨G, 2, none⟩ (.int .i64 (B.fives + pts))).cell? _ = _ := far1 (by omega) r16
    have r27 : (w6.setCell ⟨G, 2, none⟩ (.int .i64 (B.fives + pts))).cell? _ = _ := far1 (by omega) r26
    have fr07 : (w6.setCell ⟨G, 2, none⟩ (.int .i64 (B.fives + pts))).frozen? _ = _ := (World.frozen?_setCell _ _ _ _).trans fr06
    have fr17 : (w6.setCell ⟨G, 2, none⟩ (.int .i64 (B.fives + pts))).frozen? _ = _ := (World.frozen?_setCell _ _ _ _).trans fr16
    have fr27 : (w6.setCell ⟨G, 2, none⟩ (.int .i64 (B.fives + pts))).frozen? _ = _ := (World.frozen?_setCell _ _ _ _).trans fr26
    have n07 : (w6.setCell ⟨G, 2, none⟩ (.int .i64 (B.fives + pts))).cell? _ = _ := same_ne (by omega) n06
    have n17 : (w6.setCell ⟨G, 2, none⟩ (.int .i64 (B.fives + pts))).cell? _ = _ := same_ne (by omega) n16
    have n27 : (w6.setCell ⟨G, 2, none⟩ (.int .i64 (B.fives + pts))).cell? _ = _ := World.cell?_setCell_same _ _ _ n26
    have Ho7A := ownsRow_setCell_other Ho6A (a := ⟨G, 2, none⟩) (fun e => by have := hap G e; omega) (.int .i64 (B.fives + pts))
    have Ho7P := ownsRow_setCell_other Ho6P (a := ⟨G, 2, none⟩) (fun e => by have := hpl G e; omega) (.int .i64 (B.fives + pts))
    have hbw7 : Below w.heap.size w (w6.setCell ⟨G, 2, none⟩ (.int .i64 (B.fives + pts))) := hbw6.setCell (p := ⟨G, 2, none⟩) (by simp; omega) _
    obtain ⟨v7, hv7⟩ : ∃ v7, v7 = (w6.setCell ⟨G, 2, none⟩ (.int .i64 (B.fives + pts))) := ⟨_, rfl⟩
    rw [← hv7] at Ho7A Ho7P hbw7 r07 r17 r27 fr07 fr17 fr27 n07 n17 n27 ⊢
    clear hv7 hb6 hJ0 hH2 hH3 hH6 Ho6A Ho6P Ho5A Ho5P hbw6 hbw5 rdx b06 b05 b16 b15 b26 b25 p06 p05 p16 p15 p26 p25 r06 r05 r16 r15 r26 r25 n06 n16 n26 n05 n15 n25 fn26 fn25 fr06 fr05 fr16 fr15 fr26 fr25
    go_wp2
    refine bodyPost_ret (v := .agg #[.slice A1 ps.length c1, .slice A4 arms.length c4, .int .i64 (B.fives + pts)]) (by simp [results, Try.results63, go_sem, r07, r17, r27]) rfl ⟨A1, c1, A4, c4, rfl, ?_, ?_, ?_⟩
    · exact ownsRow_setCell_other (ownsRow_setCell_other (ownsRow_setCell_other (Ho7P) (a := ⟨w.heap.size + 1 + 1, 0, none⟩) (fun e => by have := hpl5.out _ e; simp at this; omega) _) (a := ⟨w.heap.size + 1 + 1, 1, none⟩) (fun e => by have := hpl5.out _ e; simp at this; omega) _) (a := ⟨w.heap.size + 1 + 1, 2, none⟩) (fun e => by have := hpl5.out _ e; simp at this; omega) _
    · exact own_base (ownsRow_setCell_other (ownsRow_setCell_other (ownsRow_setCell_other (Ho7A) (a := ⟨w.heap.size + 1 + 1, 0, none⟩) (fun e => by have := hap _ e; simp at this; omega) _) (a := ⟨w.heap.size + 1 + 1, 1, none⟩) (fun e => by have := hap _ e; simp at this; omega) _) (a := ⟨w.heap.size + 1 + 1, 2, none⟩) (fun e => by have := hap _ e; simp at this; omega) _) (by omega)
    · exact ((hbw7.setCell (p := ⟨w.heap.size + 1 + 1, 0, none⟩) (by simp; omega) _).setCell (p := ⟨w.heap.size + 1 + 1, 1, none⟩) (by simp; omega) _).setCell (p := ⟨w.heap.size + 1 + 1, 2, none⟩) (by simp; omega) _
  · go_simp
    go_at_call 108
    refine (conA.out _ hbw2.out.drew).mono ?_
    rintro e w3 ⟨A3, c3, rfl, ho3, hb3⟩
    replace hb3 := bstep (Below.refl v0.heap.size v0).drew hb3
    have b03 := keepc hb3 (b02)
    have b13 := keepc hb3 (b12)
    have b23 := keepc hb3 (b22)
    have p03 := keepc hb3 (p02)
    have p13 := keepc hb3 (p12)
    have p23 := keepc hb3 (p22)
    have r03 := keepc hb3 (r02)
    have r13 := keepc hb3 (r12)
    have r23 := keepc hb3 (r22)
    have fr03 := (hb3.frozen (p := ⟨w.heap.size + 1 + 1, 0, none⟩) (block_lt r02)).trans fr02
    have fr13 := (hb3.frozen (p := ⟨w.heap.size + 1 + 1, 1, none⟩) (block_lt r12)).trans fr12
    have fr23 := (hb3.frozen (p := ⟨w.heap.size + 1 + 1, 2, none⟩) (block_lt r22)).trans fr22
    have n03 := keepc hb3 (n0)
    have n13 := keepc hb3 (n1)
    have n23 := keepc hb3 (n2)
    have fn13 := (hb3.frozen (p := ⟨G, 1, none⟩) (block_lt n1)).trans fn1
    have fn23 := (hb3.frozen (p := ⟨G, 2, none⟩) (block_lt n2)).trans fn2
    have hz3 : G + 1 ≤ w3.heap.size := by have := hb3.size; omega
    have Ho3 := Lib.hid (own_keep Ho2.out hb3)
    have hbw3 := Lib.hid (bstep hbw2.out hb3)
    refine hK.out _ _ ⟨b03, b13, b23, p03, p13, p23⟩ (fun hH3 => ?_)
    clear hK K
    try simp only [Act.put, List.setIfInBounds_toArray, List.set_cons_zero, List.set_cons_succ, List.getElem_toArray, List.getElem_cons_zero, List.getElem_cons_succ]
    refine wpAnyH_ready (rs := [0]) (by kernel_rfl) (by simp) ?_
    refine AllReadyH.cons (i := 0) rfl (fun K hK => ?_) AllReadyH.nil
    go_simp
    skip
    refine hK.out _ _ ⟨b03, b13, b23, p03, p13, p23⟩ (fun hH0 => ?_)
    clear hK K
    try simp only [Act.put, List.setIfInBounds_toArray, List.set_cons_zero, List.set_cons_succ, List.getElem_toArray, List.getElem_cons_zero, List.getElem_cons_succ]
    refine wpAnyH_ready (rs := [4]) (by kernel_rfl) (by simp) ?_
    refine AllReadyH.cons (i := 4) rfl (fun K hK => ?_) AllReadyH.nil
    go_simp
    go_at_call 107
    refine (conS.out A1 c1 A3 c3 v0.heap.size w3 (RdP.of_own Ho3.out) ho3 (by rw [hnx]; exact hz3)).mono ?_
    rintro e w4 ⟨A4, c4, rfl, ho4, hb4⟩
    have b04 := (hb4.cell (p := ⟨w.heap.size, 0, none⟩) (by rw [hnx]; simp; omega)).trans b03
    have b14 := (hb4.cell (p := ⟨w.heap.size, 1, none⟩) (by rw [hnx]; simp; omega)).trans b13
    have b24 := (hb4.cell (p := ⟨w.heap.size, 2, none⟩) (by rw [hnx]; simp; omega)).trans b23
    have p04 := (hb4.cell (p := ⟨w.heap.size + 1, 0, none⟩) (by rw [hnx]; simp; omega)).trans p03
    have p14 := (hb4.cell (p := ⟨w.heap.size + 1, 1, none⟩) (by rw [hnx]; simp; omega)).trans p13
    have p24 := (hb4.cell (p := ⟨w.heap.size + 1, 2, none⟩) (by rw [hnx]; simp; omega)).trans p23
    have r04 := (hb4.cell (p := ⟨w.heap.size + 1 + 1, 0, none⟩) (by rw [hnx]; simp; omega)).trans r03
    have r14 := (hb4.cell (p := ⟨w.heap.size + 1 + 1, 1, none⟩) (by rw [hnx]; simp; omega)).trans r13
    have r24 := (hb4.cell (p := ⟨w.heap.size + 1 + 1, 2, none⟩) (by rw [hnx]; simp; omega)).trans r23
    have fr04 := (hb4.frozen (p := ⟨w.heap.size + 1 + 1, 0, none⟩) (by rw [hnx]; simp; omega)).trans fr03
    have fr14 := (hb4.frozen (p := ⟨w.heap.size + 1 + 1, 1, none⟩) (by rw [hnx]; simp; omega)).trans fr13
    have fr24 := (hb4.frozen (p := ⟨w.heap.size + 1 + 1, 2, none⟩) (by rw [hnx]; simp; omega)).trans fr23
    have n04 := (hb4.cell (p := ⟨G, 0, none⟩) (by rw [hnx]; simp)).trans n03
    have n14 := (hb4.cell (p := ⟨G, 1, none⟩) (by rw [hnx]; simp)).trans n13
    have n24 := (hb4.cell (p := ⟨G, 2, none⟩) (by rw [hnx]; simp)).trans n23
    have fn14 := (hb4.frozen (p := ⟨G, 1, none⟩) (by rw [hnx]; simp)).trans fn13
    have fn24 := (hb4.frozen (p := ⟨G, 2, none⟩) (by rw [hnx]; simp)).trans fn23
    have hbw4 := Lib.hid (hbw3.out.trans (hb4.mono (by rw [hnx]; omega)))
    refine hK.out _ _ ⟨b04, b14, b24, p04, p14, p24⟩ (fun hH4 => ?_)
    clear hK K
    try simp only [Act.put, List.setIfInBounds_toArray, List.set_cons_zero, List.set_cons_succ, List.getElem_toArray, List.getElem_cons_zero, List.getElem_cons_succ]
    refine reg_take 5 rfl (by kernel_rfl) (by kernel_rfl) (by kernel_rfl) (fun _ _ _ h => h) (by rfl) (fun w _ => by first | (go_simp; done) | (go_simp; with_reducible rfl)) (by assumption) ?_
    try simp only [Act.put, List.setIfInBounds_toArray, List.set_cons_zero, List.set_cons_succ, List.getElem_toArray, List.getElem_cons_zero, List.getElem_cons_succ]
    refine wpAnyH_ready (rs := [6]) (by kernel_rfl) (by simp) ?_
    refine AllReadyH.cons (i := 6) rfl (fun K hK => ?_) AllReadyH.nil
    go_simp
    skip
    refine hK.out _ _ ⟨far1 (by omega) b04, far1 (by omega) b14, far1 (by omega) b24, far1 (by omega) p04, far1 (by omega) p14, far1 (by omega) p24⟩ (fun hH6 => ?_)
    clear hK K
    try simp only [Act.put, List.setIfInBounds_toArray, List.set_cons_zero, List.set_cons_succ, List.getElem_toArray, List.getElem_cons_zero, List.getElem_cons_succ]
    refine wpAnyH_done (by kernel_rfl) ?_ _
    have b05 : (w4.setCell ⟨G, 1, none⟩ (.slice A4 arms.length c4)).cell? _ = _ := far1 (by omega) b04
    have b15 : (w4.setCell ⟨G, 1, none⟩ (.slice A4 arms.length c4)).cell? _ = _ := far1 (by omega) b14
    have b25 : (w4.setCell ⟨G, 1, none⟩ (.slice A4 arms.length c4)).cell? _ = _ := far1 (by omega) b24
    have p05 : (w4.setCell ⟨G, 1, none⟩ (.slice A4 arms.length c4)).cell? _ = _ := far1 (by omega) p04
    have p15 : (w4.setCell ⟨G, 1, none⟩ (.slice A4 arms.length c4)).cell? _ = _ := far1 (by omega) p14
    have p25 : (w4.setCell ⟨G, 1, none⟩ (.slice A4 arms.length c4)).cell? _ = _ := far1 (by omega) p24
    have r05 : (w4.setCell ⟨G, 1, none⟩ (.slice A4 arms.length c4)).cell? _ = _ := far1 (by omega) r04
    have r15 : (w4.setCell ⟨G, 1, none⟩ (.slice A4 arms.length c4)).cell? _ = _ := far1 (by omega) r14
    have r25 : (w4.setCell ⟨G, 1, none⟩ (.slice A4 arms.length c4)).cell? _ = _ := far1 (by omega) r24
    have fr05 : (w4.setCell ⟨G, 1, none⟩ (.slice A4 arms.length c4)).frozen? _ = _ := (World.frozen?_setCell _ _ _ _).trans fr04
    have fr15 : (w4.setCell ⟨G, 1, none⟩ (.slice A4 arms.length c4)).frozen? _ = _ := (World.frozen?_setCell _ _ _ _).trans fr14
    have fr25 : (w4.setCell ⟨G, 1, none⟩ (.slice A4 arms.length c4)).frozen? _ = _ := (World.frozen?_setCell _ _ _ _).trans fr24
    have n05 : (w4.setCell ⟨G, 1, none⟩ (.slice A4 arms.length c4)).cell? _ = _ := same_ne (by omega) n04
    have n15 : (w4.setCell ⟨G, 1, none⟩ (.slice A4 arms.length c4)).cell? _ = _ := World.cell?_setCell_same _ _ _ n14
    have n25 : (w4.setCell ⟨G, 1, none⟩ (.slice A4 arms.length c4)).cell? _ = _ := same_ne (by omega) n24
    have fn25 : (w4.setCell ⟨G, 1, none⟩ (.slice A4 arms.length c4)).frozen? _ = _ := (World.frozen?_setCell _ _ _ _).trans fn24
    have hap : ∀ g, (Value.slice A4 arms.length c4).ownBlock = some g → G + 1 ≤ g := fun g hg => by have := (ho4.lt g hg).1; omega
    have Ho5A : (w4.setCell ⟨G, 1, none⟩ (.slice A4 arms.length c4)).ownsRow v0.heap.size 141 3 (.slice A4 arms.length c4) arms.length (cellsA arms) := ownsRow_setCell_other ho4 (a := ⟨G, 1, none⟩) (fun e => by have := hap G e; omega) _
    have hpl : ∀ g, (Value.slice A1 ps.length c1).ownBlock = some g → g < G := hplow.out
    have Ho5P : (w4.setCell ⟨G, 1, none⟩ (.slice A4 arms.length c4)).ownsRow w.heap.size 32 3 (.slice A1 ps.length c1) ps.length (cellsP ps) := ownsRow_setCell_other (own_below Ho3.out hb4 (fun g hg => by have := hpl g hg; omega)) (a := ⟨G, 1, none⟩) (fun e => by have := hpl G e; omega) _
    have hbw5 : Below w.heap.size w (w4.setCell ⟨G, 1, none⟩ (.slice A4 arms.length c4)) := hbw4.out.setCell (p := ⟨G, 1, none⟩) (by simp; omega) _
    have hz5 : G + 1 ≤ (w4.setCell ⟨G, 1, none⟩ (.slice A4 arms.length c4)).heap.size := by have := hb4.size; simp [World.setCell] at *; omega
    obtain ⟨v5, hv5⟩ : ∃ v5, v5 = (w4.setCell ⟨G, 1, none⟩ (.slice A4 arms.length c4)) := ⟨_, rfl⟩
    rw [← hv5] at Ho5A Ho5P hbw5 hz5 b05 b15 b25 p05 p15 p25 r05 r15 r25 n05 n15 n25 fn25 fr05 fr15 fr25 ⊢
    clear hv5 ho4 hb4 hb3 ho3 Ho3 hbw3 hbw4 hz3 hH0 hH3 hH4 hH6 b04 b03 b14 b13 b24 b23 p04 p03 p14 p13 p24 p23 r04 r03 r14 r13 r24 r23 n04 n03 n14 n13 n24 n23 fr04 fr03 fr14 fr13 fr24 fr23 fn14 fn24 fn13 fn23
    try clear hH0
    go_wp2_with fail
    refine wp_region_held_drew (S := fun w' => w'.cell? ⟨w.heap.size, 2, none⟩ = some (.int .i64 B.fives) ∧ w'.cell? ⟨G, 0, none⟩ = some (.slice A1 ps.length c1) ∧ w'.cell? ⟨G, 1, none⟩ = some (.slice A4 arms.length c4)) (by kernel_rfl) ⟨b25, n05, n15⟩ (fun hJ0 => ?_)
    refine reg_take 0 rfl (by kernel_rfl) (by kernel_rfl) (by kernel_rfl) (fun _ _ _ h => h) (by rfl) (fun w _ => by first | (go_simp; done) | (go_simp; with_reducible rfl)) (by assumption) ?_
    try simp only [Act.put, List.setIfInBounds_toArray, List.set_cons_zero, List.set_cons_succ, List.getElem_toArray, List.getElem_cons_zero]
    refine reg_take 1 rfl (by kernel_rfl) (by kernel_rfl) (by kernel_rfl) (fun _ _ _ h => h) (by rfl) (fun w hSw => by (try dsimp only at hSw); first | (go_simp; done) | (go_simp; with_reducible rfl)) (by assumption) ?_
    try simp only [Act.put, List.setIfInBounds_toArray, List.set_cons_zero, List.set_cons_succ, List.getElem_toArray, List.getElem_cons_zero, List.getElem_cons_succ]
    refine wpAnyH_ready (rs := [2]) (by kernel_rfl) (by simp) ?_
    refine AllReadyH.cons (i := 2) rfl (fun K hK => ?_) AllReadyH.nil
    go_simp
    skip
    refine hK.out _ _ (by assumption) (fun hH2 => ?_)
    clear hK K
    try simp only [Act.put, List.setIfInBounds_toArray, List.set_cons_zero, List.set_cons_succ, List.getElem_toArray, List.getElem_cons_zero, List.getElem_cons_succ]
    have rdx : RdA v5.drew A4 arms := RdA.of_own Ho5A
    refine wpAnyH_ready (rs := [3]) (by kernel_rfl) (by simp) ?_
    refine AllReadyH.cons (i := 3) rfl (fun K hK => ?_) AllReadyH.nil
    go_simp
    go_at_call 64
    refine (conP.out A1 c1 A4 c4 _ rdx).mono ?_
    rintro e w6 ⟨rfl, hb6⟩
    replace hb6 := bstep (Below.refl v5.heap.size v5).drew hb6
    have b06 := keepc hb6 b05
    have b16 := keepc hb6 b15
    have b26 := keepc hb6 b25
    have p06 := keepc hb6 p05
    have p16 := keepc hb6 p15
    have p26 := keepc hb6 p25
    have r06 := keepc hb6 r05
    have r16 := keepc hb6 r15
    have r26 := keepc hb6 r25
    have n06 := keepc hb6 n05
    have n16 := keepc hb6 n15
    have n26 := keepc hb6 n25
    have fr06 := (hb6.frozen (p := ⟨w.heap.size + 1 + 1, 0, none⟩) (block_lt r05)).trans fr05
    have fr16 := (hb6.frozen (p := ⟨w.heap.size + 1 + 1, 1, none⟩) (block_lt r15)).trans fr15
    have fr26 := (hb6.frozen (p := ⟨w.heap.size + 1 + 1, 2, none⟩) (block_lt r25)).trans fr25
    have fn26 := (hb6.frozen (p := ⟨G, 2, none⟩) (block_lt n25)).trans fn25
    have Ho6A := own_keep Ho5A hb6
    have Ho6P := own_keep Ho5P hb6
    have hbw6 := bstep hbw5 hb6
    refine hK.out _ _ ⟨b26, n06, n16⟩ (fun hH3 => ?_)
    clear hK K
    try simp only [Act.put, List.setIfInBounds_toArray, List.set_cons_zero, List.set_cons_succ, List.getElem_toArray, List.getElem_cons_zero, List.getElem_cons_succ]
    refine reg_take 4 rfl (by kernel_rfl) (by kernel_rfl) (by kernel_rfl) (fun _ _ _ h => h) (by rfl) (fun w _ => by first | (go_simp; done) | (go_simp; with_reducible rfl)) (by assumption) ?_
    try simp only [Act.put, List.setIfInBounds_toArray, List.set_cons_zero, List.set_cons_succ, List.getElem_toArray, List.getElem_cons_zero, List.getElem_cons_succ]
    refine reg_take 5 rfl (by kernel_rfl) (by kernel_rfl) (by kernel_rfl) (fun _ _ _ h => h) (by rfl) (fun w _ => by first | (go_simp; done) | (go_simp; with_reducible rfl)) (by assumption) ?_
    try simp only [Act.put, List.setIfInBounds_toArray, List.set_cons_zero, List.set_cons_succ, List.getElem_toArray, List.getElem_cons_zero, List.getElem_cons_succ]
    refine wpAnyH_ready (rs := [6]) (by kernel_rfl) (by simp) ?_
    refine AllReadyH.cons (i := 6) rfl (fun K hK => ?_) AllReadyH.nil
    go_simp
    skip
    refine hK.out _ _ ⟨far1 (by omega) b26, same_ne (by omega) n06, same_ne (by omega) n16⟩ (fun hH6 => ?_)
    clear hK K
    try simp only [Act.put, List.setIfInBounds_toArray, List.set_cons_zero, List.set_cons_succ, List.getElem_toArray, List.getElem_cons_zero, List.getElem_cons_succ]
    refine wpAnyH_done (by kernel_rfl) ?_ _
    have r07 : (w6.setCell ⟨G, 2, none⟩ (.int .i64 (B.fives + pts))).cell? _ = _ := far1 (by omega) r06
    have r17 : (w6.setCell ⟨G, 2, none⟩ (.int .i64 (B.fives + pts))).cell? _ = _ := far1 (by omega) r16
    have r27 : (w6.setCell ⟨G, 2, none⟩ (.int .i64 (B.fives + pts))).cell? _ = _ := far1 (by omega) r26
    have fr07 : (w6.setCell ⟨G, 2, none⟩ (.int .i64 (B.fives + pts))).frozen? _ = _ := (World.frozen?_setCell _ _ _ _).trans fr06
    have fr17 : (w6.setCell ⟨G, 2, none⟩ (.int .i64 (B.fives + pts))).frozen? _ = _ := (World.frozen?_setCell _ _ _ _).trans fr16
    have fr27 : (w6.setCell ⟨G, 2, none⟩ (.int .i64 (B.fives + pts))).frozen? _ = _ := (World.frozen?_setCell _ _ _ _).trans fr26
    have n07 : (w6.setCell ⟨G, 2, none⟩ (.int .i64 (B.fives + pts))).cell? _ = _ := same_ne (by omega) n06
    have n17 : (w6.setCell ⟨G, 2, none⟩ (.int .i64 (B.fives + pts))).cell? _ = _ := same_ne (by omega) n16
    have n27 : (w6.setCell ⟨G, 2, none⟩ (.int .i64 (B.fives + pts))).cell? _ = _ := World.cell?_setCell_same _ _ _ n26
    have Ho7A := ownsRow_setCell_other Ho6A (a := ⟨G, 2, none⟩) (fun e => by have := hap G e; omega) (.int .i64 (B.fives + pts))
    have Ho7P := ownsRow_setCell_other Ho6P (a := ⟨G, 2, none⟩) (fun e => by have := hpl G e; omega) (.int .i64 (B.fives + pts))
    have hbw7 : Below w.heap.size w (w6.setCell ⟨G, 2, none⟩ (.int .i64 (B.fives + pts))) := hbw6.setCell (p := ⟨G, 2, none⟩) (by simp; omega) _
    obtain ⟨v7, hv7⟩ : ∃ v7, v7 = (w6.setCell ⟨G, 2, none⟩ (.int .i64 (B.fives + pts))) := ⟨_, rfl⟩
    rw [← hv7] at Ho7A Ho7P hbw7 r07 r17 r27 fr07 fr17 fr27 n07 n17 n27 ⊢
    clear hv7 hb6 hJ0 hH2 hH3 hH6 Ho6A Ho6P Ho5A Ho5P hbw6 hbw5 rdx b06 b05 b16 b15 b26 b25 p06 p05 p16 p15 p26 p25 r06 r05 r16 r15 r26 r25 n06 n16 n26 n05 n15 n25 fn26 fn25 fr06 fr05 fr16 fr15 fr26 fr25
    go_wp2
    refine bodyPost_ret (v := .agg #[.slice A1 ps.length c1, .slice A4 arms.length c4, .int .i64 (B.fives + pts)]) (by simp [results, Try.results63, go_sem, r07, r17, r27]) rfl ⟨A1, c1, A4, c4, rfl, ?_, ?_, ?_⟩
    · exact ownsRow_setCell_other (ownsRow_setCell_other (ownsRow_setCell_other (Ho7P) (a := ⟨w.heap.size + 1 + 1, 0, none⟩) (fun e => by have := hpl5.out _ e; simp at this; omega) _) (a := ⟨w.heap.size + 1 + 1, 1, none⟩) (fun e => by have := hpl5.out _ e; simp at this; omega) _) (a := ⟨w.heap.size + 1 + 1, 2, none⟩) (fun e => by have := hpl5.out _ e; simp at this; omega) _
    · exact own_base (ownsRow_setCell_other (ownsRow_setCell_other (ownsRow_setCell_other (Ho7A) (a := ⟨w.heap.size + 1 + 1, 0, none⟩) (fun e => by have := hap _ e; simp at this; omega) _) (a := ⟨w.heap.size + 1 + 1, 1, none⟩) (fun e => by have := hap _ e; simp at this; omega) _) (a := ⟨w.heap.size + 1 + 1, 2, none⟩) (fun e => by have := hap _ e; simp at this; omega) _) (by omega)
    · exact ((hbw7.setCell (p := ⟨w.heap.size + 1 + 1, 0, none⟩) (by simp; omega) _).setCell (p := ⟨w.heap.size + 1 + 1, 1, none⟩) (by simp; omega) _).setCell (p := ⟨w.heap.size + 1 + 1, 2, none⟩) (by simp; omega) _
end Go.Proofs.Ytnnkdnleencofab

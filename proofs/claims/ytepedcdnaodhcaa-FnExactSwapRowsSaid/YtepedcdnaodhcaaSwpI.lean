/- The rows of a block in new memory: the program's rows, slices of one block. -/
import Derived.Test.YtepedcdnaodhcaaSwpS
import Derived.Test.YtepedcdnaodhcaaNestA
import Derived.Test.YtepedcdnaodhcaaTurn
namespace Go.Proofs.Ytepedcdnaodhcaa
open Go.RowKit
set_option linter.unusedVariables false

/-- The first k of H rows of W cells of the block g, nil behind them. -/
def rowsV (g W H k : Nat) : List Value := (List.range H).map fun i => if i < k then Value.slice (some ⟨g, i * W, none⟩) W W else Value.slice none 0 0

theorem rowsV_len (g W H k : Nat) : (rowsV g W H k).length = H := by simp [rowsV]

theorem rowsV_step {g W H k : Nat} (h : k < H) : (rowsV g W H k).set k (.slice (some ⟨g, k * W, none⟩) W W) = rowsV g W H (k + 1) := by
  apply List.ext_getElem?
  intro i
  rw [List.getElem?_set]
  simp only [rowsV, List.length_map, List.length_range, List.getElem?_map]
  by_cases hi : i < H
  · rw [List.getElem?_range hi]
    by_cases e : k = i
    · subst e
      simp [hi]
    · rw [if_neg e]
      simp only [Option.map_some]
      by_cases h3 : i < k
      · rw [if_pos h3, if_pos (by omega)]
      · rw [if_neg h3, if_neg (by omega)]
  · rw [if_neg (by omega), List.getElem?_eq_none (by simp; omega)]
    rfl

theorem rowsV_zero (g W H : Nat) : rowsV g W H 0 = List.replicate H (Value.slice none 0 0) := by
  apply List.ext_getElem
  · simp [rowsV]
  · intro i h1 h2
    simp [rowsV]

theorem own_apart_set {w : World} {base e size n g b j : Nat} {cap : Nat} {u : Value} {cs : List Value} (h : w.ownsRow base e size (.slice (some ⟨g, 0, none⟩) n cap) n cs) (hne : b ≠ g) : (w.setCell ⟨b, j, none⟩ u).ownsRow base e size (.slice (some ⟨g, 0, none⟩) n cap) n cs :=
  h.kept (grown_set (World.grownBy.refl w (some b)) j u) (.inr (fun e => by injection e with e; exact hne e.symm))

theorem own_capN {w : World} {base e n c g : Nat} {cs : List Value} (h : w.ownsRow base e 1 (.slice (some ⟨g, 0, none⟩) n c) n cs) : n ≤ c := by
  obtain ⟨_, ⟨hv, _⟩ | ⟨g', cap, cur, hv, _, _, hm, _⟩⟩ := h
  · cases hv
  · injection hv with h1 h2 h3
    omega

theorem bstep' {N : Nat} {w w' w2 : World} (h : Below N w w') (hb : Below w'.heap.size w' w2) (hN : N ≤ w.heap.size) : Below N w w2 := h.trans (hb.mono (Nat.le_trans hN h.size))

theorem frozen_freshT (w : World) (cs : Array Value) (t : TypeId) (m : Nat) : (w.alloc (.cells cs t)).frozen? ⟨w.heap.size, m, none⟩ = false := by
  unfold World.frozen? World.alloc
  simp

theorem farT {w : World} {g a i j : Nat} {u v : Value} (h : a ≠ g) (hc : w.cell? ⟨g, j, none⟩ = some v) : (w.setCell ⟨a, i, none⟩ u).cell? ⟨g, j, none⟩ = some v :=
  (World.cell?_setCell_other _ _ _ _ (by intro e; cases e; exact h rfl)).trans hc

theorem sameT {w : World} {g i j : Nat} {u v : Value} (h : j ≠ i) (hc : w.cell? ⟨g, j, none⟩ = some v) : (w.setCell ⟨g, i, none⟩ u).cell? ⟨g, j, none⟩ = some v := (World.cell?_setCell_other _ _ _ _ (by simp <;> omega)).trans hc

def RetRows (w : World) (n W H : Nat) (F : List Int) (e : Ending) (w' : World) : Prop :=
  ∃ go g cap, e = .returned (.slice (some ⟨go, 0, none⟩) H H) ∧ w'.ownsRow w.heap.size 23 1 (.slice (some ⟨go, 0, none⟩) H H) H (rowsV g W H H) ∧ w'.ownsRow w.heap.size 3 1 (.slice (some ⟨g, 0, none⟩) n cap) n (cellsI F) ∧ g < go ∧ Below w.heap.size w w'

set_option maxRecDepth 100000 in
set_option maxHeartbeats 4000000 in
theorem c_blkRows (A : Option Addr) (n c W H : Nat) (F : List Int) (w : World) (hr : RdI w A F) (hF : F.length = n) (hn : n = H * W) (hW : 0 < W) (hW4 : W ≤ 4) (hH : 0 < H) (hH3 : H ≤ 3) :
    Calls Try.prog 87 #[.agg #[.slice A n c, .int .i64 W]] w (RetRows w n W H F) := by
  obtain ⟨v1, hv1⟩ : ∃ v1, v1 = w.alloc (.cells #[.slice A n c, .int .i64 W] 94) := ⟨_, rfl⟩
  have hb0 : Below w.heap.size w v1 := by rw [hv1]; go_grown
  have x0 : v1.cell? ⟨w.heap.size, 0, none⟩ = some (.slice A n c) := by rw [hv1]; simp
  have x1 : v1.cell? ⟨w.heap.size, 1, none⟩ = some (.int .i64 W) := by rw [hv1]; simp
  have HR := Lib.hid (hr.below hb0)
  have hn0 : 0 < n := by rw [hn]; exact Nat.mul_pos hH hW
  have hn12 : n ≤ 12 := by rw [hn]; exact Nat.mul_le_mul hH3 hW4
  have conC := Lib.hid (fun W0 (hb : Below v1.heap.size v1 W0) => (show Calls Try.prog 110 #[.slice A n c] W0 fun e w' => ∃ g cap, e = .returned (.slice (some ⟨g, 0, none⟩) n cap) ∧ w'.ownsRow W0.heap.size 3 1 (.slice (some ⟨g, 0, none⟩) n cap) n (cellsI F) ∧ Below W0.heap.size W0 w' from by
    have h := c_clone A c F W0 (HR.out.below hb) (by omega) (by omega)
    rw [hF] at h
    refine h.mono ?_
    rintro e w' ⟨A', c', rfl, ho, hb'⟩
    rw [hF] at ho ⊢
    have ho' := ho
    obtain ⟨_, ⟨_, hz⟩ | ⟨g, cap, cur, hv, _⟩⟩ := ho'
    · omega
    · injection hv with e1 e2 e3
      subst e1
      exact ⟨g, c', rfl, ho, hb'⟩))
  have Hhei := Lib.hid (fun A c W0 => c_blkHeight A n c W H W0 hW hn (by omega))
  have Hrow := Lib.hid (fun g cap k (hk : k < H) (hc : n ≤ cap) (hcc : cap ≤ 9223372036854775807) W0 => (show Calls Try.prog 123 #[.agg #[.slice (some ⟨g, 0, none⟩) n cap, .int .i64 W], .int .i64 k] W0 fun e w' => e = .returned (.slice (some ⟨g, k * W, none⟩) W W) ∧ Below W0.heap.size W0 w' from by
    have hkW : k * W + W ≤ n := by rw [hn, ← Nat.succ_mul]; exact Nat.mul_le_mul_right _ hk
    have h := c_blkRow g 0 n cap W k (k * W) W0 hW rfl hkW hc (by omega) hcc (by omega)
    rwa [Nat.zero_add] at h))
  obtain ⟨i0, hi, hz0', hz1, hz2⟩ := info_parts Try.info_rowI
  have hsv : v1.heap.size = w.heap.size + 1 := by rw [hv1]; simp
  clear hr hF hn hW hW4 HR
  go_enter Try.func87, Try.ntmps87
  go_wp2_with fail
  rw [← hv1]
  clear hv1
  obtain ⟨b1, hb1⟩ : ∃ b1, b1 = w.heap.size := ⟨_, rfl⟩
  have Hb1 := Lib.hid hb1
  have hb1z : b1 < v1.heap.size := by omega
  rw [← hb1] at x0 x1 ⊢
  have Hb0 := Lib.hid hb0
  clear hb0 hb1
  obtain ⟨u0, hu0⟩ : ∃ u0, u0 = v1.drew := ⟨_, rfl⟩
  have hS : u0.cell? ⟨b1, 0, none⟩ = some (.slice A n c) ∧ u0.cell? ⟨b1, 1, none⟩ = some (.int .i64 (W : Int)) := by rw [hu0]; exact ⟨g1d _ x0, g1d _ x1⟩
  have Hv0 := Lib.hid (show Below v1.heap.size v1 u0 from by rw [hu0]; exact (Below.refl _ _).drew)
  have hz0 : v1.heap.size ≤ u0.heap.size := Hv0.out.size
  refine wp_region_held_drew (S := fun w' => w'.cell? ⟨b1, 0, none⟩ = some (.slice A n c) ∧ w'.cell? ⟨b1, 1, none⟩ = some (.int .i64 (W : Int))) (by kernel_rfl) ⟨g1d _ x0, g1d _ x1⟩ (fun hH0 => ?_)
  clear hH0
  rw [← hu0]
  clear hu0 x0 x1
  refine reg_take 0 rfl (by kernel_rfl) (by kernel_rfl) (by kernel_rfl) (fun _ _ _ h => h) (by rfl) (fun w _ => by first | (go_simp; done) | (go_simp; with_reducible rfl)) hS ?_
  try simp only [Act.put, List.setIfInBounds_toArray, List.set_cons_zero, List.set_cons_succ, List.getElem_toArray, List.getElem_cons_zero]
  refine reg_take 1 rfl (by kernel_rfl) (by kernel_rfl) (by kernel_rfl) (fun _ _ _ h => h) (by rfl) (fun w hSw => by (try dsimp only at hSw); first | (go_simp; done) | (go_simp; with_reducible rfl)) hS ?_
  try simp only [Act.put, List.setIfInBounds_toArray, List.set_cons_zero, List.set_cons_succ, List.getElem_toArray, List.getElem_cons_zero, List.getElem_cons_succ]
  refine reg_take 3 rfl (by kernel_rfl) (by kernel_rfl) (by kernel_rfl) (fun _ _ _ h => h) (by rfl) (fun w _ => by first | (go_simp; done) | (go_simp; with_reducible rfl)) hS ?_
  try simp only [Act.put, List.setIfInBounds_toArray, List.set_cons_zero, List.set_cons_succ, List.getElem_toArray, List.getElem_cons_zero, List.getElem_cons_succ]
  refine reg_take 4 rfl (by kernel_rfl) (by kernel_rfl) (by kernel_rfl) (fun _ _ _ h => h) (by rfl) (fun w hSw => by (try dsimp only at hSw); first | (go_simp; done) | (go_simp; with_reducible rfl)) hS ?_
  try simp only [Act.put, List.setIfInBounds_toArray, List.set_cons_zero, List.set_cons_succ, List.getElem_toArray, List.getElem_cons_zero, List.getElem_cons_succ]
  refine wpAnyH_ready (rs := [2, 6]) (by kernel_rfl) (by simp) ?_
  refine AllReadyH.cons (i := 2) rfl (fun K hK => ?_) (AllReadyH.cons (i := 6) rfl (fun K hK => ?_) AllReadyH.nil)
  · skip
    go_simp
    go_at_call 110
    refine (conC.out _ Hv0.out).mono ?_
    rintro e u1 ⟨g, cap, rfl, hoc, hbn⟩
    have hcap := own_capN hoc
    have hcap2 := own_capM hoc
    have hSn := show u1.cell? ⟨b1, 0, none⟩ = some (.slice A n c) ∧ u1.cell? ⟨b1, 1, none⟩ = some (.int .i64 (W : Int)) from ⟨keepc hbn hS.1, keepc hbn hS.2⟩
    have Hvn := Lib.hid (bstep Hv0.out hbn)
    have HOc := Lib.hid (own_base hoc hz0)
    have hzn : v1.heap.size ≤ u1.heap.size := Nat.le_trans hz0 hbn.size
    have hgl : g < u1.heap.size := (hoc.lt g rfl).2
    refine hK.out _ _ hSn (fun hHx => ?_)
    clear hK K hHx hS Hv0 hbn hoc hz0
    have hS := hSn
    have Hv0 := Hvn
    have hz0 := hzn
    clear hSn Hvn hzn
    try simp only [Act.put, List.setIfInBounds_toArray, List.set_cons_zero, List.set_cons_succ, List.getElem_toArray, List.getElem_cons_zero, List.getElem_cons_succ]
    refine reg_take 5 rfl (by kernel_rfl) (by kernel_rfl) (by kernel_rfl) (fun _ _ _ h => h) (by rfl) (fun w _ => by first | (go_simp; done) | (go_simp; with_reducible rfl)) hS ?_
    try simp only [Act.put, List.setIfInBounds_toArray, List.set_cons_zero, List.set_cons_succ, List.getElem_toArray, List.getElem_cons_zero, List.getElem_cons_succ]
    refine wpAnyH_ready (rs := [6]) (by kernel_rfl) (by simp) ?_
    refine AllReadyH.cons (i := 6) rfl (fun K hK => ?_) AllReadyH.nil
    go_simp
    obtain ⟨u2, hvn⟩ : ∃ u2, u2 = u1.alloc (.cells #[.slice none 0 0, .int .i64 0] 94) := ⟨_, rfl⟩
    have hbn : Below u1.heap.size u1 u2 := by rw [hvn]; exact (Below.refl _ _).alloc (Nat.le_refl _) _
    obtain ⟨b3, hb3⟩ : ∃ b3, b3 = u1.heap.size := ⟨_, rfl⟩
    have z0 : u2.cell? ⟨b3, 0, none⟩ = some (.slice none 0 0) := by rw [hvn, hb3]; simp
    have z1 : u2.cell? ⟨b3, 1, none⟩ = some (.int .i64 0) := by rw [hvn, hb3]; simp
    have zf0 : u2.frozen? ⟨b3, 0, none⟩ = false := by rw [hvn, hb3]; exact frozen_freshT _ _ _ _
    have zf1 : u2.frozen? ⟨b3, 1, none⟩ = false := by rw [hvn, hb3]; exact frozen_freshT _ _ _ _
    have n31 : b3 ≠ b1 := by omega
    have h3v : v1.heap.size ≤ b3 := by omega
    rw [← hvn, ← hb3]
    have hSn := show u2.cell? ⟨b1, 0, none⟩ = some (.slice A n c) ∧ u2.cell? ⟨b1, 1, none⟩ = some (.int .i64 (W : Int)) from ⟨keepc hbn hS.1, keepc hbn hS.2⟩
    have Hvn := Lib.hid (bstep Hv0.out hbn)
    have HOn := Lib.hid (own_keep HOc.out hbn)
    clear HOc
    have HOc := HOn
    clear HOn
    have n3g : b3 ≠ g := by omega
    have hzn : v1.heap.size ≤ u2.heap.size := Nat.le_trans hz0 hbn.size
    clear hvn hb3
    refine hK.out _ _ hSn (fun hHx => ?_)
    clear hK K hHx hS Hv0 hbn hz0
    have hS := hSn
    have Hv0 := Hvn
    have hz0 := hzn
    clear hSn Hvn hzn
    try simp only [Act.put, List.setIfInBounds_toArray, List.set_cons_zero, List.set_cons_succ, List.getElem_toArray, List.getElem_cons_zero, List.getElem_cons_succ]
    refine wpAnyH_ready (rs := [7]) (by kernel_rfl) (by simp) ?_
    refine AllReadyH.cons (i := 7) rfl (fun K hK => ?_) AllReadyH.nil
    go_simp
    refine hK.out _ _ ⟨farT n31 (farT n31 hS.1), farT n31 (farT n31 hS.2)⟩ (fun hHx => ?_)
    clear hK K hHx
    try simp only [Act.put, List.setIfInBounds_toArray, List.set_cons_zero, List.set_cons_succ, List.getElem_toArray, List.getElem_cons_zero, List.getElem_cons_succ]
    refine wpAnyH_done (by kernel_rfl) ?_ _
    obtain ⟨vT, hvT⟩ : ∃ vT, vT = ((u2.setCell ⟨b3, 0, none⟩ (.slice (some ⟨g, 0, none⟩) n cap)).setCell ⟨b3, 1, none⟩ (.int .i64 (W : Int))) := ⟨_, rfl⟩
    have hS2 : vT.cell? ⟨b1, 0, none⟩ = some (.slice A n c) ∧ vT.cell? ⟨b1, 1, none⟩ = some (.int .i64 (W : Int)) := by rw [hvT]; exact ⟨farT n31 (farT n31 hS.1), farT n31 (farT n31 hS.2)⟩
    have hq0 : vT.cell? ⟨b3, 0, none⟩ = some (.slice (some ⟨g, 0, none⟩) n cap) := by rw [hvT]; exact sameT (by omega) (World.cell?_setCell_same _ _ _ z0)
    have hq1 : vT.cell? ⟨b3, 1, none⟩ = some (.int .i64 (W : Int)) := by rw [hvT]; exact World.cell?_setCell_same _ _ _ (sameT (by omega) z1)
    have HO := Lib.hid (show vT.ownsRow v1.heap.size 3 1 (.slice (some ⟨g, 0, none⟩) n cap) n (cellsI F) from by rw [hvT]; exact own_apart_set (own_apart_set HOc.out n3g) n3g)
    have HvT := Lib.hid (show Below v1.heap.size v1 vT from by rw [hvT]; exact (Hv0.out.setCell h3v _).setCell h3v _)
    have hb35 : b3 < vT.heap.size := block_lt hq0
    rw [← hvT]
    clear hvT hS z0 z1 zf0 zf1 HOc Hv0
    have hS := hS2
    clear hS2
    have q0 := hq0
    have q1 := hq1
    have p0 := hS.1
    have p1 := hS.2
    clear hS hq0 hq1
    go_wp2_with (first | (go_at_call 122; refine (Hhei.out _ _ _).mono ?_; rintro e w5 ⟨rfl, hb5⟩; have q2 := keepc hb5 q0; have q3 := keepc hb5 q1; have HO5 := Lib.hid (own_keep HO.out hb5); have Hv5 := Lib.hid (bstep HvT.out hb5); have hz5 := hb5.size; clear hb5) | (refine wpList_make_full _ rfl _ _ _ rfl w5.heap.size 23 i0 _ 1 Try.underlying50 hi hz0' hz1 .i64 .i64 _ _ H rfl rfl rfl rfl (by rw [hz2]; omega) (by unfold maxLen; omega) (Nat.le_refl _) ?_; intro w6 hown6 hg6; have hb6 : Below w5.heap.size w5 w6 := below_of_grown hg6 (Nat.le_refl _) (by simp); have q4 := keepc hb6 q2; have q5 := keepc hb6 q3; have HO6 := Lib.hid (own_keep HO5.out hb6); have Hv6 := Lib.hid (bstep Hv5.out hb6)))
    have hown : w6.ownsRow w5.heap.size 23 1 (.slice (some ⟨w5.heap.size, 0, none⟩) H H) H (rowsV g W H 0) := by
      rw [rowsV_zero]
      have e2 : (madeCells (Value.slice none 0 0).cells (H * 1)).toList = List.replicate H (Value.slice none 0 0) := by
        rw [Nat.mul_one]
        exact toList_madeCells_one (.slice none 0 0) H
      rw [← e2]
      exact hown6
    have hgo : g < w5.heap.size := Nat.lt_of_lt_of_le (HO.out.lt g rfl).2 hz5
    have hb35w : b3 < w5.heap.size := Nat.lt_of_lt_of_le hb35 hz5
    clear hown6 hg6 q0 q1 p0 p1 q2 q3 HO5 HO Hv5
    go_loopw [17] (fun i wr => ∃ k : Nat, k ≤ H ∧ i = .int .i64 k ∧ wr.ownsRow w5.heap.size 23 1 (.slice (some ⟨w5.heap.size, 0, none⟩) H H) H (rowsV g W H k) ∧ Below w5.heap.size w6 wr) (fun i _ => H - (intOf i).toNat)
    case atStart => exact ⟨0, Nat.zero_le _, rfl, hown, Below.refl _ _⟩
    case round =>
      clear hown
      obtain ⟨k, hk, rfl, hown, hb⟩ := hrel
      have hz66 := hb6.size
      by_cases hlt : k < H
      · have t0 := (hb.cell (p := ⟨b3, 0, none⟩) hb35w).trans q4
        have t1 := (hb.cell (p := ⟨b3, 1, none⟩) hb35w).trans q5
        obtain ⟨z, hz⟩ : ∃ z, (rowsV g W H k)[k]? = some z := ⟨_, List.getElem?_eq_getElem (by rw [rowsV_len]; exact hlt)⟩
        have y1 := (hown.cellAt k (by omega)).trans hz
        have f1 := hown.frozenAt k
        have hsz := (hown.lt w5.heap.size rfl).2
        have Hst := Lib.hid (rowsV_step (g := g) (W := W) hlt)
        have conR := Lib.hid (fun W0 => Hrow.out g cap k hlt hcap hcap2 W0)
        have Ho := Lib.hid hown
        have Hb := Lib.hid hb
        have jk : (k : Int) < (H : Int) := by omega
        have jk0 : (0 : Int) ≤ (k : Int) := by omega
        generalize k * W = p at *
        clear hown hb hz
        go_wp2_with (go_at_call 123; refine (conR.out _).mono ?_; rintro e w7 ⟨rfl, hb7⟩; have d1 := keepc hb7 y1; have d2 := (hb7.frozen (p := ⟨w5.heap.size, k, none⟩) hsz).trans f1; have Ho7 := Lib.hid (own_keep Ho.out hb7); have Hb7 := Lib.hid (bstep' Hb.out hb7 hz66); clear hb7)
        go_roundw
        case rel =>
          refine ⟨k + 1, by omega, by go_num, ?_, Hb7.out.setCell (Nat.le_refl _) _⟩
          rw [← Hst.out]
          exact (Ho7.out.stored _ _).1
        case measure => simp [intOf]; omega
      · obtain rfl : k = H := by omega
        have hOg := own_below HO6.out hb (fun x hx => by cases hx; exact hgo)
        have hv1w := Hv6.out
        have hzv := Hv6.out.size
        go_wp2
        go_ret
        have hz51 : v1.heap.size ≤ w5.heap.size := by omega
        exact ⟨w5.heap.size, g, cap, rfl, own_base hown (Nat.le_trans Hb0.out.size hz51), own_base hOg Hb0.out.size, hgo, (bstep Hb0.out Hv6.out).trans (hb.mono (Nat.le_trans Hb0.out.size hz51))⟩
  · skip
    go_simp
    obtain ⟨u1, hvn⟩ : ∃ u1, u1 = u0.alloc (.cells #[.slice none 0 0, .int .i64 0] 94) := ⟨_, rfl⟩
    have hbn : Below u0.heap.size u0 u1 := by rw [hvn]; exact (Below.refl _ _).alloc (Nat.le_refl _) _
    obtain ⟨b3, hb3⟩ : ∃ b3, b3 = u0.heap.size := ⟨_, rfl⟩
    have z0 : u1.cell? ⟨b3, 0, none⟩ = some (.slice none 0 0) := by rw [hvn, hb3]; simp
    have z1 : u1.cell? ⟨b3, 1, none⟩ = some (.int .i64 0) := by rw [hvn, hb3]; simp
    have zf0 : u1.frozen? ⟨b3, 0, none⟩ = false := by rw [hvn, hb3]; exact frozen_freshT _ _ _ _
    have zf1 : u1.frozen? ⟨b3, 1, none⟩ = false := by rw [hvn, hb3]; exact frozen_freshT _ _ _ _
    have n31 : b3 ≠ b1 := by omega
    have h3v : v1.heap.size ≤ b3 := by omega
    rw [← hvn, ← hb3]
    have hSn := show u1.cell? ⟨b1, 0, none⟩ = some (.slice A n c) ∧ u1.cell? ⟨b1, 1, none⟩ = some (.int .i64 (W : Int)) from ⟨keepc hbn hS.1, keepc hbn hS.2⟩
    have Hvn := Lib.hid (bstep Hv0.out hbn)
    have hzn : v1.heap.size ≤ u1.heap.size := Nat.le_trans hz0 hbn.size
    clear hvn hb3
    refine hK.out _ _ hSn (fun hHx => ?_)
    clear hK K hHx hS Hv0 hbn hz0
    have hS := hSn
    have Hv0 := Hvn
    have hz0 := hzn
    clear hSn Hvn hzn
    try simp only [Act.put, List.setIfInBounds_toArray, List.set_cons_zero, List.set_cons_succ, List.getElem_toArray, List.getElem_cons_zero, List.getElem_cons_succ]
    refine wpAnyH_ready (rs := [2]) (by kernel_rfl) (by simp) ?_
    refine AllReadyH.cons (i := 2) rfl (fun K hK => ?_) AllReadyH.nil
    go_simp
    go_at_call 110
    refine (conC.out _ Hv0.out).mono ?_
    rintro e u2 ⟨g, cap, rfl, hoc, hbn⟩
    have hcap := own_capN hoc
    have hcap2 := own_capM hoc
    have hSn := show u2.cell? ⟨b1, 0, none⟩ = some (.slice A n c) ∧ u2.cell? ⟨b1, 1, none⟩ = some (.int .i64 (W : Int)) from ⟨keepc hbn hS.1, keepc hbn hS.2⟩
    have Hvn := Lib.hid (bstep Hv0.out hbn)
    have zn0 := keepc hbn z0
    have zn1 := keepc hbn z1
    have zg0 := (hbn.frozen (p := ⟨b3, 0, none⟩) (block_lt z0)).trans zf0
    have zg1 := (hbn.frozen (p := ⟨b3, 1, none⟩) (block_lt z1)).trans zf1
    have n3g : b3 ≠ g := by have h1 := (hoc.lt g rfl).1; have h2 : b3 < u1.heap.size := block_lt z0; omega
    have HOc := Lib.hid (own_base hoc hz0)
    have hzn : v1.heap.size ≤ u2.heap.size := Nat.le_trans hz0 hbn.size
    have hgl : g < u2.heap.size := (hoc.lt g rfl).2
    refine hK.out _ _ hSn (fun hHx => ?_)
    clear hK K hHx hS Hv0 hbn hoc hz0
    have hS := hSn
    have Hv0 := Hvn
    have hz0 := hzn
    clear hSn Hvn hzn
    clear z0 z1 zf0 zf1
    have z0 := zn0
    have z1 := zn1
    have zf0 := zg0
    have zf1 := zg1
    clear zn0 zn1 zg0 zg1
    try simp only [Act.put, List.setIfInBounds_toArray, List.set_cons_zero, List.set_cons_succ, List.getElem_toArray, List.getElem_cons_zero, List.getElem_cons_succ]
    refine reg_take 5 rfl (by kernel_rfl) (by kernel_rfl) (by kernel_rfl) (fun _ _ _ h => h) (by rfl) (fun w _ => by first | (go_simp; done) | (go_simp; with_reducible rfl)) hS ?_
    try simp only [Act.put, List.setIfInBounds_toArray, List.set_cons_zero, List.set_cons_succ, List.getElem_toArray, List.getElem_cons_zero, List.getElem_cons_succ]
    refine wpAnyH_ready (rs := [7]) (by kernel_rfl) (by simp) ?_
    refine AllReadyH.cons (i := 7) rfl (fun K hK => ?_) AllReadyH.nil
    go_simp
    refine hK.out _ _ ⟨farT n31 (farT n31 hS.1), farT n31 (farT n31 hS.2)⟩ (fun hHx => ?_)
    clear hK K hHx
    try simp only [Act.put, List.setIfInBounds_toArray, List.set_cons_zero, List.set_cons_succ, List.getElem_toArray, List.getElem_cons_zero, List.getElem_cons_succ]
    refine wpAnyH_done (by kernel_rfl) ?_ _
    obtain ⟨vT, hvT⟩ : ∃ vT, vT = ((u2.setCell ⟨b3, 0, none⟩ (.slice (some ⟨g, 0, none⟩) n cap)).setCell ⟨b3, 1, none⟩ (.int .i64 (W : Int))) := ⟨_, rfl⟩
    have hS2 : vT.cell? ⟨b1, 0, none⟩ = some (.slice A n c) ∧ vT.cell? ⟨b1, 1, none⟩ = some (.int .i64 (W : Int)) := by rw [hvT]; exact ⟨farT n31 (farT n31 hS.1), farT n31 (farT n31 hS.2)⟩
    have hq0 : vT.cell? ⟨b3, 0, none⟩ = some (.slice (some ⟨g, 0, none⟩) n cap) := by rw [hvT]; exact sameT (by omega) (World.cell?_setCell_same _ _ _ z0)
    have hq1 : vT.cell? ⟨b3, 1, none⟩ = some (.int .i64 (W : Int)) := by rw [hvT]; exact World.cell?_setCell_same _ _ _ (sameT (by omega) z1)
    have HO := Lib.hid (show vT.ownsRow v1.heap.size 3 1 (.slice (some ⟨g, 0, none⟩) n cap) n (cellsI F) from by rw [hvT]; exact own_apart_set (own_apart_set HOc.out n3g) n3g)
    have HvT := Lib.hid (show Below v1.heap.size v1 vT from by rw [hvT]; exact (Hv0.out.setCell h3v _).setCell h3v _)
    have hb35 : b3 < vT.heap.size := block_lt hq0
    rw [← hvT]
    clear hvT hS z0 z1 zf0 zf1 HOc Hv0
    have hS := hS2
    clear hS2
    have q0 := hq0
    have q1 := hq1
    have p0 := hS.1
    have p1 := hS.2
    clear hS hq0 hq1
    go_wp2_with (first | (go_at_call 122; refine (Hhei.out _ _ _).mono ?_; rintro e w5 ⟨rfl, hb5⟩; have q2 := keepc hb5 q0; have q3 := keepc hb5 q1; have HO5 := Lib.hid (own_keep HO.out hb5); have Hv5 := Lib.hid (bstep HvT.out hb5); have hz5 := hb5.size; clear hb5) | (refine wpList_make_full _ rfl _ _ _ rfl w5.heap.size 23 i0 _ 1 Try.underlying50 hi hz0' hz1 .i64 .i64 _ _ H rfl rfl rfl rfl (by rw [hz2]; omega) (by unfold maxLen; omega) (Nat.le_refl _) ?_; intro w6 hown6 hg6; have hb6 : Below w5.heap.size w5 w6 := below_of_grown hg6 (Nat.le_refl _) (by simp); have q4 := keepc hb6 q2; have q5 := keepc hb6 q3; have HO6 := Lib.hid (own_keep HO5.out hb6); have Hv6 := Lib.hid (bstep Hv5.out hb6)))
    have hown : w6.ownsRow w5.heap.size 23 1 (.slice (some ⟨w5.heap.size, 0, none⟩) H H) H (rowsV g W H 0) := by
      rw [rowsV_zero]
      have e2 : (madeCells (Value.slice none 0 0).cells (H * 1)).toList = List.replicate H (Value.slice none 0 0) := by
        rw [Nat.mul_one]
        exact toList_madeCells_one (.slice none 0 0) H
      rw [← e2]
      exact hown6
    have hgo : g < w5.heap.size := Nat.lt_of_lt_of_le (HO.out.lt g rfl).2 hz5
    have hb35w : b3 < w5.heap.size := Nat.lt_of_lt_of_le hb35 hz5
    clear hown6 hg6 q0 q1 p0 p1 q2 q3 HO5 HO Hv5
    go_loopw [17] (fun i wr => ∃ k : Nat, k ≤ H ∧ i = .int .i64 k ∧ wr.ownsRow w5.heap.size 23 1 (.slice (some ⟨w5.heap.size, 0, none⟩) H H) H (rowsV g W H k) ∧ Below w5.heap.size w6 wr) (fun i _ => H - (intOf i).toNat)
    case atStart => exact ⟨0, Nat.zero_le _, rfl, hown, Below.refl _ _⟩
    case round =>
      clear hown
      obtain ⟨k, hk, rfl, hown, hb⟩ := hrel
      have hz66 := hb6.size
      by_cases hlt : k < H
      · have t0 := (hb.cell (p := ⟨b3, 0, none⟩) hb35w).trans q4
        have t1 := (hb.cell (p := ⟨b3, 1, none⟩) hb35w).trans q5
        obtain ⟨z, hz⟩ : ∃ z, (rowsV g W H k)[k]? = some z := ⟨_, List.getElem?_eq_getElem (by rw [rowsV_len]; exact hlt)⟩
        have y1 := (hown.cellAt k (by omega)).trans hz
        have f1 := hown.frozenAt k
        have hsz := (hown.lt w5.heap.size rfl).2
        have Hst := Lib.hid (rowsV_step (g := g) (W := W) hlt)
        have conR := Lib.hid (fun W0 => Hrow.out g cap k hlt hcap hcap2 W0)
        have Ho := Lib.hid hown
        have Hb := Lib.hid hb
        have jk : (k : Int) < (H : Int) := by omega
        have jk0 : (0 : Int) ≤ (k : Int) := by omega
        generalize k * W = p at *
        clear hown hb hz
        go_wp2_with (go_at_call 123; refine (conR.out _).mono ?_; rintro e w7 ⟨rfl, hb7⟩; have d1 := keepc hb7 y1; have d2 := (hb7.frozen (p := ⟨w5.heap.size, k, none⟩) hsz).trans f1; have Ho7 := Lib.hid (own_keep Ho.out hb7); have Hb7 := Lib.hid (bstep' Hb.out hb7 hz66); clear hb7)
        go_roundw
        case rel =>
          refine ⟨k + 1, by omega, by go_num, ?_, Hb7.out.setCell (Nat.le_refl _) _⟩
          rw [← Hst.out]
          exact (Ho7.out.stored _ _).1
        case measure => simp [intOf]; omega
      · obtain rfl : k = H := by omega
        have hOg := own_below HO6.out hb (fun x hx => by cases hx; exact hgo)
        have hv1w := Hv6.out
        have hzv := Hv6.out.size
        go_wp2
        go_ret
        have hz51 : v1.heap.size ≤ w5.heap.size := by omega
        exact ⟨w5.heap.size, g, cap, rfl, own_base hown (Nat.le_trans Hb0.out.size hz51), own_base hOg Hb0.out.size, hgo, (bstep Hb0.out Hv6.out).trans (hb.mono (Nat.le_trans Hb0.out.size hz51))⟩

end Go.Proofs.Ytepedcdnaodhcaa

/- Magic blocks: the specification's search. -/
import Derived.Test.YtbanpgifhnbjoaaMgM
import Derived.Test.YtbanpgifhnbjoaaCat
namespace Go.Proofs.Ytbanpgifhnbjoaa
open Go Go.RowKit
set_option linter.unusedVariables false

/-- One more, if it is one. -/
def addM (n : Nat) (b : Bool) : Nat := if b then n + 1 else n
theorem addM_mgB (n R W : Nat) (xs : List Int) : addM n (mgqB R W xs) = n + (mgB R W xs [[]]).length := by
  unfold addM mgB magL
  cases h : mgqB R W xs <;> simp [h]
/-- The record of the search. -/
structure WmS (w : World) (mb R W n : Nat) : Prop where
  c0 : w.cell? ⟨mb, 0, none⟩ = some (.int .i64 R)
  c1 : w.cell? ⟨mb, 1, none⟩ = some (.int .i64 W)
  c2 : w.cell? ⟨mb, 2, none⟩ = some (.int .i64 n)
  c3 : ∃ A d c, w.cell? ⟨mb, 3, none⟩ = some (.slice A d c)
  fz : ∀ k, w.frozen? ⟨mb, k, none⟩ = false
section
variable {w w' : World} {mb R W n : Nat}
theorem WmS.lt (h : WmS w mb R W n) : mb < w.heap.size := block_lt h.c0
theorem WmS.blk (h : WmS w mb R W n) (hb : w'.heap[mb]? = w.heap[mb]?) : WmS w' mb R W n := by
  obtain ⟨A, d, c, h3⟩ := h.c3
  exact ⟨(World.cell?_of_block (a := ⟨mb, 0, none⟩) hb).trans h.c0, (World.cell?_of_block (a := ⟨mb, 1, none⟩) hb).trans h.c1, (World.cell?_of_block (a := ⟨mb, 2, none⟩) hb).trans h.c2, ⟨A, d, c, (World.cell?_of_block (a := ⟨mb, 3, none⟩) hb).trans h3⟩, fun m => (World.frozen?_of_block (a := ⟨mb, m, none⟩) hb).trans (h.fz m)⟩
theorem WmS.keep (h : WmS w mb R W n) (hb : Below w.heap.size w w') : WmS w' mb R W n := h.blk (hb.block mb h.lt)
theorem WmS.first (h : WmS w mb R W n) (A : Option Addr) (d c : Nat) : WmS (w.setCell ⟨mb, 3, none⟩ (.slice A d c)) mb R W n := by
  obtain ⟨A0, d0, k0, h3⟩ := h.c3
  have ct : ∀ m, m ≠ 3 → (w.setCell ⟨mb, 3, none⟩ (.slice A d c)).cell? ⟨mb, m, none⟩ = w.cell? ⟨mb, m, none⟩ := fun m hm => World.cell?_setCell_other _ _ _ _ (by simp <;> omega)
  exact ⟨(ct 0 (by omega)).trans h.c0, (ct 1 (by omega)).trans h.c1, (ct 2 (by omega)).trans h.c2, ⟨A, d, c, World.cell?_setCell_same _ _ _ h3⟩, fun m => by rw [World.frozen?_setCell]; exact h.fz m⟩
theorem WmS.up (h : WmS w mb R W n) : WmS (w.setCell ⟨mb, 2, none⟩ (.int .i64 ((n : Int) + 1))) mb R W (n + 1) := by
  have ct : ∀ m, m ≠ 2 → (w.setCell ⟨mb, 2, none⟩ (.int .i64 ((n : Int) + 1))).cell? ⟨mb, m, none⟩ = w.cell? ⟨mb, m, none⟩ := fun m hm => World.cell?_setCell_other _ _ _ _ (by simp <;> omega)
  obtain ⟨A0, d0, k0, h3⟩ := h.c3
  exact ⟨(ct 0 (by omega)).trans h.c0, (ct 1 (by omega)).trans h.c1, World.cell?_setCell_same _ _ _ h.c2, ⟨A0, d0, k0, (ct 3 (by omega)).trans h3⟩, fun m => by rw [World.frozen?_setCell]; exact h.fz m⟩
theorem WmS.drew (h : WmS w mb R W n) : WmS w.drew mb R W n := h.blk rfl
end

/-- One row appended, at a step of a region that draws its order. -/
theorem step_append_rowI {w : World} {ops : Array Oper} {o : Oper} {a : Act} {K : Act → World → Prop} {Q : Exit → Act → World → Prop} {E : Prop} (hgd : o.guard = none) (s x : Operand)
    (ho : o.op = .call { callee := .builtin .append, args := #[s, x], argTypes := #[30, 30] }) (lo hi : Nat) (v : Value) (tss : List (List Int)) (hs : a.eval s = v)
    (hown : OwnII w lo hi v tss) (lo2 : Nat) (A : Option Addr) (c : Nat) (ts : List Int) (hrow : w.ownsRow lo2 3 1 (.slice A ts.length c) ts.length (cellsI ts)) (hlo : lo ≤ lo2) (hhi : hi ≤ lo2)
    (g : Nat) (hx : a.eval x = .slice (some ⟨g, 0, none⟩) 1 1) (hc : w.cell? ⟨g, 0, none⟩ = some (.slice A ts.length c)) (hlen : tss.length ≤ 2097152) (hbase : lo ≤ w.heap.size)
    (h : ∀ A' c' w', OwnII w' lo w'.heap.size (.slice A' (tss ++ [ts]).length c') (tss ++ [ts]) → w.grownBy w' v.ownBlock → K (a.put o.dst (.slice A' (tss ++ [ts]).length c')) w') :
    if Region.wanted o (yielded ops a.tmps) = true then Oper.wp Try.prog o a w K Q else E := by
  have hw : Region.wanted o (yielded ops a.tmps) = true := by simp [Region.wanted, hgd]
  rw [if_pos hw]
  obtain ⟨i0, hi0, hz0, hz1, hz2⟩ := info_parts Try.info_rowI
  have hown' := hown
  obtain ⟨B, d, h1, _⟩ := hown'
  obtain ⟨v', w', hr, k2, k3, k4, k5⟩ := run_append_own_at (P := Try.prog) w lo 30 o.type 39 i0 (.slice none 0 0) 1 24 Try.underlying30 hi0 hz0 hz1 hz2 rfl (by decide) v tss.length _ h1 ⟨g, 0, none⟩ 1 1 [.slice A ts.length c] rfl (fun j u hj => by
    match j, hj with
    | 0, hj => simp at hj; subst hj; simpa [Addr.add] using hc) (fun u hu => by rw [List.mem_singleton.1 hu]; rfl) (by unfold maxLen; omega) (by omega) hbase
  unfold Oper.wp execOp
  simp only [ho, resolve, invoke, builtin, Sem.run_bind, Sem.run_pure, Result.andThen_ok, List.map_toArray, List.map_cons, List.map_nil, hs, hx, hr]
  obtain ⟨A', c', rfl⟩ : ∃ A' c', v' = .slice A' (tss ++ [ts]).length c' := by
    rcases k2.2 with ⟨hv, h0⟩ | ⟨g, cap, cur, rfl, _⟩
    · omega
    · exact ⟨_, cap, by rw [List.length_append]; rfl⟩
  refine h A' c' w' ?_ k3
  refine OwnRR.push hown hrow hlo hhi (fun xs hxs => ?_) k3 (by first | exact k5 | exact k4)
  have := own_unique h1 hxs
  rw [← this]; exact k2

set_option maxRecDepth 100000 in
set_option maxHeartbeats 4000000 in
theorem c_wmLeaf (mb R W n : Nat) (A : Option Addr) (c : Nat) (b off : Nat) (d : Nat) (xs : List Int) (w : World) (hs : WmS w mb R W n) (hr : ∀ j (h : j < xs.length), w.cell? ⟨b, off + j, none⟩ = some (.int .i64 xs[j])) (hx : xs.length = R * W) (hW : W = 2 ∨ W = 4) (h1 : 1 ≤ R) (h3 : R ≤ 3) (hbd : ∀ y ∈ xs, 0 ≤ y ∧ y ≤ 9) (hd : R * W ≤ d) (hd2 : d ≤ 9223372036854775807) (hn : n + 1 ≤ 2000000000000) :
    Calls Try.prog 45 #[.pointer (some ⟨mb, 0, none⟩), .slice A 0 c, .slice (some ⟨b, off, none⟩) (R * W) d] w fun e w' => e = .returned (.tuple #[]) ∧ WmS w' mb R W (addM n (mgqB R W xs)) ∧ Turn (fun k => k = mb) w w' := by
  have q0 := hs.c0
  have q1 := hs.c1
  have q2 := hs.c2
  have HS := Lib.hid hs
  have HX := Lib.hid hx
  have HB := Lib.hid hbd
  have HR := Lib.hid hr
  clear hs hr hbd
  have hRW : R * W ≤ 12 := by
    rcases hW with rfl | rfl <;> omega
  have hW0 : 0 < W := by omega
  go_enter Try.func45, Try.ntmps45
  go_wp2_with fail
  go_loopw [6, 7] (fun v i wr => ∃ (k : Nat) (A3 : Option Addr) (c3 : Nat), k ≤ R ∧ i = .int .i64 k ∧ v = .slice A3 (rwsL W k xs).length c3 ∧ OwnII wr w.heap.size wr.heap.size (.slice A3 (rwsL W k xs).length c3) (rwsL W k xs) ∧ Below w.heap.size w wr) (fun _ i _ => R - (intOf i).toNat)
  case atStart => exact ⟨0, none, 0, Nat.zero_le _, rfl, rfl, OwnRR.nil _ _ _, Below.refl _ _⟩
  case round =>
    obtain ⟨k, A3, c3, hk, rfl, rfl, ho, hb⟩ := hrel
    have g0 := keepc hb q0
    have g1 := keepc hb q1
    by_cases hlt : k < R
    · obtain ⟨p, hp⟩ : ∃ p, p = k * W := ⟨_, rfl⟩
      have hq : p + W ≤ R * W := by
        have : (k + 1) * W ≤ R * W := Nat.mul_le_mul_right _ hlt
        rw [Nat.succ_mul] at this
        omega
      obtain ⟨q, hqe⟩ : ∃ q, q = p + W := ⟨_, rfl⟩
      have hqp : W = q - p := by omega
      have iw1 : IntKind.i64.wrap ((k : Int) * (W : Int)) = (p : Int) := by
        rw [show (k : Int) * (W : Int) = (p : Int) by rw [hp, Int.natCast_mul]]
        exact IntWalk.i64_in _ (by omega)
      have iwk : IntKind.i64.wrap ((k : Int) + 1) = (k : Int) + 1 := IntWalk.i64_in _ (by omega)
      have iw2 : IntKind.i64.wrap (((k : Int) + 1) * (W : Int)) = (q : Int) := by
        rw [show ((k : Int) + 1) * (W : Int) = (q : Int) by rw [hqe, hp]; simp [Int.add_mul]]
        exact IntWalk.i64_in _ (by omega)
      have i0 : (0 : Int) ≤ (p : Int) := by omega
      have i1 : (p : Int) ≤ (q : Int) := by omega
      have i2 : (q : Int) ≤ (d : Int) := by omega
      have i3 : (0 : Int) ≤ (q : Int) := by omega
      have i4 : (p : Int) < (d : Int) := by omega
      have i5 : (p : Int) ≤ (d : Int) := by omega
      have i6 : ((R * W : Nat) : Int) ≤ (d : Int) := by omega
      have i7 : p ≤ q := by omega
      have i8 : q ≤ d := by omega
      have i9 : p ≤ d := by omega
      have n1 : ¬ d = p := by omega
      have Ho : Hid (OwnII wr w.heap.size wr.heap.size (.slice A3 k c3) (rwsL W k xs)) := Lib.hid (by have h7 := ho; rw [rwsL_len] at h7; exact h7)
      have hz1 := hb.size
      have Hb := Lib.hid hb
      have HP := Lib.hid hp
      have Hst := Lib.hid (rwsL_succ W k xs)
      have hlen := rwsL_len W k xs
      clear ho hb hp
      generalize rwsL W k xs = T at *
      have hrl := rwsL_row HX.out hlt
      have hro : RdI w (some ⟨b, off + p, none⟩) ((xs.drop (k * W)).take W) := ⟨b, off + p, fun _ => rfl, fun j hj => by
        rw [List.getElem_take, List.getElem_drop, Nat.add_assoc, HP.out]
        exact HR.out _ _⟩
      have conO := Lib.hid (fun (V : World) (hV : Below wr.heap.size wr V) => (show Calls Try.prog 65 #[.slice (some ⟨b, off + p, none⟩) (q - p) (d - p)] V (RetN V ((xs.drop (k * W)).take W)) by
        have := c_l1Own (some ⟨b, off + p, none⟩) (d - p) ((xs.drop (k * W)).take W) V (hro.below (bstep Hb.out hV)) (by omega)
        rwa [show ((xs.drop (k * W)).take W).length = q - p from hrl.trans hqp] at this))
      generalize (xs.drop (k * W)).take W = row at *
      have HRL := Lib.hid hrl
      clear hrl
      have HQ := Lib.hid hqe
      have HQP := Lib.hid hqp
      have HQ2 := Lib.hid hq
      clear hro hqe hqp hq
      go_wp2_with fail
      go_region_held3 (fun w' => w'.cell? ⟨mb, 1, none⟩ = some (.int .i64 W)) (first | exact z1 | exact y1 | go_keep) (first | (go_at_call 65; refine (conO.out _ (Below.refl _ wr).drew).mono ?_; rintro e w4 ⟨A4, c4, rfl, ho4, hb4⟩; have y1 := keepc hb4 g1; have hz4 : wr.heap.size ≤ w4.heap.size := hb4.size; have hbr : Below wr.heap.size wr w4 := bstep (Below.refl _ wr).drew hb4; have hba : Below w4.heap.size w4 (w4.alloc (.cells #[.slice A4 row.length c4] 39)) := (Below.refl _ w4).alloc (Nat.le_refl _) _; have HTh := Lib.hid ((Ho.out.below hbr (Nat.le_refl _)).below hba hz4); have Hrow := Lib.hid (ho4.alloc (.cells #[.slice A4 row.length c4] 39)); have Hb4 := Lib.hid (bstep (bstep Hb.out hbr) hba); have a1 := keepc hba y1) | (refine step_append_rowI rfl (.tmp 22) (.tmp 39) rfl w.heap.size wr.heap.size _ T rfl HTh.out wr.heap.size A4 c4 row Hrow.out hz1 (Nat.le_refl _) w4.heap.size rfl (by simp) (by omega) (by simp; omega) ?_; intro A5 c5 w5 hT5 hg5; have HT5 := Lib.hid hT5; have b5 := Below.grown Hb4.out hg5 (by simp; omega) (fun g hg => (HTh.out.lt g hg).1); have Hb5 := Lib.hid b5; have z1 := keepc b5 q1; clear hT5 hg5 b5))
      go_wp2
      go_roundw
      case rel => exact ⟨k + 1, A5, c5, by omega, by go_num, by rw [rwsL_len], by rw [Hst.out]; exact HT5.out, Hb5.out⟩
      case measure => simp [intOf]; omega
    · obtain rfl : k = R := by omega
      have hIS : RdII wr A3 (rwsL W k xs) := rdII_of ho
      have hsh := rwsL_shape (W := W) (R := k) HX.out h1 h3 hW
      have hmag := rwsL_mag HX.out h1
      have lenT := rwsL_len W k xs
      have conR := c_wiRows A3 c3 (rwsL W k xs) wr hIS hsh (rwsL_bd HB.out)
      have conC := fun (V : World) (hV : Below wr.heap.size wr V) => c_wiColumns A3 c3 (rwsL W k xs) V (hIS.below hV) hsh (rwsL_bd HB.out)
      have hw : widB (rwsL W k xs) ≤ 4 := by rw [rwsL_wid HX.out h1]; omega
      have hl1 := sumsL_len (matF (rwsL W k xs)) (rwsL W k xs).length (widB (rwsL W k xs))
      have hl2 := sumsL_len (fun c i => matF (rwsL W k xs) i c) (widB (rwsL W k xs)) (rwsL W k xs).length
      generalize sumsL (matF (rwsL W k xs)) (rwsL W k xs).length (widB (rwsL W k xs)) = L1 at *
      generalize sumsL (fun c i => matF (rwsL W k xs) i c) (widB (rwsL W k xs)) (rwsL W k xs).length = L2 at *
      have Hl1 := Lib.hid (show L1.length ≤ 1048576 by omega)
      have Hl2 := Lib.hid (show L2.length ≤ 1048576 by omega)
      have ConR := Lib.hid conR
      have ConC := Lib.hid conC
      have HM := Lib.hid hmag
      have Hb := Lib.hid hb
      clear hIS hsh hmag lenT conR conC hw hl1 hl2 ho hb
      have hwle := Hb.out.size
      cases e1 : sameL L1
      · have hm : mgqB k W xs = false := by rw [← HM.out, e1]; rfl
        have HE := Lib.hid e1
        have HMM := Lib.hid hm
        clear e1 hm
        go_wp2_with (first | (go_at_call 67; refine ConR.out.mono ?_; rintro e w2 ⟨A2, c2, rfl, o2, h2⟩) | (go_at_call 66; refine (c_wiEqual A2 c2 L1 w2 (RdI.of_own o2) Hl1.out).mono ?_; rw [HE.out]; rintro e w3 ⟨rfl, h3⟩))
        first | go_end0 | (refine bodyPost_ret (results_none rfl _ _ _) rfl ?_)
        have bb : Below w.heap.size w w3 := bstep (bstep Hb.out h2) h3
        exact ⟨rfl, by rw [HMM.out]; exact HS.out.keep bb, Turn.of_below bb⟩
      · cases e2 : sameL L2
        · have hm : mgqB k W xs = false := by rw [← HM.out, e1, e2]; rfl
          have HE := Lib.hid e1
          have HE2 := Lib.hid e2
          have HMM := Lib.hid hm
          clear e1 e2 hm
          go_wp2_with (first | (go_at_call 67; refine ConR.out.mono ?_; rintro e w2 ⟨A2, c2, rfl, o2, h2⟩) | (go_at_call 68; refine (ConC.out _ (bstep h2 h3)).mono ?_; rintro e w4 ⟨A4, c4, rfl, o4, h4⟩) | (go_at_call 66; refine (c_wiEqual A4 c4 L2 w4 (RdI.of_own o4) Hl2.out).mono ?_; rw [HE2.out]; rintro e w5 ⟨rfl, h5⟩) | (go_at_call 66; refine (c_wiEqual A2 c2 L1 w2 (RdI.of_own o2) Hl1.out).mono ?_; rw [HE.out]; rintro e w3 ⟨rfl, h3⟩))
          first | go_end0 | (refine bodyPost_ret (results_none rfl _ _ _) rfl ?_)
          have bb : Below w.heap.size w w5 := bstep (bstep (bstep (bstep Hb.out h2) h3) h4) h5
          exact ⟨rfl, by rw [HMM.out]; exact HS.out.keep bb, Turn.of_below bb⟩
        · have hm : mgqB k W xs = true := by rw [← HM.out, e1, e2]; rfl
          have HE := Lib.hid e1
          have HE2 := Lib.hid e2
          have HMM := Lib.hid hm
          clear e1 e2 hm
          have jw : IntKind.i64.wrap ((n : Int) + 1) = (n : Int) + 1 := IntWalk.i64_in _ (by omega)
          by_cases hn0 : n = 0
          · have j0 : ((n : Int) == 0) = true := by simp [hn0]
            clear hn0
            go_wp2_with (first | (go_at_call 67; refine ConR.out.mono ?_; rintro e w2 ⟨A2, c2, rfl, o2, h2⟩) | (go_at_call 68; refine (ConC.out _ (bstep h2 h3)).mono ?_; rintro e w4 ⟨A4, c4, rfl, o4, h4⟩) | (go_at_call 66; refine (c_wiEqual A4 c4 L2 w4 (RdI.of_own o4) Hl2.out).mono ?_; rw [HE2.out]; rintro e w5 ⟨rfl, h5⟩; have bb : Below w.heap.size w w5 := bstep (bstep (bstep (bstep Hb.out h2) h3) h4) h5; have S5 := Lib.hid (HS.out.keep bb); have p2 := S5.out.c2; obtain ⟨A7, d7, k7, p3⟩ := S5.out.c3; have f2 := S5.out.fz 2; have f3 := S5.out.fz 3; have BB := Lib.hid bb; clear bb) | (go_at_call 66; refine (c_wiEqual A2 c2 L1 w2 (RdI.of_own o2) Hl1.out).mono ?_; rw [HE.out]; rintro e w3 ⟨rfl, h3⟩))
            first | go_end0 | (refine bodyPost_ret (results_none rfl _ _ _) rfl ?_)
            have tt := ((Turn.of_below BB.out : Turn (fun k => k = mb) w w5).trans (Turn.setCell (T := fun k => k = mb) ⟨mb, 3, none⟩ (.slice A3 (rwsL W k xs).length c3) rfl) (fun k _ h => h)).trans (Turn.setCell (T := fun k => k = mb) ⟨mb, 2, none⟩ (.int .i64 ((n : Int) + 1)) rfl) (fun k _ h => h)
            exact ⟨rfl, by rw [HMM.out]; exact (S5.out.first _ _ _).up, tt⟩
          · have j0 : ((n : Int) == 0) = false := by simp; omega
            clear hn0
            go_wp2_with (first | (go_at_call 67; refine ConR.out.mono ?_; rintro e w2 ⟨A2, c2, rfl, o2, h2⟩) | (go_at_call 68; refine (ConC.out _ (bstep h2 h3)).mono ?_; rintro e w4 ⟨A4, c4, rfl, o4, h4⟩) | (go_at_call 66; refine (c_wiEqual A4 c4 L2 w4 (RdI.of_own o4) Hl2.out).mono ?_; rw [HE2.out]; rintro e w5 ⟨rfl, h5⟩; have bb : Below w.heap.size w w5 := bstep (bstep (bstep (bstep Hb.out h2) h3) h4) h5; have S5 := Lib.hid (HS.out.keep bb); have p2 := S5.out.c2; obtain ⟨A7, d7, k7, p3⟩ := S5.out.c3; have f2 := S5.out.fz 2; have f3 := S5.out.fz 3; have BB := Lib.hid bb; clear bb) | (go_at_call 66; refine (c_wiEqual A2 c2 L1 w2 (RdI.of_own o2) Hl1.out).mono ?_; rw [HE.out]; rintro e w3 ⟨rfl, h3⟩))
            first | go_end0 | (refine bodyPost_ret (results_none rfl _ _ _) rfl ?_)
            have tt := (Turn.of_below BB.out : Turn (fun k => k = mb) w w5).trans (Turn.setCell (T := fun k => k = mb) ⟨mb, 2, none⟩ (.int .i64 ((n : Int) + 1)) rfl) (fun k _ h => h)
            exact ⟨rfl, by rw [HMM.out]; exact S5.out.up, tt⟩

end Go.Proofs.Ytbanpgifhnbjoaa

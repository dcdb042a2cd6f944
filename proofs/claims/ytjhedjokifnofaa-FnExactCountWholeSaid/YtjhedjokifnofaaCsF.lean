/- The search for chains: what it hands out, one chain after the other. -/
import Derived.Test.YtjhedjokifnofaaCsO
import Derived.Test.YtjhedjokifnofaaIterB
import Derived.Test.YtjhedjokifnofaaApp
import Derived.LoopIn
import Derived.TacticsIn
import Derived.Maps.OwnIn
import Derived.Scope
namespace Go.Proofs.Ytjhedjokifnofaa
open Go Go.RowKit
set_option linter.unusedVariables false

/-- A chain as it is handed out: a slice of the search's own row. -/
def EncC (x : List Int) (v : Array Value) (T : Nat → Prop) (A : World) : Prop := ∃ Ax cx, v = #[.slice Ax x.length cx] ∧ RdI A Ax x ∧ (x ≠ [] → ∀ a, Ax = some a → T a.block)

theorem wpList_build_to {P : Program} {ops : Array Oper} {rest : List Oper} {o : Oper} {a : Act} {w : World} {Q : Exit → Act → World → Prop} (hg : o.guard = none) (t : TypeId) (parts : Array (Nat × Operand)) (ho : o.op = .build t parts) (cells : Array Value)
    (hb : P.built t (parts.map fun (i, x) => (i, a.eval x)).toList = some cells) (h : wpList P ops Q rest (a.put o.dst (.agg cells)) w) : wpList P ops Q (o :: rest) a w :=
  wpList_plain hg fun _ hK => by
    unfold Oper.wp execOp
    simp only [ho, Sem.run_bind, run_build w t _ cells hb, Result.andThen_ok]
    exact hK _ _ h
theorem there_new (w : World) (cs : Array Value) (t : TypeId) (n : Nat) (hn : cs.size = n) : (w.alloc (.cells cs t)).there w.heap.size 0 n := by
  intro j hj
  rw [Nat.zero_add, cell_of_row _ _ _ _ _ _ (heap_alloc_new w _)]
  exact ⟨by rw [Array.getElem?_eq_getElem (by omega)]; rfl, frozen_new w cs t j⟩
theorem wpIn_scope_wide {n : Nat} {P : Program} {c : Code} {Q : Exit → Act → World → Prop} {a : Act} {w : World} (h : c.wpIn Fence.wide n P (Exit.noGoto Q) a w) : (Code.scope c).wpIn Fence.wide n P Q a w :=
  wpIn_wide.2 (wp_scope_straight ((wpIn_wide (n := n)).1 h))

/-- The chain as it stands in memory. -/
def chainOf (g : Nat) (w : World) : List Int :=
  match w.cell? ⟨g, 0, none⟩ with
  | some (.slice (some a) n _) => (List.range n).map fun j => intOf ((w.cell? ⟨a.block, a.off + j, none⟩).getD undef)
  | _ => []
theorem chainOf_at {H : List (Int × Int)} {lo g : Nat} {c : List Int} {w : World} (h : CsAt H lo g c w) : chainOf g w = c := by
  obtain ⟨A, cap, x0, ho, hne⟩ := h.ch
  unfold chainOf
  rw [x0]
  cases A with
  | none =>
    obtain ⟨_, ⟨hv, hn⟩ | ⟨g', cap', cur, hv, _⟩⟩ := ho
    · exact (List.eq_nil_of_length_eq_zero hn).symm
    · injection hv with e1; cases e1
  | some a =>
    have hr := RdI.of_own ho
    show (List.range c.length).map _ = c
    apply List.ext_getElem
    · simp
    · intro j h1 h2
      obtain ⟨bk, off, hA, hbk, hc⟩ := hr.at_ h2
      cases hA
      simp only [List.getElem_map, List.getElem_range]
      rw [hc j h2]
      rfl

theorem own_bounds {H : List (Int × Int)} {lo g n₀ : Nat} {c : List Int} {w : World} (h : CsAt H lo g c w) (h1 : n₀ ≤ lo) (h2 : n₀ ≤ g) : ∀ k, OwnK g w k → n₀ ≤ k ∧ k < w.heap.size := by
  obtain ⟨A, cap, x0, ho, hne⟩ := h.ch
  rintro k (rfl | ⟨v, hv, hb⟩)
  · exact ⟨h2, h.lt⟩
  · rw [x0] at hv
    cases hv
    have := ho.lt k hb
    omega
theorem enc_of {H : List (Int × Int)} {lo g : Nat} {c : List Int} {w : World} (h : CsAt H lo g c w) : ∃ A cap, w.cell? ⟨g, 0, none⟩ = some (.slice A c.length cap) ∧ EncC c #[.slice A c.length cap] (OwnK g w) w := by
  obtain ⟨A, cap, x0, ho, hne⟩ := h.ch
  refine ⟨A, cap, x0, A, cap, rfl, RdI.of_own ho, fun hc a ha => ?_⟩
  subst ha
  obtain ⟨_, ⟨hv, hn⟩ | ⟨g', cap', cur, hv, _⟩⟩ := id ho
  · injection hv with e1; cases e1
  · injection hv with e1
    cases e1
    exact .inr ⟨_, x0, rfl⟩
theorem CsAt.of_blocks {H : List (Int × Int)} {lo g : Nat} {c : List Int} {w w' : World} (h : CsAt H lo g c w) (hb : ∀ k, OwnK g w k → w'.heap[k]? = w.heap[k]?) : CsAt H lo g c w' ∧ ∀ k, OwnK g w' k → OwnK g w k := by
  obtain ⟨A, cap, x0, ho, hne⟩ := h.ch
  have hg := hb g (.inl rfl)
  have x1 : w'.cell? ⟨g, 0, none⟩ = some (.slice A c.length cap) := (World.cell?_of_block (a := ⟨g, 0, none⟩) hg).trans x0
  refine ⟨⟨⟨A, cap, x1, own_blockG ho (fun k hk => hb k (.inr ⟨_, x0, hk⟩)), hne⟩, h.mks.of_block hg⟩, ?_⟩
  rintro k (rfl | ⟨v, hv, hk⟩)
  · exact .inl rfl
  · rw [x1] at hv
    cases hv
    exact .inr ⟨_, x0, hk⟩
theorem own_keep_sub {H : List (Int × Int)} {lo g : Nat} {c : List Int} {w w' : World} (h : CsAt H lo g c w) (hb : Below w.heap.size w w') : ∀ k, OwnK g w' k → OwnK g w k :=
  (h.of_blocks (w' := w') (fun k hk => hb.block k (own_bounds (n₀ := 0) h (Nat.zero_le _) (Nat.zero_le _) k hk).2)).2

set_option maxRecDepth 100000 in
theorem built_cs (f : Nat → Nat → Bool) : Try.prog.built 76 [(1, .agg (mkL f).toArray)] = some ((Value.slice none 0 0 :: mkL f).toArray) := by kernel_rfl
theorem Try.info_cs : (Try.prog.info? 76).map (·.size) = some 101 := by kernel_rfl
theorem zero_cs : Try.zeroCells76.size = 101 := by kernel_rfl

set_option maxRecDepth 100000 in
set_option maxHeartbeats 8000000 in
theorem iters_chains (w0 : World) (n₀ B : Nat) (T0 : Nat → Prop) (hT0 : ∀ k, T0 k → n₀ ≤ k ∧ k < w0.heap.size) (A : Option Addr) (c : Nat) (H : List (Int × Int)) (hB : w0.cell? ⟨B, 0, none⟩ = some (.slice A H.length c)) (hn : n₀ ≤ w0.heap.size) (hr : RdT w0 A H) (hh : handB H = true) :
    Iters Try.prog n₀ T0 56 #[.pointer (some ⟨B, 0, none⟩)] EncC (allC H) w0 := by
  intro m l J Jx W hW hJ hJx hY h0
  have hBW := (hW.cell (p := ⟨B, 0, none⟩) (block_lt hB)).trans hB
  have hrW := hr.below hW
  have hnW : n₀ ≤ W.heap.size := Nat.le_trans hn hW.size
  have hT1 : ∀ k, T0 k → n₀ ≤ k ∧ k < W.heap.size := fun k h => ⟨(hT0 k h).1, Nat.lt_of_lt_of_le (hT0 k h).2 hW.size⟩
  clear hW hr hB hn hT0
  refine callsIn_of_wp Try.func56 rfl trivial ?_
  simp only [Try.ntmps56, List.size_toArray, List.length_cons, List.length_nil, Nat.reduceAdd, Nat.reduceSub, Array.replicate_succ, Array.replicate_zero, List.push_toArray, List.append_toArray, List.nil_append, List.cons_append]
  have con := fun W2 (hb : Below W.heap.size W W2) => c_marksOf A c H W2 (hrW.below hb) hh
  obtain ⟨F, hF⟩ : ∃ F : Nat → Nat → Bool, F = fun (a b : Nat) => decide (tile2 (a : Int) (b : Int) ∈ H) := ⟨_, rfl⟩
  rw [← hF] at con
  have Con := Lib.hid con
  have HF := Lib.hid hF
  clear con hF
  have hsz : ((Value.slice none 0 0 :: mkL F).toArray).size = 101 := by simp [mkL_len]
  have I2 := Lib.hid (show (Try.prog.info? 76).map (·.size) = some ((Value.slice none 0 0 :: mkL F).toArray).size by rw [hsz]; exact Try.info_cs)
  have T2 := Lib.hid (fun (V : World) => (show (V.alloc (.cells Try.zeroCells76 76)).there V.heap.size 0 ((Value.slice none 0 0 :: mkL F).toArray).size by rw [hsz]; exact there_new V _ _ _ zero_cs))
  have O2 := Lib.hid (show ((Value.slice none 0 0 :: mkL F).toArray).all (·.oneCell') = true from all_oneCell_toArray (fun v hv => by
    rcases List.mem_cons.1 hv with rfl | hv
    · rfl
    · exact mkL_one _ v hv))
  have HB : Hid (∀ x : List (Nat × Value), x = [(1, .agg (mkL F).toArray)] → Try.prog.built 76 x = some ((Value.slice none 0 0 :: mkL F).toArray)) := Lib.hid (by rintro _ rfl; exact built_cs F)
  clear hsz
  gi_step
  refine wpIn_scope_wide ?_
  gi_step
  refine (wpIn_wide (n := m)).2 ?_
  go_wp2_with fail
  refine (Con.out _ (Below.refl _ _)).mono ?_
  rintro e w1 ⟨rfl, hb1⟩
  simp only []
  go_at_K
  go_step
  refine wpList_build_to rfl 76 _ rfl ((Value.slice none 0 0 :: mkL F).toArray) (HB.out _ (by simp [Act.eval])) ?_
  obtain ⟨cs, hcs⟩ : ∃ cs, cs = (Value.slice none 0 0 :: mkL F).toArray := ⟨_, rfl⟩
  rw [← hcs] at T2 I2 O2 ⊢
  have HCS := Lib.hid hcs
  clear hcs HB
  go_wp2_with (refine wpList_store_mid rfl 76 _ _ rfl w1.heap.size 0 cs rfl rfl (T2.out w1) I2.out O2.out ?_)
  obtain ⟨w2, hw2⟩ : ∃ w2, w2 = (w1.alloc (.cells Try.zeroCells76 76)).setCells w1.heap.size 0 cs.toList := ⟨_, rfl⟩
  rw [← hw2]
  obtain ⟨g, hg⟩ : ∃ g, g = w1.heap.size := ⟨_, rfl⟩
  rw [← hg]
  have hlist : cs.toList = Value.slice none 0 0 :: mkL F := by rw [HCS.out]
  have hlen : cs.toList.length = 101 := by rw [hlist]; simp [mkL_len]
  have hrg : w2.rangeAt g 0 cs.toList := by rw [hw2, hg]; exact World.rangeAt_setCells_same _ _ _ _ (there_new w1 _ _ _ (by rw [hlen]; exact zero_cs))
  have hb2 : Below W.heap.size W w2 := by rw [hw2]; exact below_setC hb1.size _ _ _ (hb1.alloc hb1.size _)
  have hgW : W.heap.size ≤ g := by rw [hg]; exact hb1.size
  have cs2 : CsAt H g g [] w2 := by
    refine ⟨⟨none, 0, ?_, World.ownsRow_nil _ _ _ _, fun b hb => by simp [Value.ownBlock] at hb⟩, ⟨fun a b ha hb => ?_, fun k => ?_⟩⟩
    · have := hrg 0 (Value.slice none 0 0) (by rw [hlist]; rfl)
      exact this
    · have h1 := hrg (1 + (a * 10 + b)) (.bool (F a b)) (by
        rw [hlist, Nat.add_comm 1, List.getElem?_cons_succ, mkL_get F (by omega)]
        rw [show (a * 10 + b) / 10 = a from by omega, show (a * 10 + b) % 10 = b from by omega])
      rw [Nat.zero_add] at h1
      rw [h1]
      unfold fM
      rw [HF.out]
      simp [tilesC, tilesTo]
    · rw [hw2, World.frozen?_setCells, hg]
      exact frozen_new w1 _ _ k
  have own2 : ∀ k, OwnK g w2 k → k = g := by
    rintro k (rfl | ⟨v, hv, hb⟩)
    · rfl
    · have := hrg 0 (Value.slice none 0 0) (by rw [hlist]; rfl)
      rw [Nat.add_zero, hv] at this
      cases this
      simp [Value.ownBlock] at hb
  have j2 := hJ T0 (OwnK g w2) [] W w2 h0 hT1 hnW (Turn.of_below hb2) (fun k hk => .inr (by rw [own2 k hk]; exact hgW))
  have hb2n : Below n₀ W w2 := hb2.mono hnW
  clear hw2 hlist hlen hrg own2 hb1 hg T2 I2 O2 HCS HF Con h0 hT1
  gi_wp2
  refine wpIn_label ?_
  gi_wp2
  have hl55 : H.length ≤ 55 := (of_decide_eq_true hh : handP H).1
  have hng : n₀ ≤ g := by omega
  clear hb2 hgW hrW hBW hh
  gi_loopw [4] (fun i wr => ∃ (c : List Int) (least : Nat) (pre : List (List Int)), i = .int .i64 least ∧ least ≤ 10 ∧ OkC H c ∧ CsAt H g g c wr ∧ pre ++ remC H c least = allC H ∧ J (OwnK g wr) pre wr ∧ Below n₀ W wr) (fun i wr => 2 * (remC H (chainOf g wr) (intOf i).toNat).length + (chainOf g wr).length)
  case atStart => exact ⟨[], 0, [], rfl, by omega, OkC.nil H, cs2, rfl, j2, hb2n⟩
  case round =>
    clear cs2 j2 hb2n
    obtain ⟨c, least, pre, rfl, hle, hok, hcs, hrem, hj, hbn⟩ := hrel
    have hc0 := chainOf_at hcs
    have hcl := hok.len
    have HMeas : Hid (∀ (c2 : List Int) (l2 : Nat) (w' : World), CsAt H g g c2 w' → 2 * (remC H c2 l2).length + c2.length < 2 * (remC H c least).length + c.length → 2 * (remC H (chainOf g w') l2).length + (chainOf g w').length < 2 * (remC H (chainOf g wr) least).length + (chainOf g wr).length) := Lib.hid fun c2 l2 w' h1 h2 => by rw [chainOf_at h1, hc0]; exact h2
    clear hc0
    rename World => wo
    gi_wp2
    gi_loopw [5] (fun i wi => ∃ number : Nat, i = .int .i64 number ∧ number ≤ 10 ∧ remC H c number = remC H c least ∧ CsAt H g g c wi ∧ J (OwnK g wi) pre wi ∧ Below wo.heap.size wo wi) (fun i _ => 10 - (intOf i).toNat)
    case atStart => exact ⟨least, rfl, hle, rfl, hcs, hj, Below.refl _ _⟩
    case round =>
      clear hcs hj
      obtain ⟨number, rfl, hnum, hrn, hcs, hj, hbw⟩ := hrel
      have hgw := hcs.lt
      have hbounds := own_bounds hcs hng hng
      have hnw : n₀ ≤ wr.heap.size := by omega
      have hl56 : c.length ≤ 56 := by omega
      have HOK := Lib.hid hok
      have HREM := Lib.hid hrem
      have HRN := Lib.hid hrn
      have HJ0 := Lib.hid hJ
      have HJX := Lib.hid hJx
      have HY := Lib.hid hY
      have HBN := Lib.hid (hbn.trans (hbw.mono (by have := hbn.size; omega)))
      have HBW := Lib.hid hbw
      by_cases hlt : number ≤ 9
      · have l1 : (number : Int) ≤ 9 := by omega
        cases hfit : fitC H c (number : Int)
        · have con := c_csFits H g g c number wr hcs hok hl56 hlt
          rw [hfit] at con
          have Con := Lib.hid con
          have HC := Lib.hid hcs
          have HJ := Lib.hid hj
          have HB := Lib.hid hbounds
          have HF := Lib.hid hfit
          clear con hcs hj hbounds hfit hok hrem hrn hJ hJx hY hbn hbw
          gi_wp2_with fail
          refine ⟨trivial, fun h => by simp [Fence.wide] at h, callsIn_wide.2 (Con.out.mono ?_)⟩
          rintro e w3 ⟨rfl, h3⟩
          have C3 := Lib.hid (HC.out.keep h3)
          have J3 := Lib.hid (HJ0.out (OwnK g wr) (OwnK g w3) pre wr w3 HJ.out HB.out hnw (Turn.of_below h3) (fun k hk => .inl (own_keep_sub HC.out h3 k hk)))
          have B3 := Lib.hid (bstep HBW.out h3)
          clear h3
          gi_wp2
          go_roundw
          case rel => exact ⟨number + 1, by go_num, by omega, by rw [← HRN.out, remC_skip hlt HF.out], C3.out, J3.out, B3.out⟩
          case measure => simp [intOf]; omega
        · have con := c_csFits H g g c number wr hcs hok hl56 hlt
          rw [hfit] at con
          have Con := Lib.hid con
          have hok2 := hok.snoc (x := (number : Int)) (by unfold numB; simp; omega) hfit
          have ConL := Lib.hid (fun w3 (h : CsAt H g g c w3) => c_csLay H g g c number w3 h hok hl56 hlt (by have := h.lt; omega))
          have hlay := remC_lay (H := H) (c := c) hlt hok hfit
          rw [hrn] at hlay
          have hp : (pre ++ [c ++ [(number : Int)]]) <+: allC H := ⟨remC H (c ++ [(number : Int)]) 0, by rw [List.append_assoc, List.singleton_append, ← hlay]; exact hrem⟩
          have hrem2 : (pre ++ [c ++ [(number : Int)]]) ++ remC H (c ++ [(number : Int)]) 0 = allC H := by rw [List.append_assoc, List.singleton_append, ← hlay]; exact hrem
          have hms : 2 * (remC H (c ++ [(number : Int)]) 0).length + (c ++ [(number : Int)]).length < 2 * (remC H c least).length + c.length := by
            rw [hlay]; simp; omega
          have HC := Lib.hid hcs
          have HJ := Lib.hid hj
          have HB := Lib.hid hbounds
          have HP := Lib.hid hp
          have HR2 := Lib.hid hrem2
          have HMS := Lib.hid hms
          have HO2 := Lib.hid hok2
          clear con hcs hj hbounds hfit hok hrem hrn hJ hJx hY hbn hbw hlay hp hrem2 hms hok2
          gi_wp2_with fail
          refine ⟨trivial, fun h => by simp [Fence.wide] at h, callsIn_wide.2 (Con.out.mono ?_)⟩
          rintro e w3 ⟨rfl, h3⟩
          have C3 := Lib.hid (HC.out.keep h3)
          have J3 := Lib.hid (HJ0.out (OwnK g wr) (OwnK g w3) pre wr w3 HJ.out HB.out hnw (Turn.of_below h3) (fun k hk => .inl (own_keep_sub HC.out h3 k hk)))
          have B3 := Lib.hid (HBN.out.trans (h3.mono hnw))
          have z3 := h3.size
          clear h3
          gi_wp2_with fail
          refine ⟨trivial, fun h => by simp [Fence.wide] at h, callsIn_wide.2 ((ConL.out w3 C3.out).mono ?_)⟩
          rintro e w4 ⟨rfl, c4, t4, o4⟩
          have b4 := own_bounds c4 hng hng
          have z4 := t4.size
          have b3 := own_bounds C3.out hng hng
          have j4 := HJ0.out (OwnK g w3) (OwnK g w4) pre w3 w4 J3.out b3 (by omega) t4 o4
          have B4 := Lib.hid (B3.out.trans (t4.below (by omega) (fun k hk => (b3 k hk).1)))
          obtain ⟨A4, cap4, x4, enc4⟩ := enc_of c4
          have n4 : g < w4.heap.size := block_lt x4
          obtain ⟨fn, tmps, assign, body, hy, hR⟩ := HY.out (OwnK g w4) pre (c ++ [(number : Int)]) _ w4 (m - 1) j4 HP.out b4 (by omega) enc4
          have C4 := Lib.hid c4
          have HB4 := Lib.hid b4
          have e1 : (c ++ [(number : Int)]).length = c.length + 1 := by simp
          rw [e1] at hy x4
          clear c4 t4 o4 b4 b3 j4 enc4 C3 J3 e1
          gi_wp2
          refine ⟨fun h => by simp [Fence.wide] at h, hR.mono ?_⟩
          rintro e A' (⟨rfl, jt, kt⟩ | ⟨rfl, jf, kf⟩)
          · have hb' : ∀ k, OwnK g w4 k → A'.heap[k]? = w4.heap[k]? := fun k hk => kt.block k (HB4.out k hk).2 (fun h => h.2 hk)
            obtain ⟨c5, o5⟩ := C4.out.of_blocks hb'
            have j5 := HJ0.out (OwnK g w4) (OwnK g A') (pre ++ [c ++ [(number : Int)]]) A' A' jt (fun k hk => ⟨(HB4.out k hk).1, Nat.lt_of_lt_of_le (HB4.out k hk).2 kt.size⟩) (by have := kt.size; omega) (Turn.refl _ _) (fun k hk => .inl (o5 k hk))
            have B5 := Lib.hid (B4.out.trans (kt.below (by omega) (fun k h => h.1)))
            have C5 := Lib.hid c5
            have J5 := Lib.hid j5
            clear hb' c5 o5 j5 jt kt hR hy x4
            gi_wp2
            go_roundw
            case rel => exact ⟨c ++ [(number : Int)], 0, pre ++ [c ++ [(number : Int)]], rfl, by omega, HO2.out, C5.out, HR2.out, J5.out, B5.out⟩
            case measure => simpa [intOf] using HMeas.out (c ++ [(number : Int)]) 0 A' C5.out HMS.out
          · have zf := kf.size
            have B5 := B4.out.size
            clear hR hy x4
            gi_wp2
            try rw [Exit.noGoto_ret]
            refine bodyPost_ret (results_none rfl _ _ _) rfl ?_
            exact ⟨⟨_, rfl⟩, by omega, .inr ⟨OwnK g w4, _, HP.out, jf, fun k hk => ⟨(HB4.out k hk).1, Nat.lt_of_lt_of_le (HB4.out k hk).2 zf⟩⟩⟩
      · have hn10 : number = 10 := by omega
        subst hn10
        obtain ⟨A4, cap4, x4, _⟩ := enc_of hcs
        by_cases h0 : c.length = 0
        · have e0 : ((c.length : Int) == 0) = true := by rw [h0]; rfl
          have hcn : c = [] := List.eq_nil_of_length_eq_zero h0
          have hpre : pre = allC H := by
            rw [← hrem, ← hrn, hcn]
            simp [remC_end]
          rw [hpre] at hj
          have HJ := Lib.hid hj
          have HB := Lib.hid hbounds
          have B5 := HBN.out.size
          clear hcs hj hbounds hok hrem hrn hJ hJx hY hbn hbw hcn hpre h0 hl56 hcl
          gi_wp2
          try rw [Exit.noGoto_ret]
          refine bodyPost_ret (results_none rfl _ _ _) rfl ?_
          exact ⟨⟨_, rfl⟩, B5, .inl ⟨OwnK g wr, HJ.out, HB.out⟩⟩
        · have e0 : ((c.length : Int) == 0) = false := by rw [beq_eq_false_iff_ne]; omega
          obtain ⟨q, hq9, hq⟩ := lastC_num hok
          have con := c_csTake H g g c wr hcs hok h0 hl56
          rw [hq] at con
          have Con := Lib.hid con
          have hpop := remC_pop (H := H) (c := c) h0
          rw [hrn, hq, Int.toNat_natCast] at hpop
          have hrem2 : pre ++ remC H c.dropLast (q + 1) = allC H := by rw [← hpop]; exact hrem
          have hms : 2 * (remC H c.dropLast (q + 1)).length + c.dropLast.length < 2 * (remC H c least).length + c.length := by
            rw [hpop, List.length_dropLast]; omega
          have HC := Lib.hid hcs
          have HJ := Lib.hid hj
          have HB := Lib.hid hbounds
          have HR2 := Lib.hid hrem2
          have HMS := Lib.hid hms
          have HO2 := Lib.hid hok.pop
          clear con hcs hj hbounds hok hrem hrn hJ hJx hY hbn hbw hpop hrem2 hms hq h0
          gi_wp2_with fail
          refine ⟨trivial, fun h => by simp [Fence.wide] at h, callsIn_wide.2 (Con.out.mono ?_)⟩
          rintro e w3 ⟨rfl, c3, t3, o3⟩
          have J3 := Lib.hid (HJ0.out (OwnK g wr) (OwnK g w3) pre wr w3 HJ.out HB.out hnw t3 (fun k hk => .inl (o3 k hk)))
          have B3 := Lib.hid (HBN.out.trans (t3.below hnw (fun k hk => (HB.out k hk).1)))
          have C3 := Lib.hid c3
          clear c3 t3 o3 x4
          gi_wp2
          go_roundw
          case rel => exact ⟨c.dropLast, q + 1, pre, by go_num, by omega, HO2.out, C3.out, HR2.out, J3.out, B3.out⟩
          case measure => simpa [intOf] using HMeas.out c.dropLast (q + 1) w3 C3.out HMS.out

end Go.Proofs.Ytjhedjokifnofaa

/- All chains of a hand by the specification: the search (its list of chains at most one long). -/
import Derived.Test.YtjhedjokifnofaaLkW
import Derived.Test.YtjhedjokifnofaaNest
import Derived.Deep.Cut
import Derived.BigQuiet
import Derived.Deep.RegionHeld3
import Derived.Deep.RegionHeldLaw
import Derived.Deep.RegionLaw
namespace Go.Proofs.Ytjhedjokifnofaa
open Go.RowKit
set_option linter.unusedVariables false

abbrev LkT (pb gc gu : Nat) (k : Nat) : Prop := k = pb ∨ k = gc ∨ k = gu
/-- No count is greater. -/
def Bnd (s : S3) (k : Nat) : Prop := s.n ≤ k ∧ ∀ j, 0 ≤ s.C.getD j 0 ∧ s.C.getD j 0 ≤ (k : Int)
theorem Bnd.fold (m : Nat) : ∀ (L : List (List Int)) (s : S3) (k : Nat), Bnd s k → Bnd (fold3 m s L) (k + L.length)
  | [], s, k, h => h
  | c :: L, s, k, h => by
    have h1 : Bnd (step3 m s c) (k + 1) := by
      have h2 := cnt_inv s.C.length [c] s.C k rfl h.2
      refine ⟨?_, fun j => by have := h2.2 j; show 0 ≤ (cntStep s.C c).getD j 0 ∧ (cntStep s.C c).getD j 0 ≤ _; simpa using this⟩
      have := h.1
      unfold step3
      simp only
      split <;> omega
    have := Bnd.fold m L (step3 m s c) (k + 1) h1
    rw [List.length_cons, show k + (L.length + 1) = k + 1 + L.length from by omega]
    exact this
theorem rdI_turn {T : Nat → Prop} {w w' : World} {A : Option Addr} {c : List Int} (h : RdI w A c) (ht : Turn T w w') (hn : ∀ a, A = some a → ¬ T a.block) : RdI w' A c := by
  by_cases hx : c = []
  · subst hx; exact RdI.nil_
  · obtain ⟨bk, off, hA, hbk, hc⟩ := h.at_ (List.length_pos_iff.2 hx)
    subst hA
    exact ⟨bk, off, fun _ => rfl, fun k hk => ht.cell (hn ⟨bk, off, none⟩ rfl) (hc k hk)⟩

/-- One row appended to none, at a step of a region that draws its order. -/
theorem step_append_rowN {w : World} {ops : Array Oper} {o : Oper} {a : Act} {K : Act → World → Prop} {Q : Exit → Act → World → Prop} {E : Prop} (hgd : o.guard = none) (s x : Operand)
    (ho : o.op = .call { callee := .builtin .append, args := #[s, x], argTypes := #[24, 24] }) (hs : a.eval s = .slice none 0 0) (A : Option Addr) (n c : Nat) (g : Nat) (hx : a.eval x = .slice (some ⟨g, 0, none⟩) 1 1)
    (h0 : w.cell? ⟨g, 0, none⟩ = some (.slice A n c)) (h : ∀ A c w', Below w.heap.size w w' → K (a.put o.dst (.slice A 1 c)) w') :
    if Region.wanted o (yielded ops a.tmps) = true then Oper.wp Try.prog o a w K Q else E := by
  have hw : Region.wanted o (yielded ops a.tmps) = true := by simp [Region.wanted, hgd]
  rw [if_pos hw]
  obtain ⟨i0, hi, hz0, hz1, hz2⟩ := info_parts Try.info_rowI
  refine wp_append_own w s x 24 ho w.heap.size 34 i0 _ 1 24 Try.underlying24 hi hz0 hz1 hz2 rfl (by decide) (.slice none 0 0) 0 [] hs (World.ownsRow_nil _ _ _ _) ⟨g, 0, none⟩ 1 1 [.slice A n c] hx rfl ?_ ?_ (by unfold maxLen; omega) (by omega) (Nat.le_refl _) ?_
  · intro j u hj
    match j, hj with
    | 0, hj => simp at hj; subst hj; simpa [Addr.add] using h0
  · intro u hu
    simp at hu
    rcases hu with rfl; rfl
  · intro v' w' h1 h2 _
    have h1' := h1
    obtain ⟨_, ⟨_, hn⟩ | ⟨g', cap, cur, rfl, _⟩⟩ := h1'
    · omega
    exact h _ _ w' (below_of_grown h2 (Nat.le_refl _) (fun g hg => by simp [Value.ownBlock] at hg))

/-- The hand's row lies below all that changes. -/
theorem rdT_turn {T : Nat → Prop} {w0 w w' : World} {A : Option Addr} {ts : List (Int × Int)} {lo : Nat} (h : RdT w0 A ts) (hlo : lo = w0.heap.size) (hb : Below lo w0 w) (ht : Turn T w w') (hT : ∀ k, T k → lo ≤ k) : RdT w' A ts := by
  by_cases hx : ts = []
  · subst hx; exact RdT.nil_
  · obtain ⟨bk, off, hA, hbk, hc⟩ := h.at_ (List.length_pos_iff.2 hx)
    subst hA
    have e : ∀ (j : Nat) (v : Value), w0.cell? ⟨bk, j, none⟩ = some v → w'.cell? ⟨bk, j, none⟩ = some v := fun j v hv => ht.cell (fun hk => by have := hT _ hk; simp only at this; omega) ((hb.cell (p := ⟨bk, j, none⟩) (by simp only; omega)).trans hv)
    exact ⟨bk, off, fun _ => rfl, fun k hk => ⟨e _ _ (hc k hk).1, e _ _ (hc k hk).2⟩⟩
theorem fit_iff {H : List (Int × Int)} {c : List Int} (h0 : c.length ≠ 0) (x : Int) : fitC H c x = true ↔ (tile2 (lastC c) x ∈ H ∧ tile2 (lastC c) x ∉ tilesC c) := by
  unfold fitC
  rw [decide_eq_false h0, Bool.false_or, Bool.and_eq_true, decide_eq_true_eq, decide_eq_true_eq]
theorem mark_on {H : List (Int × Int)} {c : List Int} {x : Int} {i : Nat} (hnd : H.Nodup) (h0 : c.length ≠ 0) (hi : i < H.length) (ht : H[i] = tile2 (lastC c) x) (j : Nat) (hj : j < H.length) : decide (H[j] ∈ tilesC (c ++ [x])) = if j = i then true else decide (H[j] ∈ tilesC c) := by
  rw [tilesC_snoc h0]
  by_cases e : j = i
  · subst e; rw [if_pos rfl, ht]; simp
  · rw [if_neg e]
    have hne : H[j] ≠ tile2 (lastC c) x := by rw [← ht]; exact fun h => e ((List.getElem_inj hnd).1 h)
    simp [hne]
theorem mark_off {H : List (Int × Int)} {c : List Int} {x : Int} {i : Nat} (hnd : H.Nodup) (h0 : c.length ≠ 0) (hi : i < H.length) (ht : H[i] = tile2 (lastC c) x) (hn : tile2 (lastC c) x ∉ tilesC c) (j : Nat) (hj : j < H.length) : decide (H[j] ∈ tilesC c) = if j = i then false else decide (H[j] ∈ tilesC (c ++ [x])) := by
  rw [tilesC_snoc h0]
  by_cases e : j = i
  · subst e; rw [if_pos rfl, ht]; simpa using hn
  · rw [if_neg e]
    have hne : H[j] ≠ tile2 (lastC c) x := by rw [← ht]; exact fun h => e ((List.getElem_inj hnd).1 h)
    simp [hne]

set_option maxRecDepth 100000 in
set_option maxHeartbeats 16000000 in
theorem c_look0 (H : List (Int × Int)) (lo pb gc gu cH : Nat) (AH : Option Addr) (w0 : World) (hH : RdT w0 AH H) (hlo : lo = w0.heap.size) (hh : handB H = true) (h8 : H.length ≤ 8) :
    ∀ (n : Nat) (c : List Int) (s : S3) (k : Nat) (Ac : Option Addr) (cc : Nat) (w : World), H.length + 1 - c.length < n → OkC H c → c.length ≠ 0 → Bnd s k → k + (enumS H (fuelC H c) c).length ≤ 4611686018427387904 →
      Loo H lo pb gc gu AH cH c s w → Below lo w0 w → RdI w Ac c → (∀ a, Ac = some a → ¬ LkT pb gc gu a.block) → gu < w.heap.size →
    Calls Try.prog 54 #[.pointer (some ⟨pb, 0, none⟩), .slice Ac c.length cc, .slice (some ⟨gu, 0, none⟩) H.length H.length] w fun e w' => e = .returned (.tuple #[]) ∧ Loo H lo pb gc gu AH cH c (fold3 H.length s (enumS H (fuelC H c) c)) w' ∧ Turn (LkT pb gc gu) w w'
  | 0, c, s, k, Ac, cc, w, hz, ho, h0, hbn, hbk, hL, hb0, hc, hcn, hu => by omega
  | n + 1, c, s, k, Ac, cc, w, hz, ho, h0, hbn, hbk, hL, hb0, hc, hcn, hu => by
    have hcl := ho.len
    have hen := enum_beh (H := H) (c := c) hcl
    rw [hen] at hbk ⊢
    have hfold : fold3 H.length s (c :: behC H c 0) = fold3 H.length (step3 H.length s c) (behC H c 0) := rfl
    rw [hfold]
    have IH := Lib.hid (fun (c2 : List Int) (s2 : S3) (k2 : Nat) (A2 : Option Addr) (cc2 : Nat) (w2 : World) (q1 : H.length + 1 - c2.length < n) => c_look0 H lo pb gc gu cH AH w0 hH hlo hh h8 n c2 s2 k2 A2 cc2 w2 q1)
    have hb1 : Bnd (step3 H.length s c) (k + 1) := Bnd.fold H.length [c] s k hbn
    obtain ⟨N1, hN1⟩ : ∃ N1, N1 = (if c.length = H.length + 1 then s.n + 1 else s.n) := ⟨_, rfl⟩
    obtain ⟨C1, hC1⟩ : ∃ C1, C1 = cntStep s.C c := ⟨_, rfl⟩
    obtain ⟨L1, hL1⟩ : ∃ L1, L1 = lngStep s.L c := ⟨_, rfl⟩
    have hs1 : step3 H.length s c = ⟨N1, C1, L1⟩ := by rw [hN1, hC1, hL1]; rfl
    rw [hs1] at hb1 ⊢
    rw [List.length_cons] at hbk
    have hcc := fun w => c_l1Own Ac cc c w
    have ng := hL.lt
    have nc := hL.ltc
    clear hen hfold hs1
    have f5 := hL.fz 5
    have x0 := hL.c0
    have x1 := hL.c1
    have x2 := hL.c2
    have x3 := hL.c3
    obtain ⟨AG, cG, x5, o5, n5⟩ := hL.c5
    obtain ⟨AL, nL, cL, x4, hnL⟩ := hL.c4
    have HL := Lib.hid hL
    have HC := Lib.hid hc
    have HCN := Lib.hid hcn
    have HO := Lib.hid ho
    have HB0 := Lib.hid hb0
    have HB1 := Lib.hid hb1
    have HBK := Lib.hid hbk
    have HBN := Lib.hid hbn
    have HN1 := Lib.hid hN1
    have HC1 := Lib.hid hC1
    have HL1 := Lib.hid hL1
    have HH := Lib.hid hh
    have HHR := Lib.hid hH
    have HLO := Lib.hid hlo
    clear hlo hcc o5 n5 hnL hb1 hbk hbn ho hc hcn hb0 hL hN1 hC1 hL1 hh hH ng nc f5 x1 x2 x3 x4
    go_enter Try.func54, Try.ntmps54
    go_upto_if 15 with (fail)
    go_cut [] from 15 (fun wr => Loo H lo pb gc gu AH cH c ⟨s.n, s.C, L1⟩ wr ∧ Turn (LkT pb gc gu) w wr)
    case first =>
      by_cases hlong : s.L.length < c.length
      · have hA : L1 = c := by rw [HL1.out]; unfold lngStep; rw [if_pos hlong]
        have j1 : (s.L.length : Int) < (c.length : Int) := by omega
        have Con := Lib.hid (c_l1Own Ac cc c w HC.out (by have := HO.out.len; omega))
        have HA := Lib.hid hA
        clear hlong hA
        go_wp2_with fail
        refine Con.out.mono ?_
        rintro e wa ⟨A5, c5, rfl, o5, h5⟩
        have La := HL.out.keep h5 hu
        have hna : ∀ g, (Value.slice A5 c.length c5).ownBlock = some g → g ≠ pb ∧ g ≠ gc ∧ g ≠ gu := fun g hg => by
          have h7 := o5.lt g hg
          have h8 := HL.out.lt
          have h9 := HL.out.ltc
          omega
        have lwa : lo ≤ w.heap.size := by have h7 := HL.out.h1; have h8 := HL.out.lt; omega
        have L2 := Lib.hid (La.longest (own_base o5 lwa) hna)
        rw [← HA.out] at L2
        have T2 : Hid (Turn (LkT pb gc gu) w (wa.setCell ⟨pb, 5, none⟩ (.slice A5 c.length c5))) := Lib.hid ((Turn.of_below h5).trans (Turn.setCell _ _ (.inl rfl)) (fun k _ h => h))
        obtain ⟨_, _, ya, _, _⟩ := La.c5
        have fa5 := La.fz 5
        have na := La.lt
        clear La o5 h5 hna x0 x5
        go_wp2
        go_meet
        exact ⟨by rw [HA.out]; exact HA.out ▸ L2.out, T2.out⟩
      · have hA : L1 = s.L := by rw [HL1.out]; unfold lngStep; rw [if_neg hlong]
        have j1 : ¬ (s.L.length : Int) < (c.length : Int) := by omega
        have HA := Lib.hid hA
        clear hlong hA
        go_wp2
        go_meet
        exact ⟨by rw [HA.out]; exact HL.out, Turn.refl _ _⟩
    case rest =>
      obtain ⟨la, ta⟩ := hcut
      rename World => wa
      clear x0 x5
      have LA := Lib.hid la
      have TA := Lib.hid ta
      have x3 := la.c3
      have na := la.lt
      have nca := la.ltc
      go_upto_if 23 with (fail)
      go_cut [] from 23 (fun wr => Loo H lo pb gc gu AH cH c ⟨s.n, C1, L1⟩ wr ∧ Turn (LkT pb gc gu) w wr)
      case first =>
        by_cases h1 : 1 < c.length
        · obtain ⟨q, hq⟩ : ∃ q, c.length = q + 2 := ⟨c.length - 2, by omega⟩
          have hC2 : C1 = s.C.set q (s.C.getD q 0 + 1) := by rw [HC1.out]; unfold cntStep; rw [if_pos h1, show c.length - 2 = q from by omega]
          have hqn : q < H.length := by have := HO.out.len; omega
          have hlen : s.C.length = H.length := LA.out.len
          have hcell : (cellsI s.C)[q]? = some (.int .i64 (s.C.getD q 0)) := by
            unfold cellsI
            rw [List.getElem?_map, List.getD_eq_getElem?_getD, List.getElem?_eq_getElem (by omega)]
            rfl
          have c1 := (LA.out.cnt.cellAt q (by omega)).trans hcell
          have fr1 := LA.out.cnt.frozenAt q
          have hv0 := HBN.out.2 q
          have hbk := HBK.out
          have L3 := Lib.hid (LA.out.counts hqn (s.C.getD q 0 + 1))
          have T3 : Hid (Turn (LkT pb gc gu) w (wa.setCell ⟨gc, q, none⟩ (.int .i64 (s.C.getD q 0 + 1)))) := Lib.hid (TA.out.trans (Turn.setCell _ _ (.inr (.inl rfl))) (fun k _ h => h))
          have HC2 := Lib.hid hC2
          generalize s.C.getD q 0 = v0 at *
          have j2 : (1 : Int) < (c.length : Int) := by omega
          have j3 : IntKind.i64.wrap ((c.length : Int) - 2) = (q : Int) := by rw [IntWalk.i64_in _ (by omega)]; omega
          have j5 : (0 : Int) ≤ (q : Int) := by omega
          have j6 : (q : Int) < (H.length : Int) := by omega
          have j7 : IntKind.i64.wrap (v0 + 1) = v0 + 1 := IntWalk.i64_in _ (by omega)
          clear h1 hq hC2 hlen hcell hbk la ta
          go_wp2
          go_meet
          exact ⟨by rw [HC2.out]; exact L3.out, T3.out⟩
        · have hC2 : C1 = s.C := by rw [HC1.out]; unfold cntStep; rw [if_neg h1]
          have j2 : ¬ (1 : Int) < (c.length : Int) := by omega
          have HC2 := Lib.hid hC2
          clear h1 hC2 la ta
          go_wp2
          go_meet
          exact ⟨by rw [HC2.out]; exact LA.out, TA.out⟩
      case rest =>
        obtain ⟨lb, tb⟩ := hcut
        rename World => wb
        clear la ta x3 na nca
        have LB := Lib.hid lb
        have TB := Lib.hid tb
        have x0 := lb.c0
        have x1 := lb.c1
        have x2 := lb.c2
        have nb := lb.lt
        have f2 := lb.fz 2
        have f4 := lb.fz 4
        obtain ⟨AL, nL, cL, x4, hnL⟩ := lb.c4
        have j8 : IntKind.i64.wrap ((H.length : Int) + 1) = (H.length : Int) + 1 := IntWalk.i64_in _ (by omega)
        go_upto_if 43 with (fail)
        by_cases hfull : c.length = H.length + 1
        · have hbe : behC H c 0 = [] := full_end HO.out hfull
          have hN : N1 = s.n + 1 := by rw [HN1.out, if_pos hfull]
          have j9 : ((c.length : Int) == (H.length : Int) + 1) = true := by rw [beq_iff_eq]; omega
          have hbk := HBK.out
          have hbn := HBN.out.1
          have j10 : IntKind.i64.wrap ((s.n : Int) + 1) = (s.n : Int) + 1 := IntWalk.i64_in _ (by omega)
          have LD := Lib.hid (lb.count (s.n + 1))
          have TD : Hid (Turn (LkT pb gc gu) w (wb.setCell ⟨pb, 2, none⟩ (.int .i64 ((s.n + 1 : Nat) : Int)))) := Lib.hid (tb.trans (Turn.setCell _ _ (.inl rfl)) (fun k _ h => h))
          have HBE := Lib.hid hbe
          have HNN := Lib.hid hN
          have con := fun (W : World) (h : RdI W Ac c) => c_l1Own Ac cc c W h (by have := HO.out.len; omega)
          have Con := Lib.hid con
          have tbs := tb.size
          clear hbe hN hbk hbn lb tb hfull con
          go_upto_region 6 with (fail)
          obtain ⟨wd, hwd⟩ : ∃ wd, wd = wb.setCell ⟨pb, 2, none⟩ (.int .i64 ((s.n : Int) + 1)) := ⟨_, rfl⟩
          rw [show (((s.n + 1 : Nat) : Int)) = (s.n : Int) + 1 from by omega, ← hwd] at LD TD
          rw [← hwd]
          have z4 : wd.cell? ⟨pb, 4, none⟩ = some (.slice AL nL cL) := by rw [hwd]; exact (World.cell?_setCell_other _ _ _ _ (by simp)).trans x4
          have z1 : wd.cell? ⟨pb, 1, none⟩ = some (.int .i64 0) := by rw [hwd]; exact (World.cell?_setCell_other _ _ _ _ (by simp)).trans x1
          have fz4 : wd.frozen? ⟨pb, 4, none⟩ = false := by rw [hwd]; simpa using f4
          have nd : pb < wd.heap.size := block_lt z4
          have HU : Hid (gu < wd.heap.size) := Lib.hid (by rw [hwd]; simp [World.setCell]; omega)
          have HRd : Hid (RdI wd Ac c) := Lib.hid (rdI_turn HC.out TD.out HCN.out)
          clear hwd x0 x1 x2 x4 f2 f4 nb
          by_cases hn0 : nL = 0
          · obtain ⟨rfl, rfl⟩ := hnL hn0
            subst hn0
            go_quiet (fail)
            go_upto_region 7 with (fail)
            have d4 : (wd.drewN nq).drew.cell? ⟨pb, 4, none⟩ = some (.slice none 0 0) := z4
            have d5 : (wd.drewN nq).drew.frozen? ⟨pb, 4, none⟩ = false := fz4
            have nd2 : pb < (wd.drewN nq).drew.heap.size := nd
            go_region_law (first | (refine step_append_rowN rfl _ _ rfl rfl A7 c.length c7 w7.heap.size rfl (by simp) ?_; intro A9 c9 w9 h9; have r4 := keepc h9 m4; have r5 := (h9.frozen (p := ⟨pb, 4, none⟩) (block_lt m4)).trans m5) | (go_simp; go_at_call 72; refine (Con.out _ (by exact HRd.out)).mono ?_; rintro e w7 ⟨A7, c7, rfl, o7, h7⟩; have p4 := keepc h7 d4; have p5 := (h7.frozen (p := ⟨pb, 4, none⟩) nd2).trans d5; have al := (Below.refl w7.heap.size w7).alloc (Nat.le_refl _) (.cells #[.slice A7 c.length c7] 34); have m4 := keepc al p4; have m5 := (al.frozen (p := ⟨pb, 4, none⟩) (block_lt p4)).trans p5))
            all_goals
              have hk0 : Below wd.heap.size wd (wd.drewN (nq + 1)) := belowN (Below.refl _ _) _
              have hk1 := hk0.trans (h7.mono hk0.size)
              have hk2 := hk1.trans (al.mono hk1.size)
              have hk := hk2.trans (h9.mono hk2.size)
              have L9 := Lib.hid ((LD.out.keep hk HU.out).list A9 1 c9 (fun e => absurd e (by decide)))
              have T9 : Hid (Turn (LkT pb gc gu) w (w9.setCell ⟨pb, 4, none⟩ (.slice A9 1 c9))) := Lib.hid ((TD.out.trans (Turn.of_below hk) (fun k _ h => h)).trans (Turn.setCell _ _ (.inl rfl)) (fun k _ h => h))
              clear hk hk0 hk1 hk2
              go_wp2
              refine bodyPost_ret (results_none rfl _ _ _) rfl ?_
              rw [HBE.out]
              refine ⟨rfl, ?_, T9.out⟩
              show Loo H lo pb gc gu AH cH c ⟨N1, C1, L1⟩ _
              rw [HNN.out]
              exact L9.out
          · have j11 : ¬ (nL : Int) ≤ 0 := by omega
            have j12 : ¬ nL ≤ 0 := by omega
            go_quiet (fail)
            go_wp2
            refine bodyPost_ret (results_none rfl _ _ _) rfl ?_
            rw [HBE.out]
            have hk : Below wd.heap.size wd (wd.drewN nq) := belowN (Below.refl _ _) _
            refine ⟨rfl, ?_, TD.out.trans (Turn.of_below hk) (fun k _ h => h)⟩
            show Loo H lo pb gc gu AH cH c ⟨N1, C1, L1⟩ _
            rw [HNN.out]
            exact LD.out.keep hk HU.out

        · have j9 : ((c.length : Int) == (H.length : Int) + 1) = false := by rw [beq_eq_false_iff_ne]; omega
          have hN : N1 = s.n := by rw [HN1.out, if_neg hfull]
          have LD := Lib.hid (show Loo H lo pb gc gu AH cH c ⟨N1, C1, L1⟩ wb by rw [hN]; exact lb)
          obtain ⟨aim, haim⟩ : ∃ aim, aim = fold3 H.length ⟨N1, C1, L1⟩ (behC H c 0) := ⟨_, rfl⟩
          have HAIM := Lib.hid haim
          have hlen := HO.out.len
          have con := fun (W : World) (h : RdI W Ac c) => c_l1Own Ac cc c W h (by omega)
          have Con := Lib.hid con
          clear hN lb tb x0 x1 x2 x4 f2 f4 nb hnL con haim
          go_wp2
          rw [j9]
          go_loopw [6] (fun i wr => ∃ (q : Nat) (s2 : S3) (k2 : Nat), q ≤ 10 ∧ i = .int .i64 q ∧ fold3 H.length s2 (behC H c q) = aim ∧ Bnd s2 k2 ∧ k2 + (behC H c q).length ≤ 4611686018427387904 ∧ Loo H lo pb gc gu AH cH c s2 wr ∧ Turn (LkT pb gc gu) w wr) (fun i _ => 10 - (intOf i).toNat)
          case atStart => exact ⟨0, ⟨N1, C1, L1⟩, k + 1, Nat.zero_le _, rfl, HAIM.out.symm, HB1.out, by have := HBK.out; omega, LD.out, TB.out⟩
          case round =>
            obtain ⟨q, s2, k2, hq, rfl, hf2, hb2, hk2, l2, t2⟩ := hrel
            by_cases hlt : q ≤ 9
            · rw [behC_step H c hlt, fold3_app] at hf2
              rw [behC_step H c hlt, List.length_append] at hk2
              obtain ⟨l, hl9, hlc⟩ := lastC_num HO.out
              obtain ⟨m, hm⟩ : ∃ m, c.length = m + 1 := ⟨c.length - 1, by omega⟩
              obtain ⟨bk, off, hA, hbk, hcell⟩ := (rdI_turn HC.out t2 HCN.out).at_ (k := m) (by omega)
              have hRT := rdT_turn HHR.out HLO.out HB0.out t2 (fun k hk => by have g1 := l2.h1; have g2 := l2.h2; have g3 := l2.h3; rcases hk with rfl | rfl | rfl <;> omega)
              have gl : wr.cell? ⟨bk, off + m, none⟩ = some (.int .i64 (l : Int)) := by
                rw [hcell m (by omega)]
                have e : c[m]'(by omega) = (l : Int) := by rw [← hlc]; unfold lastC; rw [show c.length - 1 = m from by omega, List.getD_eq_getElem?_getD, List.getElem?_eq_getElem (by omega)]; rfl
                rw [e]
              have g0 := l2.c0
              have HRT := Lib.hid hRT
              have L2 := Lib.hid l2
              have T2 := Lib.hid t2
              have F2 := Lib.hid hf2
              have B2 := Lib.hid hb2
              have K2 := Lib.hid hk2
              have LC := Lib.hid hlc
              have j21 : IntKind.i64.wrap ((c.length : Int) - 1) = (m : Int) := by rw [IntWalk.i64_in _ (by omega)]; omega
              have j22 : (0 : Int) ≤ (m : Int) := by omega
              have j23 : (m : Int) < (c.length : Int) := by omega
              obtain ⟨P, hP⟩ : ∃ P, placeI H (min (l : Int) q, max (l : Int) q) = P := ⟨_, rfl⟩
              have hP2 : placeI H (tile2 (lastC c) (q : Int)) = P := by rw [hlc]; exact hP
              have conP : ∀ W, RdT W AH H → Calls Try.prog 62 #[.slice AH H.length cH, .agg #[.int .i64 (min (l : Int) q), .int .i64 (max (l : Int) q)]] W fun e w' => e = .returned (.int .i64 P) ∧ Below W.heap.size W w' := fun W h => hP ▸ c_tiPlace AH cH H (min (l : Int) q) (max (l : Int) q) W h (by omega)
              have ConP := Lib.hid conP
              have HP2 := Lib.hid hP2
              have gur : gu < wr.heap.size := by have := t2.size; omega
              subst hA
              have HM := Lib.hid hm
              have jm : m ≤ 8 := by omega
              clear hm hRT l2 t2 hf2 hb2 hk2 hlc hcell hP hP2 conP
              go_wp2
              go_region_held3 (fun w' => w'.cell? ⟨bk, off + m, none⟩ = some (.int .i64 (l : Int)) ∧ w'.cell? ⟨pb, 0, none⟩ = some (.slice AH H.length cH)) (first | exact ⟨keepc hb6 y1, keepc hb6 y0⟩ | exact ⟨y1, y0⟩ | go_keep) (first | (go_at_call 66; refine (c_tiOf _ _ _).mono ?_; rintro e w5 ⟨rfl, hb5⟩; have y1 := keepc hb5 gl; have y0 := keepc hb5 g0) | (go_at_call 62; refine (ConP.out _ ((HRT.out.below (by go_grown)).below hb5)).mono ?_; rintro e w6 ⟨rfl, hb6⟩))
              have hk6 : Below wr.heap.size wr w6 := bstep (bstep (by go_grown) hb5) hb6
              have L6 := Lib.hid (L2.out.keep hk6 gur)
              have T6 := Lib.hid (T2.out.trans (Turn.of_below hk6) (fun k _ h => h))
              have gu6 : gu < w6.heap.size := by have := hk6.size; omega
              by_cases hin : tile2 (lastC c) (q : Int) ∈ H
              · obtain ⟨i, hi, hti⟩ : ∃ (i : Nat) (hi : i < H.length), H[i] = tile2 (lastC c) (q : Int) := List.getElem_of_mem hin
                have hP : P = (i : Int) := by
                  rw [← HP2.out]
                  exact placeI_found hi hti (fun j hj hji e => by have := (List.getElem_inj (of_decide_eq_true HH.out : handP H).2.2).1 (e.trans hti.symm); omega)
                subst hP
                have hu1 := L6.out.usd i hi
                have hf1 := L6.out.fu i
                have j31 : ¬ (i : Int) < 0 := by omega
                have j32 : (0 : Int) ≤ (i : Int) := by omega
                have j33 : (i : Int) < (H.length : Int) := by omega
                by_cases hus : tile2 (lastC c) (q : Int) ∈ tilesC c
                · have hsub : subC H c q = [] := by unfold subC; rw [if_neg]; exact fun h => ((fit_iff h0 _).1 h).2 hus
                  rw [hti, decide_eq_true hus] at hu1
                  have HS := Lib.hid hsub
                  have HI := Lib.hid hi
                  clear hsub hin hus hti hi
                  go_wp2
                  go_roundw
                  case rel => exact ⟨q + 1, s2, k2, by omega, by go_num, by have h7 := F2.out; rw [HS.out] at h7; exact h7, B2.out, by have h7 := K2.out; omega, L6.out, T6.out⟩
                  case measure => simp [intOf]; omega
                · have hf : fitC H c (q : Int) = true := (fit_iff h0 _).2 ⟨hin, hus⟩
                  have ho2 : OkC H (c ++ [(q : Int)]) := HO.out.snoc (by simp [numB]; omega) hf
                  have hfu2 : fuelC H (c ++ [(q : Int)]) = fuelC H c - 1 := by unfold fuelC; rw [List.length_append, List.length_singleton]; omega
                  have hsub : subC H c q = enumS H (fuelC H (c ++ [(q : Int)])) (c ++ [(q : Int)]) := by unfold subC; rw [if_pos hf, hfu2]
                  have hnd := (of_decide_eq_true HH.out : handP H).2.2
                  have L7 := Lib.hid (L6.out.mark (v := true) hi (mark_on hnd h0 hi hti))
                  have OFF := Lib.hid (mark_off hnd h0 hi hti hus)
                  have T7 : Hid (Turn (LkT pb gc gu) w (w6.setCell ⟨gu, i, none⟩ (.bool true))) := Lib.hid (T6.out.trans (Turn.setCell _ _ (.inr (.inr rfl))) (fun k _ h => h))
                  rw [hti, decide_eq_false hus] at hu1
                  have hz2 : H.length + 1 - (c ++ [(q : Int)]).length < n := by rw [List.length_append, List.length_singleton]; omega
                  have hk7 : k2 + (enumS H (fuelC H (c ++ [(q : Int)])) (c ++ [(q : Int)])).length ≤ 4611686018427387904 := by have h7 := K2.out; rw [hsub] at h7; omega
                  have ih := fun A2 cc2 w2 => IH.out (c ++ [(q : Int)]) s2 k2 A2 cc2 w2 hz2 ho2 (by simp) B2.out hk7
                  simp only [List.length_append, List.length_singleton] at ih
                  have Ih := Lib.hid ih
                  have HS := Lib.hid hsub
                  have HI := Lib.hid hi
                  have g7 : gu < (w6.setCell ⟨gu, i, none⟩ (.bool true)).heap.size := by simp [World.setCell]; omega
                  have LW : lo ≤ w.heap.size := by have h7 := L6.out.h3; omega
                  have jc : c.length ≤ 9 := by have := HO.out.len; omega
                  clear hsub hin hus hti hf ho2 hfu2 hnd hz2 hk7 ih hi
                  go_wp2_with (first | (go_at_call 72; refine (Con.out _ (rdI_turn HC.out T7.out HCN.out)).mono ?_; rintro e w8 ⟨A8, c8, rfl, o8, h8⟩; have Ho9 := Lib.hid (o8.alloc (.cells #[.int .i64 (q : Int)] 3)); have hz8 : (w6.setCell ⟨gu, i, none⟩ (.bool true)).heap.size ≤ (w8.alloc (.cells #[.int .i64 (q : Int)] 3)).heap.size := Nat.le_trans h8.size ((Below.refl w8.heap.size w8).alloc (Nat.le_refl _) _).size) | (at_builtin; refine wp_append_int rfl _ _ rfl (w6.setCell ⟨gu, i, none⟩ (.bool true)).heap.size _ _ rfl Ho9.out (q : Int) w8.heap.size rfl (by simp) (by omega) hz8 ?_; intro A2 c2 w10 hown10 hg10) | (go_at_call 54; have B10 : Below (w6.setCell ⟨gu, i, none⟩ (.bool true)).heap.size (w6.setCell ⟨gu, i, none⟩ (.bool true)) w10 := (h8.alloc h8.size _).trans (below_of_grown hg10 hz8 (fun g hg => (o8.lt g hg).1)); have L10 := L7.out.keep B10 g7; have T10 : Hid (Turn (LkT pb gc gu) w w10) := Lib.hid (T7.out.trans (Turn.of_below B10) (fun k _ h => h)); refine (Ih.out A2 c2 w10 L10 (HB0.out.trans (T10.out.below LW (fun k hk => by have q1 := L7.out.h1; have q2 := L7.out.h2; have q3 := L7.out.h3; rcases hk with e | e | e <;> omega))) (RdI.of_own (by simpa using hown10)) (fun a ha hT => by subst ha; have q1 := (hown10.lt a.block rfl).1; have q2 := L7.out.lt; have q3 := L7.out.ltc; rcases hT with e | e | e <;> omega) (by have := B10.size; omega)).mono ?_; rintro e w11 ⟨rfl, l11, t11⟩; have u11 := l11.usd i HI.out; have f11 := l11.fu i; have L12 := Lib.hid (l11.mark (v := false) HI.out OFF.out); have T12 : Hid (Turn (LkT pb gc gu) w (w11.setCell ⟨gu, i, none⟩ (.bool false))) := Lib.hid ((T10.out.trans t11 (fun k _ h => h)).trans (Turn.setCell _ _ (.inr (.inr rfl))) (fun k _ h => h))))
                  go_roundw
                  case rel => exact ⟨q + 1, fold3 H.length s2 (subC H c q), k2 + (subC H c q).length, by omega, by go_num, F2.out, Bnd.fold _ _ _ _ B2.out, by have h7 := K2.out; omega, by have h7 := L12.out; rw [← HS.out] at h7; exact h7, T12.out⟩
                  case measure => simp [intOf]; omega
              · have hsub : subC H c q = [] := by unfold subC; rw [if_neg]; exact fun h => hin ((fit_iff h0 _).1 h).1
                have hP : P = -1 := by have h7 := HP2.out; unfold placeI at h7; rw [if_neg hin] at h7; exact h7.symm
                subst hP
                have HS := Lib.hid hsub
                clear hsub hin
                go_wp2
                go_roundw
                case rel => exact ⟨q + 1, s2, k2, by omega, by go_num, by have h7 := F2.out; rw [HS.out] at h7; exact h7, B2.out, by have h7 := K2.out; omega, L6.out, T6.out⟩
                case measure => simp [intOf]; omega
            · have : q = 10 := by omega
              subst this
              rw [behC_end] at hf2
              have h9 : Loo H lo pb gc gu AH cH c aim wr := by rw [← hf2]; exact l2
              rw [HAIM.out] at h9
              go_wp2
              refine bodyPost_end (results_none rfl _ _ _) rfl ?_
              exact ⟨rfl, h9, t2⟩

end Go.Proofs.Ytjhedjokifnofaa

/- Hands counted by their pips: the program. -/
import Derived.Test.YtiebilemlolhcaaPwA
import Derived.Test.YtiebilemlolhcaaRegS
import Derived.Deep.RegionHeld3
import Derived.Test.YtiebilemlolhcaaChF
import Derived.Carry
namespace Go.Proofs.Ytiebilemlolhcaa
open Go.RowKit Go.Maps Go.ChangeMaps
set_option linter.unusedVariables false

theorem Try.info_mapii : (Try.prog.info? 38).map (fun i => (i.zero, i.size, i.bytes)) = some (some (.map none), 1, 8) := by kernel_rfl

/-- The pips of tile j. -/
def pipsAt (ts : List (Int × Int)) (j : Nat) : Int := (ts.getD j (0, 0)).1 + (ts.getD j (0, 0)).2
theorem pipsAt_get {ts : List (Int × Int)} {j : Nat} (h : j < ts.length) : pipsAt ts j = ts[j].1 + ts[j].2 := by
  simp [pipsAt, List.getD, List.getElem?_eq_getElem h]
/-- Tiles of small numbers. -/
def SmallT (ts : List (Int × Int)) : Prop := ∀ t ∈ ts, (0 ≤ t.1 ∧ t.1 ≤ 6) ∧ (0 ≤ t.2 ∧ t.2 ≤ 6)
theorem SmallT.pips {ts : List (Int × Int)} (h : SmallT ts) (j : Nat) : 0 ≤ pipsAt ts j ∧ pipsAt ts j ≤ 12 := by
  by_cases hj : j < ts.length
  · rw [pipsAt_get hj]
    have := h ts[j] (List.getElem_mem hj)
    omega
  · have e : ts.getD j (0, 0) = (0, 0) := by simp [List.getD, List.getElem?_eq_none (by omega : ts.length ≤ j)]
    unfold pipsAt
    rw [e]
    decide

/-- The ways of hands, by their pips, behind the first i tiles. -/
abbrev gmT (ts : List (Int × Int)) (K i : Nat) (s : Nat) (p : Int) : Nat := gm (pipsAt ts) ts.length K i s p

theorem mix_pow (k t j : Nat) (h : j ≠ t + 1) : mix (t + 1) (fun _ => 2 ^ k) (fun _ => 2 ^ (k + 1)) j ≤ mix t (fun _ => 2 ^ k) (fun _ => 2 ^ (k + 1)) j := by
  unfold mix
  by_cases e : t + 1 < j
  · rw [if_pos e, if_pos (by omega)]
    exact Nat.le_refl _
  · rw [if_neg e, if_neg (by omega)]
    exact Nat.le_refl _
theorem mix_ne {α : Type} (t : Nat) (f1 f2 : Nat → α) (j : Nat) (h : j ≠ t + 1) : mix (t + 1) f1 f2 j = mix t f1 f2 j := by
  unfold mix
  by_cases e : t + 1 < j
  · rw [if_pos e, if_pos (by omega)]
  · rw [if_neg e, if_neg (by omega)]

theorem gm_stay {q : Nat → Int} {N K k j : Nat} {p : Int} (h : j = 0 ∨ j + (N - 1 - k) < K) : gm q N K k j p = gm q N K (k + 1) j p := by
  cases j with
  | zero => simp only [gm]
  | succ j =>
    simp only [gm]
    rw [if_neg (by omega)]

set_option maxRecDepth 100000 in
set_option maxHeartbeats 2000000 in
theorem c_waysOf (A : Option Addr) (c K : Nat) (ts : List (Int × Int)) (w : World) (hr : RdT w A ts) (hl : ts.length ≤ 28) (hk : K ≤ ts.length) (hs : SmallT ts) :
    Calls Try.prog 22 #[.agg #[.slice A ts.length c, .int .i64 K], .int .i64 0, .func (.func 23) #[] #[]] w
      fun e w' => ∃ b, e = .returned (.map (some b)) ∧ MI w' b (2 ^ ts.length) (fun p => cw (pipsAt ts) ts.length K p) ∧ Below w.heap.size w w' := by
  obtain ⟨i0, hi, hz0, hz1, hz2⟩ := info_parts Try.info_mapii
  have hmm := fun W => run_makeMap (P := Try.prog) 38 W
  have X0 := Lib.hid (Bx2.fresh w (.slice A ts.length c) (.int .i64 K) 35)
  have B0 : Below w.heap.size w (w.alloc (.cells #[.slice A ts.length c, .int .i64 K] 35)) := (Below.refl _ _).alloc (Nat.le_refl _) _
  have HB0 := Lib.hid B0
  have Hr := Lib.hid hr
  have Hs := Lib.hid hs
  clear hr hs B0
  go_enter Try.func22, Try.ntmps22
  go_wp2_with (refine wp_make_one rfl _ _ _ rfl 38 i0 _ (.map none) Try.underlying54 hi hz0 hz1 rfl .i64 .i64 _ (K + 1) rfl rfl (by go_num) (by rw [hz2]; omega) (by omega) ?_; intro w1 hs1 hc1 hf1 hb1)
  obtain ⟨g, eg⟩ : ∃ g, g = w.heap.size + 1 := ⟨_, rfl⟩
  have es : (w.alloc (.cells #[.slice A ts.length c, .int .i64 K] 35)).heap.size = g := by rw [eg]; simp
  rw [es] at hs1 hc1 hf1 hb1
  rw [← eg]
  have M0 := MMk.start hs1 hc1 hf1
  have X1 : Bx2 w1 w.heap.size (.slice A ts.length c) (.int .i64 K) := X0.out.keep (by rw [es]; exact hb1)
  have B1 : Below w.heap.size w w1 := bstep HB0.out (by rw [es]; exact hb1)
  have g0 : w.heap.size < g := by omega
  have Eg := Lib.hid eg
  clear eg es hs1 hc1 hf1 hb1 hz0 hz1 hz2 hi X0 HB0
  go_loopw [19] (fun i wr => ∃ k : Nat, k ≤ K + 1 ∧ i = .int .i64 k ∧ MMk wr g K k ∧ Bx2 wr w.heap.size (.slice A ts.length c) (.int .i64 K) ∧ Below w.heap.size w wr) (fun i _ => K + 1 - (intOf i).toNat)
  case atStart => exact ⟨0, Nat.zero_le _, rfl, M0, X1, B1⟩
  case round =>
    clear M0 X1 B1
    obtain ⟨k, hk1, rfl, hm, hx, hb⟩ := hrel
    have HM := Lib.hid hm
    have HX := Lib.hid hx
    have HB := Lib.hid hb
    have hzb := hb.size
    have HSZ := Lib.hid hm.size
    by_cases hlt : k < K + 1
    · have x1 := hm.cell k (by omega)
      rw [if_neg (Nat.lt_irrefl _)] at x1
      have y1 := keepc ((Below.refl _ _).alloc (Nat.le_refl _) (.map #[] 0)) x1
      have f1 := (frozen?_alloc_map wr #[] 0 ⟨g, k, none⟩).trans (hm.fz k)
      clear hm hx hb
      go_wp2
      go_roundw
      case rel =>
        have hsz := HSZ.out
        have b2 : Below w.heap.size w (wr.alloc (.map #[] 0)) := bstep HB.out ((Below.refl _ _).alloc (Nat.le_refl _) _)
        exact ⟨k + 1, by omega, by go_num, HM.out.step (by omega), (HX.out.keep ((Below.refl _ _).alloc (Nat.le_refl _) _)).kept (grown_set2 _ g k _) (by simp <;> omega), b2.setCell (by simp <;> omega) _⟩
      case measure => simp [intOf]; omega
    · have ek : k = K + 1 := by omega
      subst ek
      have x0 := hm.cell 0 (Nat.zero_le _)
      rw [if_pos (by omega), Nat.add_zero] at x0
      have hm0 := hm.map 0 (by omega)
      rw [Nat.add_zero] at hm0
      have Hm0 := Lib.hid hm0
      clear hm hx hb hm0 hmm
      go_wp2_with (at_mapUpdate; refine wp_mi_put rfl _ _ _ rfl (g + 1) 0 _ rfl Hm0.out (by omega) 0 rfl (by decide) 1 rfl (by omega) (by omega) ?_; intro w2 hm2 hg2; have hx2 := HX.out.kept hg2 (by simp <;> omega); have hx20 := hx2.c0; have hx21 := hx2.c1)
      have R2 : MRow w2 g K (fun _ => 2 ^ 0) (gmT ts K 0) := by
        refine ⟨fun j hj => ?_, fun j hj => ?_⟩
        · have := HM.out.cell j hj
          rw [if_pos (by omega)] at this
          exact hg2.cell this (by simp <;> omega)
        · by_cases e : j = 0
          · subst e
            refine (hm2.mono (by simp)).eq (fun p => ?_)
            simp [gm]
          · refine (((HM.out.map j (by omega)).kept hg2 (by simp <;> omega)).mono (by simp)).eq (fun p => ?_)
            simp [gm, e]
      have X2 := Lib.hid hx2
      have B2 := Lib.hid (HB.out.trans (below_of_grown hg2 hzb (by intro g' hg'; cases hg'; omega)))
      clear hm2 hg2 HM HX HB Hm0 HSZ x0 hx20 hx21 hx2 hzb
      go_loopw [34] (fun i wr => ∃ k : Nat, k ≤ ts.length ∧ i = .int .i64 k ∧ MRow wr g K (fun _ => 2 ^ k) (gmT ts K k) ∧ Bx2 wr w.heap.size (.slice A ts.length c) (.int .i64 K) ∧ Below w.heap.size w wr) (fun i _ => ts.length - (intOf i).toNat)
      case atStart => exact ⟨0, Nat.zero_le _, rfl, R2, X2.out, B2.out⟩
      case round =>
        clear R2 X2 B2
        rename World => wo
        obtain ⟨k, hk2, rfl, hm, hx, hb⟩ := hrel
        have HM := Lib.hid hm
        have HX := Lib.hid hx
        have HB := Lib.hid hb
        have hzb := hb.size
        by_cases hlt : k < ts.length
        · obtain ⟨bk, off, rfl, hbk, hc⟩ := Hr.out.at_ hlt
          have g1 := (hb.cell (p := ⟨bk, _, none⟩) hbk).trans (hc k hlt).1
          have g2 := (hb.cell (p := ⟨bk, _, none⟩) hbk).trans (hc k hlt).2
          have hx0 := hx.c0
          have hx1 := hx.c1
          have hxl := hx.lt
          have hgz : g + 1 + K < wo.heap.size := (hm.map K (Nat.le_refl _)).lt
          have hz := Lib.hid (Hs.out ts[k] (List.getElem_mem hlt))
          have al : Below wo.heap.size wo (wo.alloc (.cells #[.int .i64 ts[k].1, .int .i64 ts[k].2] 46)) := (Below.refl _ _).alloc (Nat.le_refl _) _
          have HM1 := Lib.hid (hm.keep al)
          have HX1 := Lib.hid (hx.keep al)
          have HB1 := Lib.hid (bstep hb al)
          have HT1 := Lib.hid (Bx2.fresh wo (.int .i64 ts[k].1) (.int .i64 ts[k].2) 46)
          clear hm hx hb hc al HM HX HB
          go_wp2
          all_goals
            clear hx0 hx1 g1 g2
            go_loopw [12] (fun i w3 => ∃ s : Nat, s ≤ K ∧ i = .int .i64 s ∧ MRow w3 g K (mix s (fun _ => 2 ^ k) (fun _ => 2 ^ (k + 1))) (mix s (gmT ts K k) (gmT ts K (k + 1))) ∧ Bx2 w3 w.heap.size (.slice (some ⟨bk, off, none⟩) ts.length c) (.int .i64 K) ∧
              Bx2 w3 wo.heap.size (.int .i64 ts[k].1) (.int .i64 ts[k].2) ∧ Below w.heap.size w w3) (fun i _ => (intOf i).toNat)
            case atStart => exact ⟨K, Nat.le_refl _, rfl, HM1.out.to (fun j hj => by rw [mix_top hj]; exact Nat.le_refl _) (fun j hj p => by rw [mix_top hj]), HX1.out, HT1.out, HB1.out⟩
            case round =>
              clear HM1 HX1 HB1 HT1
              obtain ⟨s, hsK, rfl, hm, hx, ht, hb⟩ := hrel
              have HM := Lib.hid hm
              have HX := Lib.hid hx
              have HT := Lib.hid ht
              have HB := Lib.hid hb
              by_cases hge : K ≤ s + (ts.length - 1 - k) ∧ 1 ≤ s
              · obtain ⟨t, rfl⟩ : ∃ t, s = t + 1 := ⟨s - 1, by omega⟩
                have q1 : (1 : Int) ≤ (t : Int) + 1 := by omega
                have q2 : (K : Int) - ((ts.length : Int) - 1 - (k : Int)) ≤ (t : Int) + 1 := by omega
                have r0 : wr.drew.cell? ⟨g, t + 1, none⟩ = some (.map (some (g + 1 + (t + 1)))) := hm.cell (t + 1) hsK
                have r1 : wr.drew.cell? ⟨g, t, none⟩ = some (.map (some (g + 1 + t))) := hm.cell t (by omega)
                have r2 : wr.drew.cell? ⟨wo.heap.size, 0, none⟩ = some (.int .i64 ts[k].1) := ht.c0
                have r3 : wr.drew.cell? ⟨wo.heap.size, 1, none⟩ = some (.int .i64 ts[k].2) := ht.c1
                have hz3 := hb.size
                have Con := Lib.hid (c_addTile (g + 1 + (t + 1)) (g + 1 + t) (2 ^ k) (2 ^ k) (gmT ts K k (t + 1)) (gmT ts K k t) ts[k].1 ts[k].2 wr.drew (by omega)
                  (((hm.map (t + 1) hsK).drew.mono (by rw [mix_top (Nat.le_refl _)]; exact Nat.le_refl _)).eq (fun p => by rw [mix_top (Nat.le_refl _)]))
                  (((hm.map t (by omega)).drew.mono (by rw [mix_top (by omega)]; exact Nat.le_refl _)).eq (fun p => by rw [mix_top (by omega)]))
                  hz.out.1.1 (by have := hz.out.1.2; omega) hz.out.2.1 (by have := hz.out.2.2; omega)
                  (fun p hp => by have h1 := gm_in ts.length K k (fun j _ => (Hs.out.pips j).1) t p hp; have h2 := psum_bd k (fun j _ => Hs.out.pips j); omega)
                  (fun p => by have h1 := gm_le (pipsAt ts) ts.length K k (t + 1) p; have h2 := cw_le (pipsAt ts) k (t + 1) p; have h3 := two_bd (i := k) (by omega); show gm _ _ _ _ _ _ ≤ _; omega)
                  (fun p => by have h1 := gm_le (pipsAt ts) ts.length K k t p; have h2 := cw_le (pipsAt ts) k t p; have h3 := two_bd (i := k) (by omega); show gm _ _ _ _ _ _ ≤ _; omega)
                  (by have h3 := two_bd (i := k) (by omega); omega) (by have h3 := two_bd (i := k) (by omega); omega))
                clear hm hx ht hb
                have k1 : (0 : Int) ≤ (t : Int) + 1 := by omega
                have k2 : t < K := by omega
                have k3 : IntKind.i64.wrap (t : Int) = (t : Int) := IntWalk.i64_in _ (by omega)
                have k4 : (t : Int) < (K : Int) + 1 := by omega
                go_wp2_with fail
                refine wp_region_held_drew (S := fun w' => w'.cell? ⟨g, t + 1, none⟩ = some (.map (some (g + 1 + (t + 1)))) ∧ w'.cell? ⟨g, t, none⟩ = some (.map (some (g + 1 + t))) ∧ w'.cell? ⟨wo.heap.size, 0, none⟩ = some (.int .i64 ts[k].1) ∧ w'.cell? ⟨wo.heap.size, 1, none⟩ = some (.int .i64 ts[k].2)) (by kernel_rfl) ⟨r0, r1, r2, r3⟩ (fun hH0 => ?_)
                refine reg_take 0 rfl (by kernel_rfl) (by kernel_rfl) (by kernel_rfl) (fun _ _ _ h => h) (by rfl) (fun w _ => by first | (go_simp; done) | (go_simp; with_reducible rfl)) (by assumption) ?_
                try simp only [Act.put, List.setIfInBounds_toArray, List.set_cons_zero, List.set_cons_succ, List.getElem_toArray, List.getElem_cons_zero]
                refine reg_take 1 rfl (by kernel_rfl) (by kernel_rfl) (by kernel_rfl) (fun _ _ _ h => h) (by rfl) (fun w _ => by first | (go_simp; done) | (go_simp; with_reducible rfl)) (by assumption) ?_
                try simp only [Act.put, List.setIfInBounds_toArray, List.set_cons_zero, List.set_cons_succ, List.getElem_toArray, List.getElem_cons_zero, List.getElem_cons_succ]
                refine reg_take 2 rfl (by kernel_rfl) (by kernel_rfl) (by kernel_rfl) (fun _ _ _ h => h) (by rfl) (fun w _ => by first | (go_simp; done) | (go_simp; with_reducible rfl)) (by assumption) ?_
                try simp only [Act.put, List.setIfInBounds_toArray, List.set_cons_zero, List.set_cons_succ, List.getElem_toArray, List.getElem_cons_zero, List.getElem_cons_succ]
                refine reg_take 3 rfl (by kernel_rfl) (by kernel_rfl) (by kernel_rfl) (fun _ _ _ h => h) (by rfl) (fun w hSw => by (try dsimp only at hSw); first | (go_simp; done) | (go_simp; with_reducible rfl)) (by assumption) ?_
                try simp only [Act.put, List.setIfInBounds_toArray, List.set_cons_zero, List.set_cons_succ, List.getElem_toArray, List.getElem_cons_zero, List.getElem_cons_succ]
                refine reg_take 4 rfl (by kernel_rfl) (by kernel_rfl) (by kernel_rfl) (fun _ _ _ h => h) (by rfl) (fun w _ => by first | (go_simp; done) | (go_simp; with_reducible rfl)) (by assumption) ?_
                try simp only [Act.put, List.setIfInBounds_toArray, List.set_cons_zero, List.set_cons_succ, List.getElem_toArray, List.getElem_cons_zero, List.getElem_cons_succ]
                refine reg_take 5 rfl (by kernel_rfl) (by kernel_rfl) (by kernel_rfl) (fun _ _ _ h => h) (by rfl) (fun w _ => by first | (go_simp; done) | (go_simp; with_reducible rfl)) (by assumption) ?_
                try simp only [Act.put, List.setIfInBounds_toArray, List.set_cons_zero, List.set_cons_succ, List.getElem_toArray, List.getElem_cons_zero, List.getElem_cons_succ]
                refine reg_take 6 rfl (by kernel_rfl) (by kernel_rfl) (by kernel_rfl) (fun _ _ _ h => h) (by rfl) (fun w _ => by first | (go_simp; done) | (go_simp; with_reducible rfl)) (by assumption) ?_
                try simp only [Act.put, List.setIfInBounds_toArray, List.set_cons_zero, List.set_cons_succ, List.getElem_toArray, List.getElem_cons_zero, List.getElem_cons_succ]
                refine reg_take 7 rfl (by kernel_rfl) (by kernel_rfl) (by kernel_rfl) (fun _ _ _ h => h) (by rfl) (fun w _ => by first | (go_simp; done) | (go_simp; with_reducible rfl)) (by assumption) ?_
                try simp only [Act.put, List.setIfInBounds_toArray, List.set_cons_zero, List.set_cons_succ, List.getElem_toArray, List.getElem_cons_zero, List.getElem_cons_succ]
                refine reg_take 8 rfl (by kernel_rfl) (by kernel_rfl) (by kernel_rfl) (fun _ _ _ h => h) (by rfl) (fun w hSw => by (try dsimp only at hSw); first | (go_simp; done) | (go_simp; with_reducible rfl)) (by assumption) ?_
                try simp only [Act.put, List.setIfInBounds_toArray, List.set_cons_zero, List.set_cons_succ, List.getElem_toArray, List.getElem_cons_zero, List.getElem_cons_succ]
                refine reg_take 9 rfl (by kernel_rfl) (by kernel_rfl) (by kernel_rfl) (fun _ _ _ h => h) (by rfl) (fun w hSw => by (try dsimp only at hSw); first | (go_simp; done) | (go_simp; with_reducible rfl)) (by assumption) ?_
                try simp only [Act.put, List.setIfInBounds_toArray, List.set_cons_zero, List.set_cons_succ, List.getElem_toArray, List.getElem_cons_zero, List.getElem_cons_succ]
                refine reg_take 10 rfl (by kernel_rfl) (by kernel_rfl) (by kernel_rfl) (fun _ _ _ h => h) (by rfl) (fun w _ => by first | (go_simp; done) | (go_simp; with_reducible rfl)) (by assumption) ?_
                try simp only [Act.put, List.setIfInBounds_toArray, List.set_cons_zero, List.set_cons_succ, List.getElem_toArray, List.getElem_cons_zero, List.getElem_cons_succ]
                refine wpAnyH_ready (rs := [11]) (by kernel_rfl) (by simp) ?_
                refine AllReadyH.cons (i := 11) rfl (fun K hK => ?_) AllReadyH.nil
                go_simp
                go_at_call 27
                refine (Con.out).mono ?_
                rintro e w3 ⟨rfl, hm3, hg3⟩
                have z0 := hg3.cell r0 (by simp <;> omega)
                have z1 := hg3.cell r1 (by simp <;> omega)
                have z2 := hg3.cell r2 (by simp <;> omega)
                have z3 := hg3.cell r3 (by simp <;> omega)
                refine hK.out _ _ ⟨z0, z1, z2, z3⟩ (fun hH11 => ?_)
                clear hK K
                try simp only [Act.put, List.setIfInBounds_toArray, List.set_cons_zero, List.set_cons_succ, List.getElem_toArray, List.getElem_cons_zero, List.getElem_cons_succ]
                refine wpAnyH_done (by kernel_rfl) ?_ _
                go_wp2
                go_roundw
                case rel =>
                  refine ⟨t, by omega, by go_num, MRow.put HM.out.drew hg3 hm3 (fun j hj he => mix_pow k t j he) (by rw [mix_at (Nat.lt_succ_self _), Nat.pow_succ]; omega) (fun j hj he p => by rw [mix_ne t _ _ j he]) (fun p => ?_), (HX.out.drew).kept hg3 (by simp <;> omega), (HT.out.drew).kept hg3 (by simp <;> omega), HB.out.drew.trans (below_of_grown hg3 (by simpa using hz3) (by intro g' hg'; cases hg'; omega))⟩
                  rw [mix_at (Nat.lt_succ_self _)]
                  show _ = gm _ _ _ (k + 1) (t + 1) p
                  simp only [gm]
                  rw [if_pos hge.1, pipsAt_get hlt]
                case measure => simp [intOf]
              · clear hm hx ht hb
                first
                | have n1 : ¬ (1 : Int) ≤ (s : Int) := by omega
                | have n1 : ¬ (K : Int) - ((ts.length : Int) - 1 - (k : Int)) ≤ (s : Int) := by omega
                go_wp2
                go_roundw
                case rel =>
                  refine ⟨k + 1, by omega, by go_num, HM.out.to (fun j hj => ?_) (fun j hj p => ?_), HX.out, HB.out⟩
                  · unfold mix
                    split
                    · exact Nat.le_refl _
                    · exact Nat.pow_le_pow_right (by omega) (Nat.le_succ _)
                  · by_cases e : s < j
                    · rw [mix_at e]
                    · rw [mix_top (by omega)]
                      exact gm_stay (by omega)
                case measure => simp [intOf]; omega
        · have ek : k = ts.length := by omega
          subst ek
          have x0 := hm.cell K (Nat.le_refl _)
          have y0 := hx.c0
          have y1 := hx.c1
          clear hm hx hb
          go_wp2
          go_ret
          exact ⟨_, rfl, (HM.out.map K (Nat.le_refl _)).eq (fun p => gm_cw _ _ _ _ _ _ (Nat.le_refl _) (by omega)), HB.out⟩

end Go.Proofs.Ytiebilemlolhcaa

/- Spreads renamed: the program's. -/
import Derived.Test.YtnnkdnleencofabRenS
import Derived.Test.YtnnkdnleencofabRegS
namespace Go.Proofs.Ytnnkdnleencofab
open Go.RowKit
set_option linter.unusedVariables false

theorem farR {w : World} {g a i j : Nat} {u v : Value} (h : g ≠ a) (hc : w.cell? ⟨g, j, none⟩ = some v) : (w.setCell ⟨a, i, none⟩ u).cell? ⟨g, j, none⟩ = some v :=
  (World.cell?_setCell_other _ _ _ _ (fun e => h (by injection e with e; exact e.symm))).trans hc
theorem frozen_freshR (w : World) (cs : Array Value) (t : TypeId) (m : Nat) : (w.alloc (.cells cs t)).frozen? ⟨w.heap.size, m, none⟩ = false := by
  unfold World.frozen? World.alloc
  simp

set_option maxRecDepth 100000 in
set_option maxHeartbeats 4000000 in
theorem c_implRenS (A : Option Addr) (c : Nat) (ps : List (Int × Int × Int)) (B : Option Addr) (d : Nat) (ns : List Int) (w : World) (hr : RdP w A ps) (hl : ps.length ≤ 1048576) (hn : RdI w B ns) (hln : ns.length ≤ 1048576) :
    Calls Try.prog 31 #[.slice A ps.length c, .slice B ns.length d] w (RetP w (renSL ps ns) (okL ps && areB ns)) := by
  have con := Lib.hid (c_implIsSpread A c ps w hr hl)
  have conA := Lib.hid (fun W (hb : Below w.heap.size w W) => c_areNames B d ns W (hn.below hb) (by omega))
  cases hh : okL ps
  · have e1 : renSL ps ns = [] := by simp [renSL, hh]
    rw [e1, Bool.false_and]
    rw [hh] at con
    clear e1 hr hn hh
    go_enter Try.func31, Try.ntmps31
    go_wp2_with (go_at_call 72; refine con.out.mono ?_; rintro e w1 ⟨rfl, hb1⟩)
    go_ret2
    exact ⟨none, 0, rfl, World.ownsRow_nil _ _ _ _, hb1⟩
  · rw [hh] at con
    cases hA : areB ns
    · have e1 : renSL ps ns = [] := by simp [renSL, hA]
      rw [e1, Bool.and_false]
      rw [hA] at conA
      clear e1 hr hn hh hA
      go_enter Try.func31, Try.ntmps31
      go_wp2_with (first | (go_at_call 72; refine con.out.mono ?_; rintro e w1 ⟨rfl, hb1⟩) | (go_at_call 73; refine (conA.out _ hb1).mono ?_; rintro e w2 ⟨rfl, hb2⟩))
      go_ret2
      exact ⟨none, 0, rfl, World.ownsRow_nil _ _ _ _, bstep hb1 hb2⟩
    · have e1 : renSL ps ns = renSTo ps ns ps.length := by unfold renSL; rw [hh, hA]; rfl
      rw [e1]
      rw [hA] at conA
      have H10 := Lib.hid ((of_decide_eq_true hA : areP ns).1)
      have HA := Lib.hid hA
      have J10 : 10 ≤ ns.length := by have := H10.out; omega
      have Hp := Lib.hid (fun k (hk : k < ps.length) => okL_playR hh hk)
      have h28 := okL_len hh
      obtain ⟨bn, on, rfl, hbn, hcn⟩ := hn.at_ (k := 0) (by omega)
      have HN := Lib.hid (fun m (hm : m ≤ 9) => (show w.cell? ⟨bn, on + m, none⟩ = some (.int .i64 (nmS ns m)) from by rw [nmS_cell (by omega)]; exact hcn m (by omega)))
      have Hr := Lib.hid hr
      clear e1 hh hA hcn hr hn
      go_enter Try.func31, Try.ntmps31
      go_wp2_with (first | (go_at_call 72; refine con.out.mono ?_; rintro e w1 ⟨rfl, hb1⟩) | (go_at_call 73; refine (conA.out _ hb1).mono ?_; rintro e w2 ⟨rfl, hb2⟩; have Hb2 := Lib.hid (bstep hb1 hb2); clear hb1 hb2))
      clear con conA
      go_loopw [6, 23] (fun v i wr => ∃ (k : Nat) (A2 : Option Addr) (c2 : Nat), k ≤ ps.length ∧ i = .int .i64 k ∧ v = .slice A2 (renSTo ps ns k).length c2 ∧ wr.ownsRow w2.heap.size 32 3 (.slice A2 (renSTo ps ns k).length c2) (renSTo ps ns k).length (cellsP (renSTo ps ns k)) ∧ Below w2.heap.size w2 wr) (fun _ i _ => ps.length - (intOf i).toNat)
      case atStart => exact ⟨0, none, 0, Nat.zero_le _, rfl, rfl, World.ownsRow_nil _ _ _ _, Below.refl _ _⟩
      case round =>
        obtain ⟨k, A2, c2, hk, rfl, rfl, ho, hb2⟩ := hrel
        have hpl := renSTo_len ps ns k
        have hpl2 : (renSTo ps ns k).length ≤ 28 := by omega
        have hbw := bstep Hb2.out hb2
        by_cases hlt : k < ps.length
        · obtain ⟨bk, off, rfl, hbk, hc⟩ := Hr.out.at_ hlt
          obtain ⟨n1, n2, n3⟩ := Hp.out k hlt
          obtain ⟨hp0, hq0, hs0⟩ := Hp.out 0 (by omega)
          obtain ⟨m1, hm1, em1⟩ := numB_nat n1
          obtain ⟨m2, hm2, em2⟩ := numB_nat n2
          obtain ⟨i1, hi1, ei1⟩ := numB_nat hp0
          obtain ⟨i2, hi2, ei2⟩ := numB_nat hq0
          have hr9 : 0 ≤ ps[k].2.2 ∧ ps[k].2.2 ≤ 9 := by simpa [numB] using n3
          have t0 := (hbw.cell (p := ⟨bk, _, none⟩) hbk).trans (hc k hlt).1
          have t1 := (hbw.cell (p := ⟨bk, _, none⟩) hbk).trans (hc k hlt).2.1
          have t2 := (hbw.cell (p := ⟨bk, _, none⟩) hbk).trans (hc k hlt).2.2
          have g1 := (hbw.cell (p := ⟨bk, _, none⟩) hbk).trans (hc 0 (by omega)).1
          have g2 := (hbw.cell (p := ⟨bk, _, none⟩) hbk).trans (hc 0 (by omega)).2.1
          have t3 := (hbw.cell (p := ⟨bn, _, none⟩) hbn).trans (HN.out m1 hm1)
          have t4 := (hbw.cell (p := ⟨bn, _, none⟩) hbn).trans (HN.out m2 hm2)
          have g3 := (hbw.cell (p := ⟨bn, _, none⟩) hbn).trans (HN.out i1 hi1)
          have g4 := (hbw.cell (p := ⟨bn, _, none⟩) hbn).trans (HN.out i2 hi2)
          have hnx := nmS_num HA.out hm1
          have hny := nmS_num HA.out hm2
          have hsw : swS ps ns = decide (nmS ns (i2 : Int) < nmS ns (i1 : Int)) := by unfold swS; rw [hdP_get (by omega), ei1, ei2]
          have hst := renSTo_step (ns := ns) hlt
          unfold renP at hst
          rw [em1, em2, hsw] at hst
          rw [em1] at t0
          rw [em2] at t1
          rw [ei1] at g1
          rw [ei2] at g2
          rw [show off + 0 * 3 = off from by omega] at g1 g2
          generalize ps[k].2.2 = r at *
          have HST : ∀ x y a b, nmS ns (m1 : Int) = x → nmS ns (m2 : Int) = y → nmS ns (i1 : Int) = a → nmS ns (i2 : Int) = b → renSTo ps ns (k + 1) = renSTo ps ns k ++ [(min x y, max x y, armS (decide (b < a)) k r)] := fun x y a b h1 h2 h3 h4 => by rw [← h1, ← h2, ← h3, ← h4]; exact hst
          obtain ⟨x, hx⟩ : ∃ x, x = nmS ns (m1 : Int) := ⟨_, rfl⟩
          obtain ⟨y, hy⟩ : ∃ y, y = nmS ns (m2 : Int) := ⟨_, rfl⟩
          obtain ⟨a, ha⟩ : ∃ a, a = nmS ns (i1 : Int) := ⟨_, rfl⟩
          obtain ⟨b, hb⟩ : ∃ b, b = nmS ns (i2 : Int) := ⟨_, rfl⟩
          have Hst := Lib.hid (HST x y a b hx.symm hy.symm ha.symm hb.symm)
          rw [← hx] at t3 hnx
          rw [← hy] at t4 hny
          rw [← ha] at g3
          rw [← hb] at g4
          have hbo : bothNum x y = true := by unfold bothNum; rw [hnx, hny]; rfl
          have hlo : ofLow x y = min x y := by unfold ofLow; rw [if_pos hbo]
          have hhi : ofHigh x y = max x y := by unfold ofHigh; rw [if_pos hbo]
          have conT := Lib.hid (fun W => c_implTileOf x y W)
          rw [hlo, hhi] at conT
          clear n1 n2 n3 em1 em2 ei1 ei2 hp0 hq0 hs0 hpl hst HST hx hy ha hb hnx hny hbo hlo hhi hsw hc
          generalize renSTo ps ns k = T at Hst hpl2 ho ⊢
          have u0 : (0 : Int) ≤ (m1 : Int) := by omega
          have u1 : (m1 : Int) < (ns.length : Int) := by omega
          have u2 : (0 : Int) ≤ (m2 : Int) := by omega
          have u3 : (m2 : Int) < (ns.length : Int) := by omega
          have u4 : (0 : Int) ≤ (k : Int) := by omega
          have u5 : (k : Int) < (ps.length : Int) := by omega
          have u6 : (0 : Int) ≤ (i1 : Int) := by omega
          have u7 : (i1 : Int) < (ns.length : Int) := by omega
          have u8 : (0 : Int) ≤ (i2 : Int) := by omega
          have u9 : (i2 : Int) < (ns.length : Int) := by omega
          have uA : (0 : Int) < (ps.length : Int) := by omega
          have iw : IntKind.i64.wrap (1 - r) = 1 - r := IntWalk.i64_in _ (by omega)
          obtain ⟨w3, hw3⟩ : ∃ w3, w3 = wr := ⟨_, rfl⟩
          rw [← hw3] at t0 t1 t2 t3 t4 g1 g2 g3 g4 ho hb2 hbw ⊢
          clear hw3
          have hbk3 : bk < w3.heap.size := block_lt g1
          have hbn3 : bn < w3.heap.size := block_lt g3
          have Hb3 := Lib.hid hb2
          have hsz := hb2.size
          have hln := Lib.hid hpl2
          have Ho3 := Lib.hid ho
          clear hm1 hm2 hi1 hi2 hpl2 ho hb2 hbw
          go_wp2_with fail
          have a0 : ((w3.alloc (.cells #[.int .i64 m1, .int .i64 m2, .int .i64 r] 32)).alloc (.cells #[.int .i64 i1, .int .i64 i2] 30)).cell? ⟨w3.heap.size, 0, none⟩ = some (.int .i64 m1) := keepA (by simp)
          have a1 : ((w3.alloc (.cells #[.int .i64 m1, .int .i64 m2, .int .i64 r] 32)).alloc (.cells #[.int .i64 i1, .int .i64 i2] 30)).cell? ⟨w3.heap.size, 1, none⟩ = some (.int .i64 m2) := keepA (by simp)
          have a2 : ((w3.alloc (.cells #[.int .i64 m1, .int .i64 m2, .int .i64 r] 32)).alloc (.cells #[.int .i64 i1, .int .i64 i2] 30)).cell? ⟨w3.heap.size, 2, none⟩ = some (.int .i64 r) := keepA (by simp)
          have b0 : ((w3.alloc (.cells #[.int .i64 m1, .int .i64 m2, .int .i64 r] 32)).alloc (.cells #[.int .i64 i1, .int .i64 i2] 30)).cell? ⟨(w3.alloc (.cells #[.int .i64 m1, .int .i64 m2, .int .i64 r] 32)).heap.size, 0, none⟩ = some (.int .i64 i1) := by simp [go_sem]
          have b1 : ((w3.alloc (.cells #[.int .i64 m1, .int .i64 m2, .int .i64 r] 32)).alloc (.cells #[.int .i64 i1, .int .i64 i2] 30)).cell? ⟨(w3.alloc (.cells #[.int .i64 m1, .int .i64 m2, .int .i64 r] 32)).heap.size, 1, none⟩ = some (.int .i64 i2) := by simp [go_sem]
          rw [World.size_alloc] at b0 b1
          have c0 : ((w3.alloc (.cells #[.int .i64 m1, .int .i64 m2, .int .i64 r] 32)).alloc (.cells #[.int .i64 i1, .int .i64 i2] 30)).cell? ⟨bn, on + m1, none⟩ = some (.int .i64 x) := keepA (keepA t3)
          have c1 : ((w3.alloc (.cells #[.int .i64 m1, .int .i64 m2, .int .i64 r] 32)).alloc (.cells #[.int .i64 i1, .int .i64 i2] 30)).cell? ⟨bn, on + m2, none⟩ = some (.int .i64 y) := keepA (keepA t4)
          have d0 : ((w3.alloc (.cells #[.int .i64 m1, .int .i64 m2, .int .i64 r] 32)).alloc (.cells #[.int .i64 i1, .int .i64 i2] 30)).cell? ⟨bn, on + i1, none⟩ = some (.int .i64 a) := keepA (keepA g3)
          have d1 : ((w3.alloc (.cells #[.int .i64 m1, .int .i64 m2, .int .i64 r] 32)).alloc (.cells #[.int .i64 i1, .int .i64 i2] 30)).cell? ⟨bn, on + i2, none⟩ = some (.int .i64 b) := keepA (keepA g4)
          have Hbv := Lib.hid (show Below w2.heap.size w2 ((w3.alloc (.cells #[.int .i64 m1, .int .i64 m2, .int .i64 r] 32)).alloc (.cells #[.int .i64 i1, .int .i64 i2] 30)) from (Hb3.out.alloc hsz _).alloc (by rw [World.size_alloc]; omega) _)
          have Hov := Lib.hid ((Ho3.out.alloc (.cells #[.int .i64 m1, .int .i64 m2, .int .i64 r] 32)).alloc (.cells #[.int .i64 i1, .int .i64 i2] 30))
          clear t0 t1 t2 t3 t4 g1 g2 g3 g4
          obtain ⟨wv, hwv⟩ : ∃ wv, wv = (w3.alloc (.cells #[.int .i64 m1, .int .i64 m2, .int .i64 r] 32)).alloc (.cells #[.int .i64 i1, .int .i64 i2] 30) := ⟨_, rfl⟩
          have hsv : wv.heap.size = w3.heap.size + 2 := by rw [hwv]; simp
          rw [← hwv] at a0 a1 a2 b0 b1 c0 c1 d0 d1 Hbv Hov ⊢
          have hlo := Lib.hid (fun g (h : (Value.slice A2 T.length c2).ownBlock = some g) => (show w2.heap.size ≤ g ∧ g < w3.heap.size from Ho3.out.lt g h))
          obtain ⟨G, hG⟩ : ∃ G, G = w3.heap.size := ⟨_, rfl⟩
          rw [← hG] at a0 a1 a2 b0 b1 hsv hlo ⊢
          have hsG : w2.heap.size ≤ G := by omega
          have hbnG : bn < w2.heap.size := Nat.lt_of_lt_of_le hbn Hb2.out.size
          clear hwv hG Hb3 Ho3 hbk3 hbn3 hsz
          refine wp_region_held_drew (S := fun w' => w'.cell? ⟨G, 0, none⟩ = some (.int .i64 m1) ∧ w'.cell? ⟨G, 1, none⟩ = some (.int .i64 m2) ∧ w'.cell? ⟨bn, on + m1, none⟩ = some (.int .i64 x) ∧ w'.cell? ⟨bn, on + m2, none⟩ = some (.int .i64 y)) (by kernel_rfl) ⟨g1d _ a0, g1d _ a1, g1d _ c0, g1d _ c1⟩ (fun hH0 => ?_)
          refine reg_take 0 rfl (by kernel_rfl) (by kernel_rfl) (by kernel_rfl) (fun _ _ _ h => h) (by rfl) (fun w _ => by first | (go_simp; done) | (go_simp; with_reducible rfl)) (by assumption) ?_
          try simp only [Act.put, List.setIfInBounds_toArray, List.set_cons_zero, List.set_cons_succ, List.getElem_toArray, List.getElem_cons_zero]
          refine reg_take 1 rfl (by kernel_rfl) (by kernel_rfl) (by kernel_rfl) (fun _ _ _ h => h) (by rfl) (fun w _ => by first | (go_simp; done) | (go_simp; with_reducible rfl)) (by assumption) ?_
          try simp only [Act.put, List.setIfInBounds_toArray, List.set_cons_zero, List.set_cons_succ, List.getElem_toArray, List.getElem_cons_zero, List.getElem_cons_succ]
          refine reg_take 2 rfl (by kernel_rfl) (by kernel_rfl) (by kernel_rfl) (fun _ _ _ h => h) (by rfl) (fun w _ => by first | (go_simp; done) | (go_simp; with_reducible rfl)) (by assumption) ?_
          try simp only [Act.put, List.setIfInBounds_toArray, List.set_cons_zero, List.set_cons_succ, List.getElem_toArray, List.getElem_cons_zero, List.getElem_cons_succ]
          refine reg_take 3 rfl (by kernel_rfl) (by kernel_rfl) (by kernel_rfl) (fun _ _ _ h => h) (by rfl) (fun w hSw => by (try dsimp only at hSw); first | (go_simp; done) | (go_simp; with_reducible rfl)) (by assumption) ?_
          try simp only [Act.put, List.setIfInBounds_toArray, List.set_cons_zero, List.set_cons_succ, List.getElem_toArray, List.getElem_cons_zero, List.getElem_cons_succ]
          refine reg_take 4 rfl (by kernel_rfl) (by kernel_rfl) (by kernel_rfl) (fun _ _ _ h => h) (by rfl) (fun w _ => by first | (go_simp; done) | (go_simp; with_reducible rfl)) (by assumption) ?_
          try simp only [Act.put, List.setIfInBounds_toArray, List.set_cons_zero, List.set_cons_succ, List.getElem_toArray, List.getElem_cons_zero, List.getElem_cons_succ]
          refine reg_take 5 rfl (by kernel_rfl) (by kernel_rfl) (by kernel_rfl) (fun _ _ _ h => h) (by rfl) (fun w hSw => by (try dsimp only at hSw); first | (go_simp; done) | (go_simp; with_reducible rfl)) (by assumption) ?_
          try simp only [Act.put, List.setIfInBounds_toArray, List.set_cons_zero, List.set_cons_succ, List.getElem_toArray, List.getElem_cons_zero, List.getElem_cons_succ]
          refine reg_take 6 rfl (by kernel_rfl) (by kernel_rfl) (by kernel_rfl) (fun _ _ _ h => h) (by rfl) (fun w _ => by first | (go_simp; done) | (go_simp; with_reducible rfl)) (by assumption) ?_
          try simp only [Act.put, List.setIfInBounds_toArray, List.set_cons_zero, List.set_cons_succ, List.getElem_toArray, List.getElem_cons_zero, List.getElem_cons_succ]
          refine reg_take 7 rfl (by kernel_rfl) (by kernel_rfl) (by kernel_rfl) (fun _ _ _ h => h) (by rfl) (fun w _ => by first | (go_simp; done) | (go_simp; with_reducible rfl)) (by assumption) ?_
          try simp only [Act.put, List.setIfInBounds_toArray, List.set_cons_zero, List.set_cons_succ, List.getElem_toArray, List.getElem_cons_zero, List.getElem_cons_succ]
          refine reg_take 8 rfl (by kernel_rfl) (by kernel_rfl) (by kernel_rfl) (fun _ _ _ h => h) (by rfl) (fun w _ => by first | (go_simp; done) | (go_simp; with_reducible rfl)) (by assumption) ?_
          try simp only [Act.put, List.setIfInBounds_toArray, List.set_cons_zero, List.set_cons_succ, List.getElem_toArray, List.getElem_cons_zero, List.getElem_cons_succ]
          refine reg_take 9 rfl (by kernel_rfl) (by kernel_rfl) (by kernel_rfl) (fun _ _ _ h => h) (by rfl) (fun w hSw => by (try dsimp only at hSw); first | (go_simp; done) | (go_simp; with_reducible rfl)) (by assumption) ?_
          try simp only [Act.put, List.setIfInBounds_toArray, List.set_cons_zero, List.set_cons_succ, List.getElem_toArray, List.getElem_cons_zero, List.getElem_cons_succ]
          refine reg_take 10 rfl (by kernel_rfl) (by kernel_rfl) (by kernel_rfl) (fun _ _ _ h => h) (by rfl) (fun w _ => by first | (go_simp; done) | (go_simp; with_reducible rfl)) (by assumption) ?_
          try simp only [Act.put, List.setIfInBounds_toArray, List.set_cons_zero, List.set_cons_succ, List.getElem_toArray, List.getElem_cons_zero, List.getElem_cons_succ]
          refine reg_take 11 rfl (by kernel_rfl) (by kernel_rfl) (by kernel_rfl) (fun _ _ _ h => h) (by rfl) (fun w hSw => by (try dsimp only at hSw); first | (go_simp; done) | (go_simp; with_reducible rfl)) (by assumption) ?_
          try simp only [Act.put, List.setIfInBounds_toArray, List.set_cons_zero, List.set_cons_succ, List.getElem_toArray, List.getElem_cons_zero, List.getElem_cons_succ]
          refine wpAnyH_ready (rs := [12, 16]) (by kernel_rfl) (by simp) ?_
          refine AllReadyH.cons (i := 12) rfl (fun K hK => ?_) (AllReadyH.cons (i := 16) rfl (fun K hK => ?_) AllReadyH.nil)
          · skip
            go_simp
            go_at_call 74
            refine (conT.out _).mono ?_
            rintro e w4 ⟨rfl, hb4⟩
            have ya0 := keepc hb4 (g1d _ a0)
            have ya1 := keepc hb4 (g1d _ a1)
            have ya2 := keepc hb4 (g1d _ a2)
            have yb0 := keepc hb4 (g1d _ b0)
            have yb1 := keepc hb4 (g1d _ b1)
            have yc0 := keepc hb4 (g1d _ c0)
            have yc1 := keepc hb4 (g1d _ c1)
            have yd0 := keepc hb4 (g1d _ d0)
            have yd1 := keepc hb4 (g1d _ d1)
            have HbV := Lib.hid (bstep Hbv.out.drew hb4)
            have HoV := Lib.hid (own_keep (own_drew Hov.out) hb4)
            have hz4 : w2.heap.size ≤ w4.heap.size := HbV.out.size
            refine hK.out _ _ ⟨ya0, ya1, yc0, yc1⟩ (fun hH12 => ?_)
            clear hK K
            try simp only [Act.put, List.setIfInBounds_toArray, List.set_cons_zero, List.set_cons_succ, List.getElem_toArray, List.getElem_cons_zero, List.getElem_cons_succ]
            refine reg_take 13 rfl (by kernel_rfl) (by kernel_rfl) (by kernel_rfl) (fun _ _ _ h => h) (by rfl) (fun w _ => by first | (go_simp; done) | (go_simp; with_reducible rfl)) (by assumption) ?_
            try simp only [Act.put, List.setIfInBounds_toArray, List.set_cons_zero, List.set_cons_succ, List.getElem_toArray, List.getElem_cons_zero, List.getElem_cons_succ]
            refine reg_take 14 rfl (by kernel_rfl) (by kernel_rfl) (by kernel_rfl) (fun _ _ _ h => h) (by rfl) (fun w _ => by first | (go_simp; done) | (go_simp; with_reducible rfl)) (by assumption) ?_
            try simp only [Act.put, List.setIfInBounds_toArray, List.set_cons_zero, List.set_cons_succ, List.getElem_toArray, List.getElem_cons_zero, List.getElem_cons_succ]
            refine reg_take 15 rfl (by kernel_rfl) (by kernel_rfl) (by kernel_rfl) (fun _ _ _ h => h) (by rfl) (fun w _ => by first | (go_simp; done) | (go_simp; with_reducible rfl)) (by assumption) ?_
            try simp only [Act.put, List.setIfInBounds_toArray, List.set_cons_zero, List.set_cons_succ, List.getElem_toArray, List.getElem_cons_zero, List.getElem_cons_succ]
            refine wpAnyH_ready (rs := [16]) (by kernel_rfl) (by simp) ?_
            refine AllReadyH.cons (i := 16) rfl (fun K hK => ?_) AllReadyH.nil
            go_simp
            refine hK.out _ _ ⟨keepA ya0, keepA ya1, keepA yc0, keepA yc1⟩ (fun hH16 => ?_)
            clear hK K
            try simp only [Act.put, List.setIfInBounds_toArray, List.set_cons_zero, List.set_cons_succ, List.getElem_toArray, List.getElem_cons_zero, List.getElem_cons_succ]
            refine wpAnyH_ready (rs := [17]) (by kernel_rfl) (by simp) ?_
            refine AllReadyH.cons (i := 17) rfl (fun K hK => ?_) AllReadyH.nil
            go_simp
            refine hK.out _ _ ⟨keepA ya0, keepA ya1, keepA yc0, keepA yc1⟩ (fun hH17 => ?_)
            clear hK K
            try simp only [Act.put, List.setIfInBounds_toArray, List.set_cons_zero, List.set_cons_succ, List.getElem_toArray, List.getElem_cons_zero, List.getElem_cons_succ]
            refine reg_take 18 rfl (by kernel_rfl) (by kernel_rfl) (by kernel_rfl) (fun _ _ _ h => h) (by rfl) (fun w _ => by first | (go_simp; done) | (go_simp; with_reducible rfl)) (by assumption) ?_
            try simp only [Act.put, List.setIfInBounds_toArray, List.set_cons_zero, List.set_cons_succ, List.getElem_toArray, List.getElem_cons_zero, List.getElem_cons_succ]
            refine wpAnyH_done (by kernel_rfl) ?_ _
            obtain ⟨W, hW⟩ : ∃ W, W = (w4.alloc (.cells #[.int .i64 (min x y), .int .i64 (max x y)] 30)) := ⟨_, rfl⟩
            obtain ⟨gT, hgT⟩ : ∃ gT, gT = w4.heap.size := ⟨_, rfl⟩
            have e2 := keepA (o := .cells #[.int .i64 (min x y), .int .i64 (max x y)] 30) ya2
            have bb0 := keepA (o := .cells #[.int .i64 (min x y), .int .i64 (max x y)] 30) yb0
            have bb1 := keepA (o := .cells #[.int .i64 (min x y), .int .i64 (max x y)] 30) yb1
            have dd0 := keepA (o := .cells #[.int .i64 (min x y), .int .i64 (max x y)] 30) yd0
            have dd1 := keepA (o := .cells #[.int .i64 (min x y), .int .i64 (max x y)] 30) yd1
            have T0 : (w4.alloc (.cells #[.int .i64 (min x y), .int .i64 (max x y)] 30)).cell? ⟨w4.heap.size, 0, none⟩ = some (.int .i64 (min x y)) := by simp
            have T1 : (w4.alloc (.cells #[.int .i64 (min x y), .int .i64 (max x y)] 30)).cell? ⟨w4.heap.size, 1, none⟩ = some (.int .i64 (max x y)) := by simp
            have HbW := Lib.hid (HbV.out.alloc (o := .cells #[.int .i64 (min x y), .int .i64 (max x y)] 30) hz4)
            have HoW := Lib.hid (HoV.out.alloc (.cells #[.int .i64 (min x y), .int .i64 (max x y)] 30))
            rw [← hW] at e2 bb0 bb1 dd0 dd1 T0 T1 HbW HoW
            rw [← hgT] at T0 T1
            clear ya0 ya1 ya2 yb0 yb1 yc0 yc1 yd0 yd1 a0 a1 a2 b0 b1 c0 c1 d0 d1
            rw [← hW, ← hgT]
            have hgW : gT < W.heap.size := block_lt T0
            clear hW hgT
            go_wp2_with fail
            by_cases hk0 : 0 < k
            · have qk : decide (0 < k) = true := decide_eq_true hk0
              by_cases hr2 : r ≤ 1
              · have qr : decide (r ≤ 1) = true := decide_eq_true hr2
                by_cases hab : b < a
                · have qab : decide (b < a) = true := decide_eq_true hab
                  have hst2 : armS (decide (b < a)) k r = 1 - r := by unfold armS; rw [qab, qk, decide_eq_true (show r < 2 by omega)]; rfl
                  have hst3 := Hst.out
                  rw [hst2] at hst3
                  have Hst3 := Lib.hid hst3
                  clear hst2 hst3
                  go_quiet (fail)
                  obtain ⟨v1, hv1⟩ : ∃ v1, v1 = W.drewN nq := ⟨_, rfl⟩
                  have T0v : v1.cell? ⟨gT, 0, none⟩ = some (.int .i64 (min x y)) := by rw [hv1]; exact T0
                  have T1v : v1.cell? ⟨gT, 1, none⟩ = some (.int .i64 (max x y)) := by rw [hv1]; exact T1
                  have hgv : gT < v1.heap.size := block_lt T0v
                  have Hbv1 := Lib.hid (show Below w2.heap.size w2 v1 from by rw [hv1]; exact belowN HbW.out _)
                  have Hov1 := Lib.hid (show v1.ownsRow w2.heap.size 32 3 (.slice A2 T.length c2) T.length (cellsP T) from by rw [hv1]; exact HoW.out)
                  have Hoa := Lib.hid (Hov1.out.alloc (.cells #[.int .i64 (min x y), .int .i64 (max x y), .int .i64 (1 - r)] 32))
                  have hsz1 := Hbv1.out.size
                  rw [← hv1]
                  clear hv1 T0 T1 e2 bb0 bb1 dd0 dd1
                  go_wp2_with (refine wp_append_P rfl (.tmp 71) (.tmp 75) rfl w2.heap.size (.slice A2 T.length c2) T rfl Hoa.out (min x y) (max x y) (1 - r) v1.heap.size rfl (by simp) (by simp) (by simp) (by have := hln.out; omega) (by rw [World.size_alloc]; omega) ?_; intro A3 c3 w6 hown6 hg6)
                  go_roundw
                  case rel =>
                    refine ⟨k + 1, A3, c3, by omega, by go_num, by rw [Hst3.out, List.length_append]; rfl, ?_, ?_⟩
                    · rw [Hst3.out, List.length_append]; exact hown6
                    · exact Below.grown (Hbv1.out.alloc hsz1 _) hg6 (by simp; omega) (fun g hg => (hlo.out g hg).1)
                  case measure => simp [intOf]; omega
                · have qab : decide (b < a) = false := decide_eq_false hab
                  have hst2 : armS (decide (b < a)) k r = r := by unfold armS; rw [qab]; rfl
                  have hst3 := Hst.out
                  rw [hst2] at hst3
                  have Hst3 := Lib.hid hst3
                  clear hst2 hst3
                  go_quiet (fail)
                  obtain ⟨v1, hv1⟩ : ∃ v1, v1 = W.drewN nq := ⟨_, rfl⟩
                  have T0v : v1.cell? ⟨gT, 0, none⟩ = some (.int .i64 (min x y)) := by rw [hv1]; exact T0
                  have T1v : v1.cell? ⟨gT, 1, none⟩ = some (.int .i64 (max x y)) := by rw [hv1]; exact T1
                  have hgv : gT < v1.heap.size := block_lt T0v
                  have Hbv1 := Lib.hid (show Below w2.heap.size w2 v1 from by rw [hv1]; exact belowN HbW.out _)
                  have Hov1 := Lib.hid (show v1.ownsRow w2.heap.size 32 3 (.slice A2 T.length c2) T.length (cellsP T) from by rw [hv1]; exact HoW.out)
                  have Hoa := Lib.hid (Hov1.out.alloc (.cells #[.int .i64 (min x y), .int .i64 (max x y), .int .i64 (r)] 32))
                  have hsz1 := Hbv1.out.size
                  rw [← hv1]
                  clear hv1 T0 T1 e2 bb0 bb1 dd0 dd1
                  go_wp2_with (refine wp_append_P rfl (.tmp 71) (.tmp 75) rfl w2.heap.size (.slice A2 T.length c2) T rfl Hoa.out (min x y) (max x y) (r) v1.heap.size rfl (by simp) (by simp) (by simp) (by have := hln.out; omega) (by rw [World.size_alloc]; omega) ?_; intro A3 c3 w6 hown6 hg6)
                  go_roundw
                  case rel =>
                    refine ⟨k + 1, A3, c3, by omega, by go_num, by rw [Hst3.out, List.length_append]; rfl, ?_, ?_⟩
                    · rw [Hst3.out, List.length_append]; exact hown6
                    · exact Below.grown (Hbv1.out.alloc hsz1 _) hg6 (by simp; omega) (fun g hg => (hlo.out g hg).1)
                  case measure => simp [intOf]; omega
              · have qr : decide (r ≤ 1) = false := decide_eq_false hr2
                have hst2 : armS (decide (b < a)) k r = r := by unfold armS; rw [decide_eq_false (show ¬ r < 2 by omega), Bool.and_false, Bool.and_false]; rfl
                have hst3 := Hst.out
                rw [hst2] at hst3
                have Hst3 := Lib.hid hst3
                clear hst2 hst3
                go_quiet (fail)
                obtain ⟨v1, hv1⟩ : ∃ v1, v1 = W.drewN nq := ⟨_, rfl⟩
                have T0v : v1.cell? ⟨gT, 0, none⟩ = some (.int .i64 (min x y)) := by rw [hv1]; exact T0
                have T1v : v1.cell? ⟨gT, 1, none⟩ = some (.int .i64 (max x y)) := by rw [hv1]; exact T1
                have hgv : gT < v1.heap.size := block_lt T0v
                have Hbv1 := Lib.hid (show Below w2.heap.size w2 v1 from by rw [hv1]; exact belowN HbW.out _)
                have Hov1 := Lib.hid (show v1.ownsRow w2.heap.size 32 3 (.slice A2 T.length c2) T.length (cellsP T) from by rw [hv1]; exact HoW.out)
                have Hoa := Lib.hid (Hov1.out.alloc (.cells #[.int .i64 (min x y), .int .i64 (max x y), .int .i64 (r)] 32))
                have hsz1 := Hbv1.out.size
                rw [← hv1]
                clear hv1 T0 T1 e2 bb0 bb1 dd0 dd1
                go_wp2_with (refine wp_append_P rfl (.tmp 71) (.tmp 75) rfl w2.heap.size (.slice A2 T.length c2) T rfl Hoa.out (min x y) (max x y) (r) v1.heap.size rfl (by simp) (by simp) (by simp) (by have := hln.out; omega) (by rw [World.size_alloc]; omega) ?_; intro A3 c3 w6 hown6 hg6)
                go_roundw
                case rel =>
                  refine ⟨k + 1, A3, c3, by omega, by go_num, by rw [Hst3.out, List.length_append]; rfl, ?_, ?_⟩
                  · rw [Hst3.out, List.length_append]; exact hown6
                  · exact Below.grown (Hbv1.out.alloc hsz1 _) hg6 (by simp; omega) (fun g hg => (hlo.out g hg).1)
                case measure => simp [intOf]; omega
            · have qk : decide (0 < k) = false := decide_eq_false hk0
              have hst2 : armS (decide (b < a)) k r = r := by unfold armS; rw [qk, Bool.false_and, Bool.and_false]; rfl
              have hst3 := Hst.out
              rw [hst2] at hst3
              have Hst3 := Lib.hid hst3
              clear hst2 hst3
              go_quiet (fail)
              obtain ⟨v1, hv1⟩ : ∃ v1, v1 = W.drewN nq := ⟨_, rfl⟩
              have T0v : v1.cell? ⟨gT, 0, none⟩ = some (.int .i64 (min x y)) := by rw [hv1]; exact T0
              have T1v : v1.cell? ⟨gT, 1, none⟩ = some (.int .i64 (max x y)) := by rw [hv1]; exact T1
              have hgv : gT < v1.heap.size := block_lt T0v
              have Hbv1 := Lib.hid (show Below w2.heap.size w2 v1 from by rw [hv1]; exact belowN HbW.out _)
              have Hov1 := Lib.hid (show v1.ownsRow w2.heap.size 32 3 (.slice A2 T.length c2) T.length (cellsP T) from by rw [hv1]; exact HoW.out)
              have Hoa := Lib.hid (Hov1.out.alloc (.cells #[.int .i64 (min x y), .int .i64 (max x y), .int .i64 (r)] 32))
              have hsz1 := Hbv1.out.size
              rw [← hv1]
              clear hv1 T0 T1 e2 bb0 bb1 dd0 dd1
              go_wp2_with (refine wp_append_P rfl (.tmp 71) (.tmp 75) rfl w2.heap.size (.slice A2 T.length c2) T rfl Hoa.out (min x y) (max x y) (r) v1.heap.size rfl (by simp) (by simp) (by simp) (by have := hln.out; omega) (by rw [World.size_alloc]; omega) ?_; intro A3 c3 w6 hown6 hg6)
              go_roundw
              case rel =>
                refine ⟨k + 1, A3, c3, by omega, by go_num, by rw [Hst3.out, List.length_append]; rfl, ?_, ?_⟩
                · rw [Hst3.out, List.length_append]; exact hown6
                · exact Below.grown (Hbv1.out.alloc hsz1 _) hg6 (by simp; omega) (fun g hg => (hlo.out g hg).1)
              case measure => simp [intOf]; omega
          · skip
            go_simp
            have sa0 := keepA (o := .cells #[.int .i64 0, .int .i64 0] 30) (g1d _ a0)
            have sa1 := keepA (o := .cells #[.int .i64 0, .int .i64 0] 30) (g1d _ a1)
            have sa2 := keepA (o := .cells #[.int .i64 0, .int .i64 0] 30) (g1d _ a2)
            have sb0 := keepA (o := .cells #[.int .i64 0, .int .i64 0] 30) (g1d _ b0)
            have sb1 := keepA (o := .cells #[.int .i64 0, .int .i64 0] 30) (g1d _ b1)
            have sc0 := keepA (o := .cells #[.int .i64 0, .int .i64 0] 30) (g1d _ c0)
            have sc1 := keepA (o := .cells #[.int .i64 0, .int .i64 0] 30) (g1d _ c1)
            have sd0 := keepA (o := .cells #[.int .i64 0, .int .i64 0] 30) (g1d _ d0)
            have sd1 := keepA (o := .cells #[.int .i64 0, .int .i64 0] 30) (g1d _ d1)
            have qq0 : ∀ u : World, (u.alloc (.cells #[.int .i64 0, .int .i64 0] 30)).cell? ⟨u.heap.size, 0, none⟩ = some (.int .i64 0) := fun u => by simp
            have qq1 : ∀ u : World, (u.alloc (.cells #[.int .i64 0, .int .i64 0] 30)).cell? ⟨u.heap.size, 1, none⟩ = some (.int .i64 0) := fun u => by simp
            have q0 := qq0 wv.drew
            have q1 := qq1 wv.drew
            have hsd : wv.drew.heap.size = G + 2 := hsv
            have f0 := frozen_freshR wv.drew #[.int .i64 0, .int .i64 0] 30 0
            have f1 := frozen_freshR wv.drew #[.int .i64 0, .int .i64 0] 30 1
            rw [hsd] at q0 q1 f0 f1
            refine hK.out _ _ ⟨sa0, sa1, sc0, sc1⟩ (fun hH16 => ?_)
            clear hK K
            try simp only [Act.put, List.setIfInBounds_toArray, List.set_cons_zero, List.set_cons_succ, List.getElem_toArray, List.getElem_cons_zero, List.getElem_cons_succ]
            refine wpAnyH_ready (rs := [12]) (by kernel_rfl) (by simp) ?_
            refine AllReadyH.cons (i := 12) rfl (fun K hK => ?_) AllReadyH.nil
            go_simp
            go_at_call 74
            refine (conT.out _).mono ?_
            rintro e w4 ⟨rfl, hb4⟩
            have ya0 := keepc hb4 sa0
            have ya1 := keepc hb4 sa1
            have ya2 := keepc hb4 sa2
            have yb0 := keepc hb4 sb0
            have yb1 := keepc hb4 sb1
            have yc0 := keepc hb4 sc0
            have yc1 := keepc hb4 sc1
            have yd0 := keepc hb4 sd0
            have yd1 := keepc hb4 sd1
            have Q0 : w4.cell? ⟨G + 2, 0, none⟩ = some (.int .i64 0) := keepc hb4 q0
            have Q1 : w4.cell? ⟨G + 2, 1, none⟩ = some (.int .i64 0) := keepc hb4 q1
            have F0 : w4.frozen? ⟨G + 2, 0, none⟩ = false := (hb4.frozen (p := ⟨G + 2, 0, none⟩) (block_lt q0)).trans f0
            have F1 : w4.frozen? ⟨G + 2, 1, none⟩ = false := (hb4.frozen (p := ⟨G + 2, 1, none⟩) (block_lt q1)).trans f1
            have HbV := Lib.hid (bstep (Hbv.out.drew.alloc (o := .cells #[.int .i64 0, .int .i64 0] 30) (show w2.heap.size ≤ wv.drew.heap.size from Hbv.out.size)) hb4)
            have HoV := Lib.hid (own_keep ((own_drew Hov.out).alloc (.cells #[.int .i64 0, .int .i64 0] 30)) hb4)
            have N1 : G ≠ G + 2 := by omega
            have N2 : G + 1 ≠ G + 2 := by omega
            have N3 : bn ≠ G + 2 := by omega
            refine hK.out _ _ ⟨ya0, ya1, yc0, yc1⟩ (fun hH12 => ?_)
            clear hK K
            try simp only [Act.put, List.setIfInBounds_toArray, List.set_cons_zero, List.set_cons_succ, List.getElem_toArray, List.getElem_cons_zero, List.getElem_cons_succ]
            refine reg_take 13 rfl (by kernel_rfl) (by kernel_rfl) (by kernel_rfl) (fun _ _ _ h => h) (by rfl) (fun w _ => by first | (go_simp; done) | (go_simp; with_reducible rfl)) (by assumption) ?_
            try simp only [Act.put, List.setIfInBounds_toArray, List.set_cons_zero, List.set_cons_succ, List.getElem_toArray, List.getElem_cons_zero, List.getElem_cons_succ]
            refine reg_take 14 rfl (by kernel_rfl) (by kernel_rfl) (by kernel_rfl) (fun _ _ _ h => h) (by rfl) (fun w _ => by first | (go_simp; done) | (go_simp; with_reducible rfl)) (by assumption) ?_
            try simp only [Act.put, List.setIfInBounds_toArray, List.set_cons_zero, List.set_cons_succ, List.getElem_toArray, List.getElem_cons_zero, List.getElem_cons_succ]
            refine reg_take 15 rfl (by kernel_rfl) (by kernel_rfl) (by kernel_rfl) (fun _ _ _ h => h) (by rfl) (fun w _ => by first | (go_simp; done) | (go_simp; with_reducible rfl)) (by assumption) ?_
            try simp only [Act.put, List.setIfInBounds_toArray, List.set_cons_zero, List.set_cons_succ, List.getElem_toArray, List.getElem_cons_zero, List.getElem_cons_succ]
            refine wpAnyH_ready (rs := [17]) (by kernel_rfl) (by simp) ?_
            refine AllReadyH.cons (i := 17) rfl (fun K hK => ?_) AllReadyH.nil
            go_simp
            refine hK.out _ _ ⟨farR N1 (farR N1 ya0), farR N1 (farR N1 ya1), farR N3 (farR N3 yc0), farR N3 (farR N3 yc1)⟩ (fun hH17 => ?_)
            clear hK K
            try simp only [Act.put, List.setIfInBounds_toArray, List.set_cons_zero, List.set_cons_succ, List.getElem_toArray, List.getElem_cons_zero, List.getElem_cons_succ]
            refine reg_take 18 rfl (by kernel_rfl) (by kernel_rfl) (by kernel_rfl) (fun _ _ _ h => h) (by rfl) (fun w _ => by first | (go_simp; done) | (go_simp; with_reducible rfl)) (by assumption) ?_
            try simp only [Act.put, List.setIfInBounds_toArray, List.set_cons_zero, List.set_cons_succ, List.getElem_toArray, List.getElem_cons_zero, List.getElem_cons_succ]
            refine wpAnyH_done (by kernel_rfl) ?_ _
            obtain ⟨W, hW⟩ : ∃ W, W = ((w4.setCell ⟨G + 2, 0, none⟩ (.int .i64 (min x y))).setCell ⟨G + 2, 1, none⟩ (.int .i64 (max x y))) := ⟨_, rfl⟩
            obtain ⟨gT, hgT⟩ : ∃ gT, gT = G + 2 := ⟨_, rfl⟩
            have e2 := farR (i := 1) (u := .int .i64 (max x y)) N1 (farR (i := 0) (u := .int .i64 (min x y)) N1 ya2)
            have bb0 := farR (i := 1) (u := .int .i64 (max x y)) N2 (farR (i := 0) (u := .int .i64 (min x y)) N2 yb0)
            have bb1 := farR (i := 1) (u := .int .i64 (max x y)) N2 (farR (i := 0) (u := .int .i64 (min x y)) N2 yb1)
            have dd0 := farR (i := 1) (u := .int .i64 (max x y)) N3 (farR (i := 0) (u := .int .i64 (min x y)) N3 yd0)
            have dd1 := farR (i := 1) (u := .int .i64 (max x y)) N3 (farR (i := 0) (u := .int .i64 (min x y)) N3 yd1)
            have T0 : ((w4.setCell ⟨G + 2, 0, none⟩ (.int .i64 (min x y))).setCell ⟨G + 2, 1, none⟩ (.int .i64 (max x y))).cell? ⟨G + 2, 0, none⟩ = some (.int .i64 (min x y)) := (World.cell?_setCell_other _ _ _ _ (by simp)).trans (World.cell?_setCell_same _ _ _ Q0)
            have T1 : ((w4.setCell ⟨G + 2, 0, none⟩ (.int .i64 (min x y))).setCell ⟨G + 2, 1, none⟩ (.int .i64 (max x y))).cell? ⟨G + 2, 1, none⟩ = some (.int .i64 (max x y)) := World.cell?_setCell_same _ _ _ ((World.cell?_setCell_other _ _ _ _ (by simp)).trans Q1)
            have hz2 : w2.heap.size ≤ G + 2 := by omega
            have HbW := Lib.hid ((HbV.out.setCell (p := ⟨G + 2, 0, none⟩) hz2 (.int .i64 (min x y))).setCell (p := ⟨G + 2, 1, none⟩) hz2 (.int .i64 (max x y)))
            have hne : ∀ j, (Value.slice A2 T.length c2).ownBlock ≠ some (⟨G + 2, j, none⟩ : Addr).block := fun j e => by have := (hlo.out _ e).2; simp only at this; omega
            have HoW := Lib.hid (ownsRow_setCell_other (ownsRow_setCell_other HoV.out (a := ⟨G + 2, 0, none⟩) (hne 0) (.int .i64 (min x y))) (a := ⟨G + 2, 1, none⟩) (hne 1) (.int .i64 (max x y)))
            rw [← hW] at e2 bb0 bb1 dd0 dd1 T0 T1 HbW HoW
            rw [← hgT] at T0 T1
            clear ya0 sa0 a0 ya1 sa1 a1 ya2 sa2 a2 yb0 sb0 b0 yb1 sb1 b1 yc0 sc0 c0 yc1 sc1 c1 yd0 sd0 d0 yd1 sd1 d1 q0 q1 f0 f1 Q0 Q1 F0 F1
            rw [← hW, ← hgT]
            have hgW : gT < W.heap.size := block_lt T0
            clear hW hgT
            go_wp2_with fail
            by_cases hk0 : 0 < k
            · have qk : decide (0 < k) = true := decide_eq_true hk0
              by_cases hr2 : r ≤ 1
              · have qr : decide (r ≤ 1) = true := decide_eq_true hr2
                by_cases hab : b < a
                · have qab : decide (b < a) = true := decide_eq_true hab
                  have hst2 : armS (decide (b < a)) k r = 1 - r := by unfold armS; rw [qab, qk, decide_eq_true (show r < 2 by omega)]; rfl
                  have hst3 := Hst.out
                  rw [hst2] at hst3
                  have Hst3 := Lib.hid hst3
                  clear hst2 hst3
                  go_quiet (fail)
                  obtain ⟨v1, hv1⟩ : ∃ v1, v1 = W.drewN nq := ⟨_, rfl⟩
                  have T0v : v1.cell? ⟨gT, 0, none⟩ = some (.int .i64 (min x y)) := by rw [hv1]; exact T0
                  have T1v : v1.cell? ⟨gT, 1, none⟩ = some (.int .i64 (max x y)) := by rw [hv1]; exact T1
                  have hgv : gT < v1.heap.size := block_lt T0v
                  have Hbv1 := Lib.hid (show Below w2.heap.size w2 v1 from by rw [hv1]; exact belowN HbW.out _)
                  have Hov1 := Lib.hid (show v1.ownsRow w2.heap.size 32 3 (.slice A2 T.length c2) T.length (cellsP T) from by rw [hv1]; exact HoW.out)
                  have Hoa := Lib.hid (Hov1.out.alloc (.cells #[.int .i64 (min x y), .int .i64 (max x y), .int .i64 (1 - r)] 32))
                  have hsz1 := Hbv1.out.size
                  rw [← hv1]
                  clear hv1 T0 T1 e2 bb0 bb1 dd0 dd1
                  go_wp2_with (refine wp_append_P rfl (.tmp 71) (.tmp 75) rfl w2.heap.size (.slice A2 T.length c2) T rfl Hoa.out (min x y) (max x y) (1 - r) v1.heap.size rfl (by simp) (by simp) (by simp) (by have := hln.out; omega) (by rw [World.size_alloc]; omega) ?_; intro A3 c3 w6 hown6 hg6)
                  go_roundw
                  case rel =>
                    refine ⟨k + 1, A3, c3, by omega, by go_num, by rw [Hst3.out, List.length_append]; rfl, ?_, ?_⟩
                    · rw [Hst3.out, List.length_append]; exact hown6
                    · exact Below.grown (Hbv1.out.alloc hsz1 _) hg6 (by simp; omega) (fun g hg => (hlo.out g hg).1)
                  case measure => simp [intOf]; omega
                · have qab : decide (b < a) = false := decide_eq_false hab
                  have hst2 : armS (decide (b < a)) k r = r := by unfold armS; rw [qab]; rfl
                  have hst3 := Hst.out
                  rw [hst2] at hst3
                  have Hst3 := Lib.hid hst3
                  clear hst2 hst3
                  go_quiet (fail)
                  obtain ⟨v1, hv1⟩ : ∃ v1, v1 = W.drewN nq := ⟨_, rfl⟩
                  have T0v : v1.cell? ⟨gT, 0, none⟩ = some (.int .i64 (min x y)) := by rw [hv1]; exact T0
                  have T1v : v1.cell? ⟨gT, 1, none⟩ = some (.int .i64 (max x y)) := by rw [hv1]; exact T1
                  have hgv : gT < v1.heap.size := block_lt T0v
                  have Hbv1 := Lib.hid (show Below w2.heap.size w2 v1 from by rw [hv1]; exact belowN HbW.out _)
                  have Hov1 := Lib.hid (show v1.ownsRow w2.heap.size 32 3 (.slice A2 T.length c2) T.length (cellsP T) from by rw [hv1]; exact HoW.out)
                  have Hoa := Lib.hid (Hov1.out.alloc (.cells #[.int .i64 (min x y), .int .i64 (max x y), .int .i64 (r)] 32))
                  have hsz1 := Hbv1.out.size
                  rw [← hv1]
                  clear hv1 T0 T1 e2 bb0 bb1 dd0 dd1
                  go_wp2_with (refine wp_append_P rfl (.tmp 71) (.tmp 75) rfl w2.heap.size (.slice A2 T.length c2) T rfl Hoa.out (min x y) (max x y) (r) v1.heap.size rfl (by simp) (by simp) (by simp) (by have := hln.out; omega) (by rw [World.size_alloc]; omega) ?_; intro A3 c3 w6 hown6 hg6)
                  go_roundw
                  case rel =>
                    refine ⟨k + 1, A3, c3, by omega, by go_num, by rw [Hst3.out, List.length_append]; rfl, ?_, ?_⟩
                    · rw [Hst3.out, List.length_append]; exact hown6
                    · exact Below.grown (Hbv1.out.alloc hsz1 _) hg6 (by simp; omega) (fun g hg => (hlo.out g hg).1)
                  case measure => simp [intOf]; omega
              · have qr : decide (r ≤ 1) = false := decide_eq_false hr2
                have hst2 : armS (decide (b < a)) k r = r := by unfold armS; rw [decide_eq_false (show ¬ r < 2 by omega), Bool.and_false, Bool.and_false]; rfl
                have hst3 := Hst.out
                rw [hst2] at hst3
                have Hst3 := Lib.hid hst3
                clear hst2 hst3
                go_quiet (fail)
                obtain ⟨v1, hv1⟩ : ∃ v1, v1 = W.drewN nq := ⟨_, rfl⟩
                have T0v : v1.cell? ⟨gT, 0, none⟩ = some (.int .i64 (min x y)) := by rw [hv1]; exact T0
                have T1v : v1.cell? ⟨gT, 1, none⟩ = some (.int .i64 (max x y)) := by rw [hv1]; exact T1
                have hgv : gT < v1.heap.size := block_lt T0v
                have Hbv1 := Lib.hid (show Below w2.heap.size w2 v1 from by rw [hv1]; exact belowN HbW.out _)
                have Hov1 := Lib.hid (show v1.ownsRow w2.heap.size 32 3 (.slice A2 T.length c2) T.length (cellsP T) from by rw [hv1]; exact HoW.out)
                have Hoa := Lib.hid (Hov1.out.alloc (.cells #[.int .i64 (min x y), .int .i64 (max x y), .int .i64 (r)] 32))
                have hsz1 := Hbv1.out.size
                rw [← hv1]
                clear hv1 T0 T1 e2 bb0 bb1 dd0 dd1
                go_wp2_with (refine wp_append_P rfl (.tmp 71) (.tmp 75) rfl w2.heap.size (.slice A2 T.length c2) T rfl Hoa.out (min x y) (max x y) (r) v1.heap.size rfl (by simp) (by simp) (by simp) (by have := hln.out; omega) (by rw [World.size_alloc]; omega) ?_; intro A3 c3 w6 hown6 hg6)
                go_roundw
                case rel =>
                  refine ⟨k + 1, A3, c3, by omega, by go_num, by rw [Hst3.out, List.length_append]; rfl, ?_, ?_⟩
                  · rw [Hst3.out, List.length_append]; exact hown6
                  · exact Below.grown (Hbv1.out.alloc hsz1 _) hg6 (by simp; omega) (fun g hg => (hlo.out g hg).1)
                case measure => simp [intOf]; omega
            · have qk : decide (0 < k) = false := decide_eq_false hk0
              have hst2 : armS (decide (b < a)) k r = r := by unfold armS; rw [qk, Bool.false_and, Bool.and_false]; rfl
              have hst3 := Hst.out
              rw [hst2] at hst3
              have Hst3 := Lib.hid hst3
              clear hst2 hst3
              go_quiet (fail)
              obtain ⟨v1, hv1⟩ : ∃ v1, v1 = W.drewN nq := ⟨_, rfl⟩
              have T0v : v1.cell? ⟨gT, 0, none⟩ = some (.int .i64 (min x y)) := by rw [hv1]; exact T0
              have T1v : v1.cell? ⟨gT, 1, none⟩ = some (.int .i64 (max x y)) := by rw [hv1]; exact T1
              have hgv : gT < v1.heap.size := block_lt T0v
              have Hbv1 := Lib.hid (show Below w2.heap.size w2 v1 from by rw [hv1]; exact belowN HbW.out _)
              have Hov1 := Lib.hid (show v1.ownsRow w2.heap.size 32 3 (.slice A2 T.length c2) T.length (cellsP T) from by rw [hv1]; exact HoW.out)
              have Hoa := Lib.hid (Hov1.out.alloc (.cells #[.int .i64 (min x y), .int .i64 (max x y), .int .i64 (r)] 32))
              have hsz1 := Hbv1.out.size
              rw [← hv1]
              clear hv1 T0 T1 e2 bb0 bb1 dd0 dd1
              go_wp2_with (refine wp_append_P rfl (.tmp 71) (.tmp 75) rfl w2.heap.size (.slice A2 T.length c2) T rfl Hoa.out (min x y) (max x y) (r) v1.heap.size rfl (by simp) (by simp) (by simp) (by have := hln.out; omega) (by rw [World.size_alloc]; omega) ?_; intro A3 c3 w6 hown6 hg6)
              go_roundw
              case rel =>
                refine ⟨k + 1, A3, c3, by omega, by go_num, by rw [Hst3.out, List.length_append]; rfl, ?_, ?_⟩
                · rw [Hst3.out, List.length_append]; exact hown6
                · exact Below.grown (Hbv1.out.alloc hsz1 _) hg6 (by simp; omega) (fun g hg => (hlo.out g hg).1)
              case measure => simp [intOf]; omega
        · obtain rfl : k = ps.length := by omega
          have Ho := Lib.hid ho
          clear hpl
          go_wp2
          go_ret2
          exact ⟨A2, c2, rfl, own_base Ho.out Hb2.out.size, hbw⟩
end Go.Proofs.Ytnnkdnleencofab

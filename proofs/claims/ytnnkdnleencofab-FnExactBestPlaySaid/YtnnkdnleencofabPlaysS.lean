/- The plays of a hand that fit: the specification's. -/
import Derived.Test.YtnnkdnleencofabLyCp
import Derived.Test.YtnnkdnleencofabPlaysI
namespace Go.Proofs.Ytnnkdnleencofab
open Go.RowKit
set_option linter.unusedVariables false

set_option maxRecDepth 100000 in
set_option maxHeartbeats 2000000 in
theorem c_lyFor (base g : Nat) (S : SSt) (B : Brd) (T : Option Addr) (m : Nat) (ts : List (Int × Int)) (w : World) (h : StAt base w g S) (hR : Rel B S) (ht : RdT w T ts) (hl : ts.length ≤ 1048576) :
    Calls Try.prog 55 #[.pointer (some ⟨g, 0, none⟩), .slice T ts.length m] w (RetPL w (playsL B (sortL ts))) := by
  have conS := Lib.hid (c_tiSort T m ts w ht hl)
  have hla : S.arms.length ≤ 4 := by rw [hR.arms]; exact hR.four.1
  have hlt : S.tiles.length ≤ 28 := by rw [hR.tiles, List.length_map]; exact hR.len
  have h4 : B.arms.length ≤ 4 := hR.four.1
  have hus := sortL_len ts
  generalize sortL ts = us at conS hus ⊢
  obtain ⟨A, c, BB, d, hv⟩ := h
  have k0 := hv.c0
  rw [hR.arms] at k0
  have conC := Lib.hid (fun W (hb : Below w.heap.size w W) => c_lyCopy base g S W ⟨A, c, BB, d, hv.keep hb⟩ hla hlt)
  have HR := Lib.hid hR
  have hN := armN_le h4
  have hfl := Lib.hid (fun k (h : k ≤ us.length) => forTo_len h4 us k h)
  have hNl : (B.arms.length = 0 ∧ armN B = 1) ∨ (B.arms.length ≠ 0 ∧ armN B = B.arms.length) := by
    unfold armN
    by_cases h0 : B.arms.length = 0 <;> simp [h0]
  obtain ⟨N, hNe⟩ : ∃ N, armN B = N := ⟨_, rfl⟩
  rw [hNe] at hN hNl
  have HNe := Lib.hid hNe
  clear hR hv ht hl hla hlt hNe h4
  go_enter Try.func55, Try.ntmps55
  go_wp2_with (go_at_call 98; refine conS.out.mono ?_; rintro e w0 ⟨T1, m1, rfl, ht1, hb0⟩; have Ht0 := Lib.hid (RdT.of_own ht1); have g0c := keepc hb0 k0; clear ht1)
  have hz0 := hb0.size
  have Hb0 := Lib.hid hb0
  clear hb0 k0
  go_loopw [5, 13] (fun o i wr => ∃ (k : Nat) (A2 : Option Addr) (c2 : Nat), k ≤ us.length ∧ i = .int .i64 k ∧ o = .slice A2 (forTo B us k).length c2 ∧ wr.ownsRow w0.heap.size 32 3 (.slice A2 (forTo B us k).length c2) (forTo B us k).length (cellsP (forTo B us k)) ∧ Below w0.heap.size w0 wr) (fun _ i _ => us.length - (intOf i).toNat)
  case atStart => exact ⟨0, none, 0, Nat.zero_le _, rfl, by simp [forTo_zero], World.ownsRow_nil _ _ _ _, Below.refl _ _⟩
  case round =>
    obtain ⟨k, A2, c2, hk, rfl, rfl, ho, hb⟩ := hrel
    by_cases hltk : k < us.length
    · obtain ⟨bk, off, rfl, hbk, hc⟩ := Ht0.out.at_ hltk
      have g0 := (hb.cell (p := ⟨bk, _, none⟩) hbk).trans (hc k hltk).1
      have g1 := (hb.cell (p := ⟨bk, _, none⟩) hbk).trans (hc k hltk).2
      have Hst := Lib.hid (forTo_succ (B := B) hltk)
      have hlen := hfl.out k hk
      clear hc
      obtain ⟨t, hte⟩ : ∃ t, us[k] = t := ⟨_, rfl⟩
      rw [hte] at g0 g1 Hst
      obtain ⟨x, y⟩ := t
      simp only at g0 g1
      clear hte
      go_wp2
      obtain ⟨w1, hw1⟩ : ∃ w1, w1 = wr.alloc (.cells #[.int .i64 x, .int .i64 y] 30) := ⟨_, rfl⟩
      rw [← hw1]
      have hT1 : w1.heap[wr.heap.size]? = some (.cells #[.int .i64 x, .int .i64 y] 30 (0, 0)) := by rw [hw1]; exact heap_alloc _ _
      have hbA : Below wr.heap.size wr w1 := by rw [hw1]; exact (Below.refl _ _).alloc (Nat.le_refl _) _
      have ho1 := own_keep ho hbA
      have hb1 := bstep hb hbA
      obtain ⟨tb, htb⟩ : ∃ tb, tb = wr.heap.size := ⟨_, rfl⟩
      rw [← htb] at hT1 ⊢
      clear hw1 ho hb hbA g0 g1 hbk htb
      go_loopw [5, 8] (fun o i w2 => ∃ (j : Nat) (A3 : Option Addr) (c3 : Nat), j ≤ N ∧ i = .int .i64 j ∧ o = .slice A3 (forTo B us k ++ rowP B (x, y) j).length c3 ∧ w2.ownsRow w0.heap.size 32 3 (.slice A3 (forTo B us k ++ rowP B (x, y) j).length c3) (forTo B us k ++ rowP B (x, y) j).length (cellsP (forTo B us k ++ rowP B (x, y) j)) ∧ Below w0.heap.size w0 w2 ∧ w2.heap[tb]? = some (.cells #[.int .i64 x, .int .i64 y] 30 (0, 0))) (fun _ i _ => N - (intOf i).toNat)
      case atStart => exact ⟨0, A2, c2, Nat.zero_le _, rfl, by rw [rowP_zero, List.append_nil], by rw [rowP_zero, List.append_nil]; exact ho1, hb1, hT1⟩
      case round =>
        clear ho1 hb1 hT1
        obtain ⟨j, A3, c3, hj, rfl, rfl, ho, hb, hT⟩ := hrel
        have d0 := keepc hb g0c
        have hzd := block_lt d0
        by_cases hj0 : j < N
        · have hlenL : (forTo B us k ++ rowP B (x, y) j).length ≤ 4 * k + j := by rw [List.length_append]; have := rowP_len B (x, y) j; omega
          have hyes := fun (h : fitsL B (x, y, (j : Int)) = true) => show forTo B us k ++ rowP B (x, y) (j + 1) = (forTo B us k ++ rowP B (x, y) j) ++ [(x, y, (j : Int))] by rw [rowP_yes (t := (x, y)) h, List.append_assoc]
          have hno := fun (h : fitsL B (x, y, (j : Int)) = false) => show forTo B us k ++ rowP B (x, y) (j + 1) = (forTo B us k ++ rowP B (x, y) j) by rw [rowP_no (t := (x, y)) h]
          generalize hL : forTo B us k ++ rowP B (x, y) j = L at ho hlenL hyes hno ⊢
          have t0 : wr.cell? ⟨tb, 0, none⟩ = some (.int .i64 x) := cell_heap hT rfl
          have t1 : wr.cell? ⟨tb, 1, none⟩ = some (.int .i64 y) := cell_heap hT rfl
          have hzt := block_lt t0
          have hbA : Below wr.heap.size wr (wr.alloc (.cells #[.int .i64 x, .int .i64 y, .int .i64 (j : Int)] 32)) := (Below.refl _ _).alloc (Nat.le_refl _) _
          have Hbd := Lib.hid (bstep hb hbA).drew
          have HoA := Lib.hid (own_keep ho hbA)
          have HTA := Lib.hid (heap_keep hbA hT)
          have p0 : (wr.alloc (.cells #[.int .i64 x, .int .i64 y, .int .i64 (j : Int)] 32)).cell? ⟨wr.heap.size, 0, none⟩ = some (.int .i64 x) := by simp
          have p1 : (wr.alloc (.cells #[.int .i64 x, .int .i64 y, .int .i64 (j : Int)] 32)).cell? ⟨wr.heap.size, 1, none⟩ = some (.int .i64 y) := by simp
          have p2 : (wr.alloc (.cells #[.int .i64 x, .int .i64 y, .int .i64 (j : Int)] 32)).cell? ⟨wr.heap.size, 2, none⟩ = some (.int .i64 (j : Int)) := by simp
          have hpz : wr.heap.size < (wr.alloc (.cells #[.int .i64 x, .int .i64 y, .int .i64 (j : Int)] 32)).drew.heap.size := block_lt p0
          have conC := Lib.hid (fun W (hbW : Below w0.heap.size w0 W) => conC.out W (bstep Hb0.out hbW))
          clear hL ho hb hT hbA
          by_cases hz : j = 0
          · have hq : ((j : Int) == 0) = true := by simp [hz]
            clear hz
            cases hf : fitsL B (x, y, (j : Int))
            · have Hno := Lib.hid (hno hf)
              have Hok := Lib.hid ((rel_ok HR.out (x, y, (j : Int))).trans hf)
              clear hf hno hyes
              go_wp2_with fail
              refine wp_region_held_drew (S := fun w' => w'.cell? ⟨wr.heap.size, 0, none⟩ = some (.int .i64 x) ∧ w'.cell? ⟨wr.heap.size, 1, none⟩ = some (.int .i64 y) ∧ w'.cell? ⟨wr.heap.size, 2, none⟩ = some (.int .i64 (j : Int))) (by kernel_rfl) ⟨g1d _ p0, g1d _ p1, g1d _ p2⟩ (fun hH0 => ?_)
              refine reg_take 0 rfl (by kernel_rfl) (by kernel_rfl) (by kernel_rfl) (fun _ _ _ h => h) (by rfl) (fun w _ => by first | (go_simp; done) | (go_simp; with_reducible rfl)) (by assumption) ?_
              try simp only [Act.put, List.setIfInBounds_toArray, List.set_cons_zero, List.set_cons_succ, List.getElem_toArray, List.getElem_cons_zero]
              refine reg_take 2 rfl (by kernel_rfl) (by kernel_rfl) (by kernel_rfl) (fun _ _ _ h => h) (by rfl) (fun w hSw => by (try dsimp only at hSw); first | (go_simp; done) | (go_simp; with_reducible rfl)) (by assumption) ?_
              try simp only [Act.put, List.setIfInBounds_toArray, List.set_cons_zero, List.set_cons_succ, List.getElem_toArray, List.getElem_cons_zero, List.getElem_cons_succ]
              refine wpAnyH_ready (rs := [1]) (by kernel_rfl) (by simp) ?_
              refine AllReadyH.cons (i := 1) rfl (fun K hK => ?_) AllReadyH.nil
              go_simp
              go_at_call 56
              refine (conC.out _ Hbd.out).mono ?_
              rintro e w3 ⟨g3, rfl, hs3, hb3⟩
              have q0 := keepc hb3 (g1d _ p0)
              have q1 := keepc hb3 (g1d _ p1)
              have q2 := keepc hb3 (g1d _ p2)
              refine hK.out _ _ ⟨q0, q1, q2⟩ (fun hH1 => ?_)
              clear hK K
              try simp only [Act.put, List.setIfInBounds_toArray, List.set_cons_zero, List.set_cons_succ, List.getElem_toArray, List.getElem_cons_zero, List.getElem_cons_succ]
              refine wpAnyH_ready (rs := [3]) (by kernel_rfl) (by simp) ?_
              refine AllReadyH.cons (i := 3) rfl (fun K hK => ?_) AllReadyH.nil
              go_simp
              go_at_call 57
              refine (c_add _ g3 S B x y (j : Int) _ hs3 HR.out).mono ?_
              rw [Hok.out]
              rintro e w4 ⟨rfl, hs4, hb4⟩
              have m0 := (hb4.cell (p := ⟨wr.heap.size, 0, none⟩) hpz).trans q0
              have m1 := (hb4.cell (p := ⟨wr.heap.size, 1, none⟩) hpz).trans q1
              have m2 := (hb4.cell (p := ⟨wr.heap.size, 2, none⟩) hpz).trans q2
              refine hK.out _ _ ⟨m0, m1, m2⟩ (fun hH3 => ?_)
              clear hK K
              try simp only [Act.put, List.setIfInBounds_toArray, List.set_cons_zero, List.set_cons_succ, List.getElem_toArray, List.getElem_cons_zero, List.getElem_cons_succ]
              refine wpAnyH_done (by kernel_rfl) ?_ _
              have hb34 := hb3.trans hb4
              have Ho4 := Lib.hid (own_keep (own_drew HoA.out) hb34)
              have HT4 := Lib.hid (heap_keep hb34 HTA.out)
              have Hb4 := Lib.hid (bstep Hbd.out hb34)
              have hz4 := Hb4.out.size
              have hzm := block_lt m0
              clear hs3 hs4 hb3 hb4 hb34 q0 q1 q2 p0 p1 p2 HoA HTA Hbd
              go_wp2
              go_roundw
              case rel => exact ⟨j + 1, A3, c3, by omega, by go_num, by rw [Hno.out], by rw [Hno.out]; exact Ho4.out, Hb4.out, HT4.out⟩
              case measure => simp [intOf]; omega
            · have Hyes := Lib.hid (hyes hf)
              have Hok := Lib.hid ((rel_ok HR.out (x, y, (j : Int))).trans hf)
              clear hf hno hyes
              go_wp2_with fail
              refine wp_region_held_drew (S := fun w' => w'.cell? ⟨wr.heap.size, 0, none⟩ = some (.int .i64 x) ∧ w'.cell? ⟨wr.heap.size, 1, none⟩ = some (.int .i64 y) ∧ w'.cell? ⟨wr.heap.size, 2, none⟩ = some (.int .i64 (j : Int))) (by kernel_rfl) ⟨g1d _ p0, g1d _ p1, g1d _ p2⟩ (fun hH0 => ?_)
              refine reg_take 0 rfl (by kernel_rfl) (by kernel_rfl) (by kernel_rfl) (fun _ _ _ h => h) (by rfl) (fun w _ => by first | (go_simp; done) | (go_simp; with_reducible rfl)) (by assumption) ?_
              try simp only [Act.put, List.setIfInBounds_toArray, List.set_cons_zero, List.set_cons_succ, List.getElem_toArray, List.getElem_cons_zero]
              refine reg_take 2 rfl (by kernel_rfl) (by kernel_rfl) (by kernel_rfl) (fun _ _ _ h => h) (by rfl) (fun w hSw => by (try dsimp only at hSw); first | (go_simp; done) | (go_simp; with_reducible rfl)) (by assumption) ?_
              try simp only [Act.put, List.setIfInBounds_toArray, List.set_cons_zero, List.set_cons_succ, List.getElem_toArray, List.getElem_cons_zero, List.getElem_cons_succ]
              refine wpAnyH_ready (rs := [1]) (by kernel_rfl) (by simp) ?_
              refine AllReadyH.cons (i := 1) rfl (fun K hK => ?_) AllReadyH.nil
              go_simp
              go_at_call 56
              refine (conC.out _ Hbd.out).mono ?_
              rintro e w3 ⟨g3, rfl, hs3, hb3⟩
              have q0 := keepc hb3 (g1d _ p0)
              have q1 := keepc hb3 (g1d _ p1)
              have q2 := keepc hb3 (g1d _ p2)
              refine hK.out _ _ ⟨q0, q1, q2⟩ (fun hH1 => ?_)
              clear hK K
              try simp only [Act.put, List.setIfInBounds_toArray, List.set_cons_zero, List.set_cons_succ, List.getElem_toArray, List.getElem_cons_zero, List.getElem_cons_succ]
              refine wpAnyH_ready (rs := [3]) (by kernel_rfl) (by simp) ?_
              refine AllReadyH.cons (i := 3) rfl (fun K hK => ?_) AllReadyH.nil
              go_simp
              go_at_call 57
              refine (c_add _ g3 S B x y (j : Int) _ hs3 HR.out).mono ?_
              rw [Hok.out]
              rintro e w4 ⟨rfl, hs4, hb4⟩
              have m0 := (hb4.cell (p := ⟨wr.heap.size, 0, none⟩) hpz).trans q0
              have m1 := (hb4.cell (p := ⟨wr.heap.size, 1, none⟩) hpz).trans q1
              have m2 := (hb4.cell (p := ⟨wr.heap.size, 2, none⟩) hpz).trans q2
              refine hK.out _ _ ⟨m0, m1, m2⟩ (fun hH3 => ?_)
              clear hK K
              try simp only [Act.put, List.setIfInBounds_toArray, List.set_cons_zero, List.set_cons_succ, List.getElem_toArray, List.getElem_cons_zero, List.getElem_cons_succ]
              refine wpAnyH_done (by kernel_rfl) ?_ _
              have hb34 := hb3.trans hb4
              have Ho4 := Lib.hid (own_keep (own_drew HoA.out) hb34)
              have HT4 := Lib.hid (heap_keep hb34 HTA.out)
              have Hb4 := Lib.hid (bstep Hbd.out hb34)
              have hz4 := Hb4.out.size
              have hzm := block_lt m0
              clear hs3 hs4 hb3 hb4 hb34 q0 q1 q2 p0 p1 p2 HoA HTA Hbd
              go_wp2_with (at_builtin; refine wp_append_P rfl _ _ rfl w0.heap.size _ L rfl (Ho4.out.alloc _) x y (j : Int) (w4.heap.size) rfl (by simp) (by simp) (by simp) (by omega) (by simp; omega) ?_; intro A5 c5 w5 ho5 hg5)
              go_roundw
              case rel => exact ⟨j + 1, A5, c5, by omega, by go_num, by rw [Hyes.out, List.length_append]; rfl, by rw [Hyes.out, List.length_append]; exact ho5, Below.grown (by have hb0 := Hb4.out; go_grown) hg5 (by simp; omega) (fun g hg => (Ho4.out.lt g hg).1), heap_grown hg5 (Ho4.out.alloc _) (by decide) (heap_keep ((Below.refl _ _).alloc (Nat.le_refl _) _) HT4.out)⟩
              case measure => simp [intOf]; omega
          · have hq : ((j : Int) == 0) = false := beq_eq_false_iff_ne.2 (by omega)
            have hja : j < B.arms.length := by omega
            clear hz
            cases hf : fitsL B (x, y, (j : Int))
            · have Hno := Lib.hid (hno hf)
              have Hok := Lib.hid ((rel_ok HR.out (x, y, (j : Int))).trans hf)
              clear hf hno hyes
              go_wp2_with fail
              refine wp_region_held_drew (S := fun w' => w'.cell? ⟨wr.heap.size, 0, none⟩ = some (.int .i64 x) ∧ w'.cell? ⟨wr.heap.size, 1, none⟩ = some (.int .i64 y) ∧ w'.cell? ⟨wr.heap.size, 2, none⟩ = some (.int .i64 (j : Int))) (by kernel_rfl) ⟨g1d _ p0, g1d _ p1, g1d _ p2⟩ (fun hH0 => ?_)
              refine reg_take 0 rfl (by kernel_rfl) (by kernel_rfl) (by kernel_rfl) (fun _ _ _ h => h) (by rfl) (fun w _ => by first | (go_simp; done) | (go_simp; with_reducible rfl)) (by assumption) ?_
              try simp only [Act.put, List.setIfInBounds_toArray, List.set_cons_zero, List.set_cons_succ, List.getElem_toArray, List.getElem_cons_zero]
              refine reg_take 2 rfl (by kernel_rfl) (by kernel_rfl) (by kernel_rfl) (fun _ _ _ h => h) (by rfl) (fun w hSw => by (try dsimp only at hSw); first | (go_simp; done) | (go_simp; with_reducible rfl)) (by assumption) ?_
              try simp only [Act.put, List.setIfInBounds_toArray, List.set_cons_zero, List.set_cons_succ, List.getElem_toArray, List.getElem_cons_zero, List.getElem_cons_succ]
              refine wpAnyH_ready (rs := [1]) (by kernel_rfl) (by simp) ?_
              refine AllReadyH.cons (i := 1) rfl (fun K hK => ?_) AllReadyH.nil
              go_simp
              go_at_call 56
              refine (conC.out _ Hbd.out).mono ?_
              rintro e w3 ⟨g3, rfl, hs3, hb3⟩
              have q0 := keepc hb3 (g1d _ p0)
              have q1 := keepc hb3 (g1d _ p1)
              have q2 := keepc hb3 (g1d _ p2)
              refine hK.out _ _ ⟨q0, q1, q2⟩ (fun hH1 => ?_)
              clear hK K
              try simp only [Act.put, List.setIfInBounds_toArray, List.set_cons_zero, List.set_cons_succ, List.getElem_toArray, List.getElem_cons_zero, List.getElem_cons_succ]
              refine wpAnyH_ready (rs := [3]) (by kernel_rfl) (by simp) ?_
              refine AllReadyH.cons (i := 3) rfl (fun K hK => ?_) AllReadyH.nil
              go_simp
              go_at_call 57
              refine (c_add _ g3 S B x y (j : Int) _ hs3 HR.out).mono ?_
              rw [Hok.out]
              rintro e w4 ⟨rfl, hs4, hb4⟩
              have m0 := (hb4.cell (p := ⟨wr.heap.size, 0, none⟩) hpz).trans q0
              have m1 := (hb4.cell (p := ⟨wr.heap.size, 1, none⟩) hpz).trans q1
              have m2 := (hb4.cell (p := ⟨wr.heap.size, 2, none⟩) hpz).trans q2
              refine hK.out _ _ ⟨m0, m1, m2⟩ (fun hH3 => ?_)
              clear hK K
              try simp only [Act.put, List.setIfInBounds_toArray, List.set_cons_zero, List.set_cons_succ, List.getElem_toArray, List.getElem_cons_zero, List.getElem_cons_succ]
              refine wpAnyH_done (by kernel_rfl) ?_ _
              have hb34 := hb3.trans hb4
              have Ho4 := Lib.hid (own_keep (own_drew HoA.out) hb34)
              have HT4 := Lib.hid (heap_keep hb34 HTA.out)
              have Hb4 := Lib.hid (bstep Hbd.out hb34)
              have hz4 := Hb4.out.size
              have hzm := block_lt m0
              clear hs3 hs4 hb3 hb4 hb34 q0 q1 q2 p0 p1 p2 HoA HTA Hbd
              go_wp2
              go_roundw
              case rel => exact ⟨j + 1, A3, c3, by omega, by go_num, by rw [Hno.out], by rw [Hno.out]; exact Ho4.out, Hb4.out, HT4.out⟩
              case measure => simp [intOf]; omega
            · have Hyes := Lib.hid (hyes hf)
              have Hok := Lib.hid ((rel_ok HR.out (x, y, (j : Int))).trans hf)
              clear hf hno hyes
              go_wp2_with fail
              refine wp_region_held_drew (S := fun w' => w'.cell? ⟨wr.heap.size, 0, none⟩ = some (.int .i64 x) ∧ w'.cell? ⟨wr.heap.size, 1, none⟩ = some (.int .i64 y) ∧ w'.cell? ⟨wr.heap.size, 2, none⟩ = some (.int .i64 (j : Int))) (by kernel_rfl) ⟨g1d _ p0, g1d _ p1, g1d _ p2⟩ (fun hH0 => ?_)
              refine reg_take 0 rfl (by kernel_rfl) (by kernel_rfl) (by kernel_rfl) (fun _ _ _ h => h) (by rfl) (fun w _ => by first | (go_simp; done) | (go_simp; with_reducible rfl)) (by assumption) ?_
              try simp only [Act.put, List.setIfInBounds_toArray, List.set_cons_zero, List.set_cons_succ, List.getElem_toArray, List.getElem_cons_zero]
              refine reg_take 2 rfl (by kernel_rfl) (by kernel_rfl) (by kernel_rfl) (fun _ _ _ h => h) (by rfl) (fun w hSw => by (try dsimp only at hSw); first | (go_simp; done) | (go_simp; with_reducible rfl)) (by assumption) ?_
              try simp only [Act.put, List.setIfInBounds_toArray, List.set_cons_zero, List.set_cons_succ, List.getElem_toArray, List.getElem_cons_zero, List.getElem_cons_succ]
              refine wpAnyH_ready (rs := [1]) (by kernel_rfl) (by simp) ?_
              refine AllReadyH.cons (i := 1) rfl (fun K hK => ?_) AllReadyH.nil
              go_simp
              go_at_call 56
              refine (conC.out _ Hbd.out).mono ?_
              rintro e w3 ⟨g3, rfl, hs3, hb3⟩
              have q0 := keepc hb3 (g1d _ p0)
              have q1 := keepc hb3 (g1d _ p1)
              have q2 := keepc hb3 (g1d _ p2)
              refine hK.out _ _ ⟨q0, q1, q2⟩ (fun hH1 => ?_)
              clear hK K
              try simp only [Act.put, List.setIfInBounds_toArray, List.set_cons_zero, List.set_cons_succ, List.getElem_toArray, List.getElem_cons_zero, List.getElem_cons_succ]
              refine wpAnyH_ready (rs := [3]) (by kernel_rfl) (by simp) ?_
              refine AllReadyH.cons (i := 3) rfl (fun K hK => ?_) AllReadyH.nil
              go_simp
              go_at_call 57
              refine (c_add _ g3 S B x y (j : Int) _ hs3 HR.out).mono ?_
              rw [Hok.out]
              rintro e w4 ⟨rfl, hs4, hb4⟩
              have m0 := (hb4.cell (p := ⟨wr.heap.size, 0, none⟩) hpz).trans q0
              have m1 := (hb4.cell (p := ⟨wr.heap.size, 1, none⟩) hpz).trans q1
              have m2 := (hb4.cell (p := ⟨wr.heap.size, 2, none⟩) hpz).trans q2
              refine hK.out _ _ ⟨m0, m1, m2⟩ (fun hH3 => ?_)
              clear hK K
              try simp only [Act.put, List.setIfInBounds_toArray, List.set_cons_zero, List.set_cons_succ, List.getElem_toArray, List.getElem_cons_zero, List.getElem_cons_succ]
              refine wpAnyH_done (by kernel_rfl) ?_ _
              have hb34 := hb3.trans hb4
              have Ho4 := Lib.hid (own_keep (own_drew HoA.out) hb34)
              have HT4 := Lib.hid (heap_keep hb34 HTA.out)
              have Hb4 := Lib.hid (bstep Hbd.out hb34)
              have hz4 := Hb4.out.size
              have hzm := block_lt m0
              clear hs3 hs4 hb3 hb4 hb34 q0 q1 q2 p0 p1 p2 HoA HTA Hbd
              go_wp2_with (at_builtin; refine wp_append_P rfl _ _ rfl w0.heap.size _ L rfl (Ho4.out.alloc _) x y (j : Int) (w4.heap.size) rfl (by simp) (by simp) (by simp) (by omega) (by simp; omega) ?_; intro A5 c5 w5 ho5 hg5)
              go_roundw
              case rel => exact ⟨j + 1, A5, c5, by omega, by go_num, by rw [Hyes.out, List.length_append]; rfl, by rw [Hyes.out, List.length_append]; exact ho5, Below.grown (by have hb0 := Hb4.out; go_grown) hg5 (by simp; omega) (fun g hg => (Ho4.out.lt g hg).1), heap_grown hg5 (Ho4.out.alloc _) (by decide) (heap_keep ((Below.refl _ _).alloc (Nat.le_refl _) _) HT4.out)⟩
              case measure => simp [intOf]; omega
        · have hje : j = N := by omega
          subst hje
          rw [HNe.out] at Hst
          rw [← Hst.out] at ho ⊢
          have Ho := Lib.hid ho
          have Hb := Lib.hid hb
          have hq : ((j : Int) == 0) = false := beq_eq_false_iff_ne.2 (by omega)
          have hja : ¬ j < B.arms.length := by omega
          clear ho hb hT
          go_wp2
          go_roundw
          case rel => exact ⟨k + 1, A3, c3, by omega, by go_num, rfl, Ho.out, Hb.out⟩
          case measure => simp [intOf]; omega
    · have hke : k = us.length := by omega
      subst hke
      go_wp2
      go_ret
      exact ⟨A2, c2, rfl, own_base ho hz0, bstep Hb0.out hb⟩
end Go.Proofs.Ytnnkdnleencofab

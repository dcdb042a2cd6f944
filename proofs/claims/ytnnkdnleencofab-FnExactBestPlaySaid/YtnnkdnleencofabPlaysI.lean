/- The plays of a hand that fit: the program's. -/
import Derived.Test.YtnnkdnleencofabBrdA
import Derived.Test.YtnnkdnleencofabPlaysM
import Derived.Test.YtnnkdnleencofabSorted
namespace Go.Proofs.Ytnnkdnleencofab
open Go.RowKit
set_option linter.unusedVariables false

theorem heap_alloc (w : World) (o : Obj) : (w.alloc o).heap[w.heap.size]? = some o := by
  show (w.heap.push o)[w.heap.size]? = some o
  simp
theorem heap_keep {w w' : World} {g : Nat} {o : Obj} (hb : Below w.heap.size w w') (h : w.heap[g]? = some o) : w'.heap[g]? = some o := (hb.block g (Array.getElem?_eq_some_iff.1 h).1).trans h
theorem heap_grown {w w' : World} {base e size n : Nat} {v : Value} {cs : List Value} {g e' : Nat} {cur : Array Value} {fr : Nat × Nat} (hg : w.grownBy w' v.ownBlock) (ho : w.ownsRow base e size v n cs) (hne : e' ≠ e) (h : w.heap[g]? = some (.cells cur e' fr)) : w'.heap[g]? = some (.cells cur e' fr) :=
  (hg.block g (Array.getElem?_eq_some_iff.1 h).1 (fun e => own_off ho h hne e.symm)).trans h

set_option maxRecDepth 100000 in
set_option maxHeartbeats 1000000 in
theorem c_bPlaysFor (A : Option Addr) (c : Nat) (D : Option Addr) (d : Nat) (B : Brd) (T : Option Addr) (m : Nat) (ts : List (Int × Int)) (w : World) (hr : RdP w A B.ps) (hq : RdA w D B.arms) (hB : Bok B) (ht : RdT w T ts) (hl : ts.length ≤ 110) :
    Calls Try.prog 62 #[.agg #[.slice A B.ps.length c, .slice D B.arms.length d, .int .i64 B.fives], .slice T ts.length m] w (RetPL w (playsL B ts)) := by
  have h4 := hB.four
  have conF := Lib.hid (fun x y k W (hb : Below w.heap.size w W) => c_fits A c D d B x y k W (hr.below hb) (hq.below hb) hB)
  have hN := armN_le h4
  have hfl := Lib.hid (fun k (h : k ≤ ts.length) => forTo_len h4 ts k h)
  have hmax : max (1 : Int) (B.arms.length : Int) = (armN B : Int) := by unfold armN; split <;> omega
  obtain ⟨N, hNe⟩ : ∃ N, armN B = N := ⟨_, rfl⟩
  clear hr hq hB
  go_enter Try.func62, Try.ntmps62
  go_wp2
  obtain ⟨w0, hw0⟩ : ∃ w0, w0 = w.alloc (.cells #[.slice A B.ps.length c, .slice D B.arms.length d, .int .i64 B.fives] 94) := ⟨_, rfl⟩
  rw [← hw0]
  have b0 : w0.cell? ⟨w.heap.size, 0, none⟩ = some (.slice A B.ps.length c) := by rw [hw0]; simp
  have b1 : w0.cell? ⟨w.heap.size, 1, none⟩ = some (.slice D B.arms.length d) := by rw [hw0]; simp
  have b2 : w0.cell? ⟨w.heap.size, 2, none⟩ = some (.int .i64 B.fives) := by rw [hw0]; simp
  have hb0 : Below w.heap.size w w0 := by rw [hw0]; go_grown
  have hz0 := hb0.size
  have ht0 := Lib.hid (ht.below hb0)
  clear hw0 ht
  go_loopw [5, 12] (fun o i wr => ∃ (k : Nat) (A2 : Option Addr) (c2 : Nat), k ≤ ts.length ∧ i = .int .i64 k ∧ o = .slice A2 (forTo B ts k).length c2 ∧ wr.ownsRow w0.heap.size 32 3 (.slice A2 (forTo B ts k).length c2) (forTo B ts k).length (cellsP (forTo B ts k)) ∧ Below w0.heap.size w0 wr) (fun _ i _ => ts.length - (intOf i).toNat)
  case atStart => exact ⟨0, none, 0, Nat.zero_le _, rfl, by simp [forTo_zero], World.ownsRow_nil _ _ _ _, Below.refl _ _⟩
  case round =>
    obtain ⟨k, A2, c2, hk, rfl, rfl, ho, hb⟩ := hrel
    by_cases hlt : k < ts.length
    · obtain ⟨bk, off, rfl, hbk, hc⟩ := ht0.out.at_ hlt
      have g0 := (hb.cell (p := ⟨bk, _, none⟩) hbk).trans (hc k hlt).1
      have g1 := (hb.cell (p := ⟨bk, _, none⟩) hbk).trans (hc k hlt).2
      have d1 := keepc hb b1
      have hzd := block_lt d1
      have Hst := Lib.hid (forTo_succ (B := B) hlt)
      have hlen := hfl.out k hk
      clear hc
      obtain ⟨t, hte⟩ : ∃ t, ts[k] = t := ⟨_, rfl⟩
      rw [hte] at g0 g1 Hst
      obtain ⟨x, y⟩ := t
      simp only at g0 g1
      go_wp2
      obtain ⟨w1, hw1⟩ : ∃ w1, w1 = wr.alloc (.cells #[.int .i64 x, .int .i64 y] 30) := ⟨_, rfl⟩
      rw [← hw1]
      have hT1 : w1.heap[wr.heap.size]? = some (.cells #[.int .i64 x, .int .i64 y] 30 (0, 0)) := by rw [hw1]; exact heap_alloc _ _
      have hbA : Below wr.heap.size wr w1 := by rw [hw1]; exact (Below.refl _ _).alloc (Nat.le_refl _) _
      have ho1 := own_keep ho hbA
      have hb1 := bstep hb hbA
      obtain ⟨tb, htb⟩ : ∃ tb, tb = wr.heap.size := ⟨_, rfl⟩
      rw [← htb] at hT1 ⊢
      clear hw1 ho hb hbA g0 g1 hbk d1 hzd htb
      go_loopw [5, 20] (fun o i w2 => ∃ (j : Nat) (A3 : Option Addr) (c3 : Nat), j ≤ N ∧ i = .int .i64 j ∧ o = .slice A3 (forTo B ts k ++ rowP B (x, y) j).length c3 ∧ w2.ownsRow w0.heap.size 32 3 (.slice A3 (forTo B ts k ++ rowP B (x, y) j).length c3) (forTo B ts k ++ rowP B (x, y) j).length (cellsP (forTo B ts k ++ rowP B (x, y) j)) ∧ Below w0.heap.size w0 w2 ∧ w2.heap[tb]? = some (.cells #[.int .i64 x, .int .i64 y] 30 (0, 0))) (fun _ i _ => N - (intOf i).toNat)
      case atStart => exact ⟨0, A2, c2, Nat.zero_le _, rfl, by rw [rowP_zero, List.append_nil], by rw [rowP_zero, List.append_nil]; exact ho1, hb1, hT1⟩
      case round =>
        clear ho1 hb1 hT1
        obtain ⟨j, A3, c3, hj, rfl, rfl, ho, hb, hT⟩ := hrel
        by_cases hjl : j < N
        · have hlenL : (forTo B ts k ++ rowP B (x, y) j).length ≤ 4 * k + j := by rw [List.length_append]; have := rowP_len B (x, y) j; omega
          have hyes := fun (h : fitsL B (x, y, (j : Int)) = true) => show forTo B ts k ++ rowP B (x, y) (j + 1) = (forTo B ts k ++ rowP B (x, y) j) ++ [(x, y, (j : Int))] by rw [rowP_yes (t := (x, y)) h, List.append_assoc]
          have hno := fun (h : fitsL B (x, y, (j : Int)) = false) => show forTo B ts k ++ rowP B (x, y) (j + 1) = forTo B ts k ++ rowP B (x, y) j by rw [rowP_no (t := (x, y)) h]
          generalize hL : forTo B ts k ++ rowP B (x, y) j = L at ho hlenL hyes hno ⊢
          have t0 : wr.cell? ⟨tb, 0, none⟩ = some (.int .i64 x) := cell_heap hT rfl
          have t1 : wr.cell? ⟨tb, 1, none⟩ = some (.int .i64 y) := cell_heap hT rfl
          have hzt := block_lt t0
          have d0 := keepc hb b0
          have d1 := keepc hb b1
          have d2 := keepc hb b2
          have hzd := block_lt d1
          have hbA : Below wr.heap.size wr (wr.alloc (.cells #[.int .i64 x, .int .i64 y, .int .i64 (j : Int)] 32)) := (Below.refl _ _).alloc (Nat.le_refl _) _
          have conf := fun W hbW => conF.out x y (j : Int) W hbW
          have Hb := Lib.hid (bstep hb hbA)
          have Hbw := Lib.hid (bstep hb0 Hb.out)
          have HoA := Lib.hid (own_keep ho hbA)
          have HTA := Lib.hid (heap_keep hbA hT)
          have p0 : (wr.alloc (.cells #[.int .i64 x, .int .i64 y, .int .i64 (j : Int)] 32)).cell? ⟨wr.heap.size, 0, none⟩ = some (.int .i64 x) := by simp
          have p1 : (wr.alloc (.cells #[.int .i64 x, .int .i64 y, .int .i64 (j : Int)] 32)).cell? ⟨wr.heap.size, 1, none⟩ = some (.int .i64 y) := by simp
          have p2 : (wr.alloc (.cells #[.int .i64 x, .int .i64 y, .int .i64 (j : Int)] 32)).cell? ⟨wr.heap.size, 2, none⟩ = some (.int .i64 (j : Int)) := by simp
          clear hL ho hb hT hbA
          cases hf : fitsL B (x, y, (j : Int))
          · rw [hf] at conf
            have Hno := Lib.hid (hno hf)
            have Conf := Lib.hid conf
            clear hf hno hyes conf
            go_wp2_with (go_at_call 105; refine (Conf.out _ Hbw.out).mono ?_; rintro e w3 ⟨rfl, hb3⟩)
            go_roundw
            case rel => exact ⟨j + 1, A3, c3, by omega, by go_num, by rw [Hno.out], by rw [Hno.out]; exact own_keep HoA.out hb3, bstep Hb.out hb3, heap_keep hb3 HTA.out⟩
            case measure => simp [intOf]; omega
          · rw [hf] at conf
            have Hyes := Lib.hid (hyes hf)
            have Conf := Lib.hid conf
            clear hf hno hyes conf
            go_wp2_with (first | (go_at_call 105; refine (Conf.out _ Hbw.out).mono ?_; rintro e w3 ⟨rfl, hb3⟩; have q0 := keepc hb3 p0; have q1 := keepc hb3 p1; have q2 := keepc hb3 p2; have Ho3 := Lib.hid (own_keep HoA.out hb3); have HT3 := Lib.hid (heap_keep hb3 HTA.out); have Hb3 := Lib.hid (bstep Hb.out hb3); have hz3 := Hb3.out.size; have hzq := block_lt q0; clear hb3) | (at_builtin; refine wp_append_P rfl _ _ rfl w0.heap.size _ L rfl (Ho3.out.alloc _) x y (j : Int) (w3.heap.size) rfl (by simp) (by simp) (by simp) (by omega) (by simp; omega) ?_; intro A5 c5 w5 ho5 hg5))
            go_roundw
            case rel => exact ⟨j + 1, A5, c5, by omega, by go_num, by rw [Hyes.out, List.length_append]; rfl, by rw [Hyes.out, List.length_append]; exact ho5, Below.grown (by have hb0 := Hb3.out; go_grown) hg5 (by simp; omega) (fun g hg => (Ho3.out.lt g hg).1), heap_grown hg5 (Ho3.out.alloc _) (by decide) (heap_keep ((Below.refl _ _).alloc (Nat.le_refl _) _) HT3.out)⟩
            case measure => simp [intOf]; omega
        · have hje : j = N := by omega
          subst hje
          rw [hNe] at Hst
          rw [← Hst.out] at ho ⊢
          have Ho := Lib.hid ho
          have Hb := Lib.hid hb
          clear ho hb hT
          go_wp2
          go_roundw
          case rel => exact ⟨k + 1, A3, c3, by omega, by go_num, rfl, Ho.out, Hb.out⟩
          case measure => simp [intOf]; omega
    · have hke : k = ts.length := by omega
      subst hke
      go_wp2
      go_ret
      exact ⟨A2, c2, rfl, own_base ho hz0, bstep hb0 hb⟩
end Go.Proofs.Ytnnkdnleencofab

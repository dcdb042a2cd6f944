/- Games behind a move: the specification's plWithout. -/
import Derived.Test.YtjdnkcdnppcbhaaGamM
import Derived.Test.YtjdnkcdnppcbhaaGamS
import Derived.Test.YtjdnkcdnppcbhaaMov
import Derived.Laws.StructEq
namespace Go.Proofs.Ytjdnkcdnppcbhaa
open Go.RowKit
set_option linter.unusedVariables false

/-- All tiles but one. -/
def isTB (a b : Int) (x : Int × Int) : Bool := x.1 == a && x.2 == b
def woTo (ts : List (Int × Int)) (a b : Int) (k : Nat) : List (Int × Int) := (ts.take k).filter fun x => !isTB a b x
def woL (ts : List (Int × Int)) (a b : Int) : List (Int × Int) := ts.filter fun x => !isTB a b x
theorem woTo_zero (ts : List (Int × Int)) (a b : Int) : woTo ts a b 0 = [] := by simp [woTo]
theorem woTo_yes {ts : List (Int × Int)} {a b : Int} {k : Nat} (hk : k < ts.length) (h : isTB a b ts[k] = false) : woTo ts a b (k + 1) = woTo ts a b k ++ [ts[k]] := by
  unfold woTo
  rw [List.take_succ_eq_append_getElem hk, List.filter_append]
  simp [h]
theorem woTo_no {ts : List (Int × Int)} {a b : Int} {k : Nat} (hk : k < ts.length) (h : isTB a b ts[k] = true) : woTo ts a b (k + 1) = woTo ts a b k := by
  unfold woTo
  rw [List.take_succ_eq_append_getElem hk, List.filter_append]
  simp [h]
theorem woTo_len (ts : List (Int × Int)) (a b : Int) (k : Nat) : (woTo ts a b k).length ≤ ts.length := by
  unfold woTo
  exact Nat.le_trans (List.length_filter_le _ _) (by simp; omega)
theorem woTo_all (ts : List (Int × Int)) (a b : Int) : woTo ts a b ts.length = woL ts a b := by simp [woTo, woL]
theorem woL_len (ts : List (Int × Int)) (a b : Int) : (woL ts a b).length ≤ ts.length := List.length_filter_le _ _

theorem Try.eq_tile (a b c d : Int) (w : World) : (Op.equalIn 10000 82 (.agg #[.int .i64 a, .int .i64 b]) (.agg #[.int .i64 c, .int .i64 d])).run Try.prog w = .ok (a == c && b == d) w := by
  have h1 := Try.underlying3
  have h2 := Try.isAgg3
  have h3 := Try.sizeOf3
  have hS : Try.prog.underlying 82 = some (.struct (Try.prog.fieldsOf 82)) := by kernel_rfl
  have hp : Try.prog.stoodInHeld 82 = false := by kernel_rfl
  rw [show (10000 : Nat) = 9999 + 1 from rfl, run_equalIn_agg w 9999 82 _ _ hS hp]
  simp only [Program.fieldsOf, Try.underlying82]
  go_simp
  by_cases e1 : a = c <;> by_cases e2 : b = d <;> simp [e1, e2]

set_option maxRecDepth 100000 in
set_option maxHeartbeats 2000000 in
theorem c_plWithout (A : Option Addr) (c : Nat) (ts : List (Int × Int)) (a b : Int) (w : World) (hr : RdT w A ts) (hl : ts.length ≤ 1048576) :
    Calls Try.prog 93 #[.slice A ts.length c, .agg #[.int .i64 a, .int .i64 b]] w (RetL w (woL ts a b)) := by
  rw [← woTo_all]
  go_enter Try.func93, Try.ntmps93
  go_wp2
  obtain ⟨w0, hw0⟩ : ∃ w0, w0 = w.alloc (.cells #[.int .i64 a, .int .i64 b] 82) := ⟨_, rfl⟩
  rw [← hw0]
  have t0 : w0.cell? ⟨w.heap.size, 0, none⟩ = some (.int .i64 a) := by rw [hw0]; simp
  have t1 : w0.cell? ⟨w.heap.size, 1, none⟩ = some (.int .i64 b) := by rw [hw0]; simp
  have Hb0 := Lib.hid (show Below w.heap.size w w0 by rw [hw0]; exact (Below.refl _ _).alloc (Nat.le_refl _) _)
  have hz0 := Hb0.out.size
  have hru := hr.below Hb0.out
  clear hw0 hr
  go_loopw [5, 10] (fun v i wr => ∃ (k : Nat) (A' : Option Addr) (c' : Nat), k ≤ ts.length ∧ i = .int .i64 k ∧ v = .slice A' (woTo ts a b k).length c' ∧ wr.ownsRow w0.heap.size 82 2 (.slice A' (woTo ts a b k).length c') (woTo ts a b k).length (cellsT (woTo ts a b k)) ∧ Below w0.heap.size w0 wr) (fun _ i _ => ts.length - (intOf i).toNat)
  case atStart => exact ⟨0, none, 0, Nat.zero_le _, rfl, by rw [woTo_zero]; rfl, by rw [woTo_zero]; exact World.ownsRow_nil _ _ _ _, Below.refl _ _⟩
  case round =>
    obtain ⟨k, A', c', hk, rfl, rfl, hown, hb⟩ := hrel
    have d0 := keepc hb t0
    have d1 := keepc hb t1
    have hms := woTo_len ts a b k
    have hzd : w.heap.size < wr.heap.size := block_lt d0
    by_cases hlt : k < ts.length
    · obtain ⟨bk, off, rfl, hbk, hc⟩ := hru.at_ hlt
      have g1 := (hb.cell (p := ⟨bk, _, none⟩) hbk).trans (hc k hlt).1
      have g2 := (hb.cell (p := ⟨bk, _, none⟩) hbk).trans (hc k hlt).2
      have Hb := Lib.hid hb
      have Ho := Lib.hid hown
      have hsz := hb.size
      have hy := Lib.hid (fun h => woTo_yes (a := a) (b := b) hlt h)
      have hn := Lib.hid (fun h => woTo_no (a := a) (b := b) hlt h)
      obtain ⟨x, hx⟩ : ∃ x, x = ts[k] := ⟨_, rfl⟩
      rw [← hx] at g1 g2 hy hn
      obtain ⟨x1, x2⟩ := x
      simp only at g1 g2
      clear hc hb hown hru hx t0 t1
      have Ho2 := Lib.hid ((Ho.out.alloc (.cells #[.int .i64 x1, .int .i64 x2] 82)).alloc (.cells #[.int .i64 x1, .int .i64 x2] 82))
      have heq := Try.eq_tile x1 x2 a b
      cases he : (x1 == a && x2 == b)
      · rw [he] at heq
        have hst := Lib.hid (hy.out he)
        clear hy hn he
        go_wp2_with (at_builtin; refine wp_append_tile rfl _ _ rfl w0.heap.size _ _ rfl Ho2.out x1 x2 (wr.heap.size + 1) rfl (by simp) (by simp) (by omega) (by simp; omega) ?_; intro A2 c2 w3 hown3 hg3)
        go_roundw
        case rel =>
          refine ⟨k + 1, A2, c2, by omega, by go_num, by rw [hst.out, List.length_append]; rfl, ?_, ?_⟩
          · rw [hst.out, List.length_append]; exact hown3
          · have hb0 := Hb.out
            exact Below.grown (by go_grown) hg3 (by simp; omega) (fun g hg => (Ho2.out.lt g hg).1)
        case measure => simp [intOf]; omega
      · rw [he] at heq
        have hst := Lib.hid (hn.out he)
        clear hy hn he
        go_wp2
        go_roundw
        case rel => exact ⟨k + 1, A', c', by omega, by go_num, by rw [hst.out], by rw [hst.out]; exact Ho.out.alloc _, by have hb0 := Hb.out; go_grown⟩
        case measure => simp [intOf]; omega
    · have : k = ts.length := by omega
      subst this
      go_wp2
      go_ret
      exact ⟨A', c', rfl, own_base hown (by omega), bstep Hb0.out hb⟩

end Go.Proofs.Ytjdnkcdnppcbhaa

/- Tiles deleted by a test: the program's laid$1 and slices.IndexFunc over it. -/
import Derived.Test.YtjdnkcdnppcbhaaMakS
import Derived.Test.YtjdnkcdnppcbhaaClr
import Derived.Deep.Cut
import Derived.BigQuiet
namespace Go.Proofs.Ytjdnkcdnppcbhaa
open Go.RowKit
set_option linter.unusedVariables false

/-- The test as a value. -/
def laidF (g : Nat) : Value := .func (.func 157) #[] #[.pointer (some ⟨g, 0, none⟩)]

set_option maxRecDepth 100000 in
set_option maxHeartbeats 1000000 in
theorem c_laidIs (g : Nat) (a b x y : Int) (w : World) (h0 : w.cell? ⟨g, 0, none⟩ = some (.int .i64 a)) (h1 : w.cell? ⟨g, 1, none⟩ = some (.int .i64 b)) :
    Calls Try.prog 157 #[.agg #[.int .i64 x, .int .i64 y], .pointer (some ⟨g, 0, none⟩)] w fun e w' => e = .returned (.bool (isTB a b (x, y))) ∧ Below w.heap.size w w' := by
  have hg := block_lt h0
  have heq := Try.eq_tile x y a b
  have hb0 : Below w.heap.size w (w.alloc (.cells #[.int .i64 x, .int .i64 y] 82)) := (Below.refl _ _).alloc (Nat.le_refl _) _
  have he : isTB a b (x, y) = (x == a && y == b) := rfl
  rw [he]
  go_enter Try.func157, Try.ntmps157
  go_wp2
  go_ret
  exact ⟨rfl, hb0⟩

set_option maxRecDepth 100000 in
set_option maxHeartbeats 2000000 in
theorem c_laidIndex (A : Option Addr) (c : Nat) (ts : List (Int × Int)) (g : Nat) (a b : Int) (w : World) (hr : RdT w A ts) (hl : ts.length ≤ 1048576) (h0 : w.cell? ⟨g, 0, none⟩ = some (.int .i64 a)) (h1 : w.cell? ⟨g, 1, none⟩ = some (.int .i64 b)) :
    Calls Try.prog 174 #[.slice A ts.length c, .func (.func 157) #[] #[.pointer (some ⟨g, 0, none⟩)]] w fun e w' => (∃ i : Nat, i ≤ ts.length ∧ (∀ j (h : j < ts.length), j < i → isTB a b ts[j] = false) ∧ ((i = ts.length ∧ e = .returned (.int .i64 (-1))) ∨ ∃ h : i < ts.length, isTB a b ts[i] = true ∧ e = .returned (.int .i64 (i : Int)))) ∧ Below w.heap.size w w' := by
  go_enter Try.func174, Try.ntmps174
  go_wp2
  go_loopw [8] (fun i wr => ∃ k : Nat, k ≤ ts.length ∧ i = .int .i64 k ∧ (∀ j (h : j < ts.length), j < k → isTB a b ts[j] = false) ∧ Below w.heap.size w wr) (fun i _ => ts.length - (intOf i).toNat)
  case atStart => exact ⟨0, Nat.zero_le _, rfl, fun j _ h => absurd h (Nat.not_lt_zero _), Below.refl _ _⟩
  case round =>
    obtain ⟨k, hk, rfl, hno, hb⟩ := hrel
    by_cases hlt : k < ts.length
    · obtain ⟨bk, off, rfl, hbk, hc⟩ := hr.at_ hlt
      have g1 := keepc hb (hc k hlt).1
      have g2 := keepc hb (hc k hlt).2
      have Hno := Lib.hid hno
      have Hb := Lib.hid hb
      have d0 := keepc hb h0
      have d1 := keepc hb h1
      obtain ⟨x, hx⟩ : ∃ x, ts[k].1 = x := ⟨_, rfl⟩
      obtain ⟨y, hy⟩ : ∃ y, ts[k].2 = y := ⟨_, rfl⟩
      rw [hx] at g1
      rw [hy] at g2
      have con := c_laidIs g a b x y wr d0 d1
      obtain ⟨q, hq⟩ : ∃ q, isTB a b ts[k] = q := ⟨_, rfl⟩
      have hq' : isTB a b (x, y) = q := by rw [← hq, ← hx, ← hy]
      rw [hq'] at con
      have Con := Lib.hid con
      have Hq := Lib.hid hq
      clear con hq hq' hx hy hc hb hno d0 d1 hr h0 h1
      cases q
      · go_wp2_with (go_at_call 157; refine Con.out.mono ?_; rintro e w2 ⟨rfl, hb2⟩)
        go_roundw
        case rel => exact ⟨k + 1, by omega, by go_num, fun j hj hjk => by
          rcases Nat.lt_succ_iff_lt_or_eq.1 hjk with h | rfl
          · exact Hno.out j hj h
          · exact Hq.out, bstep Hb.out hb2⟩
        case measure => simp [intOf]; omega
      · go_wp2_with (go_at_call 157; refine Con.out.mono ?_; rintro e w2 ⟨rfl, hb2⟩)
        go_ret
        exact ⟨⟨k, by omega, Hno.out, .inr ⟨hlt, Hq.out, rfl⟩⟩, bstep Hb.out hb2⟩
    · have : k = ts.length := by omega
      subst this
      go_wp2
      go_ret
      exact ⟨⟨ts.length, Nat.le_refl _, hno, .inl ⟨rfl, rfl⟩⟩, hb⟩

theorem woTo_first {ts : List (Int × Int)} {a b : Int} {i : Nat} (hi : i ≤ ts.length) (hno : ∀ j (h : j < ts.length), j < i → isTB a b ts[j] = false) : woTo ts a b i = ts.take i := by
  unfold woTo
  refine List.filter_eq_self.2 fun x hx => ?_
  obtain ⟨j, hj, rfl⟩ := List.mem_iff_getElem.1 hx
  rw [List.getElem_take, hno j _ (by simp at hj; omega)]
  rfl
theorem grown_of_below {w w' : World} (r : Option Nat) (h : Below w.heap.size w w') : w.grownBy w' r := ⟨h.os, h.tape, h.output, h.size, fun k hk _ => h.block k hk⟩
theorem drop_head {X ts : List (Int × Int)} {k : Nat} (h : X.drop k = ts.drop k) (hX : X.length = ts.length) (hk : k < ts.length) : X[k]'(by omega) = ts[k] := by
  have e := congrArg (fun l => l[0]?) h
  simp only [List.getElem?_drop, Nat.add_zero] at e
  rw [List.getElem?_eq_getElem (by omega), List.getElem?_eq_getElem hk] at e
  exact Option.some.inj e

/-- A row under way: its first m tiles are what is kept of the first k, from k on it is as it was. -/
structure DelAt (ts X : List (Int × Int)) (a b : Int) (m k : Nat) : Prop where
  len : X.length = ts.length
  mm : m = (woTo ts a b k).length
  ltk : m < k
  kn : k ≤ ts.length
  head : X.take m = woTo ts a b k
  tail : X.drop k = ts.drop k
theorem DelAt.skip {ts X : List (Int × Int)} {a b : Int} {m k : Nat} (h : DelAt ts X a b m k) (hk : k < ts.length) (he : isTB a b ts[k] = true) : DelAt ts X a b m (k + 1) := by
  have e := woTo_no hk he
  refine ⟨h.len, by rw [e]; exact h.mm, by have := h.ltk; omega, hk, by rw [e]; exact h.head, ?_⟩
  rw [← List.drop_drop, ← List.drop_drop, h.tail]
theorem DelAt.keep {ts X : List (Int × Int)} {a b : Int} {m k : Nat} (h : DelAt ts X a b m k) (hk : k < ts.length) (he : isTB a b ts[k] = false) : DelAt ts (X.set m ts[k]) a b (m + 1) (k + 1) := by
  have e := woTo_yes hk he
  have hm := h.ltk
  have hl := h.len
  refine ⟨by rw [List.length_set]; exact hl, by rw [e, List.length_append, ← h.mm]; rfl, by omega, hk, ?_, ?_⟩
  · rw [e, List.take_set, List.take_succ_eq_append_getElem (by omega), List.set_append_right _ _ (by rw [List.length_take]; exact Nat.min_le_left _ _), ← h.head]
    simp [Nat.min_eq_left (show m ≤ X.length by omega)]
  · rw [List.drop_set_of_lt (by omega), ← List.drop_drop, ← List.drop_drop, h.tail]

set_option maxRecDepth 100000 in
set_option maxHeartbeats 4000000 in
theorem c_laidDel (A : Option Addr) (c : Nat) (ts : List (Int × Int)) (g base : Nat) (a b : Int) (w : World) (ho : w.ownsRow base 82 2 (.slice A ts.length c) ts.length (cellsT ts)) (hl : ts.length ≤ 1048576) (hne : (Value.slice A ts.length c).ownBlock ≠ some g) (h0 : w.cell? ⟨g, 0, none⟩ = some (.int .i64 a)) (h1 : w.cell? ⟨g, 1, none⟩ = some (.int .i64 b)) :
    Calls Try.prog 158 #[.slice A ts.length c, .func (.func 157) #[] #[.pointer (some ⟨g, 0, none⟩)]] w fun e w' => e = .returned (.slice A (woL ts a b).length c) ∧ w'.ownsRow base 82 2 (.slice A (woL ts a b).length c) (woL ts a b).length (cellsT (woL ts a b)) ∧ w.grownBy w' (Value.slice A ts.length c).ownBlock := by
  have con := c_laidIndex A c ts g a b w (RdT.of_own ho) hl h0 h1
  go_enter Try.func158, Try.ntmps158
  go_wp2_with fail
  refine con.mono ?_
  rintro e w1 ⟨⟨i, hi, hno, ⟨hin, rfl⟩ | ⟨hlt, hyes, rfl⟩⟩, hb1⟩
  · subst hin
    have ew : woL ts a b = ts := by rw [← woTo_all, woTo_first (Nat.le_refl _) hno, List.take_length]
    clear con hno
    have Ew := Lib.hid ew
    clear ew
    go_wp2
    go_ret
    exact ⟨by rw [Ew.out]; rfl, by rw [Ew.out]; exact own_keep ho hb1, grown_of_below _ hb1⟩
  · obtain ⟨g0, rfl⟩ : ∃ g0, A = some ⟨g0, 0, none⟩ := by
      rcases ho.2 with ⟨_, hn⟩ | ⟨g0, _, _, hv, _⟩
      · omega
      · injection hv with e1
        exact ⟨g0, e1⟩
    have hne' : g ≠ g0 := fun e => hne (by rw [e]; rfl)
    have hgl := block_lt h0
    have ei : (((i : Nat) : Int) == -1) = false := by rw [beq_eq_false_iff_ne]; omega
    have gr1 := grown_of_below (some g0) hb1
    have o1 := own_keep ho hb1
    have st : DelAt ts ts a b i (i + 1) := by
      have e := woTo_no hlt hyes
      have e2 := woTo_first (Nat.le_of_lt hlt) hno
      exact ⟨rfl, by rw [e, e2]; simp; omega, by omega, hlt, by rw [e, e2], rfl⟩
    clear con hno hyes hne hb1
    go_wp2
    go_loopw [5, 6] (fun v j wr => ∃ (k m : Nat) (X : List (Int × Int)), DelAt ts X a b m k ∧ v = .int .i64 m ∧ j = .int .i64 k ∧ wr.ownsRow base 82 2 (.slice (some ⟨g0, 0, none⟩) ts.length c) ts.length (cellsT X) ∧ w.grownBy wr (some g0)) (fun _ j _ => ts.length - (intOf j).toNat)
    case atStart => exact ⟨i + 1, i, ts, st, rfl, by go_num, o1, gr1⟩
    case round =>
      obtain ⟨k, m, X, dl, rfl, rfl, ox, gr⟩ := hrel
      have hXl := dl.len
      have hmk := dl.ltk
      have hkn := dl.kn
      have d0 := (World.cell?_of_block (a := ⟨g, 0, none⟩) (gr.block g hgl (fun e => hne' (Option.some.inj e)))).trans h0
      have d1 := (World.cell?_of_block (a := ⟨g, 1, none⟩) (gr.block g hgl (fun e => hne' (Option.some.inj e)))).trans h1
      by_cases hk : k < ts.length
      · have rx : RdT wr (some ⟨g0, 0, none⟩) X := RdT.of_own (n := ts.length) (c := c) (by rw [hXl]; exact ox)
        obtain ⟨b2, o2, hA, hbl, hc⟩ := rx.at_ (k := k) (by omega)
        injection hA with hA
        injection hA with hA1 hA2
        subst hA1 hA2
        have x0 := (hc k (by omega)).1
        have x1 := (hc k (by omega)).2
        have y0 := (hc m (by omega)).1
        have y1 := (hc m (by omega)).2
        have eX := drop_head dl.tail hXl hk
        obtain ⟨p, hp⟩ : ∃ p, X[k].1 = p := ⟨_, rfl⟩
        obtain ⟨q, hq⟩ : ∃ q, X[k].2 = q := ⟨_, rfl⟩
        have epq : ts[k] = (p, q) := by rw [← eX, ← hp, ← hq]
        rw [hp] at x0
        rw [hq] at x1
        have con2 := Lib.hid (fun W (hb : Below wr.heap.size wr W) => c_laidIs g a b p q W (keepc hb d0) (keepc hb d1))
        have Yes := Lib.hid (fun h => dl.keep hk h)
        have No := Lib.hid (fun h => dl.skip hk h)
        rw [epq] at Yes No
        have i0 : (0 : Int) ≤ (m : Int) := by omega
        have i1 : (m : Int) < (ts.length : Int) := by omega
        simp only [Nat.zero_add] at x0 x1 y0 y1
        generalize X[m].1 = r0 at *
        generalize X[m].2 = r1 at *
        clear hc rx h0 h1 d0 d1 dl hp hq eX epq ho o1
        go_upto_region 8 with (fail)
        obtain ⟨v1, hv1⟩ : ∃ v1, v1 = wr.alloc (.cells #[.int .i64 p, .int .i64 q] 82) := ⟨_, rfl⟩
        rw [← hv1]
        have bv : Below wr.heap.size wr v1 := by rw [hv1]; exact (Below.refl _ _).alloc (Nat.le_refl _) _
        have q0 : v1.cell? ⟨wr.heap.size, 0, none⟩ = some (.int .i64 p) := by rw [hv1]; simp
        have q1 : v1.cell? ⟨wr.heap.size, 1, none⟩ = some (.int .i64 q) := by rw [hv1]; simp
        clear hv1 x0 x1
        obtain ⟨d, hd⟩ : ∃ d, isTB a b (p, q) = d := ⟨_, rfl⟩
        have Con2 := con2.out v1 bv
        rw [hd] at Con2
        have hlw : g0 < wr.heap.size := hbl
        clear con2
        cases d
        · have dk := Lib.hid (Yes.out hd)
          have Con3 := Lib.hid Con2
          clear Con2 Yes No hd
          go_wp2_with (go_at_call 157; refine Con3.out.mono ?_; rintro e w2 ⟨rfl, hb2⟩; have b12 := bstep bv hb2; have q02 := keepc hb2 q0; have q12 := keepc hb2 q1; have y02 := keepc b12 y0; have y12 := keepc b12 y1; have ox2 := own_keep ox b12; have z0 := ox2.frozenAt (m * 2); have z1 := ox2.frozenAt (m * 2 + 1))
          go_roundw
          case rel =>
            refine ⟨k + 1, m + 1, X.set m (p, q), dk.out, by go_num, by go_num, ?_, ?_⟩
            · rw [cellsT_setT X m p q (by omega)]
              exact ((ox2.stored (m * 2) _).1.stored (m * 2 + 1) _).1
            · exact grown_trans (grown_trans gr (grown_of_below _ b12)) (grown_trans (grown_setG _ _ _ _) (grown_setG _ _ _ _))
          case measure => simp [intOf]; omega
        · have dk := Lib.hid (No.out hd)
          have Con3 := Lib.hid Con2
          clear Con2 Yes No hd
          go_wp2_with (go_at_call 157; refine Con3.out.mono ?_; rintro e w2 ⟨rfl, hb2⟩; have b12 := bstep bv hb2)
          go_roundw
          case rel => exact ⟨k + 1, m, X, dk.out, rfl, by go_num, own_keep ox b12, grown_trans gr (grown_of_below _ b12)⟩
          case measure => simp [intOf]; omega
      · have : k = ts.length := by omega
        subst this
        have hm : m = (woL ts a b).length := by rw [dl.mm, woTo_all]
        have hhd := dl.head
        rw [woTo_all] at hhd
        have hcn : ts.length ≤ c := own_cap ox
        have hf := fun j => ox.frozenAt j
        have hcl : ∀ ty, (Builtin.clear_ #[28] ty #[.slice (some ⟨g0, m * 2, none⟩) (ts.length - m) (c - m)]).run Try.prog wr = .ok (.tuple #[]) (wr.setCells g0 (m * 2) (Builtin.zeroCells #[.int .i64 0, .int .i64 0] (ts.length - m)).toList) :=
          fun ty => run_clear_rows wr _ _ ty (.agg #[.int .i64 0, .int .i64 0]) Try.underlying28 Try.zeroValue82 (by intro u hu; simp [Value.cells] at hu; subst hu; rfl) g0 (m * 2) _ _ (by omega) (fun j hj => by
            have e2 : (Value.agg #[.int .i64 0, .int .i64 0]).cells.size = 2 := rfl
            rw [e2] at hj
            have hj' : m * 2 + j < (cellsT X).length := by rw [cellsT_length, hXl]; omega
            have := ox.cellAt (m * 2 + j) (by rw [cellsT_length, hXl] at hj'; omega)
            rw [this]; simp [hj']) (fun j hj => hf _)
        have i0 : (0 : Int) ≤ (m : Int) := by omega
        have i1 : (m : Int) ≤ (ts.length : Int) := by omega
        have i2 : (m : Int) ≤ (c : Int) := by omega
        clear h0 h1 d0 d1 ho o1
        have Dl := Lib.hid dl
        have Hm := Lib.hid hm
        clear dl hm
        go_wp2
        go_ret
        have hm := Hm.out
        refine ⟨by rw [← hm]; rfl, ?_, grown_trans gr (grown_setRow _ _ _)⟩
        have hz : m * 2 + (Builtin.zeroCells #[Value.int .i64 0, Value.int .i64 0] (ts.length - m)).toList.length ≤ ts.length * 2 := by
          rw [zeroCells_len]
          show m * 2 + (ts.length - m) * 2 ≤ _
          omega
        have o3 := own_shrink (own_setRow _ (m * 2) wr (cellsT X) ox hz) (m := m) (by omega)
        have e3 : ∀ (Z Y : List Value), ((cellsT X).take (m * 2) ++ Z ++ Y).take (m * 2) = cellsT (woL ts a b) := fun Z Y => by
          have hl2 : ((cellsT X).take (m * 2)).length = m * 2 := by rw [List.length_take, cellsT_length, hXl]; omega
          rw [List.append_assoc, List.take_append_of_le_length (by omega), List.take_of_length_le (by omega), cellsT_take, hhd]
        rw [e3] at o3
        rw [← hm]
        exact o3

end Go.Proofs.Ytjdnkcdnppcbhaa

/- A table read: the specification's grid of numbers. -/
import Derived.Test.YtjbdflkbclhonabDoorTabS
import Derived.Test.YtjbdflkbclhonabDoorChain
namespace Go.Proofs.YtjbdflkbclhonabDoor
open Go.RowKit
set_option linter.unusedVariables false

def RetTab (w : World) (b : Bool) (s : ByteArray) (e : Ending) (w' : World) : Prop :=
  ∃ A c, e = .returned (.tuple #[.agg #[.int .i64 (widK b s), .int .i64 (hgtK b s), .slice A (digL (cellsK b s)).length c], .bool b]) ∧ w'.ownsRow w.heap.size 3 1 (.slice A (digL (cellsK b s)).length c) (digL (cellsK b s)).length (cellsI (digL (cellsK b s))) ∧ Below w.heap.size w w'
/-- The digits read so far: the rows before k, and j bytes of the row k. -/
def digTo (us : List ByteArray) (k j : Nat) : List UInt8 := ((us.map (·.data.toList)).take k).flatten ++ ((us.map (·.data.toList)).getD k []).take j
theorem digTo_step {us : List ByteArray} {k j : Nat} (hk : k < us.length) (hj : j < us[k].size) : digTo us k (j + 1) = digTo us k j ++ [us[k][j]] := by
  unfold digTo
  have e1 : (us.map (·.data.toList)).getD k [] = us[k].data.toList := by simp [hk]
  have hj' : j < us[k].data.toList.length := by simpa using hj
  rw [e1, List.take_succ_eq_append_getElem hj', List.append_assoc]
  rfl
theorem digTo_next {us : List ByteArray} {k : Nat} (hk : k < us.length) : digTo us (k + 1) 0 = digTo us k us[k].size := by
  unfold digTo
  have e1 : (us.map (·.data.toList)).getD k [] = us[k].data.toList := by simp [hk]
  have hk' : k < (us.map (·.data.toList)).length := by simpa using hk
  have e2 : (us.map (·.data.toList))[k] = us[k].data.toList := by simp
  rw [e1, List.take_succ_eq_append_getElem hk', List.flatten_append, e2]
  have e3 : us[k].data.toList.take us[k].size = us[k].data.toList := List.take_of_length_le (by simp)
  rw [e3]
  simp
theorem digTo_zero (us : List ByteArray) : digTo us 0 0 = [] := by simp [digTo]
theorem digTo_all {s : ByteArray} {us : List ByteArray} (h : us.map (·.data.toList) = rowsOf s) : digTo us us.length 0 = (rowsOf s).flatten := by
  unfold digTo
  have e : (us.map (·.data.toList)).length = us.length := by simp
  rw [← e, List.take_length, h]
  simp
theorem digTo_len {s : ByteArray} {us : List ByteArray} (h : us.map (·.data.toList) = rowsOf s) (hg : gridB s = true) {k j : Nat} (hk : k < us.length) : (digTo us k j).length ≤ 60 := by
  have h30 := (gridB_ok hg).most
  unfold digTo
  rw [List.length_append, h]
  have h1 : (((rowsOf s).take k).flatten).length ≤ (rowsOf s).flatten.length := by
    have e : (rowsOf s).flatten = ((rowsOf s).take k).flatten ++ ((rowsOf s).drop k).flatten := by rw [← List.flatten_append, List.take_append_drop]
    rw [e, List.length_append]; omega
  have h2 : (((rowsOf s).getD k []).take j).length ≤ (rowsOf s).flatten.length := by
    obtain ⟨h3, h4⟩ := row_at h hk
    have e1 : (rowsOf s).getD k [] = (rowsOf s)[k] := by simp [h3]
    rw [e1, List.length_take]
    have h5 : (rowsOf s)[k].length ≤ ((rowsOf s).map List.length).sum := mem_le_sum (List.mem_map_of_mem (List.getElem_mem h3))
    rw [← List.length_flatten] at h5
    omega
  omega
theorem grid_small {s : ByteArray} {us : List ByteArray} (h : us.map (·.data.toList) = rowsOf s) (hg : gridB s = true) : us.length ≤ 30 ∧ ∀ k (hk : k < us.length), us[k].size ≤ 30 := by
  obtain ⟨h1, h2, h3, h4⟩ := evenR_iff.1 hg
  have hl := (rows_us h).1
  have a := Nat.le_mul_of_pos_right (rowsOf s).length h2
  have b := Nat.le_mul_of_pos_left (widR (rowsOf s)) (show 0 < (rowsOf s).length by have := (rows_us h).2; omega)
  refine ⟨by omega, fun k hk => ?_⟩
  obtain ⟨h5, h6⟩ := row_at h hk
  have := h1 _ (List.getElem_mem h5)
  rw [h6] at this
  simp at this
  omega
theorem tab_bad {s : ByteArray} {us : List ByteArray} (h : us.map (·.data.toList) = rowsOf s) {k j : Nat} (hk : k < us.length) (hj : j < us[k].size) (hb : digB us[k][j] = false) : tabB s = false := by
  cases ht : tabB s
  · rfl
  · unfold tabB at ht
    rw [Bool.and_eq_true, List.all_eq_true] at ht
    obtain ⟨h3, h4⟩ := row_at h hk
    have hm : us[k][j] ∈ (rowsOf s).flatten := List.mem_flatten.2 ⟨_, List.getElem_mem h3, by rw [h4]; exact List.getElem_mem (l := us[k].data.toList) (by simpa using hj)⟩
    rw [ht.2 _ hm] at hb
    cases hb
theorem tab_good {s : ByteArray} (hg : gridB s = true) (h : ∀ b ∈ (rowsOf s).flatten, digB b = true) : tabB s = true := by
  unfold tabB
  rw [hg, Bool.true_and, List.all_eq_true]
  exact h
theorem digL_snoc (L : List UInt8) (b : UInt8) : digL (L ++ [b]) = digL L ++ [(b.toNat : Int) - 48] := by simp [digL]
theorem digL_len (L : List UInt8) : (digL L).length = L.length := by simp [digL]
theorem u8_sub {x : Nat} (h : digB (UInt8.ofNat x) = true) (hx : x ≤ 255) : True := trivial
theorem frozen_freshT (w : World) (cs : Array Value) (t : TypeId) (m : Nat) : (w.alloc (.cells cs t)).frozen? ⟨w.heap.size, m, none⟩ = false := by
  unfold World.frozen? World.alloc
  simp
theorem grown_frozenT {w w' : World} {row : Option Nat} {g i : Nat} (h : w.grownBy w' row) (hl : g < w.heap.size) (hne : some g ≠ row) : w'.frozen? ⟨g, i, none⟩ = w.frozen? ⟨g, i, none⟩ := World.frozen?_of_block (w := w) (h.block g hl hne)
theorem farT {w : World} {g a i j : Nat} {u v : Value} (h : a ≠ g) (hc : w.cell? ⟨g, j, none⟩ = some v) : (w.setCell ⟨a, i, none⟩ u).cell? ⟨g, j, none⟩ = some v :=
  (World.cell?_setCell_other _ _ _ _ (by intro e; cases e; exact h rfl)).trans hc
theorem sameT {w : World} {g i j : Nat} {u v : Value} (h : j ≠ i) (hc : w.cell? ⟨g, j, none⟩ = some v) : (w.setCell ⟨g, i, none⟩ u).cell? ⟨g, j, none⟩ = some v := (World.cell?_setCell_other _ _ _ _ (by simp <;> omega)).trans hc
theorem wrap_dig (b : UInt8) (h : digB b = true) : IntKind.u8.wrap ((b.toNat : Int) - 48) = (b.toNat : Int) - 48 ∧ IntKind.i64.wrap ((b.toNat : Int) - 48) = (b.toNat : Int) - 48 ∧ 48 ≤ (b.toNat : Int) ∧ (b.toNat : Int) ≤ 57 := by
  unfold digB at h
  rw [Bool.and_eq_true, decide_eq_true_eq, decide_eq_true_eq] at h
  have e : ((b.toNat : Int) - 48) = ((b.toNat - 48 : Nat) : Int) := by omega
  refine ⟨?_, IntWalk.i64_in _ (by omega), by omega, by omega⟩
  have hb := b.toNat_lt
  unfold IntKind.wrap
  simp [IntKind.bits, IntKind.signed]
  omega

/-- The grid that is being read, in block G. -/
structure GridAt (w1 wr : World) (W H : Int) (A : Option Addr) (c : Nat) (D : List Int) : Prop where
  c0 : wr.cell? ⟨w1.heap.size, 0, none⟩ = some (.int .i64 W)
  c1 : wr.cell? ⟨w1.heap.size, 1, none⟩ = some (.int .i64 H)
  c2 : wr.cell? ⟨w1.heap.size, 2, none⟩ = some (.slice A D.length c)
  f2 : wr.frozen? ⟨w1.heap.size, 2, none⟩ = false
  own : wr.ownsRow (w1.heap.size + 1) 3 1 (.slice A D.length c) D.length (cellsI D)
  low : Below w1.heap.size w1 wr
theorem GridAt.lt {w1 wr : World} {W H : Int} {A : Option Addr} {c : Nat} {D : List Int} (h : GridAt w1 wr W H A c D) : w1.heap.size < wr.heap.size := block_lt h.c0
theorem GridAt.keep {w1 wr w' : World} {W H : Int} {A : Option Addr} {c : Nat} {D : List Int} (h : GridAt w1 wr W H A c D) (hb : Below wr.heap.size wr w') : GridAt w1 w' W H A c D :=
  ⟨keepc hb h.c0, keepc hb h.c1, keepc hb h.c2, (hb.frozen (p := ⟨w1.heap.size, 2, none⟩) h.lt).trans h.f2, own_keep h.own hb, bstep h.low hb⟩
/-- One number more. -/
theorem GridAt.grow {w1 wr w' : World} {W H : Int} {A A' : Option Addr} {c c' : Nat} {D : List Int} {d : Int} (h : GridAt w1 wr W H A c D) (hg : wr.grownBy w' (Value.slice A D.length c).ownBlock)
    (ho : w'.ownsRow (w1.heap.size + 1) 3 1 (.slice A' (D.length + 1) c') (D.length + 1) (cellsI (D ++ [d]))) : GridAt w1 (w'.setCell ⟨w1.heap.size, 2, none⟩ (.slice A' (D.length + 1) c')) W H A' c' (D ++ [d]) := by
  have far : ∀ {g : Nat}, (Value.slice A D.length c).ownBlock = some g → w1.heap.size + 1 ≤ g := fun hg => (h.own.lt _ hg).1
  have k : ∀ {i : Nat} {v : Value}, wr.cell? ⟨w1.heap.size, i, none⟩ = some v → w'.cell? ⟨w1.heap.size, i, none⟩ = some v := fun hc => World.grownBy.cell hg hc fun e => by have := far e.symm; (try simp at this); omega
  have f : w'.frozen? ⟨w1.heap.size, 2, none⟩ = false := (grown_frozenT hg h.lt fun e => by have := far e.symm; (try simp at this); omega).trans h.f2
  refine ⟨sameT (by omega) (k h.c0), sameT (by omega) (k h.c1), ?_, by simp [f], ?_, ?_⟩
  · rw [List.length_append]
    exact World.cell?_setCell_same _ _ _ (k h.c2)
  · rw [List.length_append]
    exact ownsRow_setCell_below ho (by simp) _
  · exact (Below.grown h.low hg (Nat.le_of_lt h.lt) fun g e => by have := far e; omega).setCell (p := ⟨w1.heap.size, 2, none⟩) (Nat.le_refl _) _

set_option maxRecDepth 100000 in
set_option maxHeartbeats 4000000 in
theorem c_taRead (s : ByteArray) (w : World) (hl : s.size ≤ 1048576) : Calls Tryd.prog 24 #[.string s] w (RetTab w (tabB s) s) := by
  have hb0 : Below w.heap.size w (w.alloc (.cells #[.int .i64 0, .int .i64 0, .slice none 0 0] 46)) := by go_grown
  have r0 : (w.alloc (.cells #[.int .i64 0, .int .i64 0, .slice none 0 0] 46)).cell? ⟨w.heap.size, 0, none⟩ = some (.int .i64 0) := by simp [go_sem]
  have fr0 : (w.alloc (.cells #[.int .i64 0, .int .i64 0, .slice none 0 0] 46)).frozen? ⟨w.heap.size, 0, none⟩ = false := frozen_freshT _ _ _ _
  have r1 : (w.alloc (.cells #[.int .i64 0, .int .i64 0, .slice none 0 0] 46)).cell? ⟨w.heap.size, 1, none⟩ = some (.int .i64 0) := by simp [go_sem]
  have fr1 : (w.alloc (.cells #[.int .i64 0, .int .i64 0, .slice none 0 0] 46)).frozen? ⟨w.heap.size, 1, none⟩ = false := frozen_freshT _ _ _ _
  have r2 : (w.alloc (.cells #[.int .i64 0, .int .i64 0, .slice none 0 0] 46)).cell? ⟨w.heap.size, 2, none⟩ = some (.slice none 0 0) := by simp [go_sem]
  have fr2 : (w.alloc (.cells #[.int .i64 0, .int .i64 0, .slice none 0 0] 46)).frozen? ⟨w.heap.size, 2, none⟩ = false := frozen_freshT _ _ _ _
  have hz0 : w.heap.size < (w.alloc (.cells #[.int .i64 0, .int .i64 0, .slice none 0 0] 46)).heap.size := block_lt r0
  have con := Lib.hid (c_taRows s (w.alloc (.cells #[.int .i64 0, .int .i64 0, .slice none 0 0] 46)) hl)
  cases hg : gridB s
  · have ht : tabB s = false := by unfold tabB; rw [hg]; rfl
    rw [ht]
    unfold RetRows at con
    rw [hg] at con
    clear hg ht
    go_enter Tryd.func24, Tryd.ntmps24
    go_wp2_with (go_at_call 44; refine con.out.mono ?_; rintro e w1 ⟨us, A, c, rfl, hus, hb1⟩; clear hus; have s0 := keepc hb1 r0; have s1 := keepc hb1 r1; have s2 := keepc hb1 r2; have g0 := (hb1.frozen (p := ⟨w.heap.size, 0, none⟩) hz0).trans fr0; have g1 := (hb1.frozen (p := ⟨w.heap.size, 1, none⟩) hz0).trans fr1; have g2 := (hb1.frozen (p := ⟨w.heap.size, 2, none⟩) hz0).trans fr2)
    refine bodyPost_ret (v := .tuple #[.agg #[.int .i64 0, .int .i64 0, .slice none 0 0], .bool false]) (by simp [results, Tryd.results24, go_sem, s0, s1, s2]) rfl ?_
    exact ⟨none, 0, rfl, World.ownsRow_nil _ _ _ _, (((bstep hb0 hb1).setCell (p := ⟨w.heap.size, 0, none⟩) (Nat.le_refl _) _).setCell (p := ⟨w.heap.size, 1, none⟩) (Nat.le_refl _) _).setCell (p := ⟨w.heap.size, 2, none⟩) (Nat.le_refl _) _⟩
  · unfold RetRows at con
    rw [hg] at con
    have Hg := Lib.hid hg
    clear hg
    go_enter Tryd.func24, Tryd.ntmps24
    go_wp2_with (go_at_call 44; refine con.out.mono ?_; rintro e w1 ⟨us, A, c, rfl, hus2, hb1⟩; have Hus := Lib.hid (hus2 trivial); clear hus2; have hus0 := (rows_us Hus.out.1).2; obtain ⟨gr, rfl, hgb, hgl, hcell⟩ := ownW_at Hus.out.2 hus0; have cr0 := hcell 0 hus0; have Hcell := Lib.hid hcell; have j0 : (0 : Int) ≤ (0 : Int) := (by omega); have j1 : (0 : Int) < (us.length : Int) := (by omega); have s0 := keepc hb1 r0; have s1 := keepc hb1 r1; have s2 := keepc hb1 r2; have g0 := (hb1.frozen (p := ⟨w.heap.size, 0, none⟩) hz0).trans fr0; have g1 := (hb1.frozen (p := ⟨w.heap.size, 1, none⟩) hz0).trans fr1; have g2 := (hb1.frozen (p := ⟨w.heap.size, 2, none⟩) hz0).trans fr2; have Hb1 := Lib.hid (bstep hb0 hb1); have hz1 := Nat.lt_of_lt_of_le hz0 hb1.size; clear hcell hb1)
    obtain ⟨w2, hw2⟩ : ∃ w2, w2 = (w1.alloc (.cells #[.int .i64 (us[0].size : Int), .int .i64 (us.length : Int), .slice none 0 0] 46)) := ⟨_, rfl⟩
    rw [← hw2]
    have hG2 : GridAt w1 w2 (us[0].size : Int) (us.length : Int) none 0 [] := by
      refine ⟨?_, ?_, ?_, ?_, World.ownsRow_nil _ _ _ _, ?_⟩ <;> rw [hw2]
      · simp
      · simp
      · simp
      · exact frozen_freshT _ _ _ _
      · exact (Below.refl _ _).alloc (Nat.le_refl _) _
    clear hw2 cr0
    have hus30 := (grid_small Hus.out.1 Hg.out).1
    go_loopw [27] (fun i wr => ∃ (k : Nat) (A2 : Option Addr) (c2 : Nat), k ≤ us.length ∧ i = .int .i64 k ∧ (∀ b ∈ digTo us k 0, digB b = true) ∧ GridAt w1 wr (us[0].size : Int) (us.length : Int) A2 c2 (digL (digTo us k 0))) (fun i _ => us.length - (intOf i).toNat)
    case atStart => exact ⟨0, none, 0, Nat.zero_le _, rfl, by rw [digTo_zero]; exact ⟨(fun b hb => by cases hb), hG2⟩⟩
    case round =>
      clear hG2
      obtain ⟨k, A2, c2, hk, rfl, hdig, hG⟩ := hrel
      by_cases hlt : k < us.length
      · have ck := (hG.low.cell (p := ⟨gr, k, none⟩) hgl).trans (Hcell.out k hlt)
        have hn := Lib.hid (digTo_next hlt)
        have hst := Lib.hid (fun j (hj : j < us[k].size) => digTo_step hlt hj)
        have hbad := Lib.hid (fun j (hj : j < us[k].size) h => tab_bad Hus.out.1 hlt hj h)
        have hl60 := Lib.hid (fun j => digTo_len (j := j) Hus.out.1 Hg.out hlt)
        have i2 : (k : Int) < (us.length : Int) := by omega
        have i2b : (0 : Int) ≤ (k : Int) := by omega
        have Hdig := Lib.hid hdig
        have HG0 := Lib.hid hG
        clear hdig hG
        have hr30 := (grid_small Hus.out.1 Hg.out).2 k hlt
        generalize us[k] = r at *
        go_wp2
        obtain ⟨wo, rfl⟩ : ∃ wo, wo = wr := ⟨_, rfl⟩
        go_loopw [9] (fun i wr => ∃ (j : Nat) (A3 : Option Addr) (c3 : Nat), j ≤ r.size ∧ i = .int .i64 j ∧ (∀ b ∈ digTo us k j, digB b = true) ∧ GridAt w1 wr (us[0].size : Int) (us.length : Int) A3 c3 (digL (digTo us k j))) (fun i _ => r.size - (intOf i).toNat)
        case atStart => exact ⟨0, A2, c2, Nat.zero_le _, rfl, Hdig.out, HG0.out⟩
        case round =>
          clear HG0 Hdig ck
          obtain ⟨j, A3, c3, hj, rfl, hdig, hG⟩ := hrel
          by_cases hjl : j < r.size
          · have i3 : (0 : Int) ≤ (j : Int) := by omega
            have i4 : (j : Int) < (r.size : Int) := by omega
            have Hst := Lib.hid (hst.out j hjl)
            have Hbad := Lib.hid (hbad.out j hjl)
            have hDl := hl60.out j
            have hzw := hG.lt
            have hbx := Hb1.out.trans (hG.low.mono Hb1.out.size)
            cases hd : digB r[j]
            · have ht := Lib.hid (Hbad.out hd)
              have hlo := hG.low
              have t0 := keepc (hlo.mono (Nat.le_refl _)) s0
              have t1 := keepc hlo s1
              have t2 := keepc hlo s2
              have u0 := (hlo.frozen (p := ⟨w.heap.size, 0, none⟩) hz1).trans g0
              have u1 := (hlo.frozen (p := ⟨w.heap.size, 1, none⟩) hz1).trans g1
              have u2 := (hlo.frozen (p := ⟨w.heap.size, 2, none⟩) hz1).trans g2
              have hx : ¬ (48 ≤ (r[j].toNat : Int) ∧ (r[j].toNat : Int) ≤ 57) := by
                intro h
                unfold digB at hd
                rw [decide_eq_true (by omega), decide_eq_true (by omega)] at hd
                cases hd
              have Hbx := Lib.hid hbx
              have HZ : wr.heap.size > w.heap.size := by omega
              clear hd hdig hG hbx
              by_cases h48 : (r[j].toNat : Int) < 48
              · clear hx
                go_wp2
                refine bodyPost_ret (v := .tuple #[.agg #[.int .i64 0, .int .i64 0, .slice none 0 0], .bool false]) (by simp [results, Tryd.results24, go_sem, t0, t1, t2]) rfl ?_
                unfold RetTab
                rw [ht.out]
                exact ⟨none, 0, rfl, World.ownsRow_nil _ _ _ _, ((Hbx.out.setCell (p := ⟨w.heap.size, 0, none⟩) (Nat.le_refl _) _).setCell (p := ⟨w.heap.size, 1, none⟩) (Nat.le_refl _) _).setCell (p := ⟨w.heap.size, 2, none⟩) (Nat.le_refl _) _⟩
              · have h57 : (57 : Int) < (r[j].toNat : Int) := by omega
                clear hx
                go_wp2
                refine bodyPost_ret (v := .tuple #[.agg #[.int .i64 0, .int .i64 0, .slice none 0 0], .bool false]) (by simp [results, Tryd.results24, go_sem, t0, t1, t2]) rfl ?_
                unfold RetTab
                rw [ht.out]
                exact ⟨none, 0, rfl, World.ownsRow_nil _ _ _ _, ((Hbx.out.setCell (p := ⟨w.heap.size, 0, none⟩) (Nat.le_refl _) _).setCell (p := ⟨w.heap.size, 1, none⟩) (Nat.le_refl _) _).setCell (p := ⟨w.heap.size, 2, none⟩) (Nat.le_refl _) _⟩
            · obtain ⟨iw1, iw2, i48, i57⟩ := wrap_dig r[j] hd
              have h48 : ¬ (r[j].toNat : Int) < 48 := by omega
              have h57 : ¬ (57 : Int) < (r[j].toNat : Int) := by omega
              have Hd := Lib.hid hd
              have Hdig := Lib.hid hdig
              have HG := Lib.hid hG
              have e2 := hG.c2
              have Dl : (digL (digTo us k j)).length ≤ 4194304 := by rw [digL_len]; omega
              clear hd hdig hG hbx
              go_wp2_with fail
              refine wp_region_held_drew (S := fun w' => True) (by kernel_rfl) trivial (fun hH0 => ?_)
              clear hH0
              obtain ⟨v7, hv7⟩ : ∃ v7, v7 = wr.drew := ⟨_, rfl⟩
              have H7 : GridAt w1 v7 (us[0].size : Int) (us.length : Int) A3 c3 (digL (digTo us k j)) := by rw [hv7]; exact HG.out.keep (Below.refl _ _).drew
              have E2 := H7.c2
              rw [← hv7]
              clear hv7 e2 HG hzw
              have HH7 := Lib.hid H7
              clear H7
              have hst7 := hst
              clear hst hbad
              refine reg_take 0 rfl (by kernel_rfl) (by kernel_rfl) (by kernel_rfl) (fun _ _ _ h => h) (by rfl) (fun w _ => by first | (go_simp; done) | (go_simp; with_reducible rfl)) trivial ?_
              try simp only [Act.put, List.setIfInBounds_toArray, List.set_cons_zero, List.set_cons_succ, List.getElem_toArray, List.getElem_cons_zero]
              refine reg_take 2 rfl (by kernel_rfl) (by kernel_rfl) (by kernel_rfl) (fun _ _ _ h => h) (by rfl) (fun w _ => by first | (go_simp; done) | (go_simp; with_reducible rfl)) trivial ?_
              try simp only [Act.put, List.setIfInBounds_toArray, List.getElem_toArray]
              refine reg_take 3 rfl (by kernel_rfl) (by kernel_rfl) (by kernel_rfl) (fun _ _ _ h => h) (by rfl) (fun w _ => by first | (go_simp; done) | (go_simp; with_reducible rfl)) trivial ?_
              try simp only [Act.put, List.getElem_toArray]
              refine reg_take 4 rfl (by kernel_rfl) (by kernel_rfl) (by kernel_rfl) (fun _ _ _ h => h) (by rfl) (fun w _ => by first | (go_simp; done) | (go_simp; with_reducible rfl)) trivial ?_
              try simp only [Act.put, List.getElem_toArray]
              refine reg_take 5 rfl (by kernel_rfl) (by kernel_rfl) (by kernel_rfl) (fun _ _ _ h => h) (by rfl) (fun w _ => by first | (go_simp; done) | (go_simp; with_reducible rfl)) trivial ?_
              try simp only [Act.put, List.getElem_toArray]
              refine reg_take 6 rfl (by kernel_rfl) (by kernel_rfl) (by kernel_rfl) (fun _ _ _ h => h) (by rfl) (fun w _ => by first | (go_simp; done) | (go_simp; with_reducible rfl)) trivial ?_
              try simp only [Act.put, List.getElem_toArray]
              refine wpAnyH_ready (rs := [1, 7]) (by kernel_rfl) (by simp) ?_
              refine AllReadyH.cons (i := 1) rfl (fun K hK => ?_) (AllReadyH.cons (i := 7) rfl (fun K hK => ?_) AllReadyH.nil)
              · skip
                go_simp
                skip
                refine hK.out _ _ trivial (fun hH1 => ?_)
                clear hK K hH1
                try simp only [Act.put, List.setIfInBounds_toArray, List.set_cons_zero, List.set_cons_succ, List.getElem_toArray, List.getElem_cons_zero, List.getElem_cons_succ]
                refine wpAnyH_ready (rs := [7]) (by kernel_rfl) (by simp) ?_
                refine AllReadyH.cons (i := 7) rfl (fun K hK => ?_) AllReadyH.nil
                go_simp
                skip
                refine hK.out _ _ trivial (fun hH1 => ?_)
                clear hK K hH1
                try simp only [Act.put, List.setIfInBounds_toArray, List.set_cons_zero, List.set_cons_succ, List.getElem_toArray, List.getElem_cons_zero, List.getElem_cons_succ]
                have X0 : (v7.alloc (.cells #[.int .i64 ((r[j].toNat : Int) - 48)] 3)).cell? ⟨v7.heap.size, 0, none⟩ = some (.int .i64 ((r[j].toNat : Int) - 48)) := by simp
                obtain ⟨v8, hv8⟩ : ∃ v8, v8 = (v7.alloc (.cells #[.int .i64 ((r[j].toNat : Int) - 48)] 3)) := ⟨_, rfl⟩
                have H8 : GridAt w1 v8 (us[0].size : Int) (us.length : Int) A3 c3 (digL (digTo us k j)) := by rw [hv8]; exact HH7.out.keep ((Below.refl _ _).alloc (Nat.le_refl _) _)
                rw [← hv8] at X0 ⊢
                clear hv8
                have F2 := H8.c2
                have hz8 := H8.lt
                have HH8 := Lib.hid H8
                clear H8
                refine wpAnyH_ready (rs := [8]) (by kernel_rfl) (by simp) ?_
                refine AllReadyH.cons (i := 8) rfl (fun K hK => ?_) AllReadyH.nil
                refine step_append_int rfl (.tmp 49) (.tmp 55) rfl (w1.heap.size + 1) _ (digL (digTo us k j)) rfl HH8.out.own ((r[j].toNat : Int) - 48) v7.heap.size rfl X0 Dl hz8 ?_
                intro A4 c4 v9 ho9 hg9
                have far : ∀ {g : Nat}, (Value.slice A3 (digL (digTo us k j)).length c3).ownBlock = some g → w1.heap.size + 1 ≤ g := fun hg => (HH8.out.own.lt _ hg).1
                have Y2 : v9.cell? ⟨w1.heap.size, 2, none⟩ = some (.slice A3 (digL (digTo us k j)).length c3) := World.grownBy.cell hg9 F2 fun e => by have := far e.symm; (try simp at this); omega
                have Yf : v9.frozen? ⟨w1.heap.size, 2, none⟩ = false := (grown_frozenT hg9 hz8 fun e => by have := far e.symm; (try simp at this); omega).trans HH8.out.f2
                refine hK.out _ _ trivial (fun hH1 => ?_)
                clear hK K hH1
                try simp only [Act.put, List.setIfInBounds_toArray, List.set_cons_zero, List.set_cons_succ, List.getElem_toArray, List.getElem_cons_zero, List.getElem_cons_succ]
                refine reg_take 9 rfl (by kernel_rfl) (by kernel_rfl) (by kernel_rfl) (fun _ _ _ h => h) (by rfl) (fun w _ => by first | (go_simp; done) | (go_simp; with_reducible rfl)) trivial ?_
                try simp only [Act.put, List.setIfInBounds_toArray, List.set_cons_zero, List.set_cons_succ, List.getElem_toArray, List.getElem_cons_zero, List.getElem_cons_succ]
                refine wpAnyH_ready (rs := [10]) (by kernel_rfl) (by simp) ?_
                refine AllReadyH.cons (i := 10) rfl (fun K hK => ?_) AllReadyH.nil
                go_simp
                skip
                refine hK.out _ _ trivial (fun hH1 => ?_)
                clear hK K hH1
                try simp only [Act.put, List.setIfInBounds_toArray, List.set_cons_zero, List.set_cons_succ, List.getElem_toArray, List.getElem_cons_zero, List.getElem_cons_succ]
                refine wpAnyH_done (by kernel_rfl) ?_ _
                have HN := HH8.out.grow hg9 ho9
                rw [← digL_snoc, ← Hst.out] at HN
                obtain ⟨vA, hvA⟩ : ∃ vA, vA = v9.setCell ⟨w1.heap.size, 2, none⟩ (.slice A4 ((digL (digTo us k j)).length + 1) c4) := ⟨_, rfl⟩
                rw [← hvA] at HN ⊢
                clear hvA Y2 Yf hg9 ho9 far F2 E2 X0
                have HHN := Lib.hid HN
                clear HN
                go_wp2
                go_roundw
                case rel =>
                  refine ⟨j + 1, A4, c4, by omega, by go_num, ?_, HHN.out⟩
                  rw [Hst.out]
                  intro b hb
                  rcases List.mem_append.1 hb with h | h
                  · exact Hdig.out b h
                  · rw [List.mem_singleton.1 h]; exact Hd.out
                case measure => simp [intOf]; omega
              · skip
                go_simp
                skip
                refine hK.out _ _ trivial (fun hH1 => ?_)
                clear hK K hH1
                try simp only [Act.put, List.setIfInBounds_toArray, List.set_cons_zero, List.set_cons_succ, List.getElem_toArray, List.getElem_cons_zero, List.getElem_cons_succ]
                have X0 : (v7.alloc (.cells #[.int .i64 ((r[j].toNat : Int) - 48)] 3)).cell? ⟨v7.heap.size, 0, none⟩ = some (.int .i64 ((r[j].toNat : Int) - 48)) := by simp
                obtain ⟨v8, hv8⟩ : ∃ v8, v8 = (v7.alloc (.cells #[.int .i64 ((r[j].toNat : Int) - 48)] 3)) := ⟨_, rfl⟩
                have H8 : GridAt w1 v8 (us[0].size : Int) (us.length : Int) A3 c3 (digL (digTo us k j)) := by rw [hv8]; exact HH7.out.keep ((Below.refl _ _).alloc (Nat.le_refl _) _)
                rw [← hv8] at X0 ⊢
                clear hv8
                have F2 := H8.c2
                have hz8 := H8.lt
                have HH8 := Lib.hid H8
                clear H8
                refine wpAnyH_ready (rs := [1]) (by kernel_rfl) (by simp) ?_
                refine AllReadyH.cons (i := 1) rfl (fun K hK => ?_) AllReadyH.nil
                go_simp
                skip
                refine hK.out _ _ trivial (fun hH1 => ?_)
                clear hK K hH1
                try simp only [Act.put, List.setIfInBounds_toArray, List.set_cons_zero, List.set_cons_succ, List.getElem_toArray, List.getElem_cons_zero, List.getElem_cons_succ]
                refine wpAnyH_ready (rs := [8]) (by kernel_rfl) (by simp) ?_
                refine AllReadyH.cons (i := 8) rfl (fun K hK => ?_) AllReadyH.nil
                refine step_append_int rfl (.tmp 49) (.tmp 55) rfl (w1.heap.size + 1) _ (digL (digTo us k j)) rfl HH8.out.own ((r[j].toNat : Int) - 48) v7.heap.size rfl X0 Dl hz8 ?_
                intro A4 c4 v9 ho9 hg9
                have far : ∀ {g : Nat}, (Value.slice A3 (digL (digTo us k j)).length c3).ownBlock = some g → w1.heap.size + 1 ≤ g := fun hg => (HH8.out.own.lt _ hg).1
                have Y2 : v9.cell? ⟨w1.heap.size, 2, none⟩ = some (.slice A3 (digL (digTo us k j)).length c3) := World.grownBy.cell hg9 F2 fun e => by have := far e.symm; (try simp at this); omega
                have Yf : v9.frozen? ⟨w1.heap.size, 2, none⟩ = false := (grown_frozenT hg9 hz8 fun e => by have := far e.symm; (try simp at this); omega).trans HH8.out.f2
                refine hK.out _ _ trivial (fun hH1 => ?_)
                clear hK K hH1
                try simp only [Act.put, List.setIfInBounds_toArray, List.set_cons_zero, List.set_cons_succ, List.getElem_toArray, List.getElem_cons_zero, List.getElem_cons_succ]
                refine reg_take 9 rfl (by kernel_rfl) (by kernel_rfl) (by kernel_rfl) (fun _ _ _ h => h) (by rfl) (fun w _ => by first | (go_simp; done) | (go_simp; with_reducible rfl)) trivial ?_
                try simp only [Act.put, List.setIfInBounds_toArray, List.set_cons_zero, List.set_cons_succ, List.getElem_toArray, List.getElem_cons_zero, List.getElem_cons_succ]
                refine wpAnyH_ready (rs := [10]) (by kernel_rfl) (by simp) ?_
                refine AllReadyH.cons (i := 10) rfl (fun K hK => ?_) AllReadyH.nil
                go_simp
                skip
                refine hK.out _ _ trivial (fun hH1 => ?_)
                clear hK K hH1
                try simp only [Act.put, List.setIfInBounds_toArray, List.set_cons_zero, List.set_cons_succ, List.getElem_toArray, List.getElem_cons_zero, List.getElem_cons_succ]
                refine wpAnyH_done (by kernel_rfl) ?_ _
                have HN := HH8.out.grow hg9 ho9
                rw [← digL_snoc, ← Hst.out] at HN
                obtain ⟨vA, hvA⟩ : ∃ vA, vA = v9.setCell ⟨w1.heap.size, 2, none⟩ (.slice A4 ((digL (digTo us k j)).length + 1) c4) := ⟨_, rfl⟩
                rw [← hvA] at HN ⊢
                clear hvA Y2 Yf hg9 ho9 far F2 E2 X0
                have HHN := Lib.hid HN
                clear HN
                go_wp2
                go_roundw
                case rel =>
                  refine ⟨j + 1, A4, c4, by omega, by go_num, ?_, HHN.out⟩
                  rw [Hst.out]
                  intro b hb
                  rcases List.mem_append.1 hb with h | h
                  · exact Hdig.out b h
                  · rw [List.mem_singleton.1 h]; exact Hd.out
                case measure => simp [intOf]; omega
          · have hje : j = r.size := by omega
            subst hje
            rw [← hn.out] at hdig hG
            have Hdig := Lib.hid hdig
            have HG := Lib.hid hG
            clear hdig hG
            go_wp2
            go_roundw
            case rel => exact ⟨k + 1, A3, c3, by omega, by go_num, Hdig.out, HG.out⟩
            case measure => simp [intOf]; omega
      · have hke : k = us.length := by omega
        subst hke
        rw [digTo_all Hus.out.1] at hdig hG
        have ht := tab_good Hg.out hdig
        have HT := Lib.hid ht
        have q0 := hG.c0
        have q1 := hG.c1
        have q2 := hG.c2
        have hzw := hG.lt
        have hlo := hG.low
        have t0 := keepc hlo s0
        have t1 := keepc hlo s1
        have t2 := keepc hlo s2
        have u0 := (hlo.frozen (p := ⟨w.heap.size, 0, none⟩) hz1).trans g0
        have u1 := (hlo.frozen (p := ⟨w.heap.size, 1, none⟩) hz1).trans g1
        have u2 := (hlo.frozen (p := ⟨w.heap.size, 2, none⟩) hz1).trans g2
        have Hw := Lib.hid (wid_us Hus.out.1 hus0)
        have Hh := Lib.hid (rows_us Hus.out.1).1
        have Hbx := Lib.hid (Hb1.out.trans (hG.low.mono Hb1.out.size))
        have HO := Lib.hid hG.own
        have HZ : w.heap.size < wr.heap.size := by omega
        clear hG hdig ht hlo
        go_wp2
        refine bodyPost_ret (v := .tuple #[.agg #[.int .i64 (us[0].size : Int), .int .i64 (us.length : Int), .slice A2 (digL (rowsOf s).flatten).length c2], .bool true]) (by simp [results, Tryd.results24, go_sem, t0, t1, t2]) rfl ?_
        unfold RetTab
        rw [HT.out]
        refine ⟨A2, c2, ?_, ?_, ?_⟩
        · show _ = Ending.returned (.tuple #[.agg #[.int .i64 (widR (rowsOf s) : Int), .int .i64 ((rowsOf s).length : Int), .slice A2 (digL (rowsOf s).flatten).length c2], .bool true])
          rw [Hw.out, ← Hh.out]
        · exact own_base (ownsRow_setCell_below (ownsRow_setCell_below (ownsRow_setCell_below HO.out (by simp; omega) _) (by simp; omega) _) (by simp; omega) _) (by omega)
        · exact ((Hbx.out.setCell (p := ⟨w.heap.size, 0, none⟩) (Nat.le_refl _) _).setCell (p := ⟨w.heap.size, 1, none⟩) (Nat.le_refl _) _).setCell (p := ⟨w.heap.size, 2, none⟩) (Nat.le_refl _) _
end Go.Proofs.YtjbdflkbclhonabDoor

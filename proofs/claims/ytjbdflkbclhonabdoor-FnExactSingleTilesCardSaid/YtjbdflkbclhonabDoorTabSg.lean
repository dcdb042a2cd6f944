/- SingleTiles on both sides. -/
import Derived.Test.YtjbdflkbclhonabDoorTabQ
import Derived.Test.YtjbdflkbclhonabDoorTabM
import Derived.Test.YtjbdflkbclhonabDoorTabV
import Derived.Test.YtjbdflkbclhonabDoorSorted
namespace Go.Proofs.YtjbdflkbclhonabDoor
open Go.RowKit
set_option linter.unusedVariables false

def sgOk (s : ByteArray) (ts : List (Int × Int)) : Bool := tabB s && handB ts

/-- How many places a tile has. -/
def sgN (D : List Int) (W n : Nat) (t : Int × Int) : Nat := (plcTo D W n t n).length

def sgTo (D : List Int) (W n : Nat) (us : List (Int × Int)) (k : Nat) : List (Int × Int) := (us.take k).filter fun t => decide (sgN D W n t = 1)

theorem sgTo_zero (D : List Int) (W n : Nat) (us : List (Int × Int)) : sgTo D W n us 0 = [] := by simp [sgTo]

theorem sgTo_all (D : List Int) (W n : Nat) (us : List (Int × Int)) : sgTo D W n us us.length = us.filter fun t => decide (sgN D W n t = 1) := by
  unfold sgTo
  rw [List.take_length]

theorem sgTo_yes {D : List Int} {W n : Nat} {us : List (Int × Int)} {k : Nat} (h : k < us.length) (e : sgN D W n us[k] = 1) : sgTo D W n us (k + 1) = sgTo D W n us k ++ [(us[k].1, us[k].2)] := by
  unfold sgTo
  rw [List.take_succ_eq_append_getElem h, List.filter_append]
  congr 1
  simp [e]

theorem sgTo_no {D : List Int} {W n : Nat} {us : List (Int × Int)} {k : Nat} (h : k < us.length) (e : ¬ sgN D W n us[k] = 1) : sgTo D W n us (k + 1) = sgTo D W n us k := by
  unfold sgTo
  rw [List.take_succ_eq_append_getElem h, List.filter_append]
  simp [e]

theorem sgTo_len (D : List Int) (W n : Nat) (us : List (Int × Int)) (k : Nat) : (sgTo D W n us k).length ≤ k := by
  unfold sgTo
  have h1 := List.length_filter_le (fun t => decide (sgN D W n t = 1)) (us.take k)
  have h2 : (us.take k).length ≤ k := by simp; omega
  omega

def sgL (s : ByteArray) (ts : List (Int × Int)) : List (Int × Int) := if sgOk s ts then (sortL ts).filter fun t => decide (sgN (digL (cellsK true s)) (widK true s) (cellsK true s).length t = 1) else []

theorem sgL_len (s : ByteArray) (ts : List (Int × Int)) : (sgL s ts).length ≤ 110 := by
  unfold sgL
  split
  · exact Nat.le_trans (List.length_filter_le _ _) (sortL_len ts)
  · simp

theorem sgL_yes {s : ByteArray} {ts : List (Int × Int)} (h : sgOk s ts = true) : sgL s ts = sgTo (digL (cellsK true s)) (widK true s) (cellsK true s).length (sortL ts) (sortL ts).length := by
  unfold sgL
  rw [h, sgTo_all]
  rfl

theorem sgL_no {s : ByteArray} {ts : List (Int × Int)} (h : sgOk s ts = false) : sgL s ts = [] := by
  unfold sgL
  rw [h]
  rfl

set_option maxRecDepth 100000 in
set_option maxHeartbeats 4000000 in
theorem c_implSingles (s : ByteArray) (A0 : Option Addr) (c0 : Nat) (ts : List (Int × Int)) (m : Int) (w : World) (hm : w.cell? ⟨0, 0, none⟩ = some (.int .i64 m)) (hl : s.size ≤ 1048576) (hr : RdT w A0 ts) (hlt : ts.length ≤ 1048576) :
    Calls Tryd.prog 16 #[.string s, .slice A0 ts.length c0] w (RetT w (sgL s ts) (sgOk s ts)) := by
  have con := Lib.hid (c_tableOf s m w hm hl)
  unfold RetG at con
  have conS := Lib.hid (fun W0 (hb : Below w.heap.size w W0) => c_implSortHand A0 c0 ts W0 (hr.below hb) hlt)
  unfold RetT at conS
  have hsl : sortHL ts = if handB ts then sortL ts else [] := rfl
  clear hm hr hlt
  cases ht : tabB s
  · have e1 : sgOk s ts = false := by unfold sgOk; rw [ht]; rfl
    rw [sgL_no e1, e1]
    rw [ht, cellsK_no, widK_no] at con
    generalize handB ts = hb9 at *
    generalize sortHL ts = us at *
    clear ht e1 hsl
    go_enter Tryd.func16, Tryd.ntmps16
    go_wp2_with (first | (go_at_call 27; refine con.out.mono ?_; rintro e w1 ⟨A, c, rfl, hc, hOU, hb1⟩; have Hb := Lib.hid (hb1.alloc hb1.size (.cells #[.slice A ([] : List UInt8).length c, .int .i64 ((0 : Nat) : Int)] 53)); clear hb1 hOU hc) | (go_at_call 36; refine (conS.out _ Hb.out).mono ?_; rintro e w2 ⟨A2, c2, rfl, ho2, hb2⟩; have Hb2 := Lib.hid (bstep Hb.out hb2); clear ho2 hb2))
    go_ret2
    exact ⟨none, 0, rfl, World.ownsRow_nil _ _ _ _, Hb2.out⟩
  · obtain ⟨h1, h2, h3, h4, h5, h6⟩ := tab_small ht
    rw [ht] at con
    have hdg := tab_dig ht
    cases hh : handB ts
    · have e1 : sgOk s ts = false := by unfold sgOk; rw [ht, hh]; rfl
      rw [sgL_no e1, e1]
      rw [hh] at conS
      generalize sortHL ts = us at *
      generalize cellsK true s = L at *
      generalize widK true s = W at *
      clear ht e1 hsl hh hdg h1 h2 h3 h4 h5 h6
      go_enter Tryd.func16, Tryd.ntmps16
      go_wp2_with (first | (go_at_call 27; refine con.out.mono ?_; rintro e w1 ⟨A, c, rfl, hc, hOU, hb1⟩; have Hb := Lib.hid (hb1.alloc hb1.size (.cells #[.slice A L.length c, .int .i64 (W : Int)] 53)); clear hb1 hOU hc) | (go_at_call 36; refine (conS.out _ Hb.out).mono ?_; rintro e w2 ⟨A2, c2, rfl, ho2, hb2⟩; have Hb2 := Lib.hid (bstep Hb.out hb2); clear ho2 hb2))
      go_ret2
      exact ⟨none, 0, rfl, World.ownsRow_nil _ _ _ _, Hb2.out⟩
    · have e1 : sgOk s ts = true := by unfold sgOk; rw [ht, hh]; rfl
      rw [sgL_yes e1, e1]
      rw [hh, if_pos rfl] at hsl
      rw [hh, hsl] at conS
      have hul := sortL_len ts
      have conP := Lib.hid (fun (A : Option Addr) c t0 t1 W0 (hA : RdU W0 A (cellsK true s)) => c_placesOf A c (widK true s) (cellsK true s).length (cellsK true s) t0 t1 W0 hA rfl hdg h1 ⟨_, h6⟩ (by omega) (by omega))
      have conP2 := Lib.hid (fun (A : Option Addr) c (t : Int × Int) W0 (hA : RdU W0 A (cellsK true s)) => (show Calls Tryd.prog 30 #[.agg #[.slice A (cellsK true s).length c, .int .i64 (widK true s)], .agg #[.int .i64 t.1, .int .i64 t.2]] W0 fun e w' => ∃ A4 c4, e = .returned (.slice A4 (sgN (digL (cellsK true s)) (widK true s) (cellsK true s).length t) c4) ∧ Below W0.heap.size W0 w' from (conP.out A c t.1 t.2 W0 hA).mono fun e w' ⟨A4, c4, he, _, hb⟩ => ⟨A4, c4, he, hb⟩))
      have Hyes := Lib.hid (fun k h e => sgTo_yes (D := digL (cellsK true s)) (W := widK true s) (n := (cellsK true s).length) (us := sortL ts) (k := k) h e)
      have Hno := Lib.hid (fun k h e => sgTo_no (D := digL (cellsK true s)) (W := widK true s) (n := (cellsK true s).length) (us := sortL ts) (k := k) h e)
      have Hz := Lib.hid (sgTo_zero (digL (cellsK true s)) (widK true s) (cellsK true s).length (sortL ts))
      have Hln := Lib.hid (fun k => sgTo_len (digL (cellsK true s)) (widK true s) (cellsK true s).length (sortL ts) k)
      generalize sgTo (digL (cellsK true s)) (widK true s) (cellsK true s).length (sortL ts) = F at *
      generalize sgN (digL (cellsK true s)) (widK true s) (cellsK true s).length = N at *
      generalize sortL ts = us at *
      generalize cellsK true s = L at *
      generalize widK true s = W at *
      clear ht e1 hsl hh hdg h1 h2 h3 h4 h5 h6 conP
      go_enter Tryd.func16, Tryd.ntmps16
      go_wp2_with (first | (go_at_call 27; refine con.out.mono ?_; rintro e w1 ⟨A, c, rfl, hc, hOU, hb1⟩; have hby := (Below.refl w1.heap.size w1).alloc (Nat.le_refl _) (.cells #[.slice A L.length c, .int .i64 (W : Int)] 53); have hbx := hb1.alloc hb1.size (.cells #[.slice A L.length c, .int .i64 (W : Int)] 53); have x0 : (w1.alloc (.cells #[.slice A L.length c, .int .i64 (W : Int)] 53)).cell? ⟨w1.heap.size, 0, none⟩ = some (.slice A L.length c) := (by simp); have x1 : (w1.alloc (.cells #[.slice A L.length c, .int .i64 (W : Int)] 53)).cell? ⟨w1.heap.size, 1, none⟩ = some (.int .i64 (W : Int)) := (by simp); have HR := Lib.hid (hOU.rd.below hby); have Hb := Lib.hid hbx; clear hb1 hOU hc hbx hby) | (go_at_call 36; refine (conS.out _ Hb.out).mono ?_; rintro e w2 ⟨A2, c2, rfl, ho2, hb2⟩; have y0 := keepc hb2 x0; have y1 := keepc hb2 x1; have HR2 := Lib.hid (HR.out.below hb2); have HU := Lib.hid (RdT.of_own ho2); have Hb2 := Lib.hid (bstep Hb.out hb2); clear ho2 hb2 x0 x1))
      clear HR Hb con conS
      go_loopw [10, 31] (fun v i wr => ∃ (k : Nat) (A3 : Option Addr) (c3 : Nat), k ≤ us.length ∧ i = .int .i64 k ∧ v = .slice A3 (F k).length c3 ∧ wr.ownsRow w2.heap.size 27 2 (.slice A3 (F k).length c3) (F k).length (cellsT (F k)) ∧ Below w2.heap.size w2 wr) (fun _ i _ => us.length - (intOf i).toNat)
      case atStart => exact ⟨0, none, 0, Nat.zero_le _, rfl, by rw [Hz.out]; rfl, by rw [Hz.out]; exact World.ownsRow_nil _ _ _ _, Below.refl _ _⟩
      case round =>
        obtain ⟨k, A3, c3, hk, rfl, rfl, ho, hb⟩ := hrel
        have hfl := Hln.out k
        by_cases hkl : k < us.length
        · obtain ⟨bu, ou, rfl, hbu, hcu⟩ := HU.out.at_ hkl
          have u0 := keepc hb (hcu k hkl).1
          have u1 := keepc hb (hcu k hkl).2
          have g0 := keepc hb y0
          have g1 := keepc hb y1
          have hyes := Hyes.out k hkl
          have hno := Hno.out k hkl
          have Ho := Lib.hid ho
          have Hb := Lib.hid hb
          clear hcu ho hb Hyes Hno
          generalize us[k] = u at *
          obtain ⟨p, q⟩ := u
          simp only at u0 u1 hyes hno
          have hba : Below wr.heap.size wr (wr.alloc (.cells #[.int .i64 p, .int .i64 q] 27)) := (Below.refl _ wr).alloc (Nat.le_refl _) _
          have h0 := keepc hba g0
          have h1 := keepc hba g1
          have b0 : (wr.alloc (.cells #[.int .i64 p, .int .i64 q] 27)).cell? ⟨wr.heap.size, 0, none⟩ = some (.int .i64 p) := by simp [go_sem]
          have b1 : (wr.alloc (.cells #[.int .i64 p, .int .i64 q] 27)).cell? ⟨wr.heap.size, 1, none⟩ = some (.int .i64 q) := by simp [go_sem]
          have HRa := Lib.hid (HR2.out.below (Hb.out.trans (hba.mono Hb.out.size)))
          have Hba := Lib.hid (bstep Hb.out hba)
          have Hoa := Lib.hid (own_keep Ho.out hba)
          have conQ := Lib.hid (fun W0 (hA : RdU W0 A L) => conP2.out A c (p, q) W0 hA)
          clear hba conP2
          generalize N (p, q) = pn at *
          by_cases h1 : pn = 1
          · have Hst := Lib.hid (hyes h1)
            subst h1
            clear hyes hno
            go_wp2_with (first | (go_at_call 30; refine (conQ.out _ HRa.out).mono ?_; rintro e w4 ⟨A4, c4, rfl, hb4⟩; have d0 := keepc hb4 b0; have d1 := keepc hb4 b1; have Ho4 := Lib.hid (own_keep Hoa.out hb4); have Hb4 := Lib.hid (bstep Hba.out hb4); clear hb4) | (at_builtin; refine wp_append_tile rfl (.tmp 40) (.tmp 42) rfl w2.heap.size (.slice A3 (F k).length c3) (F k) rfl ((Ho4.out).alloc _) p q w4.heap.size rfl (by simp) (by simp) (by omega) (by have := Hb4.out.size; simp; omega) ?_; intro A5 c5 w5 ho5 hg5))
            go_roundw
            case rel => exact ⟨k + 1, A5, c5, by omega, by go_num, by rw [Hst.out, List.length_append]; rfl, by rw [Hst.out, List.length_append]; exact ho5, Below.grown (Hb4.out.alloc Hb4.out.size _) hg5 (by have := Hb4.out.size; simp; omega) (fun g hg => (Ho4.out.lt g hg).1)⟩
            case measure => simp [intOf]; omega
          · have Hst := Lib.hid (hno h1)
            have i5 : ¬ (pn : Int) = 1 := by omega
            have i6 : ((pn : Int) == 1) = false := by simpa using i5
            clear hyes hno
            go_wp2_with (go_at_call 30; refine (conQ.out _ HRa.out).mono ?_; rintro e w4 ⟨A4, c4, rfl, hb4⟩; have d0 := keepc hb4 b0; have d1 := keepc hb4 b1; have Ho4 := Lib.hid (own_keep Hoa.out hb4); have Hb4 := Lib.hid (bstep Hba.out hb4); clear hb4)
            go_roundw
            case rel => exact ⟨k + 1, A3, c3, by omega, by go_num, by rw [Hst.out], by rw [Hst.out]; exact Ho4.out, Hb4.out⟩
            case measure => simp [intOf]; omega
        · obtain rfl : k = us.length := by omega
          go_wp2
          go_ret2
          exact ⟨A3, c3, rfl, own_base ho Hb2.out.size, bstep Hb2.out hb⟩

theorem c_implSinglesB (s : ByteArray) (A0 : Option Addr) (c0 : Nat) (ts : List (Int × Int)) (m : Int) {w0 w : World} (hm : w0.cell? ⟨0, 0, none⟩ = some (.int .i64 m)) (hb : Below w0.heap.size w0 w) (hl : s.size ≤ 1048576) (hr : RdT w A0 ts) (hlt : ts.length ≤ 1048576) :
    Calls Tryd.prog 16 #[.string s, .slice A0 ts.length c0] w (RetT w (sgL s ts) (sgOk s ts)) := c_implSingles s A0 c0 ts m w (keepc hb hm) hl hr hlt

def RetAsk (w : World) (b b2 : Bool) (s : ByteArray) (e : Ending) (w' : World) : Prop :=
  ∃ A c, e = .returned (.tuple #[.agg #[.int .i64 (widK b s), .int .i64 (hgtK b s), .slice A (digL (cellsK b s)).length c], .bool b2]) ∧ w'.ownsRow w.heap.size 3 1 (.slice A (digL (cellsK b s)).length c) (digL (cellsK b s)).length (cellsI (digL (cellsK b s))) ∧ Below w.heap.size w w'

set_option maxRecDepth 100000 in
set_option maxHeartbeats 2000000 in
theorem c_taAsked (s : ByteArray) (A0 : Option Addr) (c0 : Nat) (ts : List (Int × Int)) (w : World) (hl : s.size ≤ 1048576) (hr : RdT w A0 ts) (hlt : ts.length ≤ 1048576) (hcap : ts.length ≤ c0) :
    Calls Tryd.prog 34 #[.string s, .slice A0 ts.length c0] w (RetAsk w (tabB s) (sgOk s ts) s) := by
  have hb0 : Below w.heap.size w (w.alloc (.cells #[.int .i64 0, .int .i64 0, .slice none 0 0] 46)) := by go_grown
  have r0 : (w.alloc (.cells #[.int .i64 0, .int .i64 0, .slice none 0 0] 46)).cell? ⟨w.heap.size, 0, none⟩ = some (.int .i64 0) := by simp [go_sem]
  have fr0 : (w.alloc (.cells #[.int .i64 0, .int .i64 0, .slice none 0 0] 46)).frozen? ⟨w.heap.size, 0, none⟩ = false := frozen_freshT _ _ _ _
  have r1 : (w.alloc (.cells #[.int .i64 0, .int .i64 0, .slice none 0 0] 46)).cell? ⟨w.heap.size, 1, none⟩ = some (.int .i64 0) := by simp [go_sem]
  have fr1 : (w.alloc (.cells #[.int .i64 0, .int .i64 0, .slice none 0 0] 46)).frozen? ⟨w.heap.size, 1, none⟩ = false := frozen_freshT _ _ _ _
  have r2 : (w.alloc (.cells #[.int .i64 0, .int .i64 0, .slice none 0 0] 46)).cell? ⟨w.heap.size, 2, none⟩ = some (.slice none 0 0) := by simp [go_sem]
  have fr2 : (w.alloc (.cells #[.int .i64 0, .int .i64 0, .slice none 0 0] 46)).frozen? ⟨w.heap.size, 2, none⟩ = false := frozen_freshT _ _ _ _
  have hz0 : w.heap.size < (w.alloc (.cells #[.int .i64 0, .int .i64 0, .slice none 0 0] 46)).heap.size := block_lt r0
  have con := Lib.hid (c_taRead s (w.alloc (.cells #[.int .i64 0, .int .i64 0, .slice none 0 0] 46)) hl)
  unfold RetTab at con
  have conH := Lib.hid (fun W0 (hb : Below w.heap.size w W0) => c_tiHand A0 c0 ts W0 (hr.below hb) (by omega) hcap)
  have Hb0 := Lib.hid hb0
  cases ht : tabB s
  · have e1 : sgOk s ts = false := by unfold sgOk; rw [ht]; rfl
    rw [e1]
    rw [ht] at con
    unfold RetAsk
    generalize digL (cellsK false s) = D at *
    generalize widK false s = W at *
    generalize hgtK false s = H at *
    clear hr hb0 ht e1 conH hcap
    go_enter Tryd.func34, Tryd.ntmps34
    go_wp2_with (go_at_call 24; refine con.out.mono ?_; rintro e w1 ⟨A, c, rfl, hO, hb1⟩; have hby := (Below.refl w1.heap.size w1).alloc (Nat.le_refl _) (.cells #[.int .i64 (W : Int), .int .i64 (H : Int), .slice A D.length c] 46); have hbx := hb1.trans (hby.mono hb1.size); have x0 : (w1.alloc (.cells #[.int .i64 (W : Int), .int .i64 (H : Int), .slice A D.length c] 46)).cell? ⟨w1.heap.size, 0, none⟩ = some (.int .i64 (W : Int)) := (by simp); have x1 : (w1.alloc (.cells #[.int .i64 (W : Int), .int .i64 (H : Int), .slice A D.length c] 46)).cell? ⟨w1.heap.size, 1, none⟩ = some (.int .i64 (H : Int)) := (by simp); have x2 : (w1.alloc (.cells #[.int .i64 (W : Int), .int .i64 (H : Int), .slice A D.length c] 46)).cell? ⟨w1.heap.size, 2, none⟩ = some (.slice A D.length c) := (by simp); have g0 := (hbx.frozen (p := ⟨w.heap.size, 0, none⟩) hz0).trans fr0; have g1 := (hbx.frozen (p := ⟨w.heap.size, 1, none⟩) hz0).trans fr1; have g2 := (hbx.frozen (p := ⟨w.heap.size, 2, none⟩) hz0).trans fr2; have s0 := keepc hbx r0; have s1 := keepc hbx r1; have s2 := keepc hbx r2; have HO := Lib.hid (own_keep hO hby); have Hb := Lib.hid (bstep Hb0.out hbx); have hzw : w.heap.size < w1.heap.size := Nat.lt_of_lt_of_le hz0 hb1.size; clear hb1 hO hbx hby)
    obtain ⟨w2, hw2⟩ : ∃ w2, w2 = (w1.alloc (.cells #[.int .i64 (W : Int), .int .i64 (H : Int), .slice A D.length c] 46)) := ⟨_, rfl⟩
    rw [← hw2] at x0 x1 x2 g0 g1 g2 s0 s1 s2 HO Hb ⊢
    clear hw2 con r0 r1 r2 fr0 fr1 fr2
    have hz2 : w.heap.size < w2.heap.size := block_lt s0
    have n1 : w.heap.size ≠ w1.heap.size := by omega
    refine wp_region_held_drew (S := fun w' => w'.cell? ⟨w1.heap.size, 0, none⟩ = some (.int .i64 (W : Int)) ∧ w'.cell? ⟨w1.heap.size, 1, none⟩ = some (.int .i64 (H : Int)) ∧ w'.cell? ⟨w1.heap.size, 2, none⟩ = some (.slice A D.length c)) (by kernel_rfl) ⟨g1d _ x0, g1d _ x1, g1d _ x2⟩ (fun hH0 => ?_)
    refine reg_take 0 rfl (by kernel_rfl) (by kernel_rfl) (by kernel_rfl) (fun _ _ _ h => h) (by rfl) (fun w hSw => by (try dsimp only at hSw); first | (go_simp; done) | (go_simp; with_reducible rfl)) (by assumption) ?_
    try simp only [Act.put, List.setIfInBounds_toArray, List.set_cons_zero, List.set_cons_succ, List.getElem_toArray, List.getElem_cons_zero]
    refine reg_take 1 rfl (by kernel_rfl) (by kernel_rfl) (by kernel_rfl) (fun _ _ _ h => h) (by rfl) (fun w _ => by first | (go_simp; done) | (go_simp; with_reducible rfl)) (by assumption) ?_
    try simp only [Act.put, List.setIfInBounds_toArray, List.set_cons_zero, List.set_cons_succ, List.getElem_toArray, List.getElem_cons_zero, List.getElem_cons_succ]
    refine reg_take 2 rfl (by kernel_rfl) (by kernel_rfl) (by kernel_rfl) (fun _ _ _ h => h) (by rfl) (fun w _ => by first | (go_simp; done) | (go_simp; with_reducible rfl)) (by assumption) ?_
    try simp only [Act.put, List.setIfInBounds_toArray, List.set_cons_zero, List.set_cons_succ, List.getElem_toArray, List.getElem_cons_zero, List.getElem_cons_succ]
    refine reg_skip 3 rfl (by kernel_rfl) (by kernel_rfl) (by kernel_rfl) (fun _ _ _ h => h) (by rfl) (by assumption) ?_
    try simp only [Act.put, List.setIfInBounds_toArray, List.set_cons_zero, List.set_cons_succ, List.getElem_toArray, List.getElem_cons_zero, List.getElem_cons_succ]
    refine reg_skip 4 rfl (by kernel_rfl) (by kernel_rfl) (by kernel_rfl) (fun _ _ _ h => h) (by rfl) (by assumption) ?_
    try simp only [Act.put, List.setIfInBounds_toArray, List.set_cons_zero, List.set_cons_succ, List.getElem_toArray, List.getElem_cons_zero, List.getElem_cons_succ]
    refine reg_take 5 rfl (by kernel_rfl) (by kernel_rfl) (by kernel_rfl) (fun _ _ _ h => h) (by rfl) (fun w _ => by first | (go_simp; done) | (go_simp; with_reducible rfl)) (by assumption) ?_
    try simp only [Act.put, List.setIfInBounds_toArray, List.set_cons_zero, List.set_cons_succ, List.getElem_toArray, List.getElem_cons_zero, List.getElem_cons_succ]
    refine wpAnyH_ready (rs := [6]) (by kernel_rfl) (by simp) ?_
    refine AllReadyH.cons (i := 6) rfl (fun K hK => ?_) AllReadyH.nil
    go_simp
    skip
    refine hK.out _ _ ⟨farT n1 (farT n1 (farT n1 (g1d _ x0))), farT n1 (farT n1 (farT n1 (g1d _ x1))), farT n1 (farT n1 (farT n1 (g1d _ x2)))⟩ (fun hH6 => ?_)
    clear hK K
    try simp only [Act.put, List.setIfInBounds_toArray, List.set_cons_zero, List.set_cons_succ, List.getElem_toArray, List.getElem_cons_zero, List.getElem_cons_succ]
    refine reg_take 7 rfl (by kernel_rfl) (by kernel_rfl) (by kernel_rfl) (fun _ _ _ h => h) (by rfl) (fun w _ => by first | (go_simp; done) | (go_simp; with_reducible rfl)) (by assumption) ?_
    try simp only [Act.put, List.setIfInBounds_toArray, List.set_cons_zero, List.set_cons_succ, List.getElem_toArray, List.getElem_cons_zero, List.getElem_cons_succ]
    refine wpAnyH_done (by kernel_rfl) ?_ _
    go_wp2
    refine bodyPost_ret (v := .tuple #[.agg #[.int .i64 (W : Int), .int .i64 (H : Int), .slice A D.length c], .bool false]) (by simp [results, Tryd.results34, go_sem, s0, s1, s2]) rfl ?_
    exact ⟨A, c, rfl, own_base (ownsRow_setCell_below (ownsRow_setCell_below (ownsRow_setCell_below (own_drew HO.out) (by simp) _) (by simp) _) (by simp) _) (by simp), ((Hb.out.drew.setCell (p := ⟨w.heap.size, 0, none⟩) (Nat.le_refl _) _).setCell (p := ⟨w.heap.size, 1, none⟩) (Nat.le_refl _) _).setCell (p := ⟨w.heap.size, 2, none⟩) (Nat.le_refl _) _⟩
  · have e1 : sgOk s ts = handB ts := by unfold sgOk; rw [ht]; rfl
    rw [e1]
    rw [ht] at con
    unfold RetAsk
    generalize handB ts = b2 at *
    generalize digL (cellsK true s) = D at *
    generalize widK true s = W at *
    generalize hgtK true s = H at *
    clear hr hb0 ht e1 hcap
    go_enter Tryd.func34, Tryd.ntmps34
    go_wp2_with (go_at_call 24; refine con.out.mono ?_; rintro e w1 ⟨A, c, rfl, hO, hb1⟩; have hby := (Below.refl w1.heap.size w1).alloc (Nat.le_refl _) (.cells #[.int .i64 (W : Int), .int .i64 (H : Int), .slice A D.length c] 46); have hbx := hb1.trans (hby.mono hb1.size); have x0 : (w1.alloc (.cells #[.int .i64 (W : Int), .int .i64 (H : Int), .slice A D.length c] 46)).cell? ⟨w1.heap.size, 0, none⟩ = some (.int .i64 (W : Int)) := (by simp); have x1 : (w1.alloc (.cells #[.int .i64 (W : Int), .int .i64 (H : Int), .slice A D.length c] 46)).cell? ⟨w1.heap.size, 1, none⟩ = some (.int .i64 (H : Int)) := (by simp); have x2 : (w1.alloc (.cells #[.int .i64 (W : Int), .int .i64 (H : Int), .slice A D.length c] 46)).cell? ⟨w1.heap.size, 2, none⟩ = some (.slice A D.length c) := (by simp); have g0 := (hbx.frozen (p := ⟨w.heap.size, 0, none⟩) hz0).trans fr0; have g1 := (hbx.frozen (p := ⟨w.heap.size, 1, none⟩) hz0).trans fr1; have g2 := (hbx.frozen (p := ⟨w.heap.size, 2, none⟩) hz0).trans fr2; have s0 := keepc hbx r0; have s1 := keepc hbx r1; have s2 := keepc hbx r2; have HO := Lib.hid (own_keep hO hby); have Hb := Lib.hid (bstep Hb0.out hbx); have hzw : w.heap.size < w1.heap.size := Nat.lt_of_lt_of_le hz0 hb1.size; clear hb1 hO hbx hby)
    obtain ⟨w2, hw2⟩ : ∃ w2, w2 = (w1.alloc (.cells #[.int .i64 (W : Int), .int .i64 (H : Int), .slice A D.length c] 46)) := ⟨_, rfl⟩
    rw [← hw2] at x0 x1 x2 g0 g1 g2 s0 s1 s2 HO Hb ⊢
    clear hw2 con r0 r1 r2 fr0 fr1 fr2
    have hz2 : w.heap.size < w2.heap.size := block_lt s0
    have n1 : w.heap.size ≠ w1.heap.size := by omega
    refine wp_region_held_drew (S := fun w' => w'.cell? ⟨w1.heap.size, 0, none⟩ = some (.int .i64 (W : Int)) ∧ w'.cell? ⟨w1.heap.size, 1, none⟩ = some (.int .i64 (H : Int)) ∧ w'.cell? ⟨w1.heap.size, 2, none⟩ = some (.slice A D.length c)) (by kernel_rfl) ⟨g1d _ x0, g1d _ x1, g1d _ x2⟩ (fun hH0 => ?_)
    refine reg_take 0 rfl (by kernel_rfl) (by kernel_rfl) (by kernel_rfl) (fun _ _ _ h => h) (by rfl) (fun w hSw => by (try dsimp only at hSw); first | (go_simp; done) | (go_simp; with_reducible rfl)) (by assumption) ?_
    try simp only [Act.put, List.setIfInBounds_toArray, List.set_cons_zero, List.set_cons_succ, List.getElem_toArray, List.getElem_cons_zero]
    refine reg_take 1 rfl (by kernel_rfl) (by kernel_rfl) (by kernel_rfl) (fun _ _ _ h => h) (by rfl) (fun w _ => by first | (go_simp; done) | (go_simp; with_reducible rfl)) (by assumption) ?_
    try simp only [Act.put, List.setIfInBounds_toArray, List.set_cons_zero, List.set_cons_succ, List.getElem_toArray, List.getElem_cons_zero, List.getElem_cons_succ]
    refine reg_take 2 rfl (by kernel_rfl) (by kernel_rfl) (by kernel_rfl) (fun _ _ _ h => h) (by rfl) (fun w _ => by first | (go_simp; done) | (go_simp; with_reducible rfl)) (by assumption) ?_
    try simp only [Act.put, List.setIfInBounds_toArray, List.set_cons_zero, List.set_cons_succ, List.getElem_toArray, List.getElem_cons_zero, List.getElem_cons_succ]
    refine reg_take 3 rfl (by kernel_rfl) (by kernel_rfl) (by kernel_rfl) (fun _ _ _ h => h) (by rfl) (fun w _ => by first | (go_simp; done) | (go_simp; with_reducible rfl)) (by assumption) ?_
    try simp only [Act.put, List.setIfInBounds_toArray, List.set_cons_zero, List.set_cons_succ, List.getElem_toArray, List.getElem_cons_zero, List.getElem_cons_succ]
    refine wpAnyH_ready (rs := [4]) (by kernel_rfl) (by simp) ?_
    refine AllReadyH.cons (i := 4) rfl (fun K hK => ?_) AllReadyH.nil
    go_simp
    go_at_call 53
    refine (conH.out _ Hb.out.drew).mono ?_
    rintro e w3 ⟨rfl, hb3⟩
    have hbd := bstep (Below.refl _ w2).drew hb3
    have y0 := keepc hbd x0
    have y1 := keepc hbd x1
    have y2 := keepc hbd x2
    have k0 := (hbd.frozen (p := ⟨w.heap.size, 0, none⟩) hz2).trans g0
    have k1 := (hbd.frozen (p := ⟨w.heap.size, 1, none⟩) hz2).trans g1
    have k2 := (hbd.frozen (p := ⟨w.heap.size, 2, none⟩) hz2).trans g2
    have t0 := keepc hbd s0
    have t1 := keepc hbd s1
    have t2 := keepc hbd s2
    have HO3 := Lib.hid (own_keep HO.out hbd)
    have Hb3 := Lib.hid (bstep Hb.out hbd)
    have hz3 : w.heap.size < w3.heap.size := block_lt t0
    clear hb3 hbd x0 x1 x2 g0 g1 g2 s0 s1 s2
    refine hK.out _ _ ⟨y0, y1, y2⟩ (fun hH4 => ?_)
    clear hK K
    try simp only [Act.put, List.setIfInBounds_toArray, List.set_cons_zero, List.set_cons_succ, List.getElem_toArray, List.getElem_cons_zero, List.getElem_cons_succ]
    refine reg_take 5 rfl (by kernel_rfl) (by kernel_rfl) (by kernel_rfl) (fun _ _ _ h => h) (by rfl) (fun w _ => by first | (go_simp; done) | (go_simp; with_reducible rfl)) (by assumption) ?_
    try simp only [Act.put, List.setIfInBounds_toArray, List.set_cons_zero, List.set_cons_succ, List.getElem_toArray, List.getElem_cons_zero, List.getElem_cons_succ]
    refine wpAnyH_ready (rs := [6]) (by kernel_rfl) (by simp) ?_
    refine AllReadyH.cons (i := 6) rfl (fun K hK => ?_) AllReadyH.nil
    go_simp
    skip
    refine hK.out _ _ ⟨farT n1 (farT n1 (farT n1 y0)), farT n1 (farT n1 (farT n1 y1)), farT n1 (farT n1 (farT n1 y2))⟩ (fun hH6 => ?_)
    clear hK K
    try simp only [Act.put, List.setIfInBounds_toArray, List.set_cons_zero, List.set_cons_succ, List.getElem_toArray, List.getElem_cons_zero, List.getElem_cons_succ]
    refine reg_take 7 rfl (by kernel_rfl) (by kernel_rfl) (by kernel_rfl) (fun _ _ _ h => h) (by rfl) (fun w _ => by first | (go_simp; done) | (go_simp; with_reducible rfl)) (by assumption) ?_
    try simp only [Act.put, List.setIfInBounds_toArray, List.set_cons_zero, List.set_cons_succ, List.getElem_toArray, List.getElem_cons_zero, List.getElem_cons_succ]
    refine wpAnyH_done (by kernel_rfl) ?_ _
    go_wp2
    refine bodyPost_ret (v := .tuple #[.agg #[.int .i64 (W : Int), .int .i64 (H : Int), .slice A D.length c], .bool b2]) (by simp [results, Tryd.results34, go_sem, t0, t1, t2]) rfl ?_
    exact ⟨A, c, rfl, own_base (ownsRow_setCell_below (ownsRow_setCell_below (ownsRow_setCell_below (HO3.out) (by simp) _) (by simp) _) (by simp) _) (by simp), ((Hb3.out.setCell (p := ⟨w.heap.size, 0, none⟩) (Nat.le_refl _) _).setCell (p := ⟨w.heap.size, 1, none⟩) (Nat.le_refl _) _).setCell (p := ⟨w.heap.size, 2, none⟩) (Nat.le_refl _) _⟩

set_option maxRecDepth 100000 in
set_option maxHeartbeats 4000000 in
theorem c_specSingles (s : ByteArray) (A0 : Option Addr) (c0 : Nat) (ts : List (Int × Int)) (w : World) (hl : s.size ≤ 1048576) (hr : RdT w A0 ts) (hlt : ts.length ≤ 1048576) (hcap : ts.length ≤ c0) :
    Calls Tryd.prog 14 #[.string s, .slice A0 ts.length c0] w (RetT w (sgL s ts) (sgOk s ts)) := by
  have con := Lib.hid (c_taAsked s A0 c0 ts w hl hr hlt hcap)
  unfold RetAsk at con
  have conS := Lib.hid (fun W0 (hb : Below w.heap.size w W0) => c_tiSort A0 c0 ts W0 (hr.below hb) hlt)
  unfold RetL at conS
  clear hr hlt hcap
  cases hh : sgOk s ts
  · rw [sgL_no hh]
    rw [hh] at con
    generalize digL (cellsK (tabB s) s) = D at *
    generalize widK (tabB s) s = W at *
    generalize hgtK (tabB s) s = H at *
    clear hh
    go_enter Tryd.func14, Tryd.ntmps14
    go_wp2_with (go_at_call 34; refine con.out.mono ?_; rintro e w1 ⟨A, c, rfl, hO, hb1⟩; have Hb := Lib.hid (hb1.alloc hb1.size (.cells #[.int .i64 (W : Int), .int .i64 (H : Int), .slice A D.length c] 46)); clear hb1 hO)
    go_ret2
    exact ⟨none, 0, rfl, World.ownsRow_nil _ _ _ _, Hb.out⟩
  · have ht : tabB s = true := by
      unfold sgOk at hh
      rw [Bool.and_eq_true] at hh
      exact hh.1
    obtain ⟨h1, h2, h3, h4, h5, h6⟩ := tab_small ht
    rw [sgL_yes hh]
    rw [ht, hh] at con
    have hdl := digL_len (cellsK true s)
    rw [← hdl]
    have hul := sortL_len ts
    have conP := Lib.hid (fun (A : Option Addr) c t0 t1 W0 (hA : RdI W0 A (digL (cellsK true s))) => c_taPlaces (widK true s) (hgtK true s) (digL (cellsK true s)).length A c (digL (cellsK true s)) t0 t1 W0 hA rfl h1 (by rw [hdl, h6, Nat.mul_comm]; simp) ⟨hgtK true s, by rw [hdl, h6]⟩ (by omega) (by omega))
    have hpn : ∀ t, (prL (plcTo (digL (cellsK true s)) (widK true s) (digL (cellsK true s)).length t (digL (cellsK true s)).length)).length = sgN (digL (cellsK true s)) (widK true s) (digL (cellsK true s)).length t := fun t => by simp [prL, sgN]
    have conP2 := Lib.hid (fun (A : Option Addr) c (t : Int × Int) W0 (hA : RdI W0 A (digL (cellsK true s))) => (show Calls Tryd.prog 26 #[.agg #[.int .i64 (widK true s), .int .i64 (hgtK true s), .slice A (digL (cellsK true s)).length c], .agg #[.int .i64 t.1, .int .i64 t.2]] W0 fun e w' => ∃ A4 c4, e = .returned (.slice A4 (sgN (digL (cellsK true s)) (widK true s) (digL (cellsK true s)).length t) c4) ∧ Below W0.heap.size W0 w' from (conP.out A c t.1 t.2 W0 hA).mono fun e w' ⟨A4, c4, he, _, hb⟩ => ⟨A4, c4, by rw [he, hpn], hb⟩))
    have Hyes := Lib.hid (fun k h e => sgTo_yes (D := digL (cellsK true s)) (W := widK true s) (n := (digL (cellsK true s)).length) (us := sortL ts) (k := k) h e)
    have Hno := Lib.hid (fun k h e => sgTo_no (D := digL (cellsK true s)) (W := widK true s) (n := (digL (cellsK true s)).length) (us := sortL ts) (k := k) h e)
    have Hz := Lib.hid (sgTo_zero (digL (cellsK true s)) (widK true s) (digL (cellsK true s)).length (sortL ts))
    have Hln := Lib.hid (fun k => sgTo_len (digL (cellsK true s)) (widK true s) (digL (cellsK true s)).length (sortL ts) k)
    generalize sgTo (digL (cellsK true s)) (widK true s) (digL (cellsK true s)).length (sortL ts) = F at *
    generalize sgN (digL (cellsK true s)) (widK true s) (digL (cellsK true s)).length = N at *
    generalize sortL ts = us at *
    generalize digL (cellsK true s) = D at *
    generalize widK true s = W at *
    generalize hgtK true s = H at *
    clear ht hh hdl hpn h1 h2 h3 h4 h5 h6 conP
    go_enter Tryd.func14, Tryd.ntmps14
    go_wp2_with (first | (go_at_call 34; refine con.out.mono ?_; rintro e w1 ⟨A, c, rfl, hO, hb1⟩; have hby := (Below.refl w1.heap.size w1).alloc (Nat.le_refl _) (.cells #[.int .i64 (W : Int), .int .i64 (H : Int), .slice A D.length c] 46); have hbx := hb1.trans (hby.mono hb1.size); have x0 : (w1.alloc (.cells #[.int .i64 (W : Int), .int .i64 (H : Int), .slice A D.length c] 46)).cell? ⟨w1.heap.size, 0, none⟩ = some (.int .i64 (W : Int)) := (by simp); have x1 : (w1.alloc (.cells #[.int .i64 (W : Int), .int .i64 (H : Int), .slice A D.length c] 46)).cell? ⟨w1.heap.size, 1, none⟩ = some (.int .i64 (H : Int)) := (by simp); have x2 : (w1.alloc (.cells #[.int .i64 (W : Int), .int .i64 (H : Int), .slice A D.length c] 46)).cell? ⟨w1.heap.size, 2, none⟩ = some (.slice A D.length c) := (by simp); have HR := Lib.hid ((RdI.of_own hO).below hby); have Hb := Lib.hid hbx; clear hb1 hO hbx hby) | (go_at_call 35; refine (conS.out _ Hb.out).mono ?_; rintro e w2 ⟨A2, c2, rfl, ho2, hb2⟩; have y0 := keepc hb2 x0; have y1 := keepc hb2 x1; have y2 := keepc hb2 x2; have HR2 := Lib.hid (HR.out.below hb2); have HU := Lib.hid (RdT.of_own ho2); have Hb2 := Lib.hid (bstep Hb.out hb2); clear ho2 hb2 x0 x1 x2))
    clear HR Hb con conS
    go_loopw [8, 22] (fun v i wr => ∃ (k : Nat) (A3 : Option Addr) (c3 : Nat), k ≤ us.length ∧ i = .int .i64 k ∧ v = .slice A3 (F k).length c3 ∧ wr.ownsRow w2.heap.size 27 2 (.slice A3 (F k).length c3) (F k).length (cellsT (F k)) ∧ Below w2.heap.size w2 wr) (fun _ i _ => us.length - (intOf i).toNat)
    case atStart => exact ⟨0, none, 0, Nat.zero_le _, rfl, by rw [Hz.out]; rfl, by rw [Hz.out]; exact World.ownsRow_nil _ _ _ _, Below.refl _ _⟩
    case round =>
      obtain ⟨k, A3, c3, hk, rfl, rfl, ho, hb⟩ := hrel
      have hfl := Hln.out k
      by_cases hkl : k < us.length
      · obtain ⟨bu, ou, rfl, hbu, hcu⟩ := HU.out.at_ hkl
        have u0 := keepc hb (hcu k hkl).1
        have u1 := keepc hb (hcu k hkl).2
        have g0 := keepc hb y0
        have g1 := keepc hb y1
        have g2 := keepc hb y2
        have hyes := Hyes.out k hkl
        have hno := Hno.out k hkl
        have Ho := Lib.hid ho
        have Hb := Lib.hid hb
        clear hcu ho hb Hyes Hno
        generalize us[k] = u at *
        obtain ⟨p, q⟩ := u
        simp only at u0 u1 hyes hno
        have hba : Below wr.heap.size wr (wr.alloc (.cells #[.int .i64 p, .int .i64 q] 27)) := (Below.refl _ wr).alloc (Nat.le_refl _) _
        have h0 := keepc hba g0
        have h1 := keepc hba g1
        have h2 := keepc hba g2
        have b0 : (wr.alloc (.cells #[.int .i64 p, .int .i64 q] 27)).cell? ⟨wr.heap.size, 0, none⟩ = some (.int .i64 p) := by simp [go_sem]
        have b1 : (wr.alloc (.cells #[.int .i64 p, .int .i64 q] 27)).cell? ⟨wr.heap.size, 1, none⟩ = some (.int .i64 q) := by simp [go_sem]
        have HRa := Lib.hid (HR2.out.below (Hb.out.trans (hba.mono Hb.out.size)))
        have Hba := Lib.hid (bstep Hb.out hba)
        have Hoa := Lib.hid (own_keep Ho.out hba)
        have conQ := Lib.hid (fun W0 (hA : RdI W0 A D) => conP2.out A c (p, q) W0 hA)
        clear hba conP2
        generalize N (p, q) = pn at *
        by_cases h1 : pn = 1
        · have Hst := Lib.hid (hyes h1)
          subst h1
          clear hyes hno
          go_wp2_with (first | (go_at_call 26; refine (conQ.out _ HRa.out).mono ?_; rintro e w4 ⟨A4, c4, rfl, hb4⟩; have d0 := keepc hb4 b0; have d1 := keepc hb4 b1; have Ho4 := Lib.hid (own_keep Hoa.out hb4); have Hb4 := Lib.hid (bstep Hba.out hb4); clear hb4) | (at_builtin; refine wp_append_tile rfl (.tmp 31) (.tmp 33) rfl w2.heap.size (.slice A3 (F k).length c3) (F k) rfl ((Ho4.out).alloc _) p q w4.heap.size rfl (by simp) (by simp) (by omega) (by have := Hb4.out.size; simp; omega) ?_; intro A5 c5 w5 ho5 hg5))
          go_roundw
          case rel => exact ⟨k + 1, A5, c5, by omega, by go_num, by rw [Hst.out, List.length_append]; rfl, by rw [Hst.out, List.length_append]; exact ho5, Below.grown (Hb4.out.alloc Hb4.out.size _) hg5 (by have := Hb4.out.size; simp; omega) (fun g hg => (Ho4.out.lt g hg).1)⟩
          case measure => simp [intOf]; omega
        · have Hst := Lib.hid (hno h1)
          have i5 : ¬ (pn : Int) = 1 := by omega
          have i6 : ((pn : Int) == 1) = false := by simpa using i5
          clear hyes hno
          go_wp2_with (go_at_call 26; refine (conQ.out _ HRa.out).mono ?_; rintro e w4 ⟨A4, c4, rfl, hb4⟩; have d0 := keepc hb4 b0; have d1 := keepc hb4 b1; have Ho4 := Lib.hid (own_keep Hoa.out hb4); have Hb4 := Lib.hid (bstep Hba.out hb4); clear hb4)
          go_roundw
          case rel => exact ⟨k + 1, A3, c3, by omega, by go_num, by rw [Hst.out], by rw [Hst.out]; exact Ho4.out, Hb4.out⟩
          case measure => simp [intOf]; omega
      · obtain rfl : k = us.length := by omega
        go_wp2
        go_ret2
        exact ⟨A3, c3, rfl, own_base ho Hb2.out.size, bstep Hb2.out hb⟩

end Go.Proofs.YtjbdflkbclhonabDoor

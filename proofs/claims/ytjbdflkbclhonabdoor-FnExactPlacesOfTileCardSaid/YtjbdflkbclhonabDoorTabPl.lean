/- PlacesOfTile on both sides. -/
import Derived.Test.YtjbdflkbclhonabDoorTabQ
import Derived.Test.YtjbdflkbclhonabDoorTabM
import Derived.Test.YtjbdflkbclhonabDoorTabV
namespace Go.Proofs.YtjbdflkbclhonabDoor
open Go.RowKit
set_option linter.unusedVariables false

def plcOk (s : ByteArray) (t : Int × Int) : Bool := tabB s && goodB t.1 t.2

def plcS (s : ByteArray) (t : Int × Int) : List (List Int) := if plcOk s t then prL (plcTo (digL (cellsK true s)) (widK true s) (cellsK true s).length t (cellsK true s).length) else []

theorem prL_sum : ∀ P : List (Int × Int), ∀ k, sumTo (prL P) k ≤ 2 * P.length := by
  intro P k
  have h : ∀ (Q : List (Int × Int)), ((prL Q).map List.length).sum = 2 * Q.length := by
    intro Q
    induction Q with
    | nil => rfl
    | cons q Q ih =>
      have e : prL (q :: Q) = [q.1, q.2] :: prL Q := rfl
      rw [e, List.map_cons, List.sum_cons, ih, List.length_cons]
      simp
      omega
  have e : (prL P).take k = prL (P.take k) := by simp [prL, List.map_take]
  unfold sumTo
  rw [e, h]
  simp
  omega

theorem plcS_bd (s : ByteArray) (t : Int × Int) : (plcS s t).length ≤ 120 ∧ sumTo (plcS s t) (plcS s t).length ≤ 240 := by
  unfold plcS
  cases h : plcOk s t
  · simp [sumTo]
  · have h2 := h
    unfold plcOk at h2
    rw [Bool.and_eq_true] at h2
    have := (tab_small h2.1).2.2.1
    have h3 := plcTo_len (digL (cellsK true s)) (widK true s) (cellsK true s).length t (cellsK true s).length
    have h4 := prL_sum (plcTo (digL (cellsK true s)) (widK true s) (cellsK true s).length t (cellsK true s).length) (prL (plcTo (digL (cellsK true s)) (widK true s) (cellsK true s).length t (cellsK true s).length)).length
    have h5 : (prL (plcTo (digL (cellsK true s)) (widK true s) (cellsK true s).length t (cellsK true s).length)).length = (plcTo (digL (cellsK true s)) (widK true s) (cellsK true s).length t (cellsK true s).length).length := by simp [prL]
    rw [if_pos rfl]
    omega

set_option maxRecDepth 100000 in
set_option maxHeartbeats 2000000 in
theorem c_implPlaces (s : ByteArray) (t0 t1 m : Int) (w : World) (hm : w.cell? ⟨0, 0, none⟩ = some (.int .i64 m)) (hl : s.size ≤ 1048576) :
    Calls Tryd.prog 9 #[.string s, .agg #[.int .i64 t0, .int .i64 t1]] w (RetII w (plcS s (t0, t1)) (plcOk s (t0, t1))) := by
  have hb0 : Below w.heap.size w (w.alloc (.cells #[.int .i64 t0, .int .i64 t1] 27)) := by go_grown
  have r0 : (w.alloc (.cells #[.int .i64 t0, .int .i64 t1] 27)).cell? ⟨w.heap.size, 0, none⟩ = some (.int .i64 t0) := by simp
  have r1 : (w.alloc (.cells #[.int .i64 t0, .int .i64 t1] 27)).cell? ⟨w.heap.size, 1, none⟩ = some (.int .i64 t1) := by simp
  have con := Lib.hid (c_tableOf s m (w.alloc (.cells #[.int .i64 t0, .int .i64 t1] 27)) (keepc hb0 hm) hl)
  unfold RetG at con
  have Hb0 := Lib.hid hb0
  clear hm hb0
  cases ht : tabB s
  · have e1 : plcOk s (t0, t1) = false := by unfold plcOk; rw [ht]; rfl
    have e2 : plcS s (t0, t1) = [] := by unfold plcS; rw [e1]; rfl
    rw [e1, e2]
    rw [ht, cellsK_no, widK_no] at con
    clear ht e1 e2
    go_enter Tryd.func9, Tryd.ntmps9
    go_wp2_with (go_at_call 27; refine con.out.mono ?_; rintro e w1 ⟨A, c, rfl, hc, hOU, hb1⟩; have Hb := Lib.hid (bstep Hb0.out hb1); clear hb1 hOU hc)
    go_ret2
    exact ⟨none, 0, rfl, OwnRR.nil _ _ _, Hb.out.alloc Hb.out.size _⟩
  · obtain ⟨h1, h2, h3, h4, h5, h6⟩ := tab_small ht
    rw [ht] at con
    have hdg := tab_dig ht
    cases hgd : goodB t0 t1
    · have e1 : plcOk s (t0, t1) = false := by unfold plcOk; rw [ht]; exact hgd
      have e2 : plcS s (t0, t1) = [] := by unfold plcS; rw [e1]; rfl
      rw [e1, e2]
      have conI := Lib.hid (fun W0 => (show Calls Tryd.prog 28 #[.agg #[.int .i64 t0, .int .i64 t1]] W0 fun e w' => e = .returned (.bool false) ∧ Below W0.heap.size W0 w' from by have h := c_implIsTile t0 t1 W0; rw [hgd] at h; exact h))
      generalize cellsK true s = L at *
      generalize widK true s = W at *
      clear hgd ht e1 e2 h1 h2 h3 h4 h5 h6 hdg
      go_enter Tryd.func9, Tryd.ntmps9
      go_wp2_with (first | (go_at_call 27; refine con.out.mono ?_; rintro e w1 ⟨A, c, rfl, hc, hOU, hb1⟩; have hbx := hb1.alloc hb1.size (.cells #[.slice A L.length c, .int .i64 (W : Int)] 53); have s0 := keepc hbx r0; have s1 := keepc hbx r1; have Hb := Lib.hid (bstep Hb0.out hbx); clear hb1 hOU hc hbx) | (go_at_call 28; refine (conI.out _).mono ?_; rintro e w2 ⟨rfl, hb2⟩; have Hb2 := Lib.hid (bstep Hb.out hb2); clear hb2))
      go_ret2
      exact ⟨none, 0, rfl, OwnRR.nil _ _ _, Hb2.out⟩
    · have e1 : plcOk s (t0, t1) = true := by unfold plcOk; rw [ht]; exact hgd
      have e2 : plcS s (t0, t1) = prL (plcTo (digL (cellsK true s)) (widK true s) (cellsK true s).length (t0, t1) (cellsK true s).length) := by unfold plcS; rw [e1]; rfl
      rw [e1, e2]
      have hpl := plcTo_len (digL (cellsK true s)) (widK true s) (cellsK true s).length (t0, t1) (cellsK true s).length
      have conI := Lib.hid (fun W0 => (show Calls Tryd.prog 28 #[.agg #[.int .i64 t0, .int .i64 t1]] W0 fun e w' => e = .returned (.bool true) ∧ Below W0.heap.size W0 w' from by have h := c_implIsTile t0 t1 W0; rw [hgd] at h; exact h))
      have conP := Lib.hid (fun (A : Option Addr) c W0 (hA : RdU W0 A (cellsK true s)) => c_placesOf A c (widK true s) (cellsK true s).length (cellsK true s) t0 t1 W0 hA rfl hdg h1 ⟨_, h6⟩ (by omega) (by omega))
      unfold RetPs at conP
      generalize plcTo (digL (cellsK true s)) (widK true s) (cellsK true s).length (t0, t1) (cellsK true s).length = P at *
      have conL := Lib.hid (fun (A : Option Addr) c W0 (h : RdT W0 A P) => c_listsOfPairs A c P W0 h (by omega))
      unfold RetIR at conL
      generalize prL P = tss at *
      generalize cellsK true s = L at *
      generalize widK true s = W at *
      clear hgd ht e1 e2 h1 h2 h3 h4 h5 h6 hdg hpl
      show Calls Tryd.prog 9 #[.string s, .agg #[.int .i64 t0, .int .i64 t1]] w (RetII w tss true)
      go_enter Tryd.func9, Tryd.ntmps9
      go_wp2_with (first | (go_at_call 27; refine con.out.mono ?_; rintro e w1 ⟨A, c, rfl, hc, hOU, hb1⟩; have hby := (Below.refl w1.heap.size w1).alloc (Nat.le_refl _) (.cells #[.slice A L.length c, .int .i64 (W : Int)] 53); have hbx := hb1.alloc hb1.size (.cells #[.slice A L.length c, .int .i64 (W : Int)] 53); have s0 := keepc hbx r0; have s1 := keepc hbx r1; have x0 : (w1.alloc (.cells #[.slice A L.length c, .int .i64 (W : Int)] 53)).cell? ⟨w1.heap.size, 0, none⟩ = some (.slice A L.length c) := (by simp); have x1 : (w1.alloc (.cells #[.slice A L.length c, .int .i64 (W : Int)] 53)).cell? ⟨w1.heap.size, 1, none⟩ = some (.int .i64 (W : Int)) := (by simp); have HR := Lib.hid (hOU.rd.below hby); have Hb := Lib.hid (bstep Hb0.out hbx); clear hb1 hOU hc hbx hby) | (go_at_call 28; refine (conI.out _).mono ?_; rintro e w2 ⟨rfl, hb2⟩; have y0 := keepc hb2 x0; have y1 := keepc hb2 x1; have y2 := keepc hb2 s0; have y3 := keepc hb2 s1; have HR2 := Lib.hid (HR.out.below hb2); have Hb2 := Lib.hid (bstep Hb.out hb2); clear hb2) | (go_at_call 30; refine (conP.out A c _ HR2.out).mono ?_; rintro e w3 ⟨A3, c3, rfl, ho3, hb3⟩; have HP3 := Lib.hid (RdT.of_own ho3); have Hb3 := Lib.hid (bstep Hb2.out hb3); clear ho3 hb3) | (go_at_call 29; refine (conL.out A3 c3 _ HP3.out).mono ?_; rintro e w4 ⟨A4, c4, rfl, ho4, hb4⟩; have Hb4 := Lib.hid (bstep Hb3.out hb4); have Ho4 := Lib.hid ho4; clear ho4 hb4))
      go_ret2
      exact ⟨A4, c4, rfl, Ho4.out.base Hb3.out.size, Hb4.out⟩

theorem c_implPlacesB (s : ByteArray) (t0 t1 m : Int) {w0 w : World} (hm : w0.cell? ⟨0, 0, none⟩ = some (.int .i64 m)) (hb : Below w0.heap.size w0 w) (hl : s.size ≤ 1048576) :
    Calls Tryd.prog 9 #[.string s, .agg #[.int .i64 t0, .int .i64 t1]] w (RetII w (plcS s (t0, t1)) (plcOk s (t0, t1))) := c_implPlaces s t0 t1 m w (keepc hb hm) hl

set_option maxRecDepth 100000 in
set_option maxHeartbeats 2000000 in
theorem c_specPlaces (s : ByteArray) (t0 t1 : Int) (w : World) (hl : s.size ≤ 1048576) :
    Calls Tryd.prog 7 #[.string s, .agg #[.int .i64 t0, .int .i64 t1]] w (RetII w (plcS s (t0, t1)) (plcOk s (t0, t1))) := by
  have hb0 : Below w.heap.size w (w.alloc (.cells #[.int .i64 t0, .int .i64 t1] 27)) := by go_grown
  have r0 : (w.alloc (.cells #[.int .i64 t0, .int .i64 t1] 27)).cell? ⟨w.heap.size, 0, none⟩ = some (.int .i64 t0) := by simp
  have r1 : (w.alloc (.cells #[.int .i64 t0, .int .i64 t1] 27)).cell? ⟨w.heap.size, 1, none⟩ = some (.int .i64 t1) := by simp
  have con := Lib.hid (c_taRead s (w.alloc (.cells #[.int .i64 t0, .int .i64 t1] 27)) hl)
  unfold RetTab at con
  have Hb0 := Lib.hid hb0
  clear hb0
  cases ht : tabB s
  · have e1 : plcOk s (t0, t1) = false := by unfold plcOk; rw [ht]; rfl
    have e2 : plcS s (t0, t1) = [] := by unfold plcS; rw [e1]; rfl
    rw [e1, e2]
    rw [ht, cellsK_no, widK_no, hgtK_no] at con
    clear ht e1 e2
    go_enter Tryd.func7, Tryd.ntmps7
    go_wp2_with (go_at_call 24; refine con.out.mono ?_; rintro e w1 ⟨A, c, rfl, hO, hb1⟩; have Hb := Lib.hid (bstep Hb0.out hb1); clear hb1 hO)
    go_ret2
    exact ⟨none, 0, rfl, OwnRR.nil _ _ _, Hb.out.alloc Hb.out.size _⟩
  · obtain ⟨h1, h2, h3, h4, h5, h6⟩ := tab_small ht
    rw [ht] at con
    have hdl := digL_len (cellsK true s)
    cases hgd : goodB t0 t1
    · have e1 : plcOk s (t0, t1) = false := by unfold plcOk; rw [ht]; exact hgd
      have e2 : plcS s (t0, t1) = [] := by unfold plcS; rw [e1]; rfl
      rw [e1, e2]
      have conI := Lib.hid (fun W0 => (show Calls Tryd.prog 25 #[.agg #[.int .i64 t0, .int .i64 t1]] W0 fun e w' => e = .returned (.bool false) ∧ Below W0.heap.size W0 w' from by have h := c_tiGood t0 t1 W0; rw [hgd] at h; exact h))
      generalize digL (cellsK true s) = D at *
      generalize widK true s = W at *
      generalize hgtK true s = H at *
      clear hgd ht e1 e2 h1 h2 h3 h4 h5 h6 hdl
      go_enter Tryd.func7, Tryd.ntmps7
      go_wp2_with (first | (go_at_call 24; refine con.out.mono ?_; rintro e w1 ⟨A, c, rfl, hO, hb1⟩; have hbx := hb1.alloc hb1.size (.cells #[.int .i64 (W : Int), .int .i64 (H : Int), .slice A D.length c] 46); have s0 := keepc hbx r0; have s1 := keepc hbx r1; have Hb := Lib.hid (bstep Hb0.out hbx); clear hb1 hO hbx) | (go_at_call 25; refine (conI.out _).mono ?_; rintro e w2 ⟨rfl, hb2⟩; have Hb2 := Lib.hid (bstep Hb.out hb2); clear hb2))
      go_ret2
      exact ⟨none, 0, rfl, OwnRR.nil _ _ _, Hb2.out⟩
    · have e1 : plcOk s (t0, t1) = true := by unfold plcOk; rw [ht]; exact hgd
      have e2 : plcS s (t0, t1) = prL (plcTo (digL (cellsK true s)) (widK true s) (digL (cellsK true s)).length (t0, t1) (digL (cellsK true s)).length) := by unfold plcS; rw [e1, hdl]; rfl
      rw [e1, e2]
      have conI := Lib.hid (fun W0 => (show Calls Tryd.prog 25 #[.agg #[.int .i64 t0, .int .i64 t1]] W0 fun e w' => e = .returned (.bool true) ∧ Below W0.heap.size W0 w' from by have h := c_tiGood t0 t1 W0; rw [hgd] at h; exact h))
      have conP := Lib.hid (fun (A : Option Addr) c W0 (hA : RdI W0 A (digL (cellsK true s))) => c_taPlaces (widK true s) (hgtK true s) (digL (cellsK true s)).length A c (digL (cellsK true s)) t0 t1 W0 hA rfl h1 (by rw [hdl, h6, Nat.mul_comm]; simp) ⟨hgtK true s, by rw [hdl, h6]⟩ (by omega) (by omega))
      unfold RetIR at conP
      generalize prL (plcTo (digL (cellsK true s)) (widK true s) (digL (cellsK true s)).length (t0, t1) (digL (cellsK true s)).length) = tss at *
      generalize digL (cellsK true s) = D at *
      generalize widK true s = W at *
      generalize hgtK true s = H at *
      clear hgd ht e1 e2 h1 h2 h3 h4 h5 h6 hdl
      show Calls Tryd.prog 7 #[.string s, .agg #[.int .i64 t0, .int .i64 t1]] w (RetII w tss true)
      go_enter Tryd.func7, Tryd.ntmps7
      go_wp2_with (first | (go_at_call 24; refine con.out.mono ?_; rintro e w1 ⟨A, c, rfl, hO, hb1⟩; have hby := (Below.refl w1.heap.size w1).alloc (Nat.le_refl _) (.cells #[.int .i64 (W : Int), .int .i64 (H : Int), .slice A D.length c] 46); have hbx := hb1.alloc hb1.size (.cells #[.int .i64 (W : Int), .int .i64 (H : Int), .slice A D.length c] 46); have s0 := keepc hbx r0; have s1 := keepc hbx r1; have x0 : (w1.alloc (.cells #[.int .i64 (W : Int), .int .i64 (H : Int), .slice A D.length c] 46)).cell? ⟨w1.heap.size, 0, none⟩ = some (.int .i64 (W : Int)) := (by simp); have x1 : (w1.alloc (.cells #[.int .i64 (W : Int), .int .i64 (H : Int), .slice A D.length c] 46)).cell? ⟨w1.heap.size, 1, none⟩ = some (.int .i64 (H : Int)) := (by simp); have x2 : (w1.alloc (.cells #[.int .i64 (W : Int), .int .i64 (H : Int), .slice A D.length c] 46)).cell? ⟨w1.heap.size, 2, none⟩ = some (.slice A D.length c) := (by simp); have HR := Lib.hid ((RdI.of_own hO).below hby); have Hb := Lib.hid (bstep Hb0.out hbx); clear hb1 hO hbx hby) | (go_at_call 25; refine (conI.out _).mono ?_; rintro e w2 ⟨rfl, hb2⟩; have y0 := keepc hb2 x0; have y1 := keepc hb2 x1; have y4 := keepc hb2 x2; have y2 := keepc hb2 s0; have y3 := keepc hb2 s1; have HR2 := Lib.hid (HR.out.below hb2); have Hb2 := Lib.hid (bstep Hb.out hb2); clear hb2) | (go_at_call 26; refine (conP.out A c _ HR2.out).mono ?_; rintro e w3 ⟨A3, c3, rfl, ho3, hb3⟩; have Hb3 := Lib.hid (bstep Hb2.out hb3); have Ho3 := Lib.hid ho3; clear ho3 hb3))
      go_ret2
      exact ⟨A3, c3, rfl, Ho3.out.base Hb2.out.size, Hb3.out⟩

end Go.Proofs.YtjbdflkbclhonabDoor

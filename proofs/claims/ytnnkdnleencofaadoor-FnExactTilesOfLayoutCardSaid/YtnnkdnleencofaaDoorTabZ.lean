/- IsLayout on both sides. -/
import Derived.Test.YtnnkdnleencofaaDoorTabY
namespace Go.Proofs.YtnnkdnleencofaaDoor
open Go.RowKit
set_option linter.unusedVariables false

def isLay (s t : ByteArray) : Bool := tabB s && layT (widK true s) (cellsK true s).length t
def RetIL (w : World) (s t : ByteArray) (e : Ending) (w' : World) : Prop := e = .returned (.tuple #[.bool (isLay s t), .bool (tabB s)]) ∧ Below w.heap.size w w'
theorem tab_grid {s : ByteArray} (h : tabB s = true) : gridB s = true := by unfold tabB at h; rw [Bool.and_eq_true] at h; exact h.1
theorem tab_small {s : ByteArray} (h : tabB s = true) : 0 < widK true s ∧ widK true s ≤ 30 ∧ (cellsK true s).length ≤ 30 ∧ 2 ≤ (cellsK true s).length ∧ hgtK true s ≤ 30 ∧ (cellsK true s).length = hgtK true s * widK true s := by
  have hg := tab_grid h
  have hgd := hgt_div hg
  have hgk := gridB_ok hg
  have hp := hgk.pos
  have hr := hgt_rows hg
  have e : widK true s = widR (rowsOf s) := rfl
  have e2 : (cellsK true s).length = (rowsOf s).flatten.length := rfl
  have e3 : hgtK true s = (rowsOf s).length := rfl
  have h1 := Nat.le_mul_of_pos_right (rowsOf s).length hgd.2.1
  refine ⟨hgd.2.1, by omega, hgd.2.2, by omega, ?_, by rw [e3]; exact hr⟩
  rw [e3]
  omega

set_option maxRecDepth 100000 in
set_option maxHeartbeats 1000000 in
theorem c_implIsLayout (s t : ByteArray) (m : Int) (w : World) (hm : w.cell? ⟨0, 0, none⟩ = some (.int .i64 m)) (hl : s.size ≤ 1048576) (hl2 : t.size ≤ 1048576) :
    Calls Tryd.prog 28 #[.string s, .string t] w (RetIL w s t) := by
  have con := Lib.hid (c_tableOf s m w hm hl)
  unfold RetG at con
  unfold RetIL
  cases ht : tabB s
  · have e1 : isLay s t = false := by unfold isLay; rw [ht]; rfl
    rw [e1]
    rw [ht, cellsK_no, widK_no] at con
    clear ht e1
    go_enter Tryd.func28, Tryd.ntmps28
    go_wp2_with (go_at_call 52; refine con.out.mono ?_; rintro e w1 ⟨A, c, rfl, hc, hOU, hb1⟩; have Hb := Lib.hid hb1; clear hb1 hOU hc)
    go_ret2
    exact ⟨rfl, Hb.out.alloc Hb.out.size _⟩
  · obtain ⟨h1, h2, h3, h4, h5, h6⟩ := tab_small ht
    have e1 : isLay s t = layT (widK true s) (cellsK true s).length t := by unfold isLay; rw [ht]; rfl
    rw [e1]
    rw [ht] at con
    have conP := Lib.hid (fun (A : Option Addr) c W0 (hb : Below w.heap.size w W0) => c_pairsOf A (cellsK true s).length c (widK true s) t m W0 (keepc hb hm) hl2 h1 (by omega))
    unfold RetPo RetPr at conP
    generalize cellsK true s = L at *
    generalize widK true s = W at *
    generalize layT W L.length t = b at *
    generalize prsB b W (cellsK true t) = P at *
    clear ht e1 h1 h2 h3 h4 h5 h6
    go_enter Tryd.func28, Tryd.ntmps28
    go_wp2_with (first | (go_at_call 52; refine con.out.mono ?_; rintro e w1 ⟨A, c, rfl, hc, hOU, hb1⟩; have Hb := Lib.hid (show Below w.heap.size w (w1.alloc (.cells #[.slice A L.length c, .int .i64 (W : Int)] 67)) from hb1.alloc hb1.size _); clear hb1 hOU hc) | (go_at_call 66; refine (conP.out A c _ Hb.out).mono ?_; rintro e w3 ⟨A3, c3, rfl, ho3, hb3⟩; have Hb3 := Lib.hid (bstep Hb.out hb3); clear ho3 hb3))
    go_ret2
    exact ⟨rfl, Hb3.out⟩

set_option maxRecDepth 100000 in
set_option maxHeartbeats 1000000 in
theorem c_specIsLayout (s t : ByteArray) (w : World) (hl : s.size ≤ 1048576) (hl2 : t.size ≤ 1048576) :
    Calls Tryd.prog 27 #[.string s, .string t] w (RetIL w s t) := by
  have con := Lib.hid (c_taRead s w hl)
  unfold RetTab at con
  unfold RetIL
  cases ht : tabB s
  · have e1 : isLay s t = false := by unfold isLay; rw [ht]; rfl
    rw [e1]
    rw [ht, cellsK_no, widK_no, hgtK_no] at con
    clear ht e1
    go_enter Tryd.func27, Tryd.ntmps27
    go_wp2_with (go_at_call 51; refine con.out.mono ?_; rintro e w1 ⟨A, c, rfl, hO, hb1⟩; have Hb := Lib.hid hb1; clear hb1 hO)
    go_ret2
    exact ⟨rfl, Hb.out.alloc Hb.out.size _⟩
  · obtain ⟨h1, h2, h3, h4, h5, h6⟩ := tab_small ht
    have e1 : isLay s t = layT (widK true s) (cellsK true s).length t := by unfold isLay; rw [ht]; rfl
    rw [e1]
    rw [ht] at con
    have conL := Lib.hid (fun (A : Option Addr) d c W0 => c_taLayout (widK true s) (hgtK true s) (cellsK true s).length A d c t W0 hl2 h1 h6 (by omega) (by omega) (by omega))
    unfold RetLt at conL
    generalize digL (cellsK true s) = D at *
    generalize (cellsK true s).length = n at *
    generalize widK true s = W at *
    generalize hgtK true s = H at *
    generalize layT W n t = b at *
    generalize cellsK b t = K at *
    clear ht e1 h1 h2 h3 h4 h5 h6
    go_enter Tryd.func27, Tryd.ntmps27
    go_wp2_with (first | (go_at_call 51; refine con.out.mono ?_; rintro e w1 ⟨A, c, rfl, hO, hb1⟩; have Hb := Lib.hid (show Below w.heap.size w (w1.alloc (.cells #[.int .i64 (W : Int), .int .i64 (H : Int), .slice A D.length c] 62)) from hb1.alloc hb1.size _); clear hb1 hO) | (go_at_call 65; refine (conL.out A _ c _).mono ?_; rintro e w3 ⟨A3, c3, rfl, ho3, hb3⟩; have Hb3 := Lib.hid (bstep Hb.out hb3); clear ho3 hb3))
    go_ret2
    exact ⟨rfl, Hb3.out⟩

theorem c_implIsLayoutB (s t : ByteArray) (m : Int) {w0 w : World} (hm : w0.cell? ⟨0, 0, none⟩ = some (.int .i64 m)) (hb : Below w0.heap.size w0 w) (hl : s.size ≤ 1048576) (hl2 : t.size ≤ 1048576) :
    Calls Tryd.prog 28 #[.string s, .string t] w (RetIL w s t) := c_implIsLayout s t m w (keepc hb hm) hl hl2
end Go.Proofs.YtnnkdnleencofaaDoor

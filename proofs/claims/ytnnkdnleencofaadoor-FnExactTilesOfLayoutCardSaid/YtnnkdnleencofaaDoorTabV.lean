/- TilesOfLayout on both sides. -/
import Derived.Test.YtnnkdnleencofaaDoorTabX
namespace Go.Proofs.YtnnkdnleencofaaDoor
open Go.RowKit
set_option linter.unusedVariables false

def tilLay (s t : ByteArray) : List (Int × Int) := if isLay s t then tlP (digL (cellsK true s)) (prsTo (widK true s) (cellsK true t) (cellsK true t).length) else []
theorem rdU_own {w : World} {base : Nat} {A : Option Addr} {c : Nat} {L : List UInt8} (h : w.ownsRow base 5 1 (.slice A L.length c) L.length (cellsU8 L)) : RdU w A L := by
  by_cases h0 : 0 < L.length
  · obtain ⟨g, hA, _, _, hc⟩ := ownU_at h h0
    exact ⟨g, 0, fun _ => hA, fun k hk => by rw [Nat.zero_add]; exact hc k hk⟩
  · have : L = [] := List.length_eq_zero_iff.1 (by omega)
    subst this
    exact ⟨0, 0, fun h => absurd rfl h, fun k hk => by simp at hk⟩
theorem tab_dig {s : ByteArray} (h : tabB s = true) : ∀ b ∈ cellsK true s, digB b = true := by
  unfold tabB at h
  rw [Bool.and_eq_true] at h
  exact fun b hb => List.all_eq_true.1 h.2 b hb
theorem layT_yes {W n : Nat} {t : ByteArray} (h : layT W n t = true) : widK true t = W ∧ (cellsK true t).length = n ∧ layB W (cellsK true t) = true ∧ ∃ H, (cellsK true t).length = H * W := by
  unfold layT at h
  simp only [Bool.and_eq_true, decide_eq_true_eq] at h
  obtain ⟨h1, h2, h3, h4⟩ := h
  obtain ⟨H, _, hr⟩ := (gridB_ok h1).rows
  refine ⟨h2, h3, h4, H, ?_⟩
  rw [← h2]
  exact hr

theorem tilLay_len (s t : ByteArray) : (tilLay s t).length ≤ 60 := by
  unfold tilLay
  cases hi : isLay s t
  · simp
  · have h2 := hi
    unfold isLay at h2
    rw [Bool.and_eq_true] at h2
    obtain ⟨l1, l2, l3, l4⟩ := layT_yes h2.2
    have := (tab_small h2.1).2.2.1
    have := prsTo_len (widK true s) (cellsK true t) (cellsK true t).length
    rw [if_pos rfl, tlP_len]
    omega

set_option maxRecDepth 100000 in
set_option maxHeartbeats 2000000 in
theorem c_implTilesOfLayout (s t : ByteArray) (m : Int) (w : World) (hm : w.cell? ⟨0, 0, none⟩ = some (.int .i64 m)) (hl : s.size ≤ 1048576) (hl2 : t.size ≤ 1048576) :
    Calls Tryd.prog 30 #[.string s, .string t] w (RetT w (tilLay s t) (isLay s t)) := by
  have con := Lib.hid (c_tableOf s m w hm hl)
  unfold RetG at con
  cases ht : tabB s
  · have e1 : isLay s t = false := by unfold isLay; rw [ht]; rfl
    have e2 : tilLay s t = [] := by unfold tilLay; rw [e1]; rfl
    rw [e1, e2]
    rw [ht, cellsK_no, widK_no] at con
    clear ht e1 e2
    go_enter Tryd.func30, Tryd.ntmps30
    go_wp2_with (go_at_call 52; refine con.out.mono ?_; rintro e w1 ⟨A, c, rfl, hc, hOU, hb1⟩; have Hb := Lib.hid hb1; clear hb1 hOU hc)
    go_ret2
    exact ⟨none, 0, rfl, World.ownsRow_nil _ _ _ _, Hb.out.alloc Hb.out.size _⟩
  · obtain ⟨h1, h2, h3, h4, h5, h6⟩ := tab_small ht
    have e1 : isLay s t = layT (widK true s) (cellsK true s).length t := by unfold isLay; rw [ht]; rfl
    have e2 : tilLay s t = if layT (widK true s) (cellsK true s).length t then tlP (digL (cellsK true s)) (prsTo (widK true s) (cellsK true t) (cellsK true t).length) else [] := by unfold tilLay; rw [e1]
    rw [e1, e2]
    rw [ht] at con
    have hdg := tab_dig ht
    have conP := Lib.hid (fun (A : Option Addr) c W0 (hb : Below w.heap.size w W0) => c_pairsOf A (cellsK true s).length c (widK true s) t m W0 (keepc hb hm) hl2 h1 (by omega))
    unfold RetPo RetPr at conP
    have hly := fun h => layT_yes (W := widK true s) (n := (cellsK true s).length) (t := t) h
    generalize cellsK true s = L at *
    generalize widK true s = W at *
    generalize cellsK true t = K at *
    cases hb : layT W L.length t
    · rw [hb] at conP
      clear hb hly hdg ht e1 e2 h1 h2 h3 h4 h5 h6
      go_enter Tryd.func30, Tryd.ntmps30
      go_wp2_with (first | (go_at_call 52; refine con.out.mono ?_; rintro e w1 ⟨A, c, rfl, hc, hOU, hb1⟩; have Hb := Lib.hid (show Below w.heap.size w (w1.alloc (.cells #[.slice A L.length c, .int .i64 (W : Int)] 67)) from hb1.alloc hb1.size _); clear hb1 hOU hc) | (go_at_call 66; refine (conP.out A c _ Hb.out).mono ?_; rintro e w3 ⟨A3, c3, rfl, ho3, hb3⟩; have Hb3 := Lib.hid (bstep Hb.out hb3); clear ho3 hb3))
      go_ret2
      exact ⟨none, 0, rfl, World.ownsRow_nil _ _ _ _, Hb3.out⟩
    · obtain ⟨l1, l2, l3, l4⟩ := hly hb
      rw [hb] at conP
      have e3 : prsB true W K = prsTo W K K.length := rfl
      rw [e3] at conP
      have hin : ∀ p ∈ prsTo W K K.length, ∃ i j : Nat, p = ((i : Int), (j : Int)) ∧ i < L.length ∧ j < L.length := fun p hp => by
        obtain ⟨i, j, e, a, b⟩ := prsTo_in h1 l4 l3 (k := K.length) (Nat.le_refl _) p hp
        exact ⟨i, j, e, by omega, by omega⟩
      have hln := prsTo_len W K K.length
      have hT := Lib.hid (fun (A : Option Addr) c B d W0 (hA : RdU W0 A L) (hB : RdT W0 B (prsTo W K K.length)) => c_tilesAt A c W L B d (prsTo W K K.length) W0 hA hB hin hdg (by omega))
      generalize prsTo W K K.length = P at *
      unfold RetTl at hT
      generalize tlP (digL L) P = T at *
      clear hb hly hdg ht e1 e2 e3 l1 l2 l3 l4 h1 h2 h3 h4 h5 h6 hin hln
      show Calls Tryd.prog 30 #[.string s, .string t] w (RetT w T true)
      go_enter Tryd.func30, Tryd.ntmps30
      go_wp2_with (first | (go_at_call 52; refine con.out.mono ?_; rintro e w1 ⟨A, c, rfl, hc, hOU, hb1⟩; have x0 : (w1.alloc (.cells #[.slice A L.length c, .int .i64 (W : Int)] 67)).cell? ⟨w1.heap.size, 0, none⟩ = some (.slice A L.length c) := (by simp); have x1 : (w1.alloc (.cells #[.slice A L.length c, .int .i64 (W : Int)] 67)).cell? ⟨w1.heap.size, 1, none⟩ = some (.int .i64 (W : Int)) := (by simp); have HR := Lib.hid (hOU.rd.below ((Below.refl w1.heap.size w1).alloc (Nat.le_refl _) (.cells #[.slice A L.length c, .int .i64 (W : Int)] 67))); have Hb := Lib.hid (show Below w.heap.size w (w1.alloc (.cells #[.slice A L.length c, .int .i64 (W : Int)] 67)) from hb1.alloc hb1.size _); clear hb1 hOU hc) | (go_at_call 66; refine (conP.out A c _ Hb.out).mono ?_; rintro e w3 ⟨A3, c3, rfl, ho3, hb3⟩; have y0 := keepc hb3 x0; have y1 := keepc hb3 x1; have HR3 := Lib.hid (HR.out.below hb3); have HP3 := Lib.hid (RdT.of_own ho3); have Hb3 := Lib.hid (bstep Hb.out hb3); clear ho3 hb3) | (go_at_call 68; refine (hT.out A c A3 c3 _ HR3.out HP3.out).mono ?_; rintro e w4 ⟨A4, c4, rfl, ho4, hb4⟩; have Hb4 := Lib.hid (bstep Hb3.out hb4); have Ho4 := Lib.hid ho4; clear ho4 hb4))
      go_ret2
      exact ⟨A4, c4, rfl, own_base Ho4.out Hb3.out.size, Hb4.out⟩

set_option maxRecDepth 100000 in
set_option maxHeartbeats 2000000 in
theorem c_specTilesOfLayout (s t : ByteArray) (w : World) (hl : s.size ≤ 1048576) (hl2 : t.size ≤ 1048576) :
    Calls Tryd.prog 29 #[.string s, .string t] w (RetT w (tilLay s t) (isLay s t)) := by
  have con := Lib.hid (c_taRead s w hl)
  unfold RetTab at con
  cases ht : tabB s
  · have e1 : isLay s t = false := by unfold isLay; rw [ht]; rfl
    have e2 : tilLay s t = [] := by unfold tilLay; rw [e1]; rfl
    rw [e1, e2]
    rw [ht, cellsK_no, widK_no, hgtK_no] at con
    clear ht e1 e2
    go_enter Tryd.func29, Tryd.ntmps29
    go_wp2_with (go_at_call 51; refine con.out.mono ?_; rintro e w1 ⟨A, c, rfl, hO, hb1⟩; have Hb := Lib.hid hb1; clear hb1 hO)
    go_ret2
    exact ⟨none, 0, rfl, World.ownsRow_nil _ _ _ _, Hb.out.alloc Hb.out.size _⟩
  · obtain ⟨h1, h2, h3, h4, h5, h6⟩ := tab_small ht
    have e1 : isLay s t = layT (widK true s) (cellsK true s).length t := by unfold isLay; rw [ht]; rfl
    have e2 : tilLay s t = if layT (widK true s) (cellsK true s).length t then tlP (digL (cellsK true s)) (prsTo (widK true s) (cellsK true t) (cellsK true t).length) else [] := by unfold tilLay; rw [e1]
    rw [e1, e2]
    rw [ht] at con
    have conL := Lib.hid (fun (A : Option Addr) d c W0 => c_taLayout (widK true s) (hgtK true s) (cellsK true s).length A d c t W0 hl2 h1 h6 (by omega) (by omega) (by omega))
    unfold RetLt at conL
    have hly := fun h => layT_yes (W := widK true s) (n := (cellsK true s).length) (t := t) h
    have hdl := digL_len (cellsK true s)
    generalize digL (cellsK true s) = D at *
    generalize (cellsK true s).length = n at *
    generalize widK true s = W at *
    generalize hgtK true s = H at *
    cases hb : layT W n t
    · rw [hb] at conL
      generalize cellsK false t = K0 at *
      clear hb hly hdl ht e1 e2 h1 h2 h3 h4 h5 h6
      go_enter Tryd.func29, Tryd.ntmps29
      go_wp2_with (first | (go_at_call 51; refine con.out.mono ?_; rintro e w1 ⟨A, c, rfl, hO, hb1⟩; have Hb := Lib.hid (show Below w.heap.size w (w1.alloc (.cells #[.int .i64 (W : Int), .int .i64 (H : Int), .slice A D.length c] 62)) from hb1.alloc hb1.size _); clear hb1 hO) | (go_at_call 65; refine (conL.out A _ c _).mono ?_; rintro e w3 ⟨A3, c3, rfl, ho3, hb3⟩; have Hb3 := Lib.hid (bstep Hb.out hb3); clear ho3 hb3))
      go_ret2
      exact ⟨none, 0, rfl, World.ownsRow_nil _ _ _ _, Hb3.out⟩
    · obtain ⟨l1, l2, l3, l4⟩ := hly hb
      rw [hb] at conL
      generalize cellsK true t = K at *
      have hT := Lib.hid (fun (A : Option Addr) c B d W0 (hA : RdI W0 A D) (hB : RdU W0 B K) => c_taTiles W H A c D B d K W0 hA hB l3 (by omega) h1 (by rw [l2, h6, Nat.mul_comm]; simp) l4 (by omega) (by omega))
      unfold RetTl at hT
      generalize tlP D (prsTo W K K.length) = T at *
      clear hb hly hdl ht e1 e2 l1 l2 l3 l4 h1 h2 h3 h4 h5 h6
      show Calls Tryd.prog 29 #[.string s, .string t] w (RetT w T true)
      go_enter Tryd.func29, Tryd.ntmps29
      go_wp2_with (first | (go_at_call 51; refine con.out.mono ?_; rintro e w1 ⟨A, c, rfl, hO, hb1⟩; have x0 : (w1.alloc (.cells #[.int .i64 (W : Int), .int .i64 (H : Int), .slice A D.length c] 62)).cell? ⟨w1.heap.size, 0, none⟩ = some (.int .i64 (W : Int)) := (by simp); have x1 : (w1.alloc (.cells #[.int .i64 (W : Int), .int .i64 (H : Int), .slice A D.length c] 62)).cell? ⟨w1.heap.size, 1, none⟩ = some (.int .i64 (H : Int)) := (by simp); have x2 : (w1.alloc (.cells #[.int .i64 (W : Int), .int .i64 (H : Int), .slice A D.length c] 62)).cell? ⟨w1.heap.size, 2, none⟩ = some (.slice A D.length c) := (by simp); have HR := Lib.hid ((RdI.of_own hO).below ((Below.refl w1.heap.size w1).alloc (Nat.le_refl _) (.cells #[.int .i64 (W : Int), .int .i64 (H : Int), .slice A D.length c] 62))); have Hb := Lib.hid (show Below w.heap.size w (w1.alloc (.cells #[.int .i64 (W : Int), .int .i64 (H : Int), .slice A D.length c] 62)) from hb1.alloc hb1.size _); clear hb1 hO) | (go_at_call 65; refine (conL.out A _ c _).mono ?_; rintro e w3 ⟨A3, c3, rfl, ho3, hb3⟩; have y0 := keepc hb3 x0; have y1 := keepc hb3 x1; have y2 := keepc hb3 x2; have HR3 := Lib.hid (HR.out.below hb3); have HP3 := Lib.hid (rdU_own ho3); have Hb3 := Lib.hid (bstep Hb.out hb3); clear ho3 hb3) | (go_at_call 67; refine (hT.out A c A3 c3 _ HR3.out HP3.out).mono ?_; rintro e w4 ⟨A4, c4, rfl, ho4, hb4⟩; have Hb4 := Lib.hid (bstep Hb3.out hb4); have Ho4 := Lib.hid ho4; clear ho4 hb4))
      go_ret2
      exact ⟨A4, c4, rfl, own_base Ho4.out Hb3.out.size, Hb4.out⟩

theorem c_implTilesOfLayoutB (s t : ByteArray) (m : Int) {w0 w : World} (hm : w0.cell? ⟨0, 0, none⟩ = some (.int .i64 m)) (hb : Below w0.heap.size w0 w) (hl : s.size ≤ 1048576) (hl2 : t.size ≤ 1048576) :
    Calls Tryd.prog 30 #[.string s, .string t] w (RetT w (tilLay s t) (isLay s t)) := c_implTilesOfLayout s t m w (keepc hb hm) hl hl2
end Go.Proofs.YtnnkdnleencofaaDoor

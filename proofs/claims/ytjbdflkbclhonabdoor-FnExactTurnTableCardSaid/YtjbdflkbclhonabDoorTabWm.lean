/- MirrorTable on both sides. -/
import Derived.Test.YtjbdflkbclhonabDoorTabWx
import Derived.Test.YtjbdflkbclhonabDoorTabV
import Derived.Test.YtjbdflkbclhonabDoorChain
namespace Go.Proofs.YtjbdflkbclhonabDoor
open Go.RowKit
set_option linter.unusedVariables false

/-- The cell that stands at t behind the turning around of each row. -/
def rix (W t : Nat) : Nat := t / W * W + (W - 1 - t % W)

theorem rix_lt {W n t H : Nat} (hW : 0 < W) (hn : n = H * W) (ht : t < n) : rix W t < n := by
  unfold rix
  have h1 := Nat.div_add_mod t W
  have h2 := Nat.mod_lt t hW
  have h3 : t / W < H := by rw [Nat.div_lt_iff_lt_mul hW]; omega
  have h4 : t / W * W + W ≤ n := by rw [hn, ← Nat.succ_mul]; exact Nat.mul_le_mul_right _ h3
  omega

theorem rix_at {W k t : Nat} (hW : 0 < W) (h1 : k * W ≤ t) (h2 : t < k * W + W) : rix W t = 2 * (k * W) + (W - 1) - t := by
  unfold rix
  have hd : t / W = k := by
    refine Nat.div_eq_of_lt_le h1 ?_
    rw [Nat.succ_mul]
    exact h2
  have h3 := Nat.div_add_mod t W
  rw [hd, Nat.mul_comm] at h3
  rw [hd]
  omega

def mirF (F : Nat → Int) (W k t : Nat) : Int := if t < k * W then F (rix W t) else F t

theorem mirF_zero (F : Nat → Int) (W t : Nat) : mirF F W 0 t = F t := by simp [mirF]

theorem mirF_step {F : Nat → Int} {W : Nat} (hW : 0 < W) (k t : Nat) : revF (mirF F W k) (k * W) W t = mirF F W (k + 1) t := by
  unfold revF mirF
  have e : (k + 1) * W = k * W + W := Nat.succ_mul k W
  rw [e]
  by_cases h : k * W ≤ t ∧ t < k * W + W
  · rw [if_pos h, if_pos h.2, if_neg (by omega), rix_at hW h.1 h.2]
  · rw [if_neg h]
    by_cases h2 : t < k * W
    · rw [if_pos h2, if_pos (by omega)]
    · rw [if_neg h2, if_neg (by omega)]

def mirS (s : ByteArray) : ByteArray := if tabB s then txB (widK true s) (fun t => (cellsK true s).getD (rix (widK true s) t) 0) (cellsK true s).length else ⟨#[]⟩

theorem mirS_yes {s : ByteArray} (h : tabB s = true) : mirS s = txB (widK true s) (fun t => (cellsK true s).getD (rix (widK true s) t) 0) (cellsK true s).length := by
  unfold mirS
  rw [h]
  rfl

theorem mirS_no {s : ByteArray} (h : tabB s = false) : mirS s = ⟨#[]⟩ := by
  unfold mirS
  rw [h]
  rfl

/-- The digits of a table with each row backwards. -/
def mirD (W : Nat) (D : List Int) : List Int := (List.range D.length).map fun t => D.getD (rix W t) 0

theorem mirD_len (W : Nat) (D : List Int) : (mirD W D).length = D.length := by simp [mirD]

theorem mirD_step {W k : Nat} {D : List Int} (h : k < D.length) : (mirD W D).take (k + 1) = (mirD W D).take k ++ [D.getD (rix W k) 0] := by
  rw [List.take_succ_eq_append_getElem (by rw [mirD_len]; exact h)]
  congr 1
  simp [mirD]

theorem mirD_num {W : Nat} {D : List Int} (h : ∀ x ∈ D, numB x = true) : ∀ x ∈ mirD W D, numB x = true := by
  intro x hx
  unfold mirD at hx
  obtain ⟨t, _, rfl⟩ := List.mem_map.1 hx
  rw [List.getD_eq_getElem?_getD]
  by_cases h2 : rix W t < D.length
  · rw [List.getElem?_eq_getElem h2]
    exact h _ (List.getElem_mem h2)
  · rw [List.getElem?_eq_none (by omega)]
    rfl

theorem digL_num {L : List UInt8} (h : ∀ b ∈ L, digB b = true) : ∀ x ∈ digL L, numB x = true := by
  intro x hx
  unfold digL at hx
  obtain ⟨b, hb, rfl⟩ := List.mem_map.1 hx
  rw [numB_dig]
  exact h b hb

theorem mir_text {W H : Nat} {L : List UInt8} (hW : 0 < W) (hn : L.length = H * W) (h : ∀ b ∈ L, digB b = true) : txB W (fun j => dgV ((mirD W (digL L)).getD j 0)) L.length = txB W (fun t => L.getD (rix W t) 0) L.length := by
  refine txB_same fun j hj => ?_
  have h1 := rix_lt hW hn hj
  have e1 : (mirD W (digL L)).getD j 0 = (digL L).getD (rix W j) 0 := by
    unfold mirD
    rw [List.getD_eq_getElem?_getD, List.getElem?_map, List.getElem?_range (by rw [digL_len]; exact hj)]
    rfl
  have e2 : (digL L).getD (rix W j) 0 = (L[rix W j].toNat : Int) - 48 := by
    rw [List.getD_eq_getElem?_getD, List.getElem?_eq_getElem (by rw [digL_len]; exact h1)]
    simp [digL]
  have e3 : L.getD (rix W j) 0 = L[rix W j] := by
    rw [List.getD_eq_getElem?_getD, List.getElem?_eq_getElem h1]
    rfl
  rw [e1, e2, e3]
  exact dgV_dig (h _ (List.getElem_mem h1))

theorem mir_bytes {W H : Nat} {L : List UInt8} (hn : L.length = H * W) (j : Nat) (hj : j < L.length) : mirF (fun i => ((L.getD i 0).toNat : Int)) W H j = ((L.getD (rix W j) 0).toNat : Int) := by
  unfold mirF
  rw [if_pos (by omega)]

theorem mir_F (L : List UInt8) (W H : Nat) (hn : L.length = H * W) : ∃ F : Nat → Int, (∀ j (hj : j < L.length), F j = (L[j].toNat : Int)) ∧ ∀ j, j < L.length → mirF F W H j = ((L.getD (rix W j) 0).toNat : Int) :=
  ⟨fun i => ((L.getD i 0).toNat : Int), fun j hj => by simp only; rw [List.getD_eq_getElem?_getD, List.getElem?_eq_getElem hj]; rfl, mir_bytes hn⟩

theorem OwnU.at0 {w : World} {base : Nat} {A : Option Addr} {L : List UInt8} (h : OwnU w base A L) (h0 : 0 < L.length) : ∃ g, A = some ⟨g, 0, none⟩ ∧ base ≤ g ∧ g < w.heap.size ∧ ∀ F : Nat → Int, (∀ j (hj : j < L.length), F j = (L[j].toNat : Int)) → BytA w g L.length F := by
  rcases h with ⟨rfl, _⟩ | ⟨g, e1, e2, e3, e4⟩
  · simp at h0
  · refine ⟨g, e1, e2, block_lt (e4 0 h0), fun F hF j hj => ⟨by rw [hF j hj]; exact e4 j hj, ?_⟩⟩
    cases hf : w.frozen? ⟨g, j, none⟩ with
    | false => rfl
    | true => have := e3 j hf; omega

set_option maxRecDepth 100000 in
set_option maxHeartbeats 4000000 in
theorem c_implMirror (s : ByteArray) (m : Int) (w : World) (hm : w.cell? ⟨0, 0, none⟩ = some (.int .i64 m)) (hl : s.size ≤ 1048576) :
    Calls Tryd.prog 23 #[.string s] w fun e w' => e = .returned (.tuple #[.string (mirS s), .bool (tabB s)]) ∧ Below w.heap.size w w' := by
  have con := Lib.hid (c_tableOf s m w hm hl)
  unfold RetG at con
  clear hm
  cases ht : tabB s
  · rw [mirS_no ht]
    rw [ht, cellsK_no, widK_no] at con
    clear ht
    go_enter Tryd.func23, Tryd.ntmps23
    go_wp2_with (go_at_call 27; refine con.out.mono ?_; rintro e w1 ⟨A, c, rfl, hc, hOU, hb1⟩; have Hb := Lib.hid hb1; clear hb1 hOU hc)
    go_ret2
    exact ⟨rfl, Hb.out.alloc Hb.out.size _⟩
  · obtain ⟨h1, h2, h3, h4, h5, h6⟩ := tab_small ht
    rw [mirS_yes ht]
    rw [ht] at con
    generalize cellsK true s = L at *
    generalize widK true s = W at *
    generalize hgtK true s = H at *
    obtain ⟨F, hF, hG⟩ := mir_F L W H h6
    obtain ⟨G, hGe⟩ : ∃ G : Nat → UInt8, G = fun t => L.getD (rix W t) 0 := ⟨_, rfl⟩
    have hGk := Lib.hid (fun j (hj : j < L.length) => (show mirF F W H j = ((G j).toNat : Int) from by rw [hG j hj, hGe]))
    rw [← hGe]
    have hHpos : 0 < H := by
      rcases Nat.eq_zero_or_pos H with h | h
      · rw [h, Nat.zero_mul] at h6; omega
      · exact h
    have hdiv : L.length / W = H := by rw [h6, Nat.mul_div_cancel _ h1]
    have HF := Lib.hid hF
    have Hhei := Lib.hid (fun A c W0 => (show Calls Tryd.prog 40 #[.agg #[.slice A L.length c, .int .i64 W]] W0 fun e w' => e = .returned (.int .i64 (H : Int)) ∧ Below W0.heap.size W0 w' from by
      have h := c_height A L.length c W W0 h1 (by omega)
      rwa [hdiv] at h))
    have Hrow := Lib.hid (fun g c k (hk : k < H) (hc : L.length ≤ c) W0 => (show Calls Tryd.prog 41 #[.agg #[.slice (some ⟨g, 0, none⟩) L.length c, .int .i64 W], .int .i64 k] W0 fun e w' => e = .returned (.slice (some ⟨g, k * W, none⟩) W W) ∧ Below W0.heap.size W0 w' from by
      have hkW : k * W + W ≤ L.length := by rw [h6, ← Nat.succ_mul]; exact Nat.mul_le_mul_right _ hk
      have h := c_gridRow g 0 L.length c W k (k * W) W0 h1 rfl hkW hc (by omega) (by omega)
      rwa [Nat.zero_add] at h))
    have Hrev := Lib.hid (fun g k (hk : k < H) (hg : w.heap.size ≤ g) W0 (hB : BytA W0 g L.length (mirF F W k)) => (show Calls Tryd.prog 43 #[.slice (some ⟨g, k * W, none⟩) W W] W0 fun e w' => e = .returned (.tuple #[]) ∧ BytA w' g L.length (mirF F W (k + 1)) ∧ OthC g W0 w' ∧ Below w.heap.size W0 w' from by
      have hkW : k * W + W ≤ L.length := by rw [h6, ← Nat.succ_mul]; exact Nat.mul_le_mul_right _ hk
      refine (c_revU w.heap.size g (k * W) W L.length (mirF F W k) W0 hB h1 hkW (by omega) hg).mono ?_
      rintro e w' ⟨rfl, h2, h3, h4⟩
      exact ⟨rfl, h2.same (fun t _ => mirF_step h1 k t), h3, h4⟩))
    have Htext := Lib.hid (fun g c (hc : L.length ≤ c) W0 (hB : BytA W0 g L.length (mirF F W H)) => c_gridText g L.length c W H G W0 (fun j hj => by rw [(hB j hj).1, hGk.out j hj]) h6 h1 hHpos hc (by omega))
    have hLp : 0 < L.length := by omega
    have hH30 : H ≤ 30 := h5
    generalize txB W G L.length = R at *
    clear ht hG hGe hF hGk hdiv hHpos h1 h2 h3 h4 h5 h6
    go_enter Tryd.func23, Tryd.ntmps23
    go_wp2_with (first | (go_at_call 27; refine con.out.mono ?_; rintro e w1 ⟨A, c, rfl, hc, hOU, hb1⟩; obtain ⟨g, rfl, hgb, hgl, hgF⟩ := hOU.at0 hLp; have HB := Lib.hid (hgF F HF.out); have x0 : (w1.alloc (.cells #[.slice (some ⟨g, 0, none⟩) L.length c, .int .i64 (W : Int)] 53)).cell? ⟨w1.heap.size, 0, none⟩ = some (.slice (some ⟨g, 0, none⟩) L.length c) := (by simp); have x1 : (w1.alloc (.cells #[.slice (some ⟨g, 0, none⟩) L.length c, .int .i64 (W : Int)] 53)).cell? ⟨w1.heap.size, 1, none⟩ = some (.int .i64 (W : Int)) := (by simp); have HBx := Lib.hid (HB.out.below ((Below.refl w1.heap.size w1).alloc (Nat.le_refl _) (.cells #[.slice (some ⟨g, 0, none⟩) L.length c, .int .i64 (W : Int)] 53))); have Hb := Lib.hid (hb1.alloc hb1.size (.cells #[.slice (some ⟨g, 0, none⟩) L.length c, .int .i64 (W : Int)] 53)); have Hc := Lib.hid hc; clear hb1 hOU hc hgF HB) | (go_at_call 40; refine (Hhei.out _ _ _).mono ?_; rintro e w2 ⟨rfl, hb2⟩; have y0 := keepc hb2 x0; have y1 := keepc hb2 x1; have HB2 := Lib.hid (HBx.out.below hb2); have Hb2 := Lib.hid (bstep Hb.out hb2); clear hb2))
    have hng : w1.heap.size ≠ g := by omega
    have hsz2 : w1.heap.size < w2.heap.size := block_lt y0
    clear x0 x1 HBx Hb
    go_loopw [16] (fun i wr => ∃ k : Nat, k ≤ H ∧ i = .int .i64 k ∧ BytA wr g L.length (mirF F W k) ∧ wr.cell? ⟨w1.heap.size, 0, none⟩ = some (.slice (some ⟨g, 0, none⟩) L.length c) ∧ wr.cell? ⟨w1.heap.size, 1, none⟩ = some (.int .i64 (W : Int)) ∧ Below w.heap.size w wr) (fun i _ => H - (intOf i).toNat)
    case atStart => exact ⟨0, Nat.zero_le _, rfl, HB2.out.same (fun t _ => (mirF_zero F W t).symm), y0, y1, Hb2.out⟩
    case round =>
      obtain ⟨k, hk, rfl, hB, z0, z1, hb⟩ := hrel
      by_cases hlt : k < H
      · have conR := Lib.hid (fun W0 => Hrow.out g c k hlt Hc.out W0)
        have HB := Lib.hid hB
        have Hb := Lib.hid hb
        have Hv := Lib.hid (fun W0 hB => Hrev.out g k hlt hgb W0 hB)
        have j1 : (k : Int) < (H : Int) := by omega
        clear hB hb y0 y1 HB2 Hb2 Hrow Hrev Htext Hhei
        generalize k * W = p at *
        go_wp2_with (first | (go_at_call 41; refine (conR.out _).mono ?_; rintro e w5 ⟨rfl, hb5⟩; have a0 := keepc hb5 z0; have a1 := keepc hb5 z1; have HB5 := Lib.hid (HB.out.below hb5); have Hb5 := Lib.hid (bstep Hb.out hb5); clear hb5) | (go_at_call 43; refine (Hv.out _ HB5.out).mono ?_; rintro e w6 ⟨rfl, hB6, hO6, hb6⟩; have b0 := hO6 _ _ _ hng a0; have b1 := hO6 _ _ _ hng a1; have HB6 := Lib.hid hB6; have Hb6 := Lib.hid (Hb5.out.trans hb6); clear hB6 hO6 hb6))
        go_roundw
        case rel => exact ⟨k + 1, by omega, by go_num, HB6.out, b0, b1, Hb6.out⟩
        case measure => simp [intOf]; omega
      · obtain rfl : k = H := by omega
        have conT := Lib.hid (Htext.out g c Hc.out wr hB)
        have Hb := Lib.hid hb
        clear hB hb y0 y1 HB2 Hb2 Hrow Hrev Htext Hhei
        go_wp2_with (go_at_call 42; refine conT.out.mono ?_; rintro e w5 ⟨rfl, hb5⟩)
        go_ret2
        exact ⟨rfl, bstep Hb.out hb5⟩

theorem c_implMirrorB (s : ByteArray) (m : Int) {w0 w : World} (hm : w0.cell? ⟨0, 0, none⟩ = some (.int .i64 m)) (hb : Below w0.heap.size w0 w) (hl : s.size ≤ 1048576) :
    Calls Tryd.prog 23 #[.string s] w fun e w' => e = .returned (.tuple #[.string (mirS s), .bool (tabB s)]) ∧ Below w.heap.size w w' := c_implMirror s m w (keepc hb hm) hl

set_option maxRecDepth 100000 in
set_option maxHeartbeats 4000000 in
theorem c_specMirror (s : ByteArray) (w : World) (hl : s.size ≤ 1048576) :
    Calls Tryd.prog 22 #[.string s] w fun e w' => e = .returned (.tuple #[.string (mirS s), .bool (tabB s)]) ∧ Below w.heap.size w w' := by
  have con := Lib.hid (c_taRead s w hl)
  unfold RetTab at con
  cases ht : tabB s
  · rw [mirS_no ht]
    rw [ht, cellsK_no, widK_no, hgtK_no] at con
    clear ht
    go_enter Tryd.func22, Tryd.ntmps22
    go_wp2_with (go_at_call 24; refine con.out.mono ?_; rintro e w1 ⟨A, c, rfl, hO, hb1⟩; have Hb := Lib.hid hb1; clear hb1 hO)
    go_ret2
    exact ⟨rfl, Hb.out.alloc Hb.out.size _⟩
  · obtain ⟨h1, h2, h3, h4, h5, h6⟩ := tab_small ht
    rw [mirS_yes ht, ← mir_text h1 h6 (tab_dig ht)]
    rw [ht] at con
    have hnum := digL_num (tab_dig ht)
    have hdl := digL_len (cellsK true s)
    rw [← hdl] at h3 h4 h6
    rw [← hdl]
    generalize digL (cellsK true s) = D at *
    generalize widK true s = W at *
    generalize hgtK true s = H at *
    have HD := Lib.hid (fun A c W0 (hA : RdI W0 A (mirD W D)) => c_taDigits W H D.length A c (mirD W D) W0 hA (mirD_len W D) (mirD_num hnum) h1 (by omega) (by omega))
    have Hst := Lib.hid (fun k (h : k < D.length) => mirD_step (W := W) h)
    have Hall := Lib.hid (show (mirD W D).take D.length = mirD W D from by rw [← mirD_len W D, List.take_length])
    have Hrl := Lib.hid (fun k (h : k < D.length) => rix_lt h1 h6 h)
    have Hlen := Lib.hid (fun k (h : k ≤ D.length) => (show ((mirD W D).take k).length = k from by rw [List.length_take, mirD_len]; omega))
    generalize mirD W D = M at *
    generalize txB W (fun j => dgV (M.getD j 0)) D.length = R at *
    have w0 : ((W : Int) == 0) = false := by simp; omega
    have w1 : ¬ (W : Int) = 0 := by omega
    clear ht hnum hdl h4 h5 h6
    go_enter Tryd.func22, Tryd.ntmps22
    go_wp2_with (go_at_call 24; refine con.out.mono ?_; rintro e w1 ⟨A, c, rfl, hO, hb1⟩; have x0 : (w1.alloc (.cells #[.int .i64 (W : Int), .int .i64 (H : Int), .slice A D.length c] 46)).cell? ⟨w1.heap.size, 0, none⟩ = some (.int .i64 (W : Int)) := (by simp); have x1 : (w1.alloc (.cells #[.int .i64 (W : Int), .int .i64 (H : Int), .slice A D.length c] 46)).cell? ⟨w1.heap.size, 1, none⟩ = some (.int .i64 (H : Int)) := (by simp); have x2 : (w1.alloc (.cells #[.int .i64 (W : Int), .int .i64 (H : Int), .slice A D.length c] 46)).cell? ⟨w1.heap.size, 2, none⟩ = some (.slice A D.length c) := (by simp); have HR := Lib.hid ((RdI.of_own hO).below ((Below.refl w1.heap.size w1).alloc (Nat.le_refl _) (.cells #[.int .i64 (W : Int), .int .i64 (H : Int), .slice A D.length c] 46))); have Hb := Lib.hid (hb1.alloc hb1.size (.cells #[.int .i64 (W : Int), .int .i64 (H : Int), .slice A D.length c] 46)); clear hb1 hO)
    obtain ⟨v1, hv1⟩ : ∃ v1, v1 = w1.alloc (.cells #[.int .i64 (W : Int), .int .i64 (H : Int), .slice A D.length c] 46) := ⟨_, rfl⟩
    have hzv : v1.heap.size = w1.heap.size + 1 := by rw [hv1]; simp
    rw [← hzv]
    rw [← hv1] at x0 x1 x2 HR Hb ⊢
    obtain ⟨w2, hw2⟩ : ∃ w2, w2 = v1.alloc (.cells #[.int .i64 (W : Int), .int .i64 (H : Int), .slice none 0 0] 46) := ⟨_, rfl⟩
    have hG2 : GridAt v1 w2 (W : Int) (H : Int) none 0 [] := by
      refine ⟨?_, ?_, ?_, ?_, World.ownsRow_nil _ _ _ _, ?_⟩ <;> rw [hw2]
      · simp
      · simp
      · simp
      · exact frozen_freshT _ _ _ _
      · exact (Below.refl _ _).alloc (Nat.le_refl _) _
    rw [← hw2]
    have Hzv := Lib.hid hzv
    clear hw2 hv1 con x1 hzv
    go_loopw [23] (fun i wr => ∃ (k : Nat) (A3 : Option Addr) (c3 : Nat), k ≤ D.length ∧ i = .int .i64 k ∧ GridAt v1 wr (W : Int) (H : Int) A3 c3 (M.take k)) (fun i _ => D.length - (intOf i).toNat)
    case atStart => exact ⟨0, none, 0, Nat.zero_le _, rfl, by rw [List.take_zero]; exact hG2⟩
    case round =>
      clear hG2
      obtain ⟨k, A3, c3, hk, rfl, hG⟩ := hrel
      by_cases hlt : k < D.length
      · obtain ⟨bd, od, rfl, hbd, hcd⟩ := HR.out.at_ hlt
        have hxl := Hrl.out k hlt
        have yp := keepc hG.low (hcd _ hxl)
        have y0 := keepc hG.low x0
        have y2 := keepc hG.low x2
        have hst := Hst.out k hlt
        have hgd : D.getD (rix W k) 0 = D[rix W k] := by rw [List.getD_eq_getElem?_getD, List.getElem?_eq_getElem hxl]; rfl
        rw [hgd] at hst
        have Hst2 := Lib.hid hst
        have hln := Hlen.out k hk
        have h60 : k ≤ 60 := by omega
        have hW60 : W ≤ 60 := by omega
        have hr : (k : Int).tmod (W : Int) = ((k % W : Nat) : Int) := by rw [Int.tmod_eq_emod_of_nonneg (by omega)]; rfl
        have hq : (k : Int).tdiv (W : Int) = ((k / W : Nat) : Int) := by rw [Int.tdiv_eq_ediv_of_nonneg (by omega)]; rfl
        have hrl := Nat.mod_lt k h1
        have hql : k / W ≤ k := Nat.div_le_self _ _
        have hqW : k / W * W ≤ k := Nat.div_mul_le_self _ _
        have hx : rix W k = k / W * W + (W - 1 - k % W) := rfl
        obtain ⟨a, ha⟩ : ∃ a, a = k / W * W := ⟨_, rfl⟩
        have hqm : ((k / W : Nat) : Int) * (W : Int) = (a : Int) := by rw [ha]; rfl
        rw [← ha] at hx hqW
        generalize D[rix W k] = p at *
        generalize rix W k = x at *
        generalize k / W = q at *
        generalize k % W = r at *
        obtain ⟨b, hb⟩ : ∃ b, b = a + W := ⟨_, rfl⟩
        obtain ⟨d, hd⟩ : ∃ d, d = a + W - 1 := ⟨_, rfl⟩
        have iwq : IntKind.i64.wrap (q : Int) = (q : Int) := IntWalk.i64_in _ (by omega)
        have iwr : IntKind.i64.wrap (r : Int) = (r : Int) := IntWalk.i64_in _ (by omega)
        have iwa : IntKind.i64.wrap (a : Int) = (a : Int) := IntWalk.i64_in _ (by omega)
        have iw1 : IntKind.i64.wrap ((a : Int) + (W : Int)) = (b : Int) := by rw [IntWalk.i64_in _ (by omega)]; omega
        have iw2 : IntKind.i64.wrap ((b : Int) - 1) = (d : Int) := by rw [IntWalk.i64_in _ (by omega)]; omega
        have iw3 : IntKind.i64.wrap ((d : Int) - (r : Int)) = (x : Int) := by rw [IntWalk.i64_in _ (by omega)]; omega
        have j0 : (0 : Int) ≤ (k : Int) := by omega
        have j1 : (k : Int) < (D.length : Int) := by omega
        have j2 : (0 : Int) ≤ (x : Int) := by omega
        have j3 : (x : Int) < (D.length : Int) := by omega
        have HG := Lib.hid hG
        have e2 := hG.c2
        rw [hln] at e2
        have hzb := hG.lt
        have n1 : v1.heap.size ≠ w1.heap.size := by have := Hzv.out; omega
        have n2 : v1.heap.size ≠ bd := by omega
        have nW : ¬ W = 0 := by omega
        clear hcd hG hgd hst ha hb hd hx Hst Hrl Hall Hlen HD hrl hql hqW hxl
        go_wp2_with fail
        obtain ⟨v7, hv7⟩ : ∃ v7, v7 = wr.drew := ⟨_, rfl⟩
        have hS : v7.cell? ⟨w1.heap.size, 0, none⟩ = some (.int .i64 (W : Int)) ∧ v7.cell? ⟨w1.heap.size, 2, none⟩ = some (.slice (some ⟨bd, od, none⟩) D.length c) ∧ v7.cell? ⟨bd, od + x, none⟩ = some (.int .i64 p) := by rw [hv7]; exact ⟨g1d _ y0, g1d _ y2, g1d _ yp⟩
        have H7 : GridAt v1 v7 (W : Int) (H : Int) A3 c3 (M.take k) := by rw [hv7]; exact HG.out.keep (Below.refl _ _).drew
        refine wp_region_held_drew (S := fun w' => w'.cell? ⟨w1.heap.size, 0, none⟩ = some (.int .i64 (W : Int)) ∧ w'.cell? ⟨w1.heap.size, 2, none⟩ = some (.slice (some ⟨bd, od, none⟩) D.length c) ∧ w'.cell? ⟨bd, od + x, none⟩ = some (.int .i64 p)) (by kernel_rfl) ⟨g1d _ y0, g1d _ y2, g1d _ yp⟩ (fun hH0 => ?_)
        clear hH0
        have E2 := H7.c2
        rw [hln] at E2
        rw [← hv7]
        clear hv7 e2 HG hzb y0 y2 yp
        have HH7 := Lib.hid H7
        clear H7
        refine reg_take 0 rfl (by kernel_rfl) (by kernel_rfl) (by kernel_rfl) (fun _ _ _ h => h) (by rfl) (fun w _ => by first | (go_simp; done) | (go_simp; with_reducible rfl)) hS ?_
        try simp only [Act.put, List.setIfInBounds_toArray, List.set_cons_zero, List.set_cons_succ, List.getElem_toArray, List.getElem_cons_zero]
        refine reg_take 2 rfl (by kernel_rfl) (by kernel_rfl) (by kernel_rfl) (fun _ _ _ h => h) (by rfl) (fun w _ => by first | (go_simp; done) | (go_simp; with_reducible rfl)) hS ?_
        try simp only [Act.put, List.setIfInBounds_toArray, List.set_cons_zero, List.set_cons_succ, List.getElem_toArray, List.getElem_cons_zero, List.getElem_cons_succ]
        refine reg_take 3 rfl (by kernel_rfl) (by kernel_rfl) (by kernel_rfl) (fun _ _ _ h => h) (by rfl) (fun w hSw => by (try dsimp only at hSw); first | (go_simp; done) | (go_simp; with_reducible rfl)) hS ?_
        try simp only [Act.put, List.setIfInBounds_toArray, List.set_cons_zero, List.set_cons_succ, List.getElem_toArray, List.getElem_cons_zero, List.getElem_cons_succ]
        refine reg_take 4 rfl (by kernel_rfl) (by kernel_rfl) (by kernel_rfl) (fun _ _ _ h => h) (by rfl) (fun w _ => by first | (go_simp; done) | (go_simp; with_reducible rfl)) hS ?_
        try simp only [Act.put, List.setIfInBounds_toArray, List.set_cons_zero, List.set_cons_succ, List.getElem_toArray, List.getElem_cons_zero, List.getElem_cons_succ]
        refine reg_take 5 rfl (by kernel_rfl) (by kernel_rfl) (by kernel_rfl) (fun _ _ _ h => h) (by rfl) (fun w _ => by first | (go_simp; done) | (go_simp; with_reducible rfl)) hS ?_
        try simp only [Act.put, List.setIfInBounds_toArray, List.set_cons_zero, List.set_cons_succ, List.getElem_toArray, List.getElem_cons_zero, List.getElem_cons_succ]
        refine reg_take 6 rfl (by kernel_rfl) (by kernel_rfl) (by kernel_rfl) (fun _ _ _ h => h) (by rfl) (fun w hSw => by (try dsimp only at hSw); first | (go_simp; done) | (go_simp; with_reducible rfl)) hS ?_
        try simp only [Act.put, List.setIfInBounds_toArray, List.set_cons_zero, List.set_cons_succ, List.getElem_toArray, List.getElem_cons_zero, List.getElem_cons_succ]
        refine reg_take 7 rfl (by kernel_rfl) (by kernel_rfl) (by kernel_rfl) (fun _ _ _ h => h) (by rfl) (fun w _ => by first | (go_simp; done) | (go_simp; with_reducible rfl)) hS ?_
        try simp only [Act.put, List.setIfInBounds_toArray, List.set_cons_zero, List.set_cons_succ, List.getElem_toArray, List.getElem_cons_zero, List.getElem_cons_succ]
        refine reg_take 8 rfl (by kernel_rfl) (by kernel_rfl) (by kernel_rfl) (fun _ _ _ h => h) (by rfl) (fun w _ => by first | (go_simp; done) | (go_simp; with_reducible rfl)) hS ?_
        try simp only [Act.put, List.setIfInBounds_toArray, List.set_cons_zero, List.set_cons_succ, List.getElem_toArray, List.getElem_cons_zero, List.getElem_cons_succ]
        refine reg_take 9 rfl (by kernel_rfl) (by kernel_rfl) (by kernel_rfl) (fun _ _ _ h => h) (by rfl) (fun w hSw => by (try dsimp only at hSw); first | (go_simp; done) | (go_simp; with_reducible rfl)) hS ?_
        try simp only [Act.put, List.setIfInBounds_toArray, List.set_cons_zero, List.set_cons_succ, List.getElem_toArray, List.getElem_cons_zero, List.getElem_cons_succ]
        refine reg_take 10 rfl (by kernel_rfl) (by kernel_rfl) (by kernel_rfl) (fun _ _ _ h => h) (by rfl) (fun w _ => by first | (go_simp; done) | (go_simp; with_reducible rfl)) hS ?_
        try simp only [Act.put, List.setIfInBounds_toArray, List.set_cons_zero, List.set_cons_succ, List.getElem_toArray, List.getElem_cons_zero, List.getElem_cons_succ]
        refine reg_take 11 rfl (by kernel_rfl) (by kernel_rfl) (by kernel_rfl) (fun _ _ _ h => h) (by rfl) (fun w _ => by first | (go_simp; done) | (go_simp; with_reducible rfl)) hS ?_
        try simp only [Act.put, List.setIfInBounds_toArray, List.set_cons_zero, List.set_cons_succ, List.getElem_toArray, List.getElem_cons_zero, List.getElem_cons_succ]
        refine reg_take 12 rfl (by kernel_rfl) (by kernel_rfl) (by kernel_rfl) (fun _ _ _ h => h) (by rfl) (fun w hSw => by (try dsimp only at hSw); first | (go_simp; done) | (go_simp; with_reducible rfl)) hS ?_
        try simp only [Act.put, List.setIfInBounds_toArray, List.set_cons_zero, List.set_cons_succ, List.getElem_toArray, List.getElem_cons_zero, List.getElem_cons_succ]
        refine reg_take 13 rfl (by kernel_rfl) (by kernel_rfl) (by kernel_rfl) (fun _ _ _ h => h) (by rfl) (fun w _ => by first | (go_simp; done) | (go_simp; with_reducible rfl)) hS ?_
        try simp only [Act.put, List.setIfInBounds_toArray, List.set_cons_zero, List.set_cons_succ, List.getElem_toArray, List.getElem_cons_zero, List.getElem_cons_succ]
        refine reg_take 14 rfl (by kernel_rfl) (by kernel_rfl) (by kernel_rfl) (fun _ _ _ h => h) (by rfl) (fun w _ => by first | (go_simp; done) | (go_simp; with_reducible rfl)) hS ?_
        try simp only [Act.put, List.setIfInBounds_toArray, List.set_cons_zero, List.set_cons_succ, List.getElem_toArray, List.getElem_cons_zero, List.getElem_cons_succ]
        refine reg_take 15 rfl (by kernel_rfl) (by kernel_rfl) (by kernel_rfl) (fun _ _ _ h => h) (by rfl) (fun w _ => by first | (go_simp; done) | (go_simp; with_reducible rfl)) hS ?_
        try simp only [Act.put, List.setIfInBounds_toArray, List.set_cons_zero, List.set_cons_succ, List.getElem_toArray, List.getElem_cons_zero, List.getElem_cons_succ]
        refine reg_take 16 rfl (by kernel_rfl) (by kernel_rfl) (by kernel_rfl) (fun _ _ _ h => h) (by rfl) (fun w _ => by first | (go_simp; done) | (go_simp; with_reducible rfl)) hS ?_
        try simp only [Act.put, List.setIfInBounds_toArray, List.set_cons_zero, List.set_cons_succ, List.getElem_toArray, List.getElem_cons_zero, List.getElem_cons_succ]
        refine reg_take 17 rfl (by kernel_rfl) (by kernel_rfl) (by kernel_rfl) (fun _ _ _ h => h) (by rfl) (fun w hSw => by (try dsimp only at hSw); first | (go_simp; done) | (go_simp; with_reducible rfl)) hS ?_
        try simp only [Act.put, List.setIfInBounds_toArray, List.set_cons_zero, List.set_cons_succ, List.getElem_toArray, List.getElem_cons_zero, List.getElem_cons_succ]
        refine reg_take 18 rfl (by kernel_rfl) (by kernel_rfl) (by kernel_rfl) (fun _ _ _ h => h) (by rfl) (fun w _ => by first | (go_simp; done) | (go_simp; with_reducible rfl)) hS ?_
        try simp only [Act.put, List.setIfInBounds_toArray, List.set_cons_zero, List.set_cons_succ, List.getElem_toArray, List.getElem_cons_zero, List.getElem_cons_succ]
        refine reg_take 19 rfl (by kernel_rfl) (by kernel_rfl) (by kernel_rfl) (fun _ _ _ h => h) (by rfl) (fun w _ => by first | (go_simp; done) | (go_simp; with_reducible rfl)) hS ?_
        try simp only [Act.put, List.setIfInBounds_toArray, List.set_cons_zero, List.set_cons_succ, List.getElem_toArray, List.getElem_cons_zero, List.getElem_cons_succ]
        refine reg_take 20 rfl (by kernel_rfl) (by kernel_rfl) (by kernel_rfl) (fun _ _ _ h => h) (by rfl) (fun w _ => by first | (go_simp; done) | (go_simp; with_reducible rfl)) hS ?_
        try simp only [Act.put, List.setIfInBounds_toArray, List.set_cons_zero, List.set_cons_succ, List.getElem_toArray, List.getElem_cons_zero, List.getElem_cons_succ]
        refine reg_take 21 rfl (by kernel_rfl) (by kernel_rfl) (by kernel_rfl) (fun _ _ _ h => h) (by rfl) (fun w hSw => by (try dsimp only at hSw); first | (go_simp; done) | (go_simp; with_reducible rfl)) hS ?_
        try simp only [Act.put, List.setIfInBounds_toArray, List.set_cons_zero, List.set_cons_succ, List.getElem_toArray, List.getElem_cons_zero, List.getElem_cons_succ]
        refine wpAnyH_ready (rs := [1, 22]) (by kernel_rfl) (by simp) ?_
        refine AllReadyH.cons (i := 1) rfl (fun K hK => ?_) (AllReadyH.cons (i := 22) rfl (fun K hK => ?_) AllReadyH.nil)
        · skip
          go_simp
          skip
          refine hK.out _ _ hS (fun hH1 => ?_)
          clear hK K hH1
          try simp only [Act.put, List.setIfInBounds_toArray, List.set_cons_zero, List.set_cons_succ, List.getElem_toArray, List.getElem_cons_zero, List.getElem_cons_succ]
          refine wpAnyH_ready (rs := [22]) (by kernel_rfl) (by simp) ?_
          refine AllReadyH.cons (i := 22) rfl (fun K hK => ?_) AllReadyH.nil
          go_simp
          have hS8 : (v7.alloc (.cells #[.int .i64 p] 3)).cell? ⟨w1.heap.size, 0, none⟩ = some (.int .i64 (W : Int)) ∧ (v7.alloc (.cells #[.int .i64 p] 3)).cell? ⟨w1.heap.size, 2, none⟩ = some (.slice (some ⟨bd, od, none⟩) D.length c) ∧ (v7.alloc (.cells #[.int .i64 p] 3)).cell? ⟨bd, od + x, none⟩ = some (.int .i64 p) := ⟨keepc ((Below.refl _ _).alloc (Nat.le_refl _) _) hS.1, keepc ((Below.refl _ _).alloc (Nat.le_refl _) _) hS.2.1, keepc ((Below.refl _ _).alloc (Nat.le_refl _) _) hS.2.2⟩
          refine hK.out _ _ hS8 (fun hH1 => ?_)
          clear hK K hH1
          try simp only [Act.put, List.setIfInBounds_toArray, List.set_cons_zero, List.set_cons_succ, List.getElem_toArray, List.getElem_cons_zero, List.getElem_cons_succ]
          have X0 : (v7.alloc (.cells #[.int .i64 p] 3)).cell? ⟨v7.heap.size, 0, none⟩ = some (.int .i64 p) := by simp
          obtain ⟨v8, hv8⟩ : ∃ v8, v8 = (v7.alloc (.cells #[.int .i64 p] 3)) := ⟨_, rfl⟩
          have H8 : GridAt v1 v8 (W : Int) (H : Int) A3 c3 (M.take k) := by rw [hv8]; exact HH7.out.keep ((Below.refl _ _).alloc (Nat.le_refl _) _)
          rw [← hv8] at X0 hS8 ⊢
          clear hv8 hS
          have hS := hS8
          clear hS8
          have F2 := H8.c2
          rw [hln] at F2
          have hz8 := H8.lt
          have HH8 := Lib.hid H8
          clear H8
          refine wpAnyH_ready (rs := [23]) (by kernel_rfl) (by simp) ?_
          refine AllReadyH.cons (i := 23) rfl (fun K hK => ?_) AllReadyH.nil
          refine step_append_int rfl (.tmp 27) (.tmp 48) rfl (v1.heap.size + 1) (.slice A3 k c3) (M.take k) rfl (by have h := HH8.out.own; rwa [hln] at h ⊢) p v7.heap.size rfl X0 (by omega) hz8 ?_
          intro A4 c4 v9 ho9 hg9
          rw [hln] at ho9
          have far : ∀ {g : Nat}, (Value.slice A3 k c3).ownBlock = some g → v1.heap.size + 1 ≤ g := fun hg => (HH8.out.own.lt _ (by rw [hln]; exact hg)).1
          have Y2 : v9.cell? ⟨v1.heap.size, 2, none⟩ = some (.slice A3 k c3) := World.grownBy.cell hg9 F2 fun e => by have := far e.symm; (try simp at this); omega
          have Yf : v9.frozen? ⟨v1.heap.size, 2, none⟩ = false := (grown_frozenT hg9 hz8 fun e => by have := far e.symm; (try simp at this); omega).trans HH8.out.f2
          have hS9 : v9.cell? ⟨w1.heap.size, 0, none⟩ = some (.int .i64 (W : Int)) ∧ v9.cell? ⟨w1.heap.size, 2, none⟩ = some (.slice (some ⟨bd, od, none⟩) D.length c) ∧ v9.cell? ⟨bd, od + x, none⟩ = some (.int .i64 p) := ⟨World.grownBy.cell hg9 hS.1 (fun e => by have := far e.symm; have hzz := Hzv.out; (try simp at this); omega), World.grownBy.cell hg9 hS.2.1 (fun e => by have := far e.symm; have hzz := Hzv.out; (try simp at this); omega), World.grownBy.cell hg9 hS.2.2 (fun e => by have := far e.symm; have hzz := Hzv.out; (try simp at this); omega)⟩
          rw [hln]
          refine hK.out _ _ hS9 (fun hH1 => ?_)
          clear hK K hH1
          try simp only [Act.put, List.setIfInBounds_toArray, List.set_cons_zero, List.set_cons_succ, List.getElem_toArray, List.getElem_cons_zero, List.getElem_cons_succ]
          clear hS
          have hS := hS9
          clear hS9
          refine reg_take 24 rfl (by kernel_rfl) (by kernel_rfl) (by kernel_rfl) (fun _ _ _ h => h) (by rfl) (fun w _ => by first | (go_simp; done) | (go_simp; with_reducible rfl)) hS ?_
          try simp only [Act.put, List.setIfInBounds_toArray, List.set_cons_zero, List.set_cons_succ, List.getElem_toArray, List.getElem_cons_zero, List.getElem_cons_succ]
          refine wpAnyH_ready (rs := [25]) (by kernel_rfl) (by simp) ?_
          refine AllReadyH.cons (i := 25) rfl (fun K hK => ?_) AllReadyH.nil
          go_simp
          skip
          refine hK.out _ _ ⟨farT n1 hS.1, farT n1 hS.2.1, farT n2 hS.2.2⟩ (fun hH1 => ?_)
          clear hK K hH1
          try simp only [Act.put, List.setIfInBounds_toArray, List.set_cons_zero, List.set_cons_succ, List.getElem_toArray, List.getElem_cons_zero, List.getElem_cons_succ]
          refine wpAnyH_done (by kernel_rfl) ?_ _
          have HN := HH8.out.grow (A' := A4) (c' := c4) (d := p) (by rw [hln]; exact hg9) (by rw [hln]; exact ho9)
          rw [← Hst2.out, hln] at HN
          obtain ⟨vA, hvA⟩ : ∃ vA, vA = v9.setCell ⟨v1.heap.size, 2, none⟩ (.slice A4 (k + 1) c4) := ⟨_, rfl⟩
          rw [← hvA] at HN ⊢
          clear hvA Y2 Yf hg9 ho9 far F2 E2 X0 hS
          have HHN := Lib.hid HN
          clear HN
          go_wp2
          go_roundw
          case rel => exact ⟨k + 1, A4, c4, by omega, by go_num, HHN.out⟩
          case measure => simp [intOf]; omega
        · skip
          go_simp
          have hS8 : (v7.alloc (.cells #[.int .i64 p] 3)).cell? ⟨w1.heap.size, 0, none⟩ = some (.int .i64 (W : Int)) ∧ (v7.alloc (.cells #[.int .i64 p] 3)).cell? ⟨w1.heap.size, 2, none⟩ = some (.slice (some ⟨bd, od, none⟩) D.length c) ∧ (v7.alloc (.cells #[.int .i64 p] 3)).cell? ⟨bd, od + x, none⟩ = some (.int .i64 p) := ⟨keepc ((Below.refl _ _).alloc (Nat.le_refl _) _) hS.1, keepc ((Below.refl _ _).alloc (Nat.le_refl _) _) hS.2.1, keepc ((Below.refl _ _).alloc (Nat.le_refl _) _) hS.2.2⟩
          refine hK.out _ _ hS8 (fun hH1 => ?_)
          clear hK K hH1
          try simp only [Act.put, List.setIfInBounds_toArray, List.set_cons_zero, List.set_cons_succ, List.getElem_toArray, List.getElem_cons_zero, List.getElem_cons_succ]
          have X0 : (v7.alloc (.cells #[.int .i64 p] 3)).cell? ⟨v7.heap.size, 0, none⟩ = some (.int .i64 p) := by simp
          obtain ⟨v8, hv8⟩ : ∃ v8, v8 = (v7.alloc (.cells #[.int .i64 p] 3)) := ⟨_, rfl⟩
          have H8 : GridAt v1 v8 (W : Int) (H : Int) A3 c3 (M.take k) := by rw [hv8]; exact HH7.out.keep ((Below.refl _ _).alloc (Nat.le_refl _) _)
          rw [← hv8] at X0 hS8 ⊢
          clear hv8 hS
          have hS := hS8
          clear hS8
          have F2 := H8.c2
          rw [hln] at F2
          have hz8 := H8.lt
          have HH8 := Lib.hid H8
          clear H8
          refine wpAnyH_ready (rs := [1]) (by kernel_rfl) (by simp) ?_
          refine AllReadyH.cons (i := 1) rfl (fun K hK => ?_) AllReadyH.nil
          go_simp
          skip
          refine hK.out _ _ hS (fun hH1 => ?_)
          clear hK K hH1
          try simp only [Act.put, List.setIfInBounds_toArray, List.set_cons_zero, List.set_cons_succ, List.getElem_toArray, List.getElem_cons_zero, List.getElem_cons_succ]
          refine wpAnyH_ready (rs := [23]) (by kernel_rfl) (by simp) ?_
          refine AllReadyH.cons (i := 23) rfl (fun K hK => ?_) AllReadyH.nil
          refine step_append_int rfl (.tmp 27) (.tmp 48) rfl (v1.heap.size + 1) (.slice A3 k c3) (M.take k) rfl (by have h := HH8.out.own; rwa [hln] at h ⊢) p v7.heap.size rfl X0 (by omega) hz8 ?_
          intro A4 c4 v9 ho9 hg9
          rw [hln] at ho9
          have far : ∀ {g : Nat}, (Value.slice A3 k c3).ownBlock = some g → v1.heap.size + 1 ≤ g := fun hg => (HH8.out.own.lt _ (by rw [hln]; exact hg)).1
          have Y2 : v9.cell? ⟨v1.heap.size, 2, none⟩ = some (.slice A3 k c3) := World.grownBy.cell hg9 F2 fun e => by have := far e.symm; (try simp at this); omega
          have Yf : v9.frozen? ⟨v1.heap.size, 2, none⟩ = false := (grown_frozenT hg9 hz8 fun e => by have := far e.symm; (try simp at this); omega).trans HH8.out.f2
          have hS9 : v9.cell? ⟨w1.heap.size, 0, none⟩ = some (.int .i64 (W : Int)) ∧ v9.cell? ⟨w1.heap.size, 2, none⟩ = some (.slice (some ⟨bd, od, none⟩) D.length c) ∧ v9.cell? ⟨bd, od + x, none⟩ = some (.int .i64 p) := ⟨World.grownBy.cell hg9 hS.1 (fun e => by have := far e.symm; have hzz := Hzv.out; (try simp at this); omega), World.grownBy.cell hg9 hS.2.1 (fun e => by have := far e.symm; have hzz := Hzv.out; (try simp at this); omega), World.grownBy.cell hg9 hS.2.2 (fun e => by have := far e.symm; have hzz := Hzv.out; (try simp at this); omega)⟩
          rw [hln]
          refine hK.out _ _ hS9 (fun hH1 => ?_)
          clear hK K hH1
          try simp only [Act.put, List.setIfInBounds_toArray, List.set_cons_zero, List.set_cons_succ, List.getElem_toArray, List.getElem_cons_zero, List.getElem_cons_succ]
          clear hS
          have hS := hS9
          clear hS9
          refine reg_take 24 rfl (by kernel_rfl) (by kernel_rfl) (by kernel_rfl) (fun _ _ _ h => h) (by rfl) (fun w _ => by first | (go_simp; done) | (go_simp; with_reducible rfl)) hS ?_
          try simp only [Act.put, List.setIfInBounds_toArray, List.set_cons_zero, List.set_cons_succ, List.getElem_toArray, List.getElem_cons_zero, List.getElem_cons_succ]
          refine wpAnyH_ready (rs := [25]) (by kernel_rfl) (by simp) ?_
          refine AllReadyH.cons (i := 25) rfl (fun K hK => ?_) AllReadyH.nil
          go_simp
          skip
          refine hK.out _ _ ⟨farT n1 hS.1, farT n1 hS.2.1, farT n2 hS.2.2⟩ (fun hH1 => ?_)
          clear hK K hH1
          try simp only [Act.put, List.setIfInBounds_toArray, List.set_cons_zero, List.set_cons_succ, List.getElem_toArray, List.getElem_cons_zero, List.getElem_cons_succ]
          refine wpAnyH_done (by kernel_rfl) ?_ _
          have HN := HH8.out.grow (A' := A4) (c' := c4) (d := p) (by rw [hln]; exact hg9) (by rw [hln]; exact ho9)
          rw [← Hst2.out, hln] at HN
          obtain ⟨vA, hvA⟩ : ∃ vA, vA = v9.setCell ⟨v1.heap.size, 2, none⟩ (.slice A4 (k + 1) c4) := ⟨_, rfl⟩
          rw [← hvA] at HN ⊢
          clear hvA Y2 Yf hg9 ho9 far F2 E2 X0 hS
          have HHN := Lib.hid HN
          clear HN
          go_wp2
          go_roundw
          case rel => exact ⟨k + 1, A4, c4, by omega, by go_num, HHN.out⟩
          case measure => simp [intOf]; omega
      · obtain rfl : k = D.length := by omega
        rw [Hall.out] at hG
        have hml := Hlen.out D.length (Nat.le_refl _)
        rw [Hall.out] at hml
        have hT := Lib.hid (HD.out A3 c3 wr (RdI.of_own hG.own))
        have e0 := hG.c0
        have e1 := hG.c1
        have e2 := hG.c2
        rw [hml] at e2
        have hzb := hG.lt
        have HB := Lib.hid (bstep Hb.out hG.low)
        clear hG HD Hst Hrl Hlen Hall hml
        go_wp2_with (go_at_call 38; refine hT.out.mono ?_; rintro e w5 ⟨rfl, hb5⟩)
        go_ret2
        exact ⟨rfl, bstep HB.out hb5⟩

end Go.Proofs.YtjbdflkbclhonabDoor

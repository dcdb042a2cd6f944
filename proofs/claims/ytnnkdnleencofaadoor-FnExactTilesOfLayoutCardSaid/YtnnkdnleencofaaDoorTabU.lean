/- Tables: their sizes and how often they have a number, on both sides. -/
import Derived.Test.YtnnkdnleencofaaDoorTabT
namespace Go.Proofs.YtnnkdnleencofaaDoor
open Go.RowKit
set_option linter.unusedVariables false

theorem c_implIsTableB (s : ByteArray) (m : Int) {w0 w : World} (hm : w0.cell? ⟨0, 0, none⟩ = some (.int .i64 m)) (hb : Below w0.heap.size w0 w) (hl : s.size ≤ 1048576) :
    Calls Tryd.prog 16 #[.string s] w fun e w' => e = .returned (.bool (tabB s)) ∧ Below w.heap.size w w' := c_implIsTable s m w (keepc hb hm) hl

def RetSz (w : World) (s : ByteArray) (e : Ending) (w' : World) : Prop := e = .returned (.tuple #[.int .i64 (widK (tabB s) s), .int .i64 (hgtK (tabB s) s), .bool (tabB s)]) ∧ Below w.heap.size w w'

set_option maxHeartbeats 1000000 in
theorem c_implTableSize (s : ByteArray) (m : Int) (w : World) (hm : w.cell? ⟨0, 0, none⟩ = some (.int .i64 m)) (hl : s.size ≤ 1048576) : Calls Tryd.prog 18 #[.string s] w (RetSz w s) := by
  have con := Lib.hid (c_tableOf s m w hm hl)
  unfold RetG at con
  cases ht : tabB s
  · unfold RetSz
    rw [ht] at con ⊢
    rw [cellsK_no, widK_no] at con
    rw [widK_no, hgtK_no]
    clear ht
    go_enter Tryd.func18, Tryd.ntmps18
    go_wp2_with (go_at_call 52; refine con.out.mono ?_; rintro e w1 ⟨A, c, rfl, hc, hOU, hb1⟩; have Hb := Lib.hid hb1; clear hb1 hOU hc)
    refine bodyPost_ret (v := .tuple #[.int .i64 0, .int .i64 0, .bool false]) (by simp [results, Tryd.results18, go_sem]) rfl ?_
    exact ⟨rfl, Hb.out.alloc Hb.out.size _⟩
  · have hg : gridB s = true := by unfold tabB at ht; rw [Bool.and_eq_true] at ht; exact ht.1
    obtain ⟨h1, h2, h3⟩ := hgt_div hg
    unfold RetSz
    rw [ht] at con ⊢
    generalize widK true s = W at *
    generalize hgtK true s = Hh at *
    have conH := Lib.hid (fun (A : Option Addr) c W0 => c_height A (cellsK true s).length c W W0 h2 (by omega))
    rw [h1] at conH
    generalize (cellsK true s) = L at *
    clear ht hg h1 h2 h3
    go_enter Tryd.func18, Tryd.ntmps18
    go_wp2_with (go_at_call 52; refine con.out.mono ?_; rintro e w1 ⟨A, c, rfl, hc, hOU, hb1⟩; have Hb := Lib.hid hb1; clear hb1 hOU hc)
    obtain ⟨w2, hw2⟩ : ∃ w2, w2 = w1.alloc (.cells #[.slice A L.length c, .int .i64 (W : Int)] 67) := ⟨_, rfl⟩
    have q0 : w2.cell? ⟨w1.heap.size, 0, none⟩ = some (.slice A L.length c) := by rw [hw2]; simp
    have q1 : w2.cell? ⟨w1.heap.size, 1, none⟩ = some (.int .i64 (W : Int)) := by rw [hw2]; simp
    have Hb2 := Lib.hid (show Below w.heap.size w w2 by rw [hw2]; exact Hb.out.alloc Hb.out.size _)
    rw [← hw2]
    clear hw2
    go_region_held3 (fun w' => w'.cell? ⟨w1.heap.size, 0, none⟩ = some (.slice A L.length c) ∧ w'.cell? ⟨w1.heap.size, 1, none⟩ = some (.int .i64 (W : Int))) (first | exact ⟨p0, p1⟩ | exact ⟨q0, q1⟩ | go_keep) (first | (go_at_call 53; refine (conH.out _ _ _).mono ?_; rintro e w3 ⟨rfl, hb3⟩; have p0 := keepc hb3 (g1d _ q0); have p1 := keepc hb3 (g1d _ q1); have Hb3 := Lib.hid (bstep Hb2.out.drew hb3)))
    all_goals
      go_wp2
      refine bodyPost_ret (v := .tuple #[.int .i64 (W : Int), .int .i64 (Hh : Int), .bool true]) (by simp [results, Tryd.results18, go_sem]) rfl ?_
      exact ⟨rfl, Hb3.out⟩

set_option maxHeartbeats 1000000 in
theorem c_specTableSize (s : ByteArray) (w : World) (hl : s.size ≤ 1048576) : Calls Tryd.prog 17 #[.string s] w (RetSz w s) := by
  have con := Lib.hid (c_taRead s w hl)
  unfold RetTab at con
  cases ht : tabB s
  · unfold RetSz
    rw [ht] at con ⊢
    rw [cellsK_no, widK_no, hgtK_no] at con
    rw [widK_no, hgtK_no]
    clear ht
    go_enter Tryd.func17, Tryd.ntmps17
    go_wp2_with (go_at_call 51; refine con.out.mono ?_; rintro e w1 ⟨A, c, rfl, hO, hb1⟩; have Hb := Lib.hid hb1; clear hb1 hO)
    refine bodyPost_ret (v := .tuple #[.int .i64 0, .int .i64 0, .bool false]) (by simp [results, Tryd.results17, go_sem]) rfl ?_
    exact ⟨rfl, Hb.out.alloc Hb.out.size _⟩
  · unfold RetSz
    rw [ht] at con ⊢
    generalize widK true s = W at *
    generalize hgtK true s = Hh at *
    generalize digL (cellsK true s) = L at *
    clear ht
    go_enter Tryd.func17, Tryd.ntmps17
    go_wp2_with (go_at_call 51; refine con.out.mono ?_; rintro e w1 ⟨A, c, rfl, hO, hb1⟩; have Hb := Lib.hid hb1; clear hb1 hO)
    go_region
    all_goals
      go_wp2
      refine bodyPost_ret (v := .tuple #[.int .i64 (W : Int), .int .i64 (Hh : Int), .bool true]) (by simp [results, Tryd.results17, go_sem]) rfl ?_
      exact ⟨rfl, (Hb.out.alloc Hb.out.size _).drew⟩

theorem c_implTableSizeB (s : ByteArray) (m : Int) {w0 w : World} (hm : w0.cell? ⟨0, 0, none⟩ = some (.int .i64 m)) (hb : Below w0.heap.size w0 w) (hl : s.size ≤ 1048576) :
    Calls Tryd.prog 18 #[.string s] w (RetSz w s) := c_implTableSize s m w (keepc hb hm) hl

def countU (L : List UInt8) (n : Int) (k : Nat) : Nat := ((digL L).take k).count n
theorem countU_zero (L : List UInt8) (n : Int) : countU L n 0 = 0 := rfl
theorem countU_yes {L : List UInt8} {n : Int} {k : Nat} (h : k < L.length) (e : (L[k].toNat : Int) - 48 = n) : countU L n (k + 1) = countU L n k + 1 := by
  have h' : k < (digL L).length := by rw [digL_len]; exact h
  have e2 : (digL L)[k] = n := by simp [digL, e]
  unfold countU
  rw [List.take_succ_eq_append_getElem h', e2, List.count_append]
  simp
theorem countU_no {L : List UInt8} {n : Int} {k : Nat} (h : k < L.length) (e : ¬ (L[k].toNat : Int) - 48 = n) : countU L n (k + 1) = countU L n k := by
  have h' : k < (digL L).length := by rw [digL_len]; exact h
  have e2 : (digL L)[k] = (L[k].toNat : Int) - 48 := by simp [digL]
  unfold countU
  rw [List.take_succ_eq_append_getElem h', e2, List.count_append]
  simp [e]
theorem countU_le (L : List UInt8) (n : Int) (k : Nat) : countU L n k ≤ L.length := by
  unfold countU
  have h1 := List.count_le_length (a := n) (l := (digL L).take k)
  rw [List.length_take, digL_len] at h1
  omega
def numV (s : ByteArray) (n : Int) : Nat := if tabB s && numB n then countU (cellsK true s) n (cellsK true s).length else 0
def RetNm (w : World) (s : ByteArray) (n : Int) (e : Ending) (w' : World) : Prop := e = .returned (.tuple #[.int .i64 (numV s n), .bool (tabB s && numB n)]) ∧ Below w.heap.size w w'

set_option maxHeartbeats 1000000 in
theorem c_implCountNumber (s : ByteArray) (n : Int) (m : Int) (w : World) (hm : w.cell? ⟨0, 0, none⟩ = some (.int .i64 m)) (hl : s.size ≤ 1048576) : Calls Tryd.prog 20 #[.string s, .int .i64 n] w (RetNm w s n) := by
  have con := Lib.hid (c_tableOf s m w hm hl)
  unfold RetG at con
  have hnv : ∀ b, (tabB s && numB n) = b → numV s n = if b then countU (cellsK true s) n (cellsK true s).length else 0 := fun b h => by unfold numV; rw [h]
  cases ht : tabB s
  · have e1 := hnv false (by rw [ht]; rfl)
    unfold RetNm
    rw [e1]
    rw [ht] at con ⊢
    rw [cellsK_no, widK_no] at con
    rw [Bool.false_and]
    clear ht hnv e1
    go_enter Tryd.func20, Tryd.ntmps20
    go_wp2_with (go_at_call 52; refine con.out.mono ?_; rintro e w1 ⟨A, c, rfl, hc, hOU, hb1⟩; have Hb := Lib.hid hb1; clear hb1 hOU hc)
    go_ret2
    exact ⟨rfl, Hb.out.alloc Hb.out.size _⟩
  · have hg : gridB s = true := by unfold tabB at ht; rw [Bool.and_eq_true] at ht; exact ht.1
    obtain ⟨_, _, h3⟩ := hgt_div hg
    cases hn : numB n
    · have e1 := hnv false (by rw [ht, hn]; rfl)
      unfold RetNm
      rw [e1]
      rw [ht] at con ⊢
      rw [hn]
      generalize cellsK true s = L at *
      have Hn := Lib.hid hn
      clear ht hnv e1 hg hn
      go_enter Tryd.func20, Tryd.ntmps20
      go_wp2_with (first | (go_at_call 52; refine con.out.mono ?_; rintro e w1 ⟨A, c, rfl, hc, hOU, hb1⟩; have Hb := Lib.hid hb1; clear hb1 hOU hc) | (go_at_call 55; refine (c_isNumber _ _).mono ?_; rintro e w' ⟨rfl, rfl⟩; rw [Hn.out]))
      go_ret2
      exact ⟨rfl, Hb.out.alloc Hb.out.size _⟩
    · have e1 := hnv true (by rw [ht, hn]; rfl)
      unfold RetNm
      rw [e1]
      rw [ht] at con ⊢
      rw [hn]
      generalize cellsK true s = L at *
      generalize widK true s = W at *
      have Hn := Lib.hid hn
      have hle := Lib.hid (countU_le L n)
      have hyes := Lib.hid (fun k (h : k < L.length) => countU_yes (n := n) h)
      have hno := Lib.hid (fun k (h : k < L.length) => countU_no (n := n) h)
      clear ht hnv e1 hg hn
      go_enter Tryd.func20, Tryd.ntmps20
      go_wp2_with (first | (go_at_call 52; refine con.out.mono ?_; rintro e w1 ⟨A, c, rfl, hc, hOU, hb1⟩; have Hb := Lib.hid hb1; have HR := Lib.hid hOU.rd; clear hb1 hOU hc) | (go_at_call 55; refine (c_isNumber _ _).mono ?_; rintro e w' ⟨rfl, rfl⟩; rw [Hn.out]))
      obtain ⟨w2, hw2⟩ : ∃ w2, w2 = w1.alloc (.cells #[.slice A L.length c, .int .i64 (W : Int)] 67) := ⟨_, rfl⟩
      have q0 : w2.cell? ⟨w1.heap.size, 0, none⟩ = some (.slice A L.length c) := by rw [hw2]; simp
      have q1 : w2.cell? ⟨w1.heap.size, 1, none⟩ = some (.int .i64 (W : Int)) := by rw [hw2]; simp
      have hb12 : Below w1.heap.size w1 w2 := by rw [hw2]; exact (Below.refl _ _).alloc (Nat.le_refl _) _
      have Hb2 := Lib.hid (bstep Hb.out hb12)
      have HR2 := Lib.hid (HR.out.below hb12)
      rw [← hw2]
      clear hw2 hb12
      go_loopw [8, 25] (fun v i wr => ∃ k : Nat, k ≤ L.length ∧ i = .int .i64 k ∧ v = .int .i64 (countU L n k) ∧ Below w2.heap.size w2 wr) (fun _ i _ => L.length - (intOf i).toNat)
      case atStart => exact ⟨0, Nat.zero_le _, rfl, rfl, Below.refl _ _⟩
      case round =>
        obtain ⟨k, hk, rfl, rfl, hb⟩ := hrel
        have v0 := keepc hb q0
        have v1 := keepc hb q1
        have Hbr := Lib.hid hb
        have hcl := hle.out k
        by_cases hlt : k < L.length
        · have conN := Lib.hid (fun W' (hbW : Below w2.heap.size w2 W') => c_numberAt A c (W : Int) L k W' (HR2.out.below hbW) hlt)
          have hy := Lib.hid (hyes.out k hlt)
          have hn := Lib.hid (hno.out k hlt)
          by_cases he : (L[k].toNat : Int) - 48 = n
          · have hq : ((L[k].toNat : Int) - 48 == n) = true := by simp [he]
            have Hy := Lib.hid (hy.out he)
            clear he hb
            go_wp2_with (go_at_call 56; refine (conN.out _ Hbr.out).mono ?_; rintro e w3 ⟨rfl, hb3⟩; have Hb3 := Lib.hid (bstep Hbr.out hb3); clear hb3)
            go_roundw
            case rel => exact ⟨k + 1, by omega, by go_num, by rw [Hy.out]; go_num, Hb3.out⟩
            case measure => simp [intOf]; omega
          · have hq : ((L[k].toNat : Int) - 48 == n) = false := by simp [he]
            have Hy := Lib.hid (hn.out he)
            clear he hb
            go_wp2_with (go_at_call 56; refine (conN.out _ Hbr.out).mono ?_; rintro e w3 ⟨rfl, hb3⟩; have Hb3 := Lib.hid (bstep Hbr.out hb3); clear hb3)
            go_roundw
            case rel => exact ⟨k + 1, by omega, by go_num, by rw [Hy.out], Hb3.out⟩
            case measure => simp [intOf]; omega
        · have hke : k = L.length := by omega
          subst hke
          clear hb
          go_wp2
          go_ret2
          exact ⟨rfl, bstep Hb2.out Hbr.out⟩

set_option maxHeartbeats 1000000 in
theorem c_specCountNumber (s : ByteArray) (n : Int) (w : World) (hl : s.size ≤ 1048576) : Calls Tryd.prog 19 #[.string s, .int .i64 n] w (RetNm w s n) := by
  have con := Lib.hid (c_taRead s w hl)
  unfold RetTab at con
  have hnv : ∀ b, (tabB s && numB n) = b → numV s n = if b then countU (cellsK true s) n (cellsK true s).length else 0 := fun b h => by unfold numV; rw [h]
  cases ht : tabB s
  · have e1 := hnv false (by rw [ht]; rfl)
    unfold RetNm
    rw [e1]
    rw [ht] at con ⊢
    rw [cellsK_no, widK_no, hgtK_no] at con
    rw [Bool.false_and]
    clear ht hnv e1
    go_enter Tryd.func19, Tryd.ntmps19
    go_wp2_with (go_at_call 51; refine con.out.mono ?_; rintro e w1 ⟨A, c, rfl, hO, hb1⟩; have Hb := Lib.hid hb1; clear hb1 hO)
    go_ret2
    exact ⟨rfl, Hb.out.alloc Hb.out.size _⟩
  · have hg : gridB s = true := by unfold tabB at ht; rw [Bool.and_eq_true] at ht; exact ht.1
    obtain ⟨_, _, h3⟩ := hgt_div hg
    cases hn : numB n
    · have e1 := hnv false (by rw [ht, hn]; rfl)
      unfold RetNm
      rw [e1]
      rw [ht] at con ⊢
      rw [hn]
      generalize cellsK true s = L at *
      have Hn := Lib.hid hn
      clear ht hnv e1 hg hn
      go_enter Tryd.func19, Tryd.ntmps19
      go_wp2_with (first | (go_at_call 51; refine con.out.mono ?_; rintro e w1 ⟨A, c, rfl, hO, hb1⟩; have Hb := Lib.hid hb1; clear hb1 hO) | (go_at_call 54; refine (c_tiNumber _ _).mono ?_; rintro e w' ⟨rfl, rfl⟩; rw [Hn.out]))
      go_ret2
      exact ⟨rfl, Hb.out.alloc Hb.out.size _⟩
    · have e1 := hnv true (by rw [ht, hn]; rfl)
      unfold RetNm
      rw [e1]
      rw [ht] at con ⊢
      rw [hn]
      generalize cellsK true s = L at *
      generalize widK true s = W at *
      generalize hgtK true s = Hh at *
      have Hn := Lib.hid hn
      have hle := Lib.hid (countU_le L n)
      have hyes := Lib.hid (fun k (h : k < L.length) => countU_yes (n := n) h)
      have hno := Lib.hid (fun k (h : k < L.length) => countU_no (n := n) h)
      have hdl : (digL L).length = L.length := digL_len L
      have hdk := Lib.hid (fun k (h : k < (digL L).length) (h' : k < L.length) => show (digL L)[k] = (L[k].toNat : Int) - 48 by simp [digL])
      have Hdl := Lib.hid hdl
      clear ht hnv e1 hg hn hdl
      go_enter Tryd.func19, Tryd.ntmps19
      go_wp2_with (first | (go_at_call 51; refine con.out.mono ?_; rintro e w1 ⟨A, c, rfl, hO, hb1⟩; have Hb := Lib.hid hb1; have HR := Lib.hid (RdI.of_own hO); clear hb1 hO) | (go_at_call 54; refine (c_tiNumber _ _).mono ?_; rintro e w' ⟨rfl, rfl⟩; rw [Hn.out]))
      obtain ⟨w2, hw2⟩ : ∃ w2, w2 = w1.alloc (.cells #[.int .i64 (W : Int), .int .i64 (Hh : Int), .slice A (digL L).length c] 62) := ⟨_, rfl⟩
      have hb12 : Below w1.heap.size w1 w2 := by rw [hw2]; exact (Below.refl _ _).alloc (Nat.le_refl _) _
      have Hb2 := Lib.hid (bstep Hb.out hb12)
      have HR2 := Lib.hid (HR.out.below hb12)
      rw [← hw2]
      clear hw2 hb12
      go_loopw [8, 26] (fun v i wr => ∃ k : Nat, k ≤ L.length ∧ i = .int .i64 k ∧ v = .int .i64 (countU L n k) ∧ Below w2.heap.size w2 wr) (fun _ i _ => L.length - (intOf i).toNat)
      case atStart => exact ⟨0, Nat.zero_le _, rfl, rfl, Below.refl _ _⟩
      case round =>
        obtain ⟨k, hk, rfl, rfl, hb⟩ := hrel
        have Hbr := Lib.hid hb
        have hcl := hle.out k
        have hd1 := Hdl.out
        by_cases hlt : k < L.length
        · have hlt' : k < (digL L).length := by omega
          obtain ⟨b, off, rfl, hbb, hc⟩ := HR2.out.at_ hlt'
          have g1 := (hb.cell (p := ⟨b, _, none⟩) hbb).trans (hc k hlt')
          rw [hdk.out k hlt' hlt] at g1
          have hy := Lib.hid (hyes.out k hlt)
          have hn := Lib.hid (hno.out k hlt)
          by_cases he : (L[k].toNat : Int) - 48 = n
          · have hq : ((L[k].toNat : Int) - 48 == n) = true := by simp [he]
            have Hy := Lib.hid (hy.out he)
            clear he hb hc
            generalize L[k] = x at *
            go_wp2
            go_roundw
            case rel => exact ⟨k + 1, by omega, by go_num, by rw [Hy.out]; go_num, Hbr.out⟩
            case measure => simp [intOf]; omega
          · have hq : ((L[k].toNat : Int) - 48 == n) = false := by simp [he]
            have Hy := Lib.hid (hn.out he)
            clear he hb hc
            generalize L[k] = x at *
            go_wp2
            go_roundw
            case rel => exact ⟨k + 1, by omega, by go_num, by rw [Hy.out], Hbr.out⟩
            case measure => simp [intOf]; omega
        · have hke : k = L.length := by omega
          subst hke
          clear hb
          go_wp2
          go_ret2
          exact ⟨rfl, bstep Hb2.out Hbr.out⟩

theorem c_implCountNumberB (s : ByteArray) (n : Int) (m : Int) {w0 w : World} (hm : w0.cell? ⟨0, 0, none⟩ = some (.int .i64 m)) (hb : Below w0.heap.size w0 w) (hl : s.size ≤ 1048576) :
    Calls Tryd.prog 20 #[.string s, .int .i64 n] w (RetNm w s n) := c_implCountNumber s n m w (keepc hb hm) hl
end Go.Proofs.YtnnkdnleencofaaDoor

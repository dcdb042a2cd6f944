/- Solutions asked for: the specification's IsSolution. -/
import Derived.Test.YtjdnkcdnppcbhaaPzS
import Derived.Deep.Cut
import Derived.BigQuiet
namespace Go.Proofs.Ytjdnkcdnppcbhaa
open Go.RowKit
set_option linter.unusedVariables false

/-- Has a list the numbers of a puzzle where there is no gap? -/
def fitsTo (C xs : List Int) (k : Nat) : Prop := ∀ j, j < k → C.getD j 0 < 0 ∨ C.getD j 0 = xs.getD j 0
instance (C xs : List Int) (k : Nat) : Decidable (fitsTo C xs k) := by unfold fitsTo; infer_instance
def fitsB (C xs : List Int) : Bool := decide (fitsTo C xs xs.length)
def solB (T : List (Int × Int)) (C xs : List Int) : Bool := decide ((xs.length : Int) = (C.length : Int)) && (fitsB C xs && decide (∀ t ∈ tilesC xs, t ∈ T))
def solV (T : List (Int × Int)) (C xs : List Int) : Bool := (pzB T C && chainB xs) && solB T C xs
theorem fitsTo_step {C xs : List Int} {k : Nat} (h : fitsTo C xs k) (h2 : C.getD k 0 < 0 ∨ C.getD k 0 = xs.getD k 0) : fitsTo C xs (k + 1) := fun j hj => by
  rcases Nat.lt_succ_iff_lt_or_eq.1 hj with h1 | rfl
  · exact h j h1
  · exact h2
theorem fits_bad {C xs : List Int} {k : Nat} (hk : k < xs.length) (h : ¬ (C.getD k 0 < 0 ∨ C.getD k 0 = xs.getD k 0)) : fitsB C xs = false := decide_eq_false fun hf => h (hf k hk)

set_option maxRecDepth 100000 in
set_option maxHeartbeats 2000000 in
theorem c_pzFits (AT : Option Addr) (cT : Nat) (T : List (Int × Int)) (AC : Option Addr) (cC : Nat) (C : List Int) (A : Option Addr) (c : Nat) (xs : List Int) (w : World) (hT : RdT w AT T) (hC : RdI w AC C) (hr : RdI w A xs) (hl : xs.length ≤ C.length) (lC : C.length ≤ 1048576) :
    Calls Try.prog 67 #[.agg #[.slice AT T.length cT, .slice AC C.length cC], .slice A xs.length c] w fun e w' => e = .returned (.bool (fitsB C xs)) ∧ Below w.heap.size w w' := by
  go_enter Try.func67, Try.ntmps67
  go_wp2
  obtain ⟨w0, hw0⟩ : ∃ w0, w0 = w.alloc (.cells #[.slice AT T.length cT, .slice AC C.length cC] 30) := ⟨_, rfl⟩
  rw [← hw0]
  have ba0 : Bx2 w0 w.heap.size (.slice AT T.length cT) (.slice AC C.length cC) := by rw [hw0]; exact Bx2.fresh w _ _ _
  have hb0 : Below w.heap.size w w0 := by rw [hw0]; go_grown
  clear hw0
  have hrw := hr.below hb0
  have hCw := hC.below hb0
  clear hr hC hT
  go_loopw [9] (fun i wr => ∃ k : Nat, k ≤ xs.length ∧ i = .int .i64 k ∧ fitsTo C xs k ∧ Below w0.heap.size w0 wr) (fun i _ => xs.length - (intOf i).toNat)
  case atStart => exact ⟨0, Nat.zero_le _, rfl, fun j h => absurd h (Nat.not_lt_zero _), Below.refl _ _⟩
  case round =>
    obtain ⟨k, hk, rfl, hf, hb⟩ := hrel
    by_cases hlt : k < xs.length
    · obtain ⟨bk, off, rfl, hbk, hc⟩ := hrw.at_ hlt
      obtain ⟨bc, ofc, rfl, hbc, hcc⟩ := hCw.at_ (k := k) (by omega)
      have g1 := keepc hb (hc k hlt)
      have g2 := keepc hb (hcc k (by omega))
      have ba1 := ba0.keep hb
      have x1 := ba1.c1
      have i0 : (0 : Int) ≤ (k : Int) := by omega
      have i1 : (k : Int) < (C.length : Int) := by omega
      have e1 : C.getD k 0 = C[k]'(by omega) := by simp [show k < C.length by omega]
      have e2 : xs.getD k 0 = xs[k] := by simp [hlt]
      have Good := Lib.hid (fun h => fitsTo_step (k := k) hf h)
      have Bad := Lib.hid (fun h => fits_bad (C := C) hlt h)
      rw [e1, e2] at Good Bad
      obtain ⟨z, hz⟩ : ∃ z, z = C[k]'(by omega) := ⟨_, rfl⟩
      obtain ⟨x, hx⟩ : ∃ x, x = xs[k] := ⟨_, rfl⟩
      rw [← hz] at g2 Good Bad
      rw [← hx] at g1 Good Bad
      have Hb := Lib.hid hb
      clear hc hcc hrw hCw hf hb ba1 e1 e2 hz hx
      by_cases h0 : z < 0
      · have st := Lib.hid (Good.out (.inl h0))
        have d0 : decide (0 ≤ z) = false := decide_eq_false (by omega)
        have d1 : ¬ 0 ≤ z := by omega
        clear Good Bad h0
        go_wp2
        go_roundw
        case rel => exact ⟨k + 1, by omega, by go_num, st.out, Hb.out⟩
        case measure => simp [intOf]; omega
      · have d0 : decide (0 ≤ z) = true := decide_eq_true (by omega)
        have d1 : 0 ≤ z := by omega
        by_cases h1 : z = x
        · have st := Lib.hid (Good.out (.inr h1))
          have f1 : (z != x) = false := by rw [bne_eq_false_iff_eq]; exact h1
          clear Good Bad h0 h1
          go_wp2
          go_roundw
          case rel => exact ⟨k + 1, by omega, by go_num, st.out, Hb.out⟩
          case measure => simp [intOf]; omega
        · have st := Lib.hid (Bad.out (fun h => h.elim h0 h1))
          have f1 : (z != x) = true := by rw [bne_iff_ne]; exact h1
          clear Good Bad h0 h1
          go_wp2
          go_ret
          exact ⟨ret_b st.out.symm, bstep hb0 Hb.out⟩
    · have e : k = xs.length := by omega
      have st := Lib.hid (show fitsB C xs = true from decide_eq_true (by rw [← e]; exact hf))
      clear hf
      go_wp2
      go_ret
      exact ⟨ret_b st.out.symm, bstep hb0 hb⟩

set_option maxRecDepth 100000 in
set_option maxHeartbeats 2000000 in
theorem c_specIsSol (AT : Option Addr) (cT : Nat) (T : List (Int × Int)) (AC : Option Addr) (cC : Nat) (C : List Int) (A : Option Addr) (c : Nat) (xs : List Int) (w : World) (hT : RdT w AT T) (hC : RdI w AC C) (hr : RdI w A xs) (lT : T.length + C.length ≤ 1048576) (lx : xs.length ≤ 1048576) (kT : T.length ≤ cT) :
    Calls Try.prog 22 #[.agg #[.slice AT T.length cT, .slice AC C.length cC], .slice A xs.length c] w fun e w' => e = .returned (.tuple #[.bool (solV T C xs), .bool (pzB T C && chainB xs)]) ∧ Below w.heap.size w w' := by
  have con1 := fun W (hb : Below w.heap.size w W) => c_pzGood AT cT T AC cC C W (hT.below hb) (hC.below hb) lT kT
  have con2 := fun W (hb : Below w.heap.size w W) => c_haGood A c xs W (hr.below hb) (by omega)
  have hs : solV T C xs = ((pzB T C && chainB xs) && solB T C xs) := rfl
  rw [hs]
  clear hs
  cases h1 : pzB T C
  · simp only [h1] at con1
    have Con1 := Lib.hid con1
    simp only [Bool.false_and]
    clear con1 con2 h1 hT hC hr
    go_enter Try.func22, Try.ntmps22
    go_wp2_with fail
    obtain ⟨w0, hw0⟩ : ∃ w0, w0 = w.alloc (.cells #[.slice AT T.length cT, .slice AC C.length cC] 30) := ⟨_, rfl⟩
    rw [← hw0]
    have ba0 : Bx2 w0 w.heap.size (.slice AT T.length cT) (.slice AC C.length cC) := by rw [hw0]; exact Bx2.fresh w _ _ _
    have hb0 : Below w.heap.size w w0 := by rw [hw0]; go_grown
    clear hw0
    refine (Con1.out _ hb0).mono ?_
    rintro e w1 ⟨rfl, q1⟩
    have hb1 := bstep hb0 q1
    go_wp2
    go_ret2
    exact ⟨rfl, hb1⟩
  simp only [h1] at con1
  have Con1 := Lib.hid con1
  cases h2 : chainB xs
  · simp only [h2] at con2
    have Con2 := Lib.hid con2
    simp only [Bool.false_and, Bool.and_false]
    clear con1 con2 h1 h2 hT hC hr
    go_enter Try.func22, Try.ntmps22
    go_wp2_with fail
    obtain ⟨w0, hw0⟩ : ∃ w0, w0 = w.alloc (.cells #[.slice AT T.length cT, .slice AC C.length cC] 30) := ⟨_, rfl⟩
    rw [← hw0]
    have ba0 : Bx2 w0 w.heap.size (.slice AT T.length cT) (.slice AC C.length cC) := by rw [hw0]; exact Bx2.fresh w _ _ _
    have hb0 : Below w.heap.size w w0 := by rw [hw0]; go_grown
    clear hw0
    refine (Con1.out _ hb0).mono ?_
    rintro e w1 ⟨rfl, q1⟩
    have hb1 := bstep hb0 q1
    go_wp2_with fail
    refine (Con2.out _ hb1).mono ?_
    rintro e w2 ⟨rfl, q2⟩
    have hb2 := bstep hb1 q2
    go_wp2
    go_ret2
    exact ⟨rfl, hb2⟩
  simp only [h2] at con2
  have Con2 := Lib.hid con2
  simp only [Bool.true_and]
  have hsb : solB T C xs = (decide ((xs.length : Int) = (C.length : Int)) && (fitsB C xs && decide (∀ t ∈ tilesC xs, t ∈ T))) := rfl
  rw [hsb]
  clear hsb
  have hx56 := (chain_len h2).2
  have hlt0 : (tilesC xs).length ≤ xs.length := by rw [tilesC_len]; omega
  clear con1 con2 h1 h2
  cases h3 : decide ((xs.length : Int) = (C.length : Int))
  · have i3 : ((xs.length : Int) != (C.length : Int)) = true := by rw [bne_iff_ne]; exact of_decide_eq_false h3
    simp only [Bool.false_and]
    clear h3 hT hC hr
    go_enter Try.func22, Try.ntmps22
    go_wp2_with fail
    obtain ⟨w0, hw0⟩ : ∃ w0, w0 = w.alloc (.cells #[.slice AT T.length cT, .slice AC C.length cC] 30) := ⟨_, rfl⟩
    rw [← hw0]
    have ba0 : Bx2 w0 w.heap.size (.slice AT T.length cT) (.slice AC C.length cC) := by rw [hw0]; exact Bx2.fresh w _ _ _
    have hb0 : Below w.heap.size w w0 := by rw [hw0]; go_grown
    clear hw0
    refine (Con1.out _ hb0).mono ?_
    rintro e w1 ⟨rfl, q1⟩
    have hb1 := bstep hb0 q1
    have ba1 := ba0.keep q1
    go_wp2_with fail
    refine (Con2.out _ hb1).mono ?_
    rintro e w2 ⟨rfl, q2⟩
    have hb2 := bstep hb1 q2
    have ba2 := ba1.keep q2
    have x1 := ba2.c1
    go_wp2
    go_ret2
    exact ⟨rfl, hb2⟩
  have i3 : ((xs.length : Int) != (C.length : Int)) = false := by rw [bne_eq_false_iff_eq]; exact of_decide_eq_true h3
  have hle : xs.length ≤ C.length := by have := of_decide_eq_true h3; omega
  have con3 := fun W (hb : Below w.heap.size w W) => c_pzFits AT cT T AC cC C A c xs W (hT.below hb) (hC.below hb) (hr.below hb) hle (by omega)
  clear h3
  simp only [Bool.true_and]
  cases h4 : fitsB C xs
  · simp only [h4] at con3
    have Con3 := Lib.hid con3
    simp only [Bool.false_and]
    clear con3 h4 hT hC hr
    go_enter Try.func22, Try.ntmps22
    go_wp2_with fail
    obtain ⟨w0, hw0⟩ : ∃ w0, w0 = w.alloc (.cells #[.slice AT T.length cT, .slice AC C.length cC] 30) := ⟨_, rfl⟩
    rw [← hw0]
    have ba0 : Bx2 w0 w.heap.size (.slice AT T.length cT) (.slice AC C.length cC) := by rw [hw0]; exact Bx2.fresh w _ _ _
    have hb0 : Below w.heap.size w w0 := by rw [hw0]; go_grown
    clear hw0
    refine (Con1.out _ hb0).mono ?_
    rintro e w1 ⟨rfl, q1⟩
    have hb1 := bstep hb0 q1
    have ba1 := ba0.keep q1
    go_wp2_with fail
    refine (Con2.out _ hb1).mono ?_
    rintro e w2 ⟨rfl, q2⟩
    have hb2 := bstep hb1 q2
    have ba2 := ba1.keep q2
    have x0 := ba2.c0
    have x1 := ba2.c1
    go_wp2_with fail
    refine (Con3.out _ hb2).mono ?_
    rintro e w3 ⟨rfl, q3⟩
    have hb3 := bstep hb2 q3
    go_wp2
    go_ret2
    exact ⟨rfl, hb3⟩
  simp only [h4] at con3
  have Con3 := Lib.hid con3
  have con5 := fun W (hb : Below w.heap.size w W) => c_haTiles A c xs W (hr.below hb) (by omega)
  obtain ⟨us, hus⟩ : ∃ us, us = tilesC xs := ⟨_, rfl⟩
  rw [← hus] at hlt0 ⊢
  simp only [← hus] at con5
  have Con5 := Lib.hid con5
  simp only [Bool.true_and]
  have hus60 : us.length ≤ 60 := by omega
  clear con3 con5 h4 hus hr hC hlt0
  go_enter Try.func22, Try.ntmps22
  go_wp2_with fail
  obtain ⟨w0, hw0⟩ : ∃ w0, w0 = w.alloc (.cells #[.slice AT T.length cT, .slice AC C.length cC] 30) := ⟨_, rfl⟩
  rw [← hw0]
  have ba0 : Bx2 w0 w.heap.size (.slice AT T.length cT) (.slice AC C.length cC) := by rw [hw0]; exact Bx2.fresh w _ _ _
  have hb0 : Below w.heap.size w w0 := by rw [hw0]; go_grown
  clear hw0
  refine (Con1.out _ hb0).mono ?_
  rintro e w1 ⟨rfl, q1⟩
  have hb1 := bstep hb0 q1
  have ba1 := ba0.keep q1
  go_wp2_with fail
  refine (Con2.out _ hb1).mono ?_
  rintro e w2 ⟨rfl, q2⟩
  have hb2 := bstep hb1 q2
  have ba2 := ba1.keep q2
  have x0 := ba2.c0
  have x1 := ba2.c1
  go_wp2_with fail
  refine (Con3.out _ hb2).mono ?_
  rintro e w3 ⟨rfl, q3⟩
  have hb3 := bstep hb2 q3
  have ba3 := ba2.keep q3
  go_wp2_with fail
  refine (Con5.out _ hb3).mono ?_
  rintro e w4 ⟨U, cU, rfl, oU, q4⟩
  have hb4 := bstep hb3 q4
  have ba4 := ba3.keep q4
  have hru := RdT.of_own oU
  have hTw := hT.below hb4
  clear x0 x1 ba0 ba1 ba2 ba3 oU q1 q2 q3 q4 hb0 hb1 hb2 hb3 hT Con1 Con2 Con3 Con5
  go_wp2
  go_loopw [31] (fun i wr => ∃ k : Nat, k ≤ us.length ∧ i = .int .i64 k ∧ (∀ j (hj : j < us.length), j < k → us[j] ∈ T) ∧ Below w4.heap.size w4 wr) (fun i _ => us.length - (intOf i).toNat)
  case atStart => exact ⟨0, Nat.zero_le _, rfl, by omega, Below.refl _ _⟩
  case round =>
    obtain ⟨k, hk, rfl, hn, hb⟩ := hrel
    by_cases hlt : k < us.length
    · obtain ⟨bk, off, rfl, hbk, hc⟩ := hru.at_ hlt
      have g1 := keepc hb (hc k hlt).1
      have g2 := keepc hb (hc k hlt).2
      have ba5 := ba4.keep hb
      have x0 := ba5.c0
      have nb := ba5.lt
      have Hb := Lib.hid hb
      have Hn := Lib.hid hn
      have hTr := Lib.hid (hTw.below hb)
      have lTT : T.length ≤ 9223372036854775807 := by omega
      have con6 := Lib.hid (fun W (hb : Below wr.heap.size wr W) => c_tiPlace AT cT T us[k].1 us[k].2 W (hTr.out.below hb) lTT)
      have hiff : 0 ≤ placeI T (us[k].1, us[k].2) ↔ us[k] ∈ T := placeI_nonneg
      have Bad := Lib.hid (fun (h : us[k] ∉ T) => (decide_eq_false (fun h2 => h (h2 _ (List.getElem_mem hlt))) : decide (∀ t ∈ us, t ∈ T) = false))
      obtain ⟨z, hz⟩ : ∃ z, z = placeI T (us[k].1, us[k].2) := ⟨_, rfl⟩
      have con7 := con6.out
      simp only [← hz] at con7
      rw [← hz] at hiff
      have Con7 := Lib.hid con7
      obtain ⟨p, hp⟩ : ∃ p, us[k].1 = p := ⟨_, rfl⟩
      obtain ⟨q, hq⟩ : ∃ q, us[k].2 = q := ⟨_, rfl⟩
      rw [hp] at g1
      rw [hq] at g2
      have con8 := Con7.out
      simp only [hp, hq] at con8
      have Con8 := Lib.hid con8
      clear hc hn hb hru hTw hz hp hq con6 con7 con8 Con7 hTr ba5
      by_cases hin : us[k] ∈ T
      · have d0 : ¬ z < 0 := by have := hiff.2 hin; omega
        have Hin := Lib.hid hin
        clear hiff hin Bad
        go_wp2_with (go_at_call 69; refine (Con8.out _ (by go_grown)).mono ?_; rintro e w5 ⟨rfl, q5⟩)
        go_roundw
        case rel =>
          refine ⟨k + 1, by omega, by go_num, fun j hj hjk => ?_, bstep (by have hb0 := Hb.out; have hz0 := hb0.size; go_grown) q5⟩
          rcases Nat.lt_succ_iff_lt_or_eq.1 hjk with h | rfl
          · exact Hn.out j hj h
          · exact Hin.out
        case measure => simp [intOf]; omega
      · have d0 : z < 0 := by
          rcases Int.lt_or_le z 0 with h | h
          · exact h
          · exact absurd (hiff.1 h) hin
        have HB2 := Lib.hid (Bad.out hin)
        clear hiff hin Bad
        go_wp2_with (go_at_call 69; refine (Con8.out _ (by go_grown)).mono ?_; rintro e w5 ⟨rfl, q5⟩)
        go_ret2
        rw [HB2.out]
        exact ⟨rfl, bstep (by have hb0 := bstep hb4 Hb.out; have hz0 := hb0.size; go_grown) q5⟩
    · have e : k = us.length := by omega
      have st := Lib.hid (show decide (∀ t ∈ us, t ∈ T) = true from decide_eq_true fun t ht => by
        obtain ⟨j, hj, rfl⟩ := List.getElem_of_mem ht
        exact hn j hj (by omega))
      clear hn
      go_wp2
      go_ret2
      rw [st.out]
      exact ⟨rfl, bstep hb4 hb⟩

end Go.Proofs.Ytjdnkcdnppcbhaa

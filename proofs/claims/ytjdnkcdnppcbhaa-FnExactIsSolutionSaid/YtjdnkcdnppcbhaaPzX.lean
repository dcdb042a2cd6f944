/- Solutions asked for: the program's IsSolution. -/
import Derived.Test.YtjdnkcdnppcbhaaPzV
import Derived.Test.YtjdnkcdnppcbhaaPzW
import Derived.Test.YtjdnkcdnppcbhaaPzI
import Derived.Test.YtjdnkcdnppcbhaaChn
import Derived.Deep.Cut
import Derived.BigQuiet
namespace Go.Proofs.Ytjdnkcdnppcbhaa
open Go.RowKit
set_option linter.unusedVariables false

theorem whole_puz {T : List (Int × Int)} {C xs : List Int} (hp : pzB T C = true) (hc : chainB xs = true) : wholeV T xs = (decide ((xs.length : Int) = (C.length : Int)) && decide (∀ t ∈ tilesC xs, t ∈ T)) := by
  obtain ⟨h1, h9, hh, hl, _, _⟩ := pzB_parts hp
  have hu := chain_hand hc
  have hx := (chain_len hc).1
  have htl := tilesC_len xs
  have hw : wholeV T xs = decide (sortL (tilesC xs) = sortL T) := by simp [wholeV, hh, hc]
  rw [hw, Bool.eq_iff_iff, Bool.and_eq_true, decide_eq_true_eq, decide_eq_true_eq, decide_eq_true_eq]
  have mt := fun t => mem_sortL (hand_gd hh) t
  have mu := fun t => mem_sortL (hand_gd hu) t
  constructor
  · intro e
    have e2 := congrArg List.length e
    rw [sortP_len hu, sortP_len hh, htl] at e2
    refine ⟨by omega, fun t ht => ?_⟩
    rw [← mt, ← e, mu]
    exact ht
  · rintro ⟨e1, e2⟩
    refine sorted_ext (pickL_sorted _ true) (pickL_sorted _ true) (fun t => ?_)
    rw [mu, mt]
    exact ⟨e2 t, nodup_back (tilesC xs) T (hand_nd hu) e2 (by rw [htl]; omega) t⟩

set_option maxRecDepth 100000 in
set_option maxHeartbeats 2000000 in
theorem c_lets (AT : Option Addr) (cT : Nat) (T : List (Int × Int)) (AC : Option Addr) (cC : Nat) (C : List Int) (k : Nat) (x : Int) (w : World) (hT : RdT w AT T) (hC : RdI w AC C) (hk : k < C.length) (lC : C.length ≤ 1048576) :
    Calls Try.prog 72 #[.agg #[.slice AT T.length cT, .slice AC C.length cC], .int .i64 k, .int .i64 x] w fun e w' => e = .returned (.bool ((C.getD k 0 == -1) || (C.getD k 0 == x))) ∧ Below w.heap.size w w' := by
  obtain ⟨bc, ofc, rfl, hbc, hcc⟩ := hC.at_ hk
  have g2 := hcc k hk
  have e1 : C.getD k 0 = C[k] := by simp [hk]
  rw [e1]
  obtain ⟨z, hz⟩ : ∃ z, z = C[k] := ⟨_, rfl⟩
  rw [← hz] at g2 ⊢
  have i0 : (0 : Int) ≤ (k : Int) := by omega
  have i1 : (k : Int) < (C.length : Int) := by omega
  clear hcc hC e1 hz
  cases f1 : (z == (-1 : Int))
  · cases f2 : (z == x)
    all_goals
      go_enter Try.func72, Try.ntmps72
      go_wp2
      go_ret
      exact ⟨rfl, by go_grown⟩
  · go_enter Try.func72, Try.ntmps72
    go_wp2
    go_ret
    exact ⟨rfl, by go_grown⟩

set_option maxRecDepth 100000 in
set_option maxHeartbeats 2000000 in
theorem c_implIsSol (AT : Option Addr) (cT : Nat) (T : List (Int × Int)) (AC : Option Addr) (cC : Nat) (C : List Int) (A : Option Addr) (c : Nat) (xs : List Int) (w : World) (hT : RdT w AT T) (hC : RdI w AC C) (hr : RdI w A xs) (lT : T.length + C.length ≤ 1048576) (lx : xs.length ≤ 1048576) :
    Calls Try.prog 24 #[.agg #[.slice AT T.length cT, .slice AC C.length cC], .slice A xs.length c] w fun e w' => e = .returned (.tuple #[.bool (solV T C xs), .bool (pzB T C && chainB xs)]) ∧ Below w.heap.size w w' := by
  have con1 := fun W (hb : Below w.heap.size w W) => c_implIsPuzzle AT cT T AC cC C W (hT.below hb) (hC.below hb) lT
  have con2 := fun W (hb : Below w.heap.size w W) => c_implIsChain A c xs W (hr.below hb) (by omega)
  have con3 := fun W (hb : Below w.heap.size w W) => c_implIsWhole AT cT T A c xs W (hT.below hb) (by omega) (hr.below hb) lx
  have hs : solV T C xs = ((pzB T C && chainB xs) && solB T C xs) := rfl
  rw [hs]
  clear hs
  cases h1 : pzB T C
  · simp only [h1] at con1
    have Con1 := Lib.hid con1
    simp only [Bool.false_and]
    clear con1 con2 con3 h1 hT hC hr
    go_enter Try.func24, Try.ntmps24
    go_wp2_with fail
    obtain ⟨w0, hw0⟩ : ∃ w0, w0 = w.alloc (.cells #[.slice AT T.length cT, .slice AC C.length cC] 30) := ⟨_, rfl⟩
    rw [← hw0]
    have ba0 : Bx2 w0 w.heap.size (.slice AT T.length cT) (.slice AC C.length cC) := by rw [hw0]; exact Bx2.fresh w _ _ _
    have hb0 : Below w.heap.size w w0 := by rw [hw0]; go_grown
    clear hw0
    refine (Con1.out _ hb0).mono ?_
    rintro e w1 ⟨rfl, q1⟩
    have hb1 := bstep hb0 q1
    go_wp2
    go_ret2
    exact ⟨rfl, hb1⟩
  simp only [h1] at con1
  have Con1 := Lib.hid con1
  cases h2 : chainB xs
  · simp only [h2] at con2
    have Con2 := Lib.hid con2
    simp only [Bool.false_and, Bool.and_false]
    clear con1 con2 con3 h1 h2 hT hC hr
    go_enter Try.func24, Try.ntmps24
    go_wp2_with fail
    obtain ⟨w0, hw0⟩ : ∃ w0, w0 = w.alloc (.cells #[.slice AT T.length cT, .slice AC C.length cC] 30) := ⟨_, rfl⟩
    rw [← hw0]
    have ba0 : Bx2 w0 w.heap.size (.slice AT T.length cT) (.slice AC C.length cC) := by rw [hw0]; exact Bx2.fresh w _ _ _
    have hb0 : Below w.heap.size w w0 := by rw [hw0]; go_grown
    clear hw0
    refine (Con1.out _ hb0).mono ?_
    rintro e w1 ⟨rfl, q1⟩
    have hb1 := bstep hb0 q1
    go_wp2_with fail
    refine (Con2.out _ hb1).mono ?_
    rintro e w2 ⟨rfl, q2⟩
    have hb2 := bstep hb1 q2
    go_wp2
    go_ret2
    exact ⟨rfl, hb2⟩
  simp only [h2] at con2
  have Con2 := Lib.hid con2
  simp only [Bool.true_and]
  have hwp := whole_puz h1 h2
  have hgap := (pzB_parts h1).2.2.2.2.1
  have hhand := (pzB_parts h1).2.2.1
  have hsb : solB T C xs = (wholeV T xs && fitsB C xs) := by
    rw [hwp]
    unfold solB
    cases decide ((xs.length : Int) = (C.length : Int)) <;> cases fitsB C xs <;> simp
  rw [hsb]
  have hx56 := (chain_len h2).2
  clear con1 con2 h1 h2 hsb
  cases h3 : wholeV T xs
  · simp only [h3] at con3
    have Con3 := Lib.hid con3
    simp only [Bool.false_and]
    clear con3 h3 hwp hgap hhand hT hC hr
    go_enter Try.func24, Try.ntmps24
    go_wp2_with fail
    obtain ⟨w0, hw0⟩ : ∃ w0, w0 = w.alloc (.cells #[.slice AT T.length cT, .slice AC C.length cC] 30) := ⟨_, rfl⟩
    rw [← hw0]
    have ba0 : Bx2 w0 w.heap.size (.slice AT T.length cT) (.slice AC C.length cC) := by rw [hw0]; exact Bx2.fresh w _ _ _
    have hb0 : Below w.heap.size w w0 := by rw [hw0]; go_grown
    clear hw0
    refine (Con1.out _ hb0).mono ?_
    rintro e w1 ⟨rfl, q1⟩
    have hb1 := bstep hb0 q1
    have ba1 := ba0.keep q1
    go_wp2_with fail
    refine (Con2.out _ hb1).mono ?_
    rintro e w2 ⟨rfl, q2⟩
    have hb2 := bstep hb1 q2
    have ba2 := ba1.keep q2
    have x0 := ba2.c0
    go_wp2_with fail
    refine (Con3.out _ hb2).mono ?_
    rintro e w3 ⟨rfl, q3⟩
    have hb3 := bstep hb2 q3
    go_wp2
    go_ret2
    exact ⟨rfl, hb3⟩
  rw [h3] at hwp
  have hle : xs.length ≤ C.length := by
    have h := (Bool.and_eq_true _ _).mp hwp.symm
    have := of_decide_eq_true h.1
    omega
  simp only [h3] at con3
  have Con3 := Lib.hid con3
  simp only [Bool.true_and]
  clear con3 h3 hwp hhand
  go_enter Try.func24, Try.ntmps24
  go_wp2_with fail
  obtain ⟨w0, hw0⟩ : ∃ w0, w0 = w.alloc (.cells #[.slice AT T.length cT, .slice AC C.length cC] 30) := ⟨_, rfl⟩
  rw [← hw0]
  have ba0 : Bx2 w0 w.heap.size (.slice AT T.length cT) (.slice AC C.length cC) := by rw [hw0]; exact Bx2.fresh w _ _ _
  have hb0 : Below w.heap.size w w0 := by rw [hw0]; go_grown
  clear hw0
  refine (Con1.out _ hb0).mono ?_
  rintro e w1 ⟨rfl, q1⟩
  have hb1 := bstep hb0 q1
  have ba1 := ba0.keep q1
  go_wp2_with fail
  refine (Con2.out _ hb1).mono ?_
  rintro e w2 ⟨rfl, q2⟩
  have hb2 := bstep hb1 q2
  have ba2 := ba1.keep q2
  have x0 := ba2.c0
  go_wp2_with fail
  refine (Con3.out _ hb2).mono ?_
  rintro e w3 ⟨rfl, q3⟩
  have hb3 := bstep hb2 q3
  have ba3 := ba2.keep q3
  have hTw := hT.below hb3
  have hCw := hC.below hb3
  have hrw := hr.below hb3
  clear x0 ba0 ba1 ba2 q1 q2 q3 hb0 hb1 hb2 hT hC hr Con1 Con2 Con3
  go_wp2
  go_loopw [29] (fun i wr => ∃ k : Nat, k ≤ xs.length ∧ i = .int .i64 k ∧ fitsTo C xs k ∧ Below w3.heap.size w3 wr) (fun i _ => xs.length - (intOf i).toNat)
  case atStart => exact ⟨0, Nat.zero_le _, rfl, fun j h => absurd h (Nat.not_lt_zero _), Below.refl _ _⟩
  case round =>
    obtain ⟨k, hk, rfl, hf, hb⟩ := hrel
    by_cases hlt : k < xs.length
    · have hkC : k < C.length := by omega
      have conL := fun W (hb : Below w3.heap.size w3 W) => c_lets AT cT T AC cC C k (xs.getD k 0) W (hTw.below hb) (hCw.below hb) hkC (by omega)
      have hgk := gapB_neg (hgap _ (List.getElem_mem hkC))
      have e1 : C.getD k 0 = C[k] := by simp [hkC]
      have e2 : xs.getD k 0 = xs[k] := by simp [hlt]
      obtain ⟨bk, off, rfl, hbk, hc⟩ := hrw.at_ hlt
      have g1 := keepc hb (hc k hlt)
      rw [← e2] at g1
      rw [← e1] at hgk
      have ba4 := ba3.keep hb
      have x0 := ba4.c0
      have x1 := ba4.c1
      have Good := Lib.hid (fun h => fitsTo_step (k := k) hf h)
      have Bad := Lib.hid (fun h => fits_bad (C := C) hlt h)
      obtain ⟨z, hz⟩ : ∃ z, z = C.getD k 0 := ⟨_, rfl⟩
      obtain ⟨x, hx⟩ : ∃ x, x = xs.getD k 0 := ⟨_, rfl⟩
      rw [← hz] at hgk
      rw [← hx] at g1
      simp only [← hz, ← hx] at conL Good Bad
      have ConL := Lib.hid (conL wr hb)
      have hb4 := bstep hb3 hb
      have Hb := Lib.hid hb
      clear hc hrw hTw hCw hf hb e1 e2 hz hx conL ba4
      cases hd : ((z == -1) || (z == x))
      · have cl := ConL.out
        rw [hd] at cl
        have st := Lib.hid (Bad.out (fun h => by
          rcases h with h | h
          · rw [hgk.1 h] at hd; simp at hd
          · rw [h] at hd; simp at hd))
        clear Good Bad ConL hd hgk
        go_wp2_with fail
        refine cl.mono ?_
        rintro e w5 ⟨rfl, q5⟩
        go_wp2
        go_ret2
        rw [st.out]
        exact ⟨rfl, bstep hb4 q5⟩
      · have cl := ConL.out
        rw [hd] at cl
        have st := Lib.hid (Good.out (by
          rw [Bool.or_eq_true, beq_iff_eq, beq_iff_eq] at hd
          rcases hd with h | h
          · exact .inl (by omega)
          · exact .inr h))
        clear Good Bad ConL hd hgk
        go_wp2_with fail
        refine cl.mono ?_
        rintro e w5 ⟨rfl, q5⟩
        go_wp2
        go_roundw
        case rel => exact ⟨k + 1, by omega, by go_num, st.out, bstep Hb.out q5⟩
        case measure => simp [intOf]; omega
    · have e : k = xs.length := by omega
      have st := Lib.hid (show fitsB C xs = true from decide_eq_true (by rw [← e]; exact hf))
      clear hf
      go_wp2
      go_ret2
      rw [st.out]
      exact ⟨rfl, bstep hb3 hb⟩

end Go.Proofs.Ytjdnkcdnppcbhaa

/- Puzzles made: the specification. -/
import Derived.Test.YtjdnkcdnppcbhaaPzM
import Derived.Test.YtjdnkcdnppcbhaaPzB
import Derived.Test.YtjdnkcdnppcbhaaChain
import Derived.Deep.Cut
import Derived.BigQuiet
namespace Go.Proofs.Ytjdnkcdnppcbhaa
open Go.RowKit
set_option linter.unusedVariables false

def inEv (e : Int) : Bool := decide (1 ≤ e) && decide (e ≤ 10)
/-- The first k places of a made puzzle. -/
def mkOne (xs : List Int) (e : Int) (i : Nat) : Int := if (i : Int).tmod e = 0 then xs.getD i 0 else -1
def mkTo (xs : List Int) (e : Int) (k : Nat) : List Int := (List.range k).map (mkOne xs e)
theorem mkTo_len (xs : List Int) (e : Int) (k : Nat) : (mkTo xs e k).length = k := by simp [mkTo]
theorem mkTo_step (xs : List Int) (e : Int) (k : Nat) : mkTo xs e (k + 1) = mkTo xs e k ++ [mkOne xs e k] := by simp [mkTo, List.range_succ]
/-- A chain of which the first k places are made. -/
def mkMix (xs : List Int) (e : Int) (k : Nat) : List Int := mkTo xs e k ++ xs.drop k
theorem mkMix_zero (xs : List Int) (e : Int) : mkMix xs e 0 = xs := by simp [mkMix, mkTo]
theorem mkMix_all (xs : List Int) (e : Int) : mkMix xs e xs.length = mkTo xs e xs.length := by simp [mkMix]
theorem mkMix_len {xs : List Int} {e : Int} {k : Nat} (h : k ≤ xs.length) : (mkMix xs e k).length = xs.length := by
  unfold mkMix
  rw [List.length_append, mkTo_len, List.length_drop]
  omega
theorem mkMix_keep {xs : List Int} {e : Int} {k : Nat} (h : k < xs.length) (h0 : (k : Int).tmod e = 0) : mkMix xs e (k + 1) = mkMix xs e k := by
  unfold mkMix
  rw [mkTo_step, List.drop_eq_getElem_cons h, List.append_assoc]
  simp [mkOne, h0, h]
theorem mkMix_gap {xs : List Int} {e : Int} {k : Nat} (h : k < xs.length) (h0 : (k : Int).tmod e ≠ 0) : mkMix xs e (k + 1) = (mkMix xs e k).set k (-1) := by
  unfold mkMix
  rw [mkTo_step, List.drop_eq_getElem_cons h, List.set_append_right _ _ (by rw [mkTo_len]; omega), mkTo_len, Nat.sub_self, List.set_cons_zero, List.append_assoc]
  simp [mkOne, h0]
def mkPB (xs : List Int) (e : Int) : Bool := (chainB xs && inPz ((xs.length : Int) - 1)) && inEv e
def mkPT (xs : List Int) (e : Int) : List (Int × Int) := if mkPB xs e then sortL (tilesC xs) else []
def mkPC (xs : List Int) (e : Int) : List Int := if mkPB xs e then mkTo xs e xs.length else []
theorem mkPB_parts {xs : List Int} {e : Int} (h : mkPB xs e = true) : chainB xs = true ∧ 2 ≤ xs.length ∧ xs.length ≤ 10 ∧ 1 ≤ e ∧ e ≤ 10 := by
  unfold mkPB inPz inEv at h
  simp only [Bool.and_eq_true, decide_eq_true_eq] at h
  obtain ⟨⟨h1, h2, h3⟩, h4, h5⟩ := h
  exact ⟨h1, by omega, by omega, h4, h5⟩
theorem mkP_len (xs : List Int) (e : Int) : (mkPT xs e).length + (mkPC xs e).length ≤ 1048576 := by
  unfold mkPT mkPC
  split
  · rename_i h
    have h1 := (mkPB_parts h).2.2.1
    have h2 := sortL_len (tilesC xs)
    rw [mkTo_len]
    omega
  · simp
theorem rem_parts (k : Nat) {e : Int} (h1 : 1 ≤ e) (h2 : e ≤ 10) : 0 ≤ (k : Int).tmod e ∧ (k : Int).tmod e < 10 := by
  rw [Int.tmod_eq_emod_of_nonneg (by omega)]
  exact ⟨Int.emod_nonneg _ (by omega), by have := Int.emod_lt_of_pos (k : Int) (show 0 < e by omega); omega⟩

set_option maxRecDepth 100000 in
set_option maxHeartbeats 4000000 in
theorem c_specMakePz (A : Option Addr) (c : Nat) (xs : List Int) (e : Int) (w : World) (hr : RdI w A xs) (lx : xs.length ≤ 1048576) (kc : xs.length ≤ c) :
    Calls Try.prog 32 #[.slice A xs.length c, .int .i64 e] w (RetPB w (mkPT xs e) (mkPC xs e) (mkPB xs e)) := by
  have con1 := fun W (hb : Below w.heap.size w W) => c_haGood A c xs W (hr.below hb) (by omega)
  have con2 : ∀ W, Calls Try.prog 79 #[.int .i64 ((xs.length : Int) - 1), .int .i64 1, .int .i64 9] W fun e w' => e = .returned (.bool (inPz ((xs.length : Int) - 1))) ∧ W = w' := fun W => c_l1In _ 1 9 W
  have con3 : ∀ W, Calls Try.prog 79 #[.int .i64 e, .int .i64 1, .int .i64 10] W fun e' w' => e' = .returned (.bool (inEv e)) ∧ W = w' := fun W => c_l1In _ 1 10 W
  have iw : IntKind.i64.wrap ((xs.length : Int) - 1) = (xs.length : Int) - 1 := IntWalk.i64_in _ (by omega)
  have q1 : True := trivial
  have hbad : mkPB xs e = false → (mkPT xs e = [] ∧ mkPC xs e = []) := fun h => ⟨by unfold mkPT; rw [h]; rfl, by unfold mkPC; rw [h]; rfl⟩
  cases h1 : chainB xs
  · have hB : mkPB xs e = false := by unfold mkPB; rw [h1]; rfl
    obtain ⟨e1, e2⟩ := hbad hB
    rw [hB, e1, e2]
    simp only [h1] at con1
    have Con1 := Lib.hid con1
    clear con1 con2 con3 hr hB e1 e2 h1 hbad
    show Calls _ _ _ _ (RetPB w [] [] false)
    go_enter Try.func32, Try.ntmps32
    go_wp2_with fail
    obtain ⟨w0, hw0⟩ : ∃ w0, w0 = w.alloc (.cells #[.slice none 0 0, .slice none 0 0] 30) := ⟨_, rfl⟩
    rw [← hw0]
    have br : Bx2 w0 w.heap.size (.slice none 0 0) (.slice none 0 0) := by rw [hw0]; exact Bx2.fresh w _ _ _
    have hb : Below w.heap.size w w0 := by rw [hw0]; go_grown
    clear hw0
    refine (Con1.out _ hb).mono ?_
    rintro e' w1 ⟨rfl, h1⟩
    replace hb := bstep hb h1
    replace br := br.keep h1
    clear h1
    have y0 := br.c0
    have y1 := br.c1
    have f0 := br.fz 0
    have f1 := br.fz 1
    have nr := br.lt
    have HB := Lib.hid hb
    clear hb br
    go_wp2
    refine bodyPost_ret (v := .tuple #[.agg #[.slice none 0 0, .slice none 0 0], .bool false]) (by simp [results, Try.results32, go_sem, y0, y1]) rfl ⟨none, 0, none, 0, rfl, OwnP.none_ _ _ _, below_box (below_box HB.out (by omega)) (by omega)⟩
  simp only [h1] at con1
  have Con1 := Lib.hid con1
  cases h2 : inPz ((xs.length : Int) - 1)
  · have hB : mkPB xs e = false := by unfold mkPB; rw [h1, h2]; rfl
    obtain ⟨e1, e2⟩ := hbad hB
    rw [hB, e1, e2]
    simp only [h2] at con2
    clear con1 con3 hr hB e1 e2 h1 h2 hbad
    show Calls _ _ _ _ (RetPB w [] [] false)
    go_enter Try.func32, Try.ntmps32
    go_wp2_with fail
    obtain ⟨w0, hw0⟩ : ∃ w0, w0 = w.alloc (.cells #[.slice none 0 0, .slice none 0 0] 30) := ⟨_, rfl⟩
    rw [← hw0]
    have br : Bx2 w0 w.heap.size (.slice none 0 0) (.slice none 0 0) := by rw [hw0]; exact Bx2.fresh w _ _ _
    have hb : Below w.heap.size w w0 := by rw [hw0]; go_grown
    clear hw0
    refine (Con1.out _ hb).mono ?_
    rintro e' w1 ⟨rfl, h1⟩
    replace hb := bstep hb h1
    replace br := br.keep h1
    clear h1
    go_wp2_with fail
    refine (con2 _).mono ?_
    rintro e' w2 ⟨rfl, rfl⟩
    have y0 := br.c0
    have y1 := br.c1
    have f0 := br.fz 0
    have f1 := br.fz 1
    have nr := br.lt
    have HB := Lib.hid hb
    clear hb br
    go_wp2
    refine bodyPost_ret (v := .tuple #[.agg #[.slice none 0 0, .slice none 0 0], .bool false]) (by simp [results, Try.results32, go_sem, y0, y1]) rfl ⟨none, 0, none, 0, rfl, OwnP.none_ _ _ _, below_box (below_box HB.out (by omega)) (by omega)⟩
  simp only [h2] at con2
  cases h3 : inEv e
  · have hB : mkPB xs e = false := by unfold mkPB; rw [h1, h2, h3]; rfl
    obtain ⟨e1, e2⟩ := hbad hB
    rw [hB, e1, e2]
    simp only [h3] at con3
    clear con1 hr hB e1 e2 h1 h2 h3 hbad
    show Calls _ _ _ _ (RetPB w [] [] false)
    go_enter Try.func32, Try.ntmps32
    go_wp2_with fail
    obtain ⟨w0, hw0⟩ : ∃ w0, w0 = w.alloc (.cells #[.slice none 0 0, .slice none 0 0] 30) := ⟨_, rfl⟩
    rw [← hw0]
    have br : Bx2 w0 w.heap.size (.slice none 0 0) (.slice none 0 0) := by rw [hw0]; exact Bx2.fresh w _ _ _
    have hb : Below w.heap.size w w0 := by rw [hw0]; go_grown
    clear hw0
    refine (Con1.out _ hb).mono ?_
    rintro e' w1 ⟨rfl, h1⟩
    replace hb := bstep hb h1
    replace br := br.keep h1
    clear h1
    go_wp2_with fail
    refine (con2 _).mono ?_
    rintro e' w2 ⟨rfl, rfl⟩
    go_wp2_with fail
    refine (con3 _).mono ?_
    rintro e' w2 ⟨rfl, rfl⟩
    have y0 := br.c0
    have y1 := br.c1
    have f0 := br.fz 0
    have f1 := br.fz 1
    have nr := br.lt
    have HB := Lib.hid hb
    clear hb br
    go_wp2
    refine bodyPost_ret (v := .tuple #[.agg #[.slice none 0 0, .slice none 0 0], .bool false]) (by simp [results, Try.results32, go_sem, y0, y1]) rfl ⟨none, 0, none, 0, rfl, OwnP.none_ _ _ _, below_box (below_box HB.out (by omega)) (by omega)⟩
  simp only [h3] at con3
  have hB : mkPB xs e = true := by unfold mkPB; rw [h1, h2, h3]; rfl
  obtain ⟨_, hx2, hx10, he1, he10⟩ := mkPB_parts hB
  have eT : mkPT xs e = sortL (tilesC xs) := by unfold mkPT; rw [hB]; rfl
  have eC : mkPC xs e = mkTo xs e xs.length := by unfold mkPC; rw [hB]; rfl
  rw [hB, eT, eC]
  have con4 := fun W (hb : Below w.heap.size w W) => c_haTiles A c xs W (hr.below hb) (by omega)
  have hlt0 : (tilesC xs).length ≤ 1048576 := by rw [tilesC_len]; omega
  have con5 := fun W A' c' (hb : RdT W A' (tilesC xs)) => c_tiSort A' c' (tilesC xs) W hb hlt0
  have hsl := sortL_len (tilesC xs)
  obtain ⟨us, hus⟩ : ∃ us, us = sortL (tilesC xs) := ⟨_, rfl⟩
  simp only [← hus] at con5
  rw [← hus] at hsl ⊢
  obtain ⟨ts, hts⟩ : ∃ ts, ts = tilesC xs := ⟨_, rfl⟩
  simp only [← hts] at con4 con5
  have Con4 := Lib.hid con4
  have Con5 := Lib.hid con5
  clear con1 con4 con5 h1 h2 h3 hB eT eC hbad hus hts hlt0
  go_enter Try.func32, Try.ntmps32
  go_wp2_with fail
  obtain ⟨w0, hw0⟩ : ∃ w0, w0 = w.alloc (.cells #[.slice none 0 0, .slice none 0 0] 30) := ⟨_, rfl⟩
  rw [← hw0]
  have br : Bx2 w0 w.heap.size (.slice none 0 0) (.slice none 0 0) := by rw [hw0]; exact Bx2.fresh w _ _ _
  have hb : Below w.heap.size w w0 := by rw [hw0]; go_grown
  clear hw0
  refine (Con1.out _ hb).mono ?_
  rintro e' w1 ⟨rfl, h1⟩
  replace hb := bstep hb h1
  replace br := br.keep h1
  clear h1
  go_wp2_with fail
  refine (con2 _).mono ?_
  rintro e' w2 ⟨rfl, rfl⟩
  go_wp2_with fail
  refine (con3 _).mono ?_
  rintro e' w2 ⟨rfl, rfl⟩
  go_wp2_with fail
  refine (Con4.out _ hb).mono ?_
  rintro e' w2 ⟨U, cU, rfl, oU, h2⟩
  replace hb := bstep hb h2
  replace br := br.keep h2
  have ru := RdT.of_own oU
  clear h2 oU
  go_wp2_with fail
  refine (Con5.out _ _ _ ru).mono ?_
  rintro e' w3 ⟨A1, c1, rfl, oT, h3⟩
  have nr0 := br.lt
  replace hb := bstep hb h3
  replace br := br.keep h3
  have nr := br.lt
  have oT1 := own_base (b' := w.heap.size + 1) oT (by omega)
  clear h3 ru oT
  go_upto_region 4 with (fail)
  obtain ⟨nb, hnb⟩ : ∃ nb, nb = w3.heap.size := ⟨_, rfl⟩
  obtain ⟨w4, hw4⟩ : ∃ w4, w4 = w3.alloc (.cells #[.slice A1 us.length c1, .slice none 0 0] 30) := ⟨_, rfl⟩
  rw [← hw4]
  have h4 : Below w3.heap.size w3 w4 := by rw [hw4]; exact (Below.refl _ _).alloc (Nat.le_refl _) _
  have bx : Bx2 w4 nb (.slice A1 us.length c1) (.slice none 0 0) := by rw [hw4, hnb]; exact Bx2.fresh w3 _ _ _
  rw [← hnb]
  have nbw : w.heap.size < nb := by omega
  have hT3 : ∀ g, (Value.slice A1 us.length c1).ownBlock = some g → g < nb := fun g hg => by have := (oT1.lt g hg).2; omega
  replace hb := bstep hb h4
  replace br := br.keep h4
  have oT2 := own_keep oT1 h4
  have zn : nb + 1 ≤ w4.heap.size := bx.lt
  clear hw4 hnb h4 oT1 nr0 nr
  go_wp2
  go_loopw [31] (fun i wr => ∃ (k : Nat) (A2 : Option Addr) (c2 : Nat), k ≤ xs.length ∧ i = .int .i64 k ∧ Bx2 wr nb (.slice A1 us.length c1) (.slice A2 (mkTo xs e k).length c2) ∧ wr.ownsRow (nb + 1) 3 1 (.slice A2 (mkTo xs e k).length c2) (mkTo xs e k).length (cellsI (mkTo xs e k)) ∧ Below nb w4 wr ∧ w4.heap.size ≤ wr.heap.size) (fun i _ => xs.length - (intOf i).toNat)
  case atStart => exact ⟨0, none, 0, Nat.zero_le _, rfl, bx, World.ownsRow_nil _ _ _ _, Below.refl _ _, Nat.le_refl _⟩
  case round =>
    obtain ⟨k, A2, c2, hk, rfl, bxr, own, hbr, hsz⟩ := hrel
    have hml : (mkTo xs e k).length ≤ 10 := by rw [mkTo_len]; omega
    by_cases hlt : k < xs.length
    · obtain ⟨bk, off, rfl, hbk, hc⟩ := hr.at_ hlt
      have g1 := (hbr.cell (p := ⟨bk, _, none⟩) (show bk < nb by omega)).trans (keepc hb (hc k hlt))
      have x1 := bxr.c1
      have nbx := bxr.lt
      have eg : xs.getD k 0 = xs[k] := by simp [hlt]
      obtain ⟨x, hx⟩ : ∃ x, xs[k] = x := ⟨_, rfl⟩
      rw [hx] at g1 eg
      obtain ⟨r, hrem⟩ : ∃ r, (k : Int).tmod e = r := ⟨_, rfl⟩
      obtain ⟨r0, r10⟩ := rem_parts k he1 he10
      rw [hrem] at r0 r10
      have rw1 : IntKind.i64.wrap r = r := IntWalk.i64_in _ (by omega)
      have ez : (e == 0) = false := by rw [beq_eq_false_iff_ne]; omega
      have ez2 : ¬ e = 0 := by omega
      clear hc hx hr
      by_cases h0 : (k : Int).tmod e = 0
      · skip
        have Xst := Lib.hid (show mkTo xs e (k + 1) = mkTo xs e k ++ [x] by rw [mkTo_step]; unfold mkOne; rw [if_pos h0, eg])
        have f1 : (r != 0) = false := by rw [bne_eq_false_iff_eq, ← hrem]; exact h0
        have Ho2 := Lib.hid (own.alloc (.cells #[.int .i64 x] 3))
        have bxa := bxr.more (.cells #[.int .i64 x] 3)
        have Hb2 := Lib.hid (hbr.alloc (show nb ≤ wr.heap.size by omega) (.cells #[.int .i64 x] 3))
        clear own hbr h0 eg
        go_wp2_with (at_builtin; refine wp_append_int rfl _ _ rfl (nb + 1) _ _ rfl Ho2.out x wr.heap.size rfl (by simp) (by omega) (by simp; omega) ?_; intro A3 c3 w5 own5 hg5; have bx5 := bxa.of_block (hg5.block nb bxa.lt (fun e => by have := (Ho2.out.lt _ e.symm).1; omega)); have y1 := bx5.c1; have fz1 := bx5.fz 1; have nb5 := bx5.lt; have s5 := hg5.size; simp only [World.size_alloc] at s5)
        go_roundw
        case rel =>
          refine ⟨k + 1, A3, c3, by omega, by go_num, ?_, ?_, ?_, ?_⟩
          · rw [Xst.out, List.length_append]
            exact bx5.set1 _
          · rw [Xst.out, List.length_append]
            exact own_box own5 (by omega)
          · exact below_box (Hb2.out.trans (below_of_grown hg5 (by simp; omega) (fun g hg => by have := (Ho2.out.lt g hg).1; omega))) (Nat.le_refl _)
          · simp [World.setCell]; omega
        case measure => simp [intOf]; omega
      · skip
        have Xst := Lib.hid (show mkTo xs e (k + 1) = mkTo xs e k ++ [(-1)] by rw [mkTo_step]; unfold mkOne; rw [if_neg h0])
        have f1 : (r != 0) = true := by rw [bne_iff_ne, ← hrem]; exact h0
        have Ho2 := Lib.hid (own.alloc (.cells #[.int .i64 (-1)] 3))
        have bxa := bxr.more (.cells #[.int .i64 (-1)] 3)
        have Hb2 := Lib.hid (hbr.alloc (show nb ≤ wr.heap.size by omega) (.cells #[.int .i64 (-1)] 3))
        clear own hbr h0 eg
        go_wp2_with (at_builtin; refine wp_append_int rfl _ _ rfl (nb + 1) _ _ rfl Ho2.out (-1) wr.heap.size rfl (by simp) (by omega) (by simp; omega) ?_; intro A3 c3 w5 own5 hg5; have bx5 := bxa.of_block (hg5.block nb bxa.lt (fun e => by have := (Ho2.out.lt _ e.symm).1; omega)); have y1 := bx5.c1; have fz1 := bx5.fz 1; have nb5 := bx5.lt; have s5 := hg5.size; simp only [World.size_alloc] at s5)
        go_roundw
        case rel =>
          refine ⟨k + 1, A3, c3, by omega, by go_num, ?_, ?_, ?_, ?_⟩
          · rw [Xst.out, List.length_append]
            exact bx5.set1 _
          · rw [Xst.out, List.length_append]
            exact own_box own5 (by omega)
          · exact below_box (Hb2.out.trans (below_of_grown hg5 (by simp; omega) (fun g hg => by have := (Ho2.out.lt g hg).1; omega))) (Nat.le_refl _)
          · simp [World.setCell]; omega
        case measure => simp [intOf]; omega
    · have : k = xs.length := by omega
      subst this
      have bR := br.of_block (hbr.block _ nbw)
      have x0 := bxr.c0
      have x1 := bxr.c1
      have y0 := bR.c0
      have y1 := bR.c1
      have f0 := bR.fz 0
      have f1 := bR.fz 1
      have m1 := bxr.lt
      have m2 := bR.lt
      have oT3 := own_below oT2 hbr hT3
      have OT := Lib.hid oT3
      have OC := Lib.hid own
      have HB := Lib.hid (hb.trans (hbr.mono (by omega)))
      have apTC : ApG (.slice A1 us.length c1) (.slice A2 (mkTo xs e xs.length).length c2) := ApG.of_lt (m := nb) hT3 (fun g hg => by have := (own.lt g hg).1; omega)
      generalize mkTo xs e xs.length = D at *
      clear oT3 own hb hbr bR bxr oT2 br bx hr
      go_wp2
      refine bodyPost_ret (v := .tuple #[.agg #[.slice A1 us.length c1, .slice A2 D.length c2], .bool true]) (by simp [results, Try.results32, go_sem, y0, y1]) rfl ⟨A1, c1, A2, c2, rfl, ?_, below_box (below_box HB.out (by omega)) (by omega)⟩
      have oU := own_box (own_box OT.out (a := w.heap.size) (j := 0) (u := .slice A1 us.length c1) (by omega)) (a := w.heap.size) (j := 1) (u := .slice A2 D.length c2) (by omega)
      have oV := own_box (own_box OC.out (a := w.heap.size) (j := 0) (u := .slice A1 us.length c1) (by omega)) (a := w.heap.size) (j := 1) (u := .slice A2 D.length c2) (by omega)
      exact { f := own_base oU (by omega), r := own_base oV (by omega), hf := fun g h => (oU.lt g h).2, hr := fun g h => (oV.lt g h).2, fr := apTC }

end Go.Proofs.Ytjdnkcdnppcbhaa

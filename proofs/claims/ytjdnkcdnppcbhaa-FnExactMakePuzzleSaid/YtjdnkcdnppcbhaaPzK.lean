/- Puzzles made: the program. -/
import Derived.Test.YtjdnkcdnppcbhaaPzJ
import Derived.Test.YtjdnkcdnppcbhaaTilesC
import Derived.Test.YtjdnkcdnppcbhaaVals
import Derived.Test.YtjdnkcdnppcbhaaTurn
import Derived.Test.YtjdnkcdnppcbhaaPzI
import Derived.Deep.Cut
import Derived.BigQuiet
namespace Go.Proofs.Ytjdnkcdnppcbhaa
open Go.RowKit
set_option linter.unusedVariables false

theorem own_notG2 {v : Value} {m g : Nat} (h : ∀ b, v.ownBlock = some b → b < m) (hg : m ≤ g) : v.ownBlock = none ∨ v.ownBlock ≠ some g := by
  cases hv : v.ownBlock with
  | none => exact .inl rfl
  | some b => exact .inr fun e => by have := h b hv; have := Option.some.inj e; omega

set_option maxRecDepth 100000 in
set_option maxHeartbeats 4000000 in
theorem c_implMakePz (A : Option Addr) (c : Nat) (xs : List Int) (e : Int) (w : World) (hr : RdI w A xs) (lx : xs.length ≤ 1048576) :
    Calls Try.prog 33 #[.slice A xs.length c, .int .i64 e] w (RetPB w (mkPT xs e) (mkPC xs e) (mkPB xs e)) := by
  have con1 := fun W (hb : Below w.heap.size w W) => c_implTiles A c xs W (hr.below hb) lx
  have hbad : mkPB xs e = false → (mkPT xs e = [] ∧ mkPC xs e = []) := fun h => ⟨by unfold mkPT; rw [h]; rfl, by unfold mkPC; rw [h]; rfl⟩
  cases h1 : chainB xs
  · have hB : mkPB xs e = false := by unfold mkPB; rw [h1]; rfl
    obtain ⟨e1, e2⟩ := hbad hB
    rw [hB, e1, e2]
    have et : tilesHL xs = [] := by simp [tilesHL, h1]
    simp only [h1, et] at con1
    have Con1 := Lib.hid con1
    clear con1 hr hB e1 e2 h1 hbad et
    show Calls _ _ _ _ (RetPB w [] [] false)
    go_enter Try.func33, Try.ntmps33
    go_wp2_with fail
    obtain ⟨w0, hw0⟩ : ∃ w0, w0 = w.alloc (.cells #[.slice none 0 0, .slice none 0 0] 30) := ⟨_, rfl⟩
    rw [← hw0]
    have br : Bx2 w0 w.heap.size (.slice none 0 0) (.slice none 0 0) := by rw [hw0]; exact Bx2.fresh w _ _ _
    have hb : Below w.heap.size w w0 := by rw [hw0]; go_grown
    clear hw0
    refine (Con1.out _ hb).mono ?_
    rintro e' w1 ⟨U, cU, rfl, oU, h1⟩
    replace hb := bstep hb h1
    replace br := br.keep h1
    clear h1 oU
    have y0 := br.c0
    have y1 := br.c1
    have f0 := br.fz 0
    have f1 := br.fz 1
    have nr := br.lt
    have HB := Lib.hid hb
    clear hb br
    go_wp2
    refine bodyPost_ret (v := .tuple #[.agg #[.slice none 0 0, .slice none 0 0], .bool false]) (by simp [results, Try.results33, go_sem, y0, y1]) rfl ⟨none, 0, none, 0, rfl, OwnP.none_ _ _ _, below_box (below_box HB.out (by omega)) (by omega)⟩
  have et : tilesHL xs = tilesC xs := by simp [tilesHL, h1]
  simp only [h1, et] at con1
  have htl := tilesC_len xs
  have hx1 := (chain_len h1).1
  have hx56 := (chain_len h1).2
  have hh := chain_hand h1
  have con5 := fun W A' c' (hb : RdT W A' (tilesC xs)) => c_inOrder A' c' (tilesC xs) W hb hh
  have hsl := sortL_len (tilesC xs)
  have hPT : mkPB xs e = true → mkPT xs e = sortL (tilesC xs) := fun h => by unfold mkPT; rw [h]; rfl
  have hPC : mkPB xs e = true → mkPC xs e = mkTo xs e xs.length := fun h => by unfold mkPC; rw [h]; rfl
  have hPB : mkPB xs e = (inPz ((xs.length : Int) - 1) && inEv e) := by unfold mkPB; rw [h1]; rfl
  obtain ⟨us, hus⟩ : ∃ us, us = sortL (tilesC xs) := ⟨_, rfl⟩
  simp only [← hus] at con5 hPT hsl
  obtain ⟨ts, hts⟩ : ∃ ts, ts = tilesC xs := ⟨_, rfl⟩
  simp only [← hts] at con1 con5 htl
  have htl2 : (ts.length : Int) = (xs.length : Int) - 1 := by omega
  have hp1 : inPz ((xs.length : Int) - 1) = (decide (1 ≤ (ts.length : Int)) && decide ((ts.length : Int) ≤ 9)) := by rw [htl2]; rfl
  have Con1 := Lib.hid con1
  have Con5 := Lib.hid con5
  have Htl := Lib.hid htl
  clear con1 con5 h1 et hus hts htl htl2 hh
  cases h2 : decide (1 ≤ (ts.length : Int))
  · have hB : mkPB xs e = false := by rw [hPB, hp1, h2]; rfl
    obtain ⟨e1, e2⟩ := hbad hB
    rw [hB, e1, e2]
    have i1 : (ts.length : Int) < 1 := by have := of_decide_eq_false h2; omega
    clear Con5 hr hB e1 e2 h2 hbad hPT hPC hPB hp1
    show Calls _ _ _ _ (RetPB w [] [] false)
    go_enter Try.func33, Try.ntmps33
    go_wp2_with fail
    obtain ⟨w0, hw0⟩ : ∃ w0, w0 = w.alloc (.cells #[.slice none 0 0, .slice none 0 0] 30) := ⟨_, rfl⟩
    rw [← hw0]
    have br : Bx2 w0 w.heap.size (.slice none 0 0) (.slice none 0 0) := by rw [hw0]; exact Bx2.fresh w _ _ _
    have hb : Below w.heap.size w w0 := by rw [hw0]; go_grown
    clear hw0
    refine (Con1.out _ hb).mono ?_
    rintro e' w1 ⟨U, cU, rfl, oU, h1⟩
    replace hb := bstep hb h1
    replace br := br.keep h1
    clear h1 oU
    have y0 := br.c0
    have y1 := br.c1
    have f0 := br.fz 0
    have f1 := br.fz 1
    have nr := br.lt
    have HB := Lib.hid hb
    clear hb br
    go_wp2
    refine bodyPost_ret (v := .tuple #[.agg #[.slice none 0 0, .slice none 0 0], .bool false]) (by simp [results, Try.results33, go_sem, y0, y1]) rfl ⟨none, 0, none, 0, rfl, OwnP.none_ _ _ _, below_box (below_box HB.out (by omega)) (by omega)⟩
  have i1 : ¬ (ts.length : Int) < 1 := by have := of_decide_eq_true h2; omega
  cases h3 : decide ((ts.length : Int) ≤ 9)
  · have hB : mkPB xs e = false := by rw [hPB, hp1, h3]; simp
    obtain ⟨e1, e2⟩ := hbad hB
    rw [hB, e1, e2]
    have i2 : (9 : Int) < (ts.length : Int) := by have := of_decide_eq_false h3; omega
    clear Con5 hr hB e1 e2 h2 h3 hbad hPT hPC hPB hp1
    show Calls _ _ _ _ (RetPB w [] [] false)
    go_enter Try.func33, Try.ntmps33
    go_wp2_with fail
    obtain ⟨w0, hw0⟩ : ∃ w0, w0 = w.alloc (.cells #[.slice none 0 0, .slice none 0 0] 30) := ⟨_, rfl⟩
    rw [← hw0]
    have br : Bx2 w0 w.heap.size (.slice none 0 0) (.slice none 0 0) := by rw [hw0]; exact Bx2.fresh w _ _ _
    have hb : Below w.heap.size w w0 := by rw [hw0]; go_grown
    clear hw0
    refine (Con1.out _ hb).mono ?_
    rintro e' w1 ⟨U, cU, rfl, oU, h1⟩
    replace hb := bstep hb h1
    replace br := br.keep h1
    clear h1 oU
    have y0 := br.c0
    have y1 := br.c1
    have f0 := br.fz 0
    have f1 := br.fz 1
    have nr := br.lt
    have HB := Lib.hid hb
    clear hb br
    go_wp2
    refine bodyPost_ret (v := .tuple #[.agg #[.slice none 0 0, .slice none 0 0], .bool false]) (by simp [results, Try.results33, go_sem, y0, y1]) rfl ⟨none, 0, none, 0, rfl, OwnP.none_ _ _ _, below_box (below_box HB.out (by omega)) (by omega)⟩
  have i2 : ¬ (9 : Int) < (ts.length : Int) := by have := of_decide_eq_true h3; omega
  rw [h2, h3] at hp1
  rw [hp1] at hPB
  have hPB2 : mkPB xs e = (decide (1 ≤ e) && decide (e ≤ 10)) := by rw [hPB]; rfl
  clear hp1 hPB h2 h3
  cases h4 : decide (1 ≤ e)
  · have hB : mkPB xs e = false := by rw [hPB2, h4]; rfl
    obtain ⟨e1, e2⟩ := hbad hB
    rw [hB, e1, e2]
    have i3 : e < 1 := by have := of_decide_eq_false h4; omega
    clear Con5 hr hB e1 e2 h4 hbad hPT hPC hPB2
    show Calls _ _ _ _ (RetPB w [] [] false)
    go_enter Try.func33, Try.ntmps33
    go_wp2_with fail
    obtain ⟨w0, hw0⟩ : ∃ w0, w0 = w.alloc (.cells #[.slice none 0 0, .slice none 0 0] 30) := ⟨_, rfl⟩
    rw [← hw0]
    have br : Bx2 w0 w.heap.size (.slice none 0 0) (.slice none 0 0) := by rw [hw0]; exact Bx2.fresh w _ _ _
    have hb : Below w.heap.size w w0 := by rw [hw0]; go_grown
    clear hw0
    refine (Con1.out _ hb).mono ?_
    rintro e' w1 ⟨U, cU, rfl, oU, h1⟩
    replace hb := bstep hb h1
    replace br := br.keep h1
    clear h1 oU
    have y0 := br.c0
    have y1 := br.c1
    have f0 := br.fz 0
    have f1 := br.fz 1
    have nr := br.lt
    have HB := Lib.hid hb
    clear hb br
    go_wp2
    refine bodyPost_ret (v := .tuple #[.agg #[.slice none 0 0, .slice none 0 0], .bool false]) (by simp [results, Try.results33, go_sem, y0, y1]) rfl ⟨none, 0, none, 0, rfl, OwnP.none_ _ _ _, below_box (below_box HB.out (by omega)) (by omega)⟩
  have he1 : 1 ≤ e := of_decide_eq_true h4
  have i3 : ¬ e < 1 := by omega
  cases h5 : decide (e ≤ 10)
  · have hB : mkPB xs e = false := by rw [hPB2, h4, h5]; rfl
    obtain ⟨e1, e2⟩ := hbad hB
    rw [hB, e1, e2]
    have i4 : 10 < e := by have := of_decide_eq_false h5; omega
    clear Con5 hr hB e1 e2 h4 h5 hbad hPT hPC hPB2
    show Calls _ _ _ _ (RetPB w [] [] false)
    go_enter Try.func33, Try.ntmps33
    go_wp2_with fail
    obtain ⟨w0, hw0⟩ : ∃ w0, w0 = w.alloc (.cells #[.slice none 0 0, .slice none 0 0] 30) := ⟨_, rfl⟩
    rw [← hw0]
    have br : Bx2 w0 w.heap.size (.slice none 0 0) (.slice none 0 0) := by rw [hw0]; exact Bx2.fresh w _ _ _
    have hb : Below w.heap.size w w0 := by rw [hw0]; go_grown
    clear hw0
    refine (Con1.out _ hb).mono ?_
    rintro e' w1 ⟨U, cU, rfl, oU, h1⟩
    replace hb := bstep hb h1
    replace br := br.keep h1
    clear h1 oU
    have y0 := br.c0
    have y1 := br.c1
    have f0 := br.fz 0
    have f1 := br.fz 1
    have nr := br.lt
    have HB := Lib.hid hb
    clear hb br
    go_wp2
    refine bodyPost_ret (v := .tuple #[.agg #[.slice none 0 0, .slice none 0 0], .bool false]) (by simp [results, Try.results33, go_sem, y0, y1]) rfl ⟨none, 0, none, 0, rfl, OwnP.none_ _ _ _, below_box (below_box HB.out (by omega)) (by omega)⟩
  have he10 : e ≤ 10 := of_decide_eq_true h5
  have i4 : ¬ 10 < e := by omega
  have hB : mkPB xs e = true := by rw [hPB2, h4, h5]; rfl
  rw [hB, hPT hB, hPC hB]
  have hx2 : 2 ≤ xs.length := by have := Htl.out; omega
  have hx10 : xs.length ≤ 10 := by have := Htl.out; omega
  have con6 := Lib.hid (fun W (hb : Below w.heap.size w W) => c_clone A c xs W (hr.below hb) lx (by omega))
  clear h4 h5 hbad hPT hPC hPB2 hB hr Htl
  go_enter Try.func33, Try.ntmps33
  go_wp2_with fail
  obtain ⟨w0, hw0⟩ : ∃ w0, w0 = w.alloc (.cells #[.slice none 0 0, .slice none 0 0] 30) := ⟨_, rfl⟩
  rw [← hw0]
  have br : Bx2 w0 w.heap.size (.slice none 0 0) (.slice none 0 0) := by rw [hw0]; exact Bx2.fresh w _ _ _
  have hb : Below w.heap.size w w0 := by rw [hw0]; go_grown
  clear hw0
  refine (Con1.out _ hb).mono ?_
  rintro e' w1 ⟨U, cU, rfl, oU, h1⟩
  replace hb := bstep hb h1
  replace br := br.keep h1
  have ru := RdT.of_own oU
  clear h1 oU
  go_wp2_with fail
  refine (Con5.out _ _ _ ru).mono ?_
  rintro e' w2 ⟨A1, c1, rfl, oT, h2⟩
  have nr0 := br.lt
  replace hb := bstep hb h2
  replace br := br.keep h2
  have oT1 := own_base (b' := w.heap.size + 1) oT (by omega)
  clear h2 ru oT
  go_wp2_with fail
  refine (con6.out _ hb).mono ?_
  rintro e' w3 ⟨A2, c2, rfl, oC, h3⟩
  have hT2 : ∀ g, (Value.slice A1 us.length c1).ownBlock = some g → g < w2.heap.size := fun g hg => (oT1.lt g hg).2
  have nr1 := br.lt
  have z3 := h3.size
  replace hb := bstep hb h3
  replace br := br.keep h3
  replace oT1 := own_keep oT1 h3
  clear h3
  obtain ⟨g2, hA2⟩ : ∃ g2, A2 = some ⟨g2, 0, none⟩ := by
    rcases oC.2 with ⟨_, hn⟩ | ⟨g2, _, _, hv, _⟩
    · omega
    · injection hv with e1
      exact ⟨g2, e1⟩
  subst hA2
  have b2 := oC.lt g2 rfl
  go_upto_region 5 with (fail)
  obtain ⟨nb, hnb⟩ : ∃ nb, nb = w3.heap.size := ⟨_, rfl⟩
  obtain ⟨w4, hw4⟩ : ∃ w4, w4 = w3.alloc (.cells #[.slice A1 us.length c1, .slice (some ⟨g2, 0, none⟩) xs.length c2] 30) := ⟨_, rfl⟩
  rw [← hw4]
  have h4 : Below w3.heap.size w3 w4 := by rw [hw4]; exact (Below.refl _ _).alloc (Nat.le_refl _) _
  have bx : Bx2 w4 nb (.slice A1 us.length c1) (.slice (some ⟨g2, 0, none⟩) xs.length c2) := by rw [hw4, hnb]; exact Bx2.fresh w3 _ _ _
  rw [← hnb]
  have b2n : g2 < nb := by omega
  have z4n : nb < w4.heap.size := bx.lt
  replace hb := bstep hb h4
  replace br := br.keep h4
  have oT2 := own_keep oT1 h4
  have oC2 := own_keep oC h4
  clear hw4 hnb h4 oT1 oC
  have x1 := bx.c1
  go_wp2
  go_loopw [44] (fun i wr => ∃ (k : Nat), k ≤ xs.length ∧ i = .int .i64 k ∧ Bx2 wr nb (.slice A1 us.length c1) (.slice (some ⟨g2, 0, none⟩) xs.length c2) ∧ wr.ownsRow w2.heap.size 3 1 (.slice (some ⟨g2, 0, none⟩) xs.length c2) xs.length (cellsI (mkMix xs e k)) ∧ w4.grownBy wr (some g2)) (fun i _ => xs.length - (intOf i).toNat)
  case atStart => exact ⟨0, Nat.zero_le _, rfl, bx, by rw [mkMix_zero]; exact oC2, World.grownBy.refl _ _⟩
  case round =>
    clear x1
    obtain ⟨k, hk, rfl, bxr, own, hgr⟩ := hrel
    by_cases hlt : k < xs.length
    · have x1 := bxr.c1
      obtain ⟨r, hrem⟩ : ∃ r, (k : Int).tmod e = r := ⟨_, rfl⟩
      obtain ⟨r0, r10⟩ := rem_parts k he1 he10
      rw [hrem] at r0 r10
      have rw1 : IntKind.i64.wrap r = r := IntWalk.i64_in _ (by omega)
      have ez : (e == 0) = false := by rw [beq_eq_false_iff_ne]; omega
      have ez2 : ¬ e = 0 := by omega
      have hml : (mkMix xs e k).length = xs.length := mkMix_len hk
      by_cases h0 : (k : Int).tmod e = 0
      · have Xst := Lib.hid (mkMix_keep hlt h0)
        have f1 : (r != 0) = false := by rw [bne_eq_false_iff_eq, ← hrem]; exact h0
        have Ho := Lib.hid own
        clear h0 own hml
        go_wp2
        go_roundw
        case rel => exact ⟨k + 1, by omega, by go_num, bxr, by rw [Xst.out]; exact Ho.out, hgr⟩
        case measure => simp [intOf]; omega
      · have Xst := Lib.hid (mkMix_gap hlt h0)
        have f1 : (r != 0) = true := by rw [bne_iff_ne, ← hrem]; exact h0
        have ck : ∃ u, wr.cell? ⟨g2, k, none⟩ = some u := ⟨.int .i64 ((mkMix xs e k)[k]'(by omega)), (own.cellAt k (by omega)).trans (by simp [cellsI, hml, hlt])⟩
        obtain ⟨u, ck⟩ := ck
        have fk := own.frozenAt k
        have j0 : (0 : Int) ≤ (k : Int) := by omega
        have j1 : (k : Int) < (xs.length : Int) := by omega
        have m3 := (own.lt g2 rfl).2
        have m4 := bxr.lt
        have Ho := Lib.hid own
        have Hbx := Lib.hid bxr
        clear h0 own hml bxr
        go_wp2
        go_roundw
        case rel =>
          refine ⟨k + 1, by omega, by go_num, Hbx.out.far _ (by omega), ?_, grown_set hgr _ _⟩
          rw [Xst.out]
          have h1 := (Ho.out.stored k (.int .i64 (-1))).1
          rw [show (cellsI (mkMix xs e k)).set k (.int .i64 (-1)) = cellsI ((mkMix xs e k).set k (-1)) by simp [cellsI]] at h1
          exact h1
        case measure => simp [intOf]; omega
    · have : k = xs.length := by omega
      subst this
      rw [mkMix_all] at own
      have eD : (mkTo xs e xs.length).length = xs.length := mkTo_len _ _ _
      have bR := br.of_block (hgr.block _ br.lt (fun e => by have := Option.some.inj e; omega))
      have x0 := bxr.c0
      have x1 := bxr.c1
      have y0 := bR.c0
      have y1 := bR.c1
      have f0 := bR.fz 0
      have f1 := bR.fz 1
      have m1 := bxr.lt
      have m2 := bR.lt
      have oT3 := oT2.kept hgr (own_notG2 hT2 (by omega))
      have OT := Lib.hid oT3
      have OC := Lib.hid own
      have HB := Lib.hid (hb.trans (below_of_grown hgr (by omega) (fun g h => by cases h; omega)))
      have apTC : ApG (.slice A1 us.length c1) (.slice (some ⟨g2, 0, none⟩) xs.length c2) := ApG.of_lt (m := w2.heap.size) hT2 (fun g hg => by cases hg; show w2.heap.size ≤ g2; omega)
      have ED := Lib.hid eD
      clear oT3 own hb hgr bR bxr oT2 br bx eD oC2
      go_wp2
      refine bodyPost_ret (v := .tuple #[.agg #[.slice A1 us.length c1, .slice (some ⟨g2, 0, none⟩) xs.length c2], .bool true]) (by simp [results, Try.results33, go_sem, y0, y1]) rfl ⟨A1, c1, some ⟨g2, 0, none⟩, c2, by rw [ED.out], ?_, below_box (below_box HB.out (by omega)) (by omega)⟩
      have oU := own_box (own_box OT.out (a := w.heap.size) (j := 0) (u := .slice A1 us.length c1) (by omega)) (a := w.heap.size) (j := 1) (u := .slice (some ⟨g2, 0, none⟩) xs.length c2) (by omega)
      have oV := own_box (own_box OC.out (a := w.heap.size) (j := 0) (u := .slice A1 us.length c1) (by omega)) (a := w.heap.size) (j := 1) (u := .slice (some ⟨g2, 0, none⟩) xs.length c2) (by omega)
      rw [ED.out]
      exact { f := own_base oU (by omega), r := own_base oV (by omega), hf := fun g h => (oU.lt g h).2, hr := fun g h => (oV.lt g h).2, fr := apTC }

end Go.Proofs.Ytjdnkcdnppcbhaa

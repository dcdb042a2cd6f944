/- Puzzles renamed: the program. -/
import Derived.Test.YtjdnkcdnppcbhaaPzQ
import Derived.Test.YtjdnkcdnppcbhaaPzD
import Derived.Deep.Cut
import Derived.BigQuiet
namespace Go.Proofs.Ytjdnkcdnppcbhaa
open Go.RowKit
set_option linter.unusedVariables false

set_option maxRecDepth 100000 in
set_option maxHeartbeats 4000000 in
theorem c_implRenPz (AT : Option Addr) (cT : Nat) (T : List (Int × Int)) (AC : Option Addr) (cC : Nat) (C : List Int) (B : Option Addr) (d : Nat) (ns : List Int) (w : World) (hT : RdT w AT T) (hC : RdI w AC C) (hn : RdI w B ns) (lT : T.length + C.length ≤ 1048576) (ln : ns.length ≤ 1048576) :
    Calls Try.prog 38 #[.agg #[.slice AT T.length cT, .slice AC C.length cC], .slice B ns.length d] w (RetPB w (renPT T C ns) (renPC T C ns) (renPB T C ns)) := by
  have con1 := fun W (hb : Below w.heap.size w W) => c_implIsPuzzle AT cT T AC cC C W (hT.below hb) (hC.below hb) lT
  have con2 := fun W (hb : Below w.heap.size w W) => c_areNames B d ns W (hn.below hb) (by omega)
  have hbad : renPB T C ns = false → (renPT T C ns = [] ∧ renPC T C ns = []) := fun h => ⟨by unfold renPT; rw [h]; rfl, by unfold renPC; rw [h]; rfl⟩
  cases h1 : pzB T C
  · have hB : renPB T C ns = false := by unfold renPB; rw [h1]; rfl
    obtain ⟨e1, e2⟩ := hbad hB
    rw [hB, e1, e2]
    simp only [h1] at con1
    have Con1 := Lib.hid con1
    clear con1 con2 hT hC hn hB e1 e2 h1 hbad
    show Calls _ _ _ _ (RetPB w [] [] false)
    go_enter Try.func38, Try.ntmps38
    go_wp2_with fail
    obtain ⟨w0, hw0⟩ : ∃ w0, w0 = (w.alloc (.cells #[.slice AT T.length cT, .slice AC C.length cC] 30)).alloc (.cells #[.slice none 0 0, .slice none 0 0] 30) := ⟨_, rfl⟩
    rw [← hw0]
    have hs0 : w0.heap.size = w.heap.size + 2 := by rw [hw0]; simp
    have ba : Bx2 w0 w.heap.size (.slice AT T.length cT) (.slice AC C.length cC) := by rw [hw0]; exact (Bx2.fresh w _ _ _).more _
    have br : Bx2 w0 (w.heap.size + 1) (.slice none 0 0) (.slice none 0 0) := by
      have h1 := Bx2.fresh (w.alloc (.cells #[.slice AT T.length cT, .slice AC C.length cC] 30)) (.slice none 0 0) (.slice none 0 0) 30
      rw [World.size_alloc] at h1
      rw [hw0]; exact h1
    have hb : Below w.heap.size w w0 := by rw [hw0]; go_grown
    have nr : w.heap.size + 1 < w0.heap.size := br.lt
    clear hw0 hs0
    refine (Con1.out _ hb).mono ?_
    rintro e w1 ⟨rfl, h1⟩
    replace hb := bstep hb h1
    replace br := br.keep h1
    replace ba := ba.keep h1
    clear nr h1
    clear ba
    have y0 := br.c0
    have y1 := br.c1
    have f0 := br.fz 0
    have f1 := br.fz 1
    have nr := br.lt
    have HB := Lib.hid hb
    clear hb br
    go_wp2
    refine bodyPost_ret (v := .tuple #[.agg #[.slice none 0 0, .slice none 0 0], .bool false]) (by simp [results, Try.results38, go_sem, y0, y1]) rfl ⟨none, 0, none, 0, rfl, OwnP.none_ _ _ _, below_box (below_box HB.out (by omega)) (by omega)⟩
  simp only [h1] at con1
  have Con1 := Lib.hid con1
  clear con1
  cases hA : areB ns
  · skip
    have hB : renPB T C ns = false := by unfold renPB; rw [h1, hA]; rfl
    obtain ⟨e1, e2⟩ := hbad hB
    rw [hB, e1, e2]
    simp only [hA] at con2
    have Con2 := Lib.hid con2
    clear con2 hT hC hn hB e1 e2 h1 hA hbad
    show Calls _ _ _ _ (RetPB w [] [] false)
    go_enter Try.func38, Try.ntmps38
    go_wp2_with fail
    obtain ⟨w0, hw0⟩ : ∃ w0, w0 = (w.alloc (.cells #[.slice AT T.length cT, .slice AC C.length cC] 30)).alloc (.cells #[.slice none 0 0, .slice none 0 0] 30) := ⟨_, rfl⟩
    rw [← hw0]
    have hs0 : w0.heap.size = w.heap.size + 2 := by rw [hw0]; simp
    have ba : Bx2 w0 w.heap.size (.slice AT T.length cT) (.slice AC C.length cC) := by rw [hw0]; exact (Bx2.fresh w _ _ _).more _
    have br : Bx2 w0 (w.heap.size + 1) (.slice none 0 0) (.slice none 0 0) := by
      have h1 := Bx2.fresh (w.alloc (.cells #[.slice AT T.length cT, .slice AC C.length cC] 30)) (.slice none 0 0) (.slice none 0 0) 30
      rw [World.size_alloc] at h1
      rw [hw0]; exact h1
    have hb : Below w.heap.size w w0 := by rw [hw0]; go_grown
    have nr : w.heap.size + 1 < w0.heap.size := br.lt
    clear hw0 hs0
    refine (Con1.out _ hb).mono ?_
    rintro e w1 ⟨rfl, h1⟩
    replace hb := bstep hb h1
    replace br := br.keep h1
    replace ba := ba.keep h1
    clear nr h1
    clear ba
    go_wp2_with fail
    refine (Con2.out _ hb).mono ?_
    rintro e w2 ⟨rfl, h2⟩
    replace hb := bstep hb h2
    replace br := br.keep h2
    have y0 := br.c0
    have y1 := br.c1
    have f0 := br.fz 0
    have f1 := br.fz 1
    have nr := br.lt
    have HB := Lib.hid hb
    clear hb br
    go_wp2
    refine bodyPost_ret (v := .tuple #[.agg #[.slice none 0 0, .slice none 0 0], .bool false]) (by simp [results, Try.results38, go_sem, y0, y1]) rfl ⟨none, 0, none, 0, rfl, OwnP.none_ _ _ _, below_box (below_box HB.out (by omega)) (by omega)⟩
  simp only [hA] at con2
  have Con2 := Lib.hid con2
  have hB : renPB T C ns = true := by unfold renPB; rw [h1, hA]; rfl
  have eT : renPT T C ns = sortL (renL T ns) := by unfold renPT; rw [hB]; rfl
  have eC : renPC T C ns = cnL C ns := by unfold renPC; rw [hB]; rfl
  rw [hB, eT, eC]
  obtain ⟨hT1, hT9, hhT, hC10, hgap, _⟩ := pzB_parts h1
  have Hgap := Lib.hid hgap
  have hlC : C.length ≤ 10 := by omega
  have hposC : 0 < C.length := by omega
  have hposT : 0 < T.length := by omega
  have con3 := Lib.hid (fun W (hb : Below w.heap.size w W) => c_copiedP AT cT T AC cC C W (hT.below hb) (hC.below hb) lT)
  have eR : renHL T ns = sortL (renL T ns) := by unfold renHL; rw [hhT, hA]; rfl
  have con4 := fun W (hb : Below w.heap.size w W) => c_implRename AT cT T B d ns W (hT.below hb) (by omega) (hn.below hb) ln
  simp only [eR, hhT, hA, Bool.and_self] at con4
  have Hn := Lib.hid (fun (m : Nat) (hm' : m ≤ 9) W (hbW : Below w.heap.size w W) => rdi_nm hn hA hbW (m := m) hm')
  have h10b : 10 ≤ ns.length := Nat.le_of_eq (of_decide_eq_true hA : areP ns).1.symm
  have hsl := sortL_len (renL T ns)
  obtain ⟨us, hus⟩ : ∃ us, us = sortL (renL T ns) := ⟨_, rfl⟩
  simp only [← hus] at con4
  rw [← hus] at hsl ⊢
  have Con4 := Lib.hid con4
  clear con2 con4 hbad hB eT eC hC10 hgap eR hus h1 hA hhT hn hT
  go_enter Try.func38, Try.ntmps38
  go_wp2_with fail
  obtain ⟨w0, hw0⟩ : ∃ w0, w0 = (w.alloc (.cells #[.slice AT T.length cT, .slice AC C.length cC] 30)).alloc (.cells #[.slice none 0 0, .slice none 0 0] 30) := ⟨_, rfl⟩
  rw [← hw0]
  have hs0 : w0.heap.size = w.heap.size + 2 := by rw [hw0]; simp
  have ba : Bx2 w0 w.heap.size (.slice AT T.length cT) (.slice AC C.length cC) := by rw [hw0]; exact (Bx2.fresh w _ _ _).more _
  have br : Bx2 w0 (w.heap.size + 1) (.slice none 0 0) (.slice none 0 0) := by
    have h1 := Bx2.fresh (w.alloc (.cells #[.slice AT T.length cT, .slice AC C.length cC] 30)) (.slice none 0 0) (.slice none 0 0) 30
    rw [World.size_alloc] at h1
    rw [hw0]; exact h1
  have hb : Below w.heap.size w w0 := by rw [hw0]; go_grown
  have nr : w.heap.size + 1 < w0.heap.size := br.lt
  clear hw0 hs0
  refine (Con1.out _ hb).mono ?_
  rintro e w1 ⟨rfl, h1⟩
  replace hb := bstep hb h1
  replace br := br.keep h1
  replace ba := ba.keep h1
  clear nr h1
  have x0 := ba.c0
  have x1 := ba.c1
  go_wp2_with fail
  refine (Con2.out _ hb).mono ?_
  rintro e w2 ⟨rfl, h2⟩
  replace hb := bstep hb h2
  replace br := br.keep h2
  replace ba := ba.keep h2
  clear h2 x0 x1
  have x0 := ba.c0
  have x1 := ba.c1
  go_wp2_with fail
  refine (con3.out _ hb).mono ?_
  rintro e w3 ⟨A0, c0, A2, c2, rfl, oP, h3⟩
  have nr2 := br.lt
  have z3 := h3.size
  replace hb := bstep hb h3
  replace br := br.keep h3
  replace ba := ba.keep h3
  clear h3 x0 x1
  obtain ⟨g2, hA2⟩ : ∃ g2, A2 = some ⟨g2, 0, none⟩ := by
    rcases oP.r.2 with ⟨_, hn⟩ | ⟨g2, _, _, hv, _⟩
    · omega
    · injection hv with e1
      exact ⟨g2, e1⟩
  subst hA2
  have b2 := oP.r.lt g2 rfl
  go_upto_region 4 with (fail)
  obtain ⟨nb, hnb⟩ : ∃ nb, nb = w3.heap.size := ⟨_, rfl⟩
  obtain ⟨w4, hw4⟩ : ∃ w4, w4 = w3.alloc (.cells #[.slice A0 T.length c0, .slice (some ⟨g2, 0, none⟩) C.length c2] 30) := ⟨_, rfl⟩
  rw [← hw4]
  have h4 : Below w3.heap.size w3 w4 := by rw [hw4]; exact (Below.refl _ _).alloc (Nat.le_refl _) _
  have bx : Bx2 w4 nb (.slice A0 T.length c0) (.slice (some ⟨g2, 0, none⟩) C.length c2) := by rw [hw4, hnb]; exact Bx2.fresh w3 _ _ _
  rw [← hnb]
  have b2n : g2 < nb := by omega
  replace hb := bstep hb h4
  replace br := br.keep h4
  replace ba := ba.keep h4
  have oC := own_keep oP.r h4
  have z4 : nb < w4.heap.size := bx.lt
  have nbw : w.heap.size + 1 < nb := by omega
  clear hw4 hnb h4 oP
  have x0 := ba.c0
  go_wp2_with fail
  refine (Con4.out _ hb).mono ?_
  rintro e w5 ⟨A1, c1, rfl, oT, h5⟩
  replace hb := bstep hb h5
  replace br := br.keep h5
  replace ba := ba.keep h5
  replace bx := bx.keep h5
  replace oC := own_keep oC h5
  have z5 := h5.size
  have hTlo : ∀ g, (Value.slice A1 us.length c1).ownBlock = some g → w4.heap.size ≤ g := fun g hg => (oT.lt g hg).1
  clear h5 x0
  have y0 := bx.c0
  have fy := bx.fz 0
  have my := bx.lt
  have x1 := ba.c1
  go_upto_region 5 with (fail)
  obtain ⟨W, hW⟩ : ∃ W, W = w5.setCell ⟨nb, 0, none⟩ (.slice A1 us.length c1) := ⟨_, rfl⟩
  rw [← hW]
  replace hb : Below w.heap.size w W := by rw [hW]; exact below_box hb (by omega)
  replace br : Bx2 W (w.heap.size + 1) (.slice none 0 0) (.slice none 0 0) := by rw [hW]; exact br.far _ (by omega)
  replace ba : Bx2 W w.heap.size (.slice AT T.length cT) (.slice AC C.length cC) := by rw [hW]; exact ba.far _ (by omega)
  replace bx : Bx2 W nb (.slice A1 us.length c1) (.slice (some ⟨g2, 0, none⟩) C.length c2) := by rw [hW]; exact bx.set0 _
  replace oC : W.ownsRow w2.heap.size 3 1 (.slice (some ⟨g2, 0, none⟩) C.length c2) C.length (cellsI C) := by rw [hW]; exact own_off2 oC (fun g h => by cases h; show g2 ≠ nb; omega)
  replace oT : W.ownsRow w4.heap.size 82 2 (.slice A1 us.length c1) us.length (cellsT us) := by rw [hW]; exact own_box oT (by omega)
  clear hW y0 fy x1
  have x1 := ba.c1
  have HC := Lib.hid (fun k (hk : k < C.length) => (show ∃ b o, AC = some ⟨b, o, none⟩ ∧ b < w.heap.size ∧ W.cell? ⟨b, o + k, none⟩ = some (.int .i64 C[k]) from by
    obtain ⟨b, o, h1, h2, h3⟩ := hC.at_ hk
    exact ⟨b, o, h1, h2, keepc hb (h3 k hk)⟩))
  have Hn6 := Lib.hid (fun (m : Nat) (hm' : m ≤ 9) => Hn.out m hm' W hb)
  clear hC Hn Con1 Con2 Con4 con3
  go_wp2
  clear x1
  go_loopw [31] (fun i wr => ∃ (k : Nat), k ≤ C.length ∧ i = .int .i64 k ∧ Bx2 wr nb (.slice A1 us.length c1) (.slice (some ⟨g2, 0, none⟩) C.length c2) ∧ wr.ownsRow w2.heap.size 3 1 (.slice (some ⟨g2, 0, none⟩) C.length c2) C.length (cellsI (cnMix C ns k)) ∧ W.grownBy wr (some g2)) (fun i _ => C.length - (intOf i).toNat)
  case atStart => exact ⟨0, Nat.zero_le _, rfl, bx, by rw [cnMix_zero]; exact oC, World.grownBy.refl _ _⟩
  case round =>
    obtain ⟨k, hk, rfl, bxr, own, hgr⟩ := hrel
    by_cases hlt : k < C.length
    · skip
      obtain ⟨bk, off, rfl, hbk, hc⟩ := HC.out k hlt
      have g1 := cell_grown hgr hc (by omega)
      have hgx := Hgap.out _ (List.getElem_mem hlt)
      have Keep := Lib.hid (fun h => cnMix_keep (ns := ns) hlt h)
      have Set := Lib.hid (fun h => cnMix_set (ns := ns) hlt h)
      have hml := cnMix_len (ns := ns) hk
      obtain ⟨x, hx⟩ : ∃ x, C[k] = x := ⟨_, rfl⟩
      rw [hx] at g1 hgx Keep Set
      clear hc hx
      by_cases h0 : x < 0
      · skip
        have f1 : (x != (-1 : Int)) = false := by rw [bne_eq_false_iff_eq]; exact (gapB_neg hgx).1 h0
        have Xst := Lib.hid (Keep.out h0)
        have Ho := Lib.hid own
        clear own h0 hml hgx Keep Set
        go_wp2
        go_roundw
        case rel => exact ⟨k + 1, by omega, by go_num, bxr, by rw [Xst.out]; exact Ho.out, hgr⟩
        case measure => simp [intOf]; omega
      · skip
        have f1 : (x != (-1 : Int)) = true := by rw [bne_iff_ne]; exact fun h => h0 ((gapB_neg hgx).2 h)
        have Xst := Lib.hid (Set.out h0)
        obtain ⟨m, hm9, rfl⟩ := numB_nat (gapB_num hgx (fun h => h0 ((gapB_neg hgx).2 h)))
        obtain ⟨bn, on, rfl, hbn, h3⟩ := Hn6.out m hm9
        have gp := cell_grown hgr h3 (by omega)
        obtain ⟨p, hp⟩ : ∃ p, nm ns (m : Int) = p := ⟨_, rfl⟩
        rw [hp] at gp
        have Xst2 := Xst.out
        rw [hp] at Xst2
        have XST := Lib.hid Xst2
        clear h3 hp Xst Xst2 h0 hgx Keep Set
        have ck : ∃ u, wr.cell? ⟨g2, k, none⟩ = some u := ⟨.int .i64 ((cnMix C ns k)[k]'(by omega)), (own.cellAt k (by omega)).trans (by simp [cellsI, hml, hlt])⟩
        obtain ⟨u, ck⟩ := ck
        have fk := own.frozenAt k
        have j0 : (0 : Int) ≤ (k : Int) := by omega
        have j1 : (k : Int) < (C.length : Int) := by omega
        have j2 : (0 : Int) ≤ (m : Int) := by omega
        have j3 : (m : Int) < (ns.length : Int) := by omega
        have m3 := (own.lt g2 rfl).2
        have m4 := bxr.lt
        have x1 := bxr.c1
        have Ho := Lib.hid own
        have Hbx := Lib.hid bxr
        clear own bxr hml
        go_wp2
        go_region
        go_wp2
        go_roundw
        case rel =>
          refine ⟨k + 1, by omega, by go_num, (Hbx.out.far _ (by omega)).drew, ?_, grown_drew (grown_set hgr _ _)⟩
          rw [XST.out]
          have h1 := (Ho.out.stored k (.int .i64 p)).1
          rw [show (cellsI (cnMix C ns k)).set k (.int .i64 p) = cellsI ((cnMix C ns k).set k p) by simp [cellsI]] at h1
          exact own_drew h1
        case measure => simp [intOf]; omega
    · skip
      have : k = C.length := by omega
      subst this
      rw [cnMix_all] at own
      have eD : (cnL C ns).length = C.length := by simp [cnL]
      have bR := br.of_block (hgr.block _ br.lt (fun e => by have := Option.some.inj e; omega))
      have x0 := bxr.c0
      have x1 := bxr.c1
      have y0 := bR.c0
      have y1 := bR.c1
      have f0 := bR.fz 0
      have f1 := bR.fz 1
      have m1 := bxr.lt
      have m2 := bR.lt
      have oT3 := oT.kept hgr (by
        cases hv : (Value.slice A1 us.length c1).ownBlock with
        | none => exact .inl rfl
        | some b => exact .inr fun e => by have := hTlo b hv; have := Option.some.inj e; omega)
      have OT := Lib.hid oT3
      have OC := Lib.hid own
      have HB := Lib.hid (hb.trans (below_of_grown hgr (by have := bx.lt; omega) (fun g h => by cases h; omega)))
      have apTC : ApG (.slice A1 us.length c1) (.slice (some ⟨g2, 0, none⟩) C.length c2) := fun g h1 h2 => by cases h2; have h3 : w4.heap.size ≤ g2 := hTlo _ h1; omega
      generalize cnL C ns = D at *
      have ED := Lib.hid eD
      clear oT3 own hb hgr bR bxr oT br bx eD oC ba HC Hn6 Hgap
      go_wp2
      refine bodyPost_ret (v := .tuple #[.agg #[.slice A1 us.length c1, .slice (some ⟨g2, 0, none⟩) C.length c2], .bool true]) (by simp [results, Try.results38, go_sem, y0, y1]) rfl ⟨A1, c1, some ⟨g2, 0, none⟩, c2, by rw [ED.out], ?_, below_box (below_box HB.out (by omega)) (by omega)⟩
      have oU := own_box (own_box OT.out (a := w.heap.size + 1) (j := 0) (u := .slice A1 us.length c1) (by omega)) (a := w.heap.size + 1) (j := 1) (u := .slice (some ⟨g2, 0, none⟩) C.length c2) (by omega)
      have oV := own_box (own_box OC.out (a := w.heap.size + 1) (j := 0) (u := .slice A1 us.length c1) (by omega)) (a := w.heap.size + 1) (j := 1) (u := .slice (some ⟨g2, 0, none⟩) C.length c2) (by omega)
      rw [ED.out]
      exact { f := own_base oU (by omega), r := own_base oV (by omega), hf := fun g h => (oU.lt g h).2, hr := fun g h => (oV.lt g h).2, fr := apTC }

end Go.Proofs.Ytjdnkcdnppcbhaa

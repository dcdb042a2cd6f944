/- Puzzles turned, the program. -/
import Derived.Test.YtjdnkcdnppcbhaaPzD
import Derived.Test.YtjdnkcdnppcbhaaPzT
import Derived.Deep.Cut
import Derived.BigQuiet
namespace Go.Proofs.Ytjdnkcdnppcbhaa
open Go.RowKit
set_option linter.unusedVariables false

set_option maxRecDepth 100000 in
set_option maxHeartbeats 2000000 in
theorem c_reverseA (base c : Nat) (A : Option Addr) (xs : List Int) (w : World) (hne : 0 < xs.length) (hl : xs.length ≤ 1048576) (ho : w.ownsRow base 3 1 (.slice A xs.length c) xs.length (cellsI xs)) :
    Calls Try.prog 86 #[.slice A xs.length c] w fun e w' => e = .returned (.tuple #[]) ∧ w'.ownsRow base 3 1 (.slice A xs.length c) xs.length (cellsI xs.reverse) ∧ w.grownBy w' (Value.slice A xs.length c).ownBlock := by
  obtain ⟨n, hn⟩ : ∃ n, xs.length = n + 1 := ⟨xs.length - 1, by omega⟩
  obtain ⟨g, rfl⟩ : ∃ g, A = some ⟨g, 0, none⟩ := by
    obtain ⟨_, ⟨hv, hz⟩ | ⟨g, cap, cur, hv, _⟩⟩ := ho
    · omega
    · injection hv with h1 h2 h3
      exact ⟨g, h1⟩
  have hbase := (ho.lt g rfl).1
  have Hn := Lib.hid hn
  have hl' : n ≤ 1048576 := by omega
  rw [hn] at ho ⊢
  clear hne hl hn
  go_enter Try.func86, Try.ntmps86
  go_wp2
  go_loopw [2, 3] (fun i j wr => ∃ (k m : Nat) (zs : List Int), k + m = n ∧ k ≤ m + 1 ∧ i = .int .i64 k ∧ j = .int .i64 m ∧ zs.length = n + 1 ∧ (∀ t, t < n + 1 → zs.getD t 0 = if t < k ∨ m < t then xs.getD (n - t) 0 else xs.getD t 0) ∧
      wr.ownsRow base 3 1 (.slice (some ⟨g, 0, none⟩) (n + 1) c) (n + 1) (cellsI zs) ∧ w.grownBy wr (some g)) (fun i _ _ => n + 1 - (intOf i).toNat)
  case atStart => exact ⟨0, n, xs, by omega, by omega, rfl, by go_num, Hn.out, fun t ht => by rw [if_neg (by omega)], ho, World.grownBy.refl _ _⟩
  case round =>
    clear ho
    obtain ⟨k, m, zs, hkm, hk, rfl, rfl, hz, hv, hown, hb⟩ := hrel
    by_cases hlt : k < m
    · have x1 := (hown.cellAt k (by omega)).trans (cellsI_get (zs := zs) (t := k) (by omega))
      have x2 := (hown.cellAt m (by omega)).trans (cellsI_get (zs := zs) (t := m) (by omega))
      have f1 := hown.frozenAt k
      have f2 := hown.frozenAt m
      have Hv := Lib.hid hv
      have Hz := Lib.hid hz
      have Hb := Lib.hid hb
      have Ho := Lib.hid hown
      have Hkm := Lib.hid hkm
      have i0 : (0 : Int) ≤ (k : Int) := by omega
      have i1 : (k : Int) < (n : Int) + 1 := by omega
      have i2 : (0 : Int) ≤ (m : Int) := by omega
      have i3 : (m : Int) < (n : Int) + 1 := by omega
      have i4 : (k : Int) < (m : Int) := by omega
      generalize hp : zs.getD k 0 = p at x1
      generalize hq : zs.getD m 0 = q at x2
      have Hp := Lib.hid hp
      have Hq := Lib.hid hq
      obtain ⟨v', hy⟩ := cell?_setCell_some (w := wr.drew) (p := ⟨g, k, none⟩) (x := .int .i64 q) (q := ⟨g, m, none⟩) (v := .int .i64 q) x2
      clear hv hz hown hb hkm hp hq
      go_wp2
      go_region
      go_wp2
      go_roundw
      case rel =>
        have hkm := Hkm.out
        have hz := Hz.out
        refine ⟨k + 1, m - 1, (zs.set k q).set m p, by omega, by omega, by go_num, by go_num, by simp [hz], fun t ht => ?_, ?_, grown_drew (grown_set (grown_set Hb.out _ _) _ _)⟩
        · rw [getD_set (by simp; omega), getD_set (by omega)]
          have h1 := Hv.out t ht
          have h2 := Hv.out k (by omega)
          have h3 := Hv.out m (by omega)
          rw [Hp.out, if_neg (by omega)] at h2
          rw [Hq.out, if_neg (by omega)] at h3
          by_cases e1 : t = m
          · rw [if_pos e1, if_pos (by omega), h2]
            congr 1
            omega
          · rw [if_neg e1]
            by_cases e2 : t = k
            · rw [if_pos e2, if_pos (by omega), h3]
              congr 1
              omega
            · rw [if_neg e2, h1]
              by_cases e3 : t < k ∨ m < t
              · rw [if_pos e3, if_pos (by omega)]
              · rw [if_neg e3, if_neg (by omega)]
        · rw [← cellsI_set, ← cellsI_set]
          exact own_drew (World.ownsRow.stored (Ho.out.stored _ _).1 _ _).1
      case measure => simp [intOf]; omega
    · have i4 : ¬ (k : Int) < (m : Int) := by omega
      have e : zs = xs.reverse := rev_pairs (by rw [hz, Hn.out]) (fun t ht => by
        have hl := Hn.out
        rw [hv t (by omega), show xs.length - 1 - t = n - t from by omega]
        split
        · rfl
        · rw [show n - t = t from by omega])
      subst e
      clear hv hz
      go_wp2
      go_end0
      exact ⟨rfl, hown, hb⟩

set_option maxRecDepth 100000 in
set_option maxHeartbeats 4000000 in
theorem c_implTurnPz (AT : Option Addr) (cT : Nat) (T : List (Int × Int)) (AC : Option Addr) (cC : Nat) (C : List Int) (w : World) (hT : RdT w AT T) (hC : RdI w AC C) (lT : T.length + C.length ≤ 1048576) :
    Calls Try.prog 36 #[.agg #[.slice AT T.length cT, .slice AC C.length cC]] w (RetPB w (selPT (pzB T C) T) (selPI (pzB T C) C.reverse) (pzB T C)) := by
  have conG := Lib.hid (fun W (hb : Below w.heap.size w W) => c_implIsPuzzle AT cT T AC cC C W (hT.below hb) (hC.below hb) lT)
  have con := Lib.hid (fun W (hb : Below w.heap.size w W) => c_copiedP AT cT T AC cC C W (hT.below hb) (hC.below hb) lT)
  clear hC hT
  cases h : pzB T C
  · have cg := conG.out
    simp only [h] at cg
    have Cg := Lib.hid cg
    clear cg conG con h
    show Calls _ _ _ _ (RetPB w [] [] false)
    go_enter Try.func36, Try.ntmps36
    go_upto_region 1 with (fail)
    obtain ⟨w0, hw0⟩ : ∃ w0, w0 = (w.alloc (.cells #[.slice AT T.length cT, .slice AC C.length cC] 30)).alloc (.cells #[.slice none 0 0, .slice none 0 0] 30) := ⟨_, rfl⟩
    rw [← hw0]
    have hs0 : w0.heap.size = w.heap.size + 2 := by rw [hw0]; simp
    have ba : Bx2 w0 w.heap.size (.slice AT T.length cT) (.slice AC C.length cC) := by rw [hw0]; exact (Bx2.fresh w _ _ _).more _
    have br : Bx2 w0 (w.heap.size + 1) (.slice none 0 0) (.slice none 0 0) := by
      have h1 := Bx2.fresh (w.alloc (.cells #[.slice AT T.length cT, .slice AC C.length cC] 30)) (.slice none 0 0) (.slice none 0 0) 30
      rw [World.size_alloc] at h1
      rw [hw0]; exact h1
    have hb : Below w.heap.size w w0 := by rw [hw0]; go_grown
    have nr : w.heap.size + 1 < w0.heap.size := br.lt
    clear hw0 hs0
    have x0 := ba.c0
    have x1 := ba.c1
    go_wp2_with fail
    refine (Cg.out _ hb).mono ?_
    rintro e w1 ⟨rfl, h1⟩
    have hb1 := bstep hb h1
    have br1 := br.keep h1
    clear x0 x1 ba br hb
    have y0 := br1.c0
    have y1 := br1.c1
    have f0 := br1.fz 0
    have f1 := br1.fz 1
    have m2 := br1.lt
    go_wp2
    refine bodyPost_ret (v := .tuple #[.agg #[.slice none 0 0, .slice none 0 0], .bool false]) (by simp [results, Try.results36, go_sem, y0, y1]) rfl ⟨none, 0, none, 0, rfl, OwnP.none_ _ _ _, ?_⟩
    exact below_box (below_box hb1 (by omega)) (by omega)
  have cg := conG.out
  simp only [h] at cg
  have Cg := Lib.hid cg
  obtain ⟨hp1, hp9, _, hC10, _, _⟩ := pzB_parts h
  have hposT : 0 < T.length := by omega
  have hposC : 0 < C.length := by omega
  clear cg conG h hC10
  show Calls _ _ _ _ (RetPB w T C.reverse true)
  go_enter Try.func36, Try.ntmps36
  go_upto_region 1 with (fail)
  obtain ⟨w0, hw0⟩ : ∃ w0, w0 = (w.alloc (.cells #[.slice AT T.length cT, .slice AC C.length cC] 30)).alloc (.cells #[.slice none 0 0, .slice none 0 0] 30) := ⟨_, rfl⟩
  rw [← hw0]
  have hs0 : w0.heap.size = w.heap.size + 2 := by rw [hw0]; simp
  have ba : Bx2 w0 w.heap.size (.slice AT T.length cT) (.slice AC C.length cC) := by rw [hw0]; exact (Bx2.fresh w _ _ _).more _
  have br : Bx2 w0 (w.heap.size + 1) (.slice none 0 0) (.slice none 0 0) := by
    have h1 := Bx2.fresh (w.alloc (.cells #[.slice AT T.length cT, .slice AC C.length cC] 30)) (.slice none 0 0) (.slice none 0 0) 30
    rw [World.size_alloc] at h1
    rw [hw0]; exact h1
  have hb : Below w.heap.size w w0 := by rw [hw0]; go_grown
  have nr : w.heap.size + 1 < w0.heap.size := br.lt
  clear hw0 hs0
  have x0 := ba.c0
  have x1 := ba.c1
  go_wp2_with fail
  refine (Cg.out _ hb).mono ?_
  rintro e w1 ⟨rfl, h1⟩
  replace hb := bstep hb h1
  replace br := br.keep h1
  replace ba := ba.keep h1
  clear x0 x1 nr
  have nr := br.lt
  have x0 := ba.c0
  have x1 := ba.c1
  go_wp2_with fail
  refine (con.out _ hb).mono ?_
  rintro e w2 ⟨A1, c1, A2, c2, rfl, oP, h2⟩
  replace hb := bstep hb h2
  replace br := br.keep h2
  have z2 := h2.size
  clear x0 x1 ba h1 h2
  go_upto_region 4 with (fail)
  obtain ⟨W, hW⟩ : ∃ W, W = w2.alloc (.cells #[.slice A1 T.length c1, .slice A2 C.length c2] 30) := ⟨_, rfl⟩
  rw [← hW]
  have hv : Below w2.heap.size w2 W := by rw [hW]; exact (Below.refl _ _).alloc (Nat.le_refl _) _
  have bX : Bx2 W w2.heap.size (.slice A1 T.length c1) (.slice A2 C.length c2) := by rw [hW]; exact Bx2.fresh w2 _ _ _
  clear hW
  have nb1 := fun g (hg : (Value.slice A2 C.length c2).ownBlock = some g) => (oP.r.lt g hg).2
  have m1 : w1.heap.size ≤ w2.heap.size := z2
  replace hb := bstep hb hv
  replace br := br.keep hv
  replace oP := oP.below hv (Nat.le_refl _)
  clear hv
  have x0 := bX.c0
  have x1 := bX.c1
  go_wp2_with fail
  refine (c_reverseA w1.heap.size c2 A2 C W hposC (by omega) oP.r).mono ?_
  rintro e w4 ⟨rfl, oC, hg⟩
  have z4 := hg.size
  have hnb : ∀ g, (Value.slice A2 C.length c2).ownBlock = some g → w1.heap.size ≤ g := fun g h => (oP.r.lt g h).1
  have oT := oP.f.kept hg oP.fr.kept
  replace hb := hb.trans (below_of_grown hg (by have := bX.lt; omega) (fun g h => by have := hnb g h; omega))
  replace bX := bX.of_block (hg.block _ bX.lt (fun e => by have := nb1 _ e.symm; omega))
  replace br := br.of_block (hg.block _ br.lt (fun e => by have := hnb _ e.symm; omega))
  have apTC := oP.fr
  clear x0 x1 oP hg
  have x0 := bX.c0
  have x1 := bX.c1
  have y0 := br.c0
  have y1 := br.c1
  have f0 := br.fz 0
  have f1 := br.fz 1
  have m2 := br.lt
  have m3 := bX.lt
  have OT := Lib.hid oT
  have OC := Lib.hid oC
  have HB := Lib.hid hb
  clear oT oC hb bX br
  go_wp2
  refine bodyPost_ret (v := .tuple #[.agg #[.slice A1 T.length c1, .slice A2 C.length c2], .bool true]) (by simp [results, Try.results36, go_sem, y0, y1]) rfl ⟨A1, c1, A2, c2, by rw [List.length_reverse], ?_, below_box (below_box HB.out (by omega)) (by omega)⟩
  have oT2 := own_box (own_box (own_base (b' := w.heap.size + 2) OT.out (by omega)) (a := w.heap.size + 1) (j := 0) (u := .slice A1 T.length c1) (by omega)) (a := w.heap.size + 1) (j := 1) (u := .slice A2 C.length c2) (by omega)
  have oC2 := own_box (own_box (own_base (b' := w.heap.size + 2) OC.out (by omega)) (a := w.heap.size + 1) (j := 0) (u := .slice A1 T.length c1) (by omega)) (a := w.heap.size + 1) (j := 1) (u := .slice A2 C.length c2) (by omega)
  rw [List.length_reverse]
  exact { f := own_base oT2 (by omega), r := own_base oC2 (by omega), hf := fun g h => (oT2.lt g h).2, hr := fun g h => (oC2.lt g h).2, fr := apTC }

end Go.Proofs.Ytjdnkcdnppcbhaa

/- Texts of puzzles read: the program. -/
import Derived.Test.YtjdnkcdnppcbhabDoorPzP
import Derived.Test.YtjdnkcdnppcbhabDoorPzI
import Derived.Deep.Cut
import Derived.BigQuiet
import Derived.Lib.CutLaws
import Derived.WalkSmall
namespace Go.Proofs.YtjdnkcdnppcbhabDoor
open Go.RowKit
set_option linter.unusedVariables false

theorem pA_size (s : ByteArray) : (pA s).size ≤ s.size ∧ (pBB s).size ≤ s.size := by
  rcases ix_cases 58 s.data.toList with ⟨h1, _⟩ | ⟨j, h1, h0, h2, h3⟩
  · have hc := Lib.cutB_miss s colon (by rw [ix_colon, h1])
    rw [show pA s = s from hc.1, show pBB s = ByteArray.empty from hc.2.1]
    exact ⟨Nat.le_refl _, Nat.zero_le _⟩
  · have h := Lib.cutB_hit s colon j (by rw [ix_colon, h1])
    rw [show pA s = s.extract 0 j from h.1, show pBB s = s.extract (j + 1) s.size from h.2.1, ByteArray.size_extract, ByteArray.size_extract]
    omega
theorem chV_bd (u : UInt8) : -48 ≤ chV u ∧ chV u ≤ 207 := by
  have := u.toNat_lt
  unfold chV
  split <;> omega
theorem own_notP {v : Value} {m g : Nat} (h : ∀ b, v.ownBlock = some b → b < m) (hg : m ≤ g) : v.ownBlock = none ∨ v.ownBlock ≠ some g := by
  cases hv : v.ownBlock with
  | none => exact .inl rfl
  | some b => exact .inr fun e => by have := h b hv; have := Option.some.inj e; omega

theorem c_implParseP (s : ByteArray) (m : Int) {w0 w : World} (hm : w0.cell? ⟨0, 0, none⟩ = some (.int .i64 m)) (hb : Below w0.heap.size w0 w) (hl : s.size ≤ 1048576) :
    Calls Tryd.prog 26 #[.string s] w (RetT w (parseHL s) (parseB s)) :=
  c_implParseH s m w (keepc hb hm) hl
theorem parseHL_lenP (s : ByteArray) : (parseHL s).length ≤ 1000 := by
  unfold parseHL
  split
  · simp
  · split
    · rename_i h
      unfold parseHB at h
      rw [Bool.and_eq_true] at h
      have := (hd_good h.2).1
      omega
    · simp

set_option maxRecDepth 100000 in
set_option maxHeartbeats 4000000 in
theorem c_parsePlace (u : UInt8) (w : World) :
    Calls Tryd.prog 27 #[.int .u8 (u.toNat : Int)] w fun e w' => e = .returned (.tuple #[.int .i64 (chV u), .bool (okCh u)]) ∧ w = w' := by
  have hu := u.toNat_lt
  by_cases h : u = 46
  · have e1 : chV u = -1 := if_pos h
    have e2 : okCh u = true := by rw [h]; decide
    have hx : ((u.toNat : Int) == 46) = true := by rw [h]; decide
    have hx2 : (u.toNat : Int) = 46 := by rw [h]; decide
    rw [e1, e2]
    clear e1 e2 h
    go_enter Tryd.func27, Tryd.ntmps27
    go_wp2
    go_ret2
    exact ⟨rfl, rfl⟩
  · have hx : ¬ (u.toNat : Int) = 46 := fun e => h (UInt8.toNat_inj.1 (by show u.toNat = 46; omega))
    have e1 : chV u = (u.toNat : Int) - 48 := if_neg h
    have e2 : okCh u = numB ((u.toNat : Int) - 48) := by
      unfold okCh numB
      rw [show (u == 46) = false from beq_eq_false_iff_ne.2 h, Bool.false_or]
      congr 1 <;> (rw [decide_eq_decide]; omega)
    have wx : IntKind.i64.wrap (u.toNat : Int) = (u.toNat : Int) := IntWalk.i64_in _ (by omega)
    have wy : IntKind.i64.wrap ((u.toNat : Int) - 48) = (u.toNat : Int) - 48 := IntWalk.i64_in _ (by omega)
    have con := Lib.hid (fun W => c_isNumber ((u.toNat : Int) - 48) W)
    rw [e1, e2]
    clear e1 e2 h
    go_enter Tryd.func27, Tryd.ntmps27
    go_wp2_with (go_at_call 39; refine (con.out _).mono ?_; rintro e w' ⟨rfl, rfl⟩)
    go_ret2
    exact ⟨rfl, rfl⟩

set_option maxRecDepth 100000 in
set_option maxHeartbeats 16000000 in
theorem c_implParsePz (s : ByteArray) (m : Int) (w : World) (hm : w.cell? ⟨0, 0, none⟩ = some (.int .i64 m)) (hl : s.size ≤ 1048576) :
    Calls Tryd.prog 11 #[.string s] w (RetPB w (parPT s) (parPC s) (parPB s)) := by
  obtain ⟨hsA, hsB⟩ := pA_size s
  have conC : ∀ W, Below w.heap.size w W → Calls Tryd.prog 25 #[.string s, .string ⟨#[58]⟩] W fun e w' => e = .returned (.tuple #[.string (pA s), .string (pBB s), .bool (Lib.cut s.data.toList [58]).2.2]) ∧ ∃ n, w' = W.drewN n := fun W hb => Tryd.strings_Cut s ⟨#[58]⟩ m W (by omega) (keepc hb hm)
  generalize (Lib.cut s.data.toList [58]).2.2 = fd at conC
  have conH := fun W (hb : Below w.heap.size w W) => c_implParseP (pA s) m (w0 := w) (w := W) hm hb (by omega)
  have hbad : parPB s = false → (parPT s = [] ∧ parPC s = [] ∧ parPB s = false) := fun h => ⟨by unfold parPT; rw [h]; rfl, by unfold parPC; rw [h]; rfl, h⟩
  cases h1 : parseB (pA s)
  · have hB : parPB s = false := by unfold parPB; rw [h1]; rfl
    obtain ⟨e1, e2, _⟩ := hbad hB
    rw [hB, e1, e2]
    simp only [h1] at conH
    clear hbad hB e1 e2 h1 hm hsA hsB
    generalize parseHL (pA s) = T at *
    generalize pA s = X at *
    generalize pBB s = Y at *
    have ConC := Lib.hid conC
    have ConH := Lib.hid conH
    clear conC conH
    show Calls _ _ _ _ (RetPB w [] [] false)
    go_enter Tryd.func11, Tryd.ntmps11
    go_wp2_with fail
    obtain ⟨w0, hw0⟩ : ∃ w0, w0 = w.alloc (.cells #[.slice none 0 0, .slice none 0 0] 31) := ⟨_, rfl⟩
    rw [← hw0]
    have br : Bx2 w0 w.heap.size (.slice none 0 0) (.slice none 0 0) := by rw [hw0]; exact Bx2.fresh w _ _ _
    have hb : Below w.heap.size w w0 := by rw [hw0]; go_grown
    clear hw0
    refine (ConC.out _ hb).mono ?_
    rintro e' w1 ⟨rfl, nn, hw1⟩
    have h1 : Below w0.heap.size w0 w1 := by rw [hw1]; exact below_drewN (Below.refl _ _) nn
    replace hb := bstep hb h1
    replace br := br.keep h1
    clear h1 hw1
    go_wp2_with fail
    refine (ConH.out _ hb).mono ?_
    rintro e' w2 ⟨U, cU, rfl, oU, h2⟩
    replace hb := bstep hb h2
    replace br := br.keep h2
    clear h2 oU
    have y0 := br.c0
    have y1 := br.c1
    have f0 := br.fz 0
    have f1 := br.fz 1
    have nr := br.lt
    have HB := Lib.hid hb
    clear hb br
    go_wp2
    refine bodyPost_ret (v := .tuple #[.agg #[.slice none 0 0, .slice none 0 0], .bool false]) (by simp [results, Tryd.results11, go_sem, y0, y1]) rfl ⟨none, 0, none, 0, rfl, OwnP.none_ _ _ _, below_box (below_box HB.out (by omega)) (by omega)⟩
  simp only [h1] at conH
  by_cases h2 : (10 : Int) < ((pBB s).size : Int)
  · have hB : parPB s = false := by unfold parPB; rw [h1, decide_eq_false (show ¬ (pBB s).size ≤ 10 by omega)]; rfl
    obtain ⟨e1, e2, _⟩ := hbad hB
    rw [hB, e1, e2]
    clear hbad hB e1 e2 h1 hm hsA hsB
    generalize parseHL (pA s) = T at *
    generalize pA s = X at *
    generalize pBB s = Y at *
    have ConC := Lib.hid conC
    have ConH := Lib.hid conH
    clear conC conH
    show Calls _ _ _ _ (RetPB w [] [] false)
    go_enter Tryd.func11, Tryd.ntmps11
    go_wp2_with fail
    obtain ⟨w0, hw0⟩ : ∃ w0, w0 = w.alloc (.cells #[.slice none 0 0, .slice none 0 0] 31) := ⟨_, rfl⟩
    rw [← hw0]
    have br : Bx2 w0 w.heap.size (.slice none 0 0) (.slice none 0 0) := by rw [hw0]; exact Bx2.fresh w _ _ _
    have hb : Below w.heap.size w w0 := by rw [hw0]; go_grown
    clear hw0
    refine (ConC.out _ hb).mono ?_
    rintro e' w1 ⟨rfl, nn, hw1⟩
    have h1 : Below w0.heap.size w0 w1 := by rw [hw1]; exact below_drewN (Below.refl _ _) nn
    replace hb := bstep hb h1
    replace br := br.keep h1
    clear h1 hw1
    go_wp2_with fail
    refine (ConH.out _ hb).mono ?_
    rintro e' w2 ⟨U, cU, rfl, oU, hb2⟩
    replace hb := bstep hb hb2
    replace br := br.keep hb2
    clear hb2 oU
    have y0 := br.c0
    have y1 := br.c1
    have f0 := br.fz 0
    have f1 := br.fz 1
    have nr := br.lt
    have HB := Lib.hid hb
    clear hb br
    go_wp2
    refine bodyPost_ret (v := .tuple #[.agg #[.slice none 0 0, .slice none 0 0], .bool false]) (by simp [results, Tryd.results11, go_sem, y0, y1]) rfl ⟨none, 0, none, 0, rfl, OwnP.none_ _ _ _, below_box (below_box HB.out (by omega)) (by omega)⟩
  have h10 : (pBB s).size ≤ 10 := by omega
  have h4 : parPB s = ((pB s).all okCh && pzB (parseHL (pA s)) ((pB s).map chV)) := by unfold parPB; rw [h1, decide_eq_true h10]; rfl
  have h5 : parPB s = true → parPT s = parseHL (pA s) ∧ parPC s = (pB s).map chV := fun h => ⟨by unfold parPT; rw [h]; rfl, by unfold parPC; rw [h]; rfl⟩
  have hTl := parseHL_lenP (pA s)
  have hul := pB_len s
  have hY : ∀ k (hk : k < (pBB s).size), (pB s)[k]? = some (pBB s)[k] := fun k hk => by
    rw [List.getElem?_eq_getElem (show k < (pB s).length by omega)]
    rfl
  obtain ⟨i0, hi, hz0, hz1, hz2⟩ := info_parts Tryd.info_int
  clear h1 hm hsA hsB
  generalize parseHL (pA s) = T at *
  generalize pA s = X at *
  generalize pB s = us at *
  generalize pBB s = Y at *
  obtain ⟨D, hD⟩ : ∃ D, D = us.map chV := ⟨_, rfl⟩
  rw [← hD] at h4 h5
  have hDl : D.length = Y.size := by rw [hD, List.length_map, hul]
  have hz3 : cellsI (copyI 0 D) = (madeCells (Value.int .i64 0).cells (Y.size * 1)).toList := by rw [← hDl]; exact copyI_zero D
  have Hs := Lib.hid (fun k (hk : k < Y.size) (h : okCh Y[k] = true) (hp : ∀ u ∈ us.take k, okCh u = true) => (show ∀ u ∈ us.take (k + 1), okCh u = true from by
    obtain ⟨hk2, e⟩ := List.getElem?_eq_some_iff.1 (hY k hk)
    rw [List.take_succ_eq_append_getElem hk2]
    intro b hb'
    rcases List.mem_append.1 hb' with h' | h'
    · exact hp b h'
    · rw [List.mem_singleton.1 h', e]; exact h))
  have Hn := Lib.hid (fun k (hk : k < Y.size) (h : okCh Y[k] = false) => (show parPB s = false from by
    obtain ⟨hk2, e⟩ := List.getElem?_eq_some_iff.1 (hY k hk)
    rw [h4]
    have : us.all okCh = false := by
      cases ha : us.all okCh
      · rfl
      · have := List.all_eq_true.1 ha _ (List.getElem_mem hk2)
        rw [e, h] at this
        cases this
    rw [this]; rfl))
  have Hst := Lib.hid (fun k (hk : k < Y.size) => (show (cellsI (copyI k D)).set k (.int .i64 (chV Y[k])) = cellsI (copyI (k + 1) D) from by
    obtain ⟨hk2, e⟩ := List.getElem?_eq_some_iff.1 (hY k hk)
    have h := copyI_step (xs := D) (k := k) (by omega)
    rw [← h]
    congr 2
    simp [hD, e]))
  have Hbad := Lib.hid hbad
  have H4 := Lib.hid (fun (h : ∀ u ∈ us.take Y.size, okCh u = true) => (show parPB s = pzB T D from by
    rw [h4]
    rw [← hul, List.take_length] at h
    rw [show us.all okCh = true from List.all_eq_true.2 h]; rfl))
  have H5 := Lib.hid h5
  have ConC := Lib.hid conC
  have ConH := Lib.hid conH
  have Hz3 := Lib.hid hz3
  have hD1 : D.length ≤ Y.size := by omega
  have hD2 : Y.size ≤ D.length := by omega
  have HDl := Lib.hid hDl
  clear conC conH hbad h4 h5 hY hD hul h2 hz3 hDl
  go_enter Tryd.func11, Tryd.ntmps11
  go_wp2_with fail
  obtain ⟨w0, hw0⟩ : ∃ w0, w0 = w.alloc (.cells #[.slice none 0 0, .slice none 0 0] 31) := ⟨_, rfl⟩
  rw [← hw0]
  have br : Bx2 w0 w.heap.size (.slice none 0 0) (.slice none 0 0) := by rw [hw0]; exact Bx2.fresh w _ _ _
  have hb : Below w.heap.size w w0 := by rw [hw0]; go_grown
  clear hw0
  refine (ConC.out _ hb).mono ?_
  rintro e' w1 ⟨rfl, nn, hw1⟩
  have h1 : Below w0.heap.size w0 w1 := by rw [hw1]; exact below_drewN (Below.refl _ _) nn
  replace hb := bstep hb h1
  replace br := br.keep h1
  clear h1 hw1
  go_wp2_with fail
  refine (ConH.out _ hb).mono ?_
  rintro e' w2 ⟨A1, c1, rfl, oT, h2⟩
  have nr0 := br.lt
  replace hb := bstep hb h2
  replace br := br.keep h2
  have oT1 := own_base (b' := w.heap.size + 1) oT (by omega)
  clear h2 oT
  go_upto_region 6 with (refine wpList_make_full _ rfl _ _ _ rfl w2.heap.size 3 i0 _ 1 Tryd.underlying23 hi hz0 hz1 .i64 .i64 _ _ Y.size rfl rfl rfl rfl (by rw [hz2]; omega) (by unfold maxLen; omega) (Nat.le_refl _) ?_; intro w3 hown3 hg3)
  have hb23 := below_of_grown hg3 (Nat.le_refl _) (by simp)
  have hT2 : ∀ g, (Value.slice A1 T.length c1).ownBlock = some g → g < w2.heap.size := fun g hg => (oT1.lt g hg).2
  have nr1 := br.lt
  rw [← Hz3.out] at hown3
  obtain ⟨G, hG⟩ : ∃ G, G = w2.heap.size := ⟨_, rfl⟩
  have hGw : w.heap.size < G := by omega
  rw [← hG] at hown3 hT2 ⊢
  replace hb := bstep hb hb23
  replace br := br.keep hb23
  replace oT1 := own_keep oT1 hb23
  have hG3 : G < w3.heap.size := (hown3.lt G rfl).2
  clear hg3 hb23 hz0 hz1 hz2 hi hG nr0 nr1
  obtain ⟨nb, hnb⟩ : ∃ nb, nb = w3.heap.size := ⟨_, rfl⟩
  obtain ⟨w4, hw4⟩ : ∃ w4, w4 = w3.alloc (.cells #[.slice A1 T.length c1, .slice (some ⟨G, 0, none⟩) Y.size Y.size] 31) := ⟨_, rfl⟩
  rw [← hw4]
  have h4 : Below w3.heap.size w3 w4 := by rw [hw4]; exact (Below.refl _ _).alloc (Nat.le_refl _) _
  have bx : Bx2 w4 nb (.slice A1 T.length c1) (.slice (some ⟨G, 0, none⟩) Y.size Y.size) := by rw [hw4, hnb]; exact Bx2.fresh w3 _ _ _
  rw [← HDl.out] at bx hown3
  rw [← hnb]
  have hGn : G < nb := by omega
  replace hb := bstep hb h4
  replace br := br.keep h4
  have oT2 := own_keep oT1 h4
  have oC2 := own_keep hown3 h4
  clear hw4 hnb h4 oT1 hown3 hG3
  have x1 := bx.c1
  have z4n : nb < w4.heap.size := bx.lt
  go_wp2
  go_loopw [38] (fun i wr => ∃ (k : Nat), k ≤ D.length ∧ i = .int .i64 k ∧ (∀ u ∈ us.take k, okCh u = true) ∧ Bx2 wr nb (.slice A1 T.length c1) (.slice (some ⟨G, 0, none⟩) D.length D.length) ∧ wr.ownsRow G 3 1 (.slice (some ⟨G, 0, none⟩) D.length D.length) D.length (cellsI (copyI k D)) ∧ w4.grownBy wr (some G)) (fun i _ => D.length - (intOf i).toNat)
  case atStart => exact ⟨0, Nat.zero_le _, rfl, by simp, bx, oC2, World.grownBy.refl _ _⟩
  case round =>
    clear x1
    obtain ⟨k, hk, rfl, hall, bxr, own, hgr⟩ := hrel
    by_cases hlt : k < D.length
    · have x1 := bxr.c1
      have hkY : k < Y.size := by omega
      have hml := copyI_length (xs := D) hk
      have ck : ∃ u, wr.cell? ⟨G, k, none⟩ = some u := ⟨.int .i64 ((copyI k D)[k]'(by omega)), (own.cellAt k (by omega)).trans (by simp [cellsI, hml, hlt])⟩
      obtain ⟨u, ck⟩ := ck
      have fk := own.frozenAt k
      have j0 : (0 : Int) ≤ (k : Int) := by omega
      have j1 : (k : Int) < (D.length : Int) := by omega
      have j2 : (k : Int) < (Y.size : Int) := by omega
      have hst := Hst.out k hkY
      have hs := Hs.out k hkY
      have hn := Hn.out k hkY
      have conP := fun W => c_parsePlace Y[k] W
      obtain ⟨x, hx⟩ : ∃ x, chV Y[k] = x := ⟨_, rfl⟩
      rw [hx] at hst
      simp only [hx] at conP
      have Ho := Lib.hid own
      have Hbx := Lib.hid bxr
      have Hst1 := Lib.hid hst
      have m4 := bxr.lt
      have xs1 : (wr.setCell ⟨G, k, none⟩ (.int .i64 x)).drew.cell? ⟨nb, 1, none⟩ = some (.slice (some ⟨G, 0, none⟩) D.length D.length) := (bxr.far (.int .i64 x) (show nb ≠ G by omega)).c1
      clear own bxr hml hst hx
      obtain ⟨okb, hokb⟩ : ∃ b, okCh Y[k] = b := ⟨_, rfl⟩
      simp only [hokb] at conP hs hn
      have ConP := Lib.hid conP
      clear conP hokb
      go_wp2_with fail
      go_region_held3 (fun w' => w'.cell? ⟨nb, 1, none⟩ = some (.slice (some ⟨G, 0, none⟩) D.length D.length)) (first | exact x1 | exact xs1 | go_keep) (first | (go_at_call 27; refine (ConP.out _).mono ?_; rintro e w' ⟨rfl, rfl⟩))
      cases okb
      · have Bad := Lib.hid (Hbad.out (hn rfl))
        clear hs hn hall ConP
        have hgr5 := grown_drew (grown_set hgr k (.int .i64 x))
        obtain ⟨w6, hw6⟩ : ∃ w6, w6 = (wr.setCell ⟨G, k, none⟩ (.int .i64 x)).drew := ⟨_, rfl⟩
        rw [← hw6] at hgr5 ⊢
        have bR := br.of_block (hgr5.block _ br.lt (fun e => by have := Option.some.inj e; omega))
        have HB := Lib.hid (hb.trans (below_of_grown hgr5 (by omega) (fun g h => by cases h; omega)))
        have y0 := bR.c0
        have y1 := bR.c1
        have f0 := bR.fz 0
        have f1 := bR.fz 1
        have nr := bR.lt
        clear hw6 hgr5 hgr bR hb br Ho Hbx bx oT2 oC2 x1 xs1 ck fk
        go_wp2
        refine bodyPost_ret (v := .tuple #[.agg #[.slice none 0 0, .slice none 0 0], .bool false]) (by simp [results, Tryd.results11, go_sem, y0, y1]) rfl ?_
        rw [Bad.out.1, Bad.out.2.1, Bad.out.2.2]
        exact ⟨none, 0, none, 0, rfl, OwnP.none_ _ _ _, below_box (below_box HB.out (by omega)) (by omega)⟩
      · have Hall := Lib.hid (hs rfl hall)
        clear hs hn hall ConP
        go_wp2
        go_roundw
        case rel =>
          refine ⟨k + 1, by omega, by go_num, Hall.out, (Hbx.out.far _ (by omega)).drew, ?_, grown_drew (grown_set hgr _ _)⟩
          have h1 := (Ho.out.stored k (.int .i64 x)).1
          rw [Hst1.out] at h1
          exact own_drew h1
        case measure => simp [intOf]; omega
    · have : k = D.length := by omega
      subst this
      rw [copyI_all] at own
      have eB := H4.out (by rw [← HDl.out]; exact hall)
      have hTr := oT2.kept hgr (own_notP hT2 (Nat.le_refl _))
      have hb4 := hb.trans (below_of_grown hgr (by omega) (fun g h => by cases h; omega))
      have con := c_implIsPuzzle A1 c1 T (some ⟨G, 0, none⟩) D.length D wr (RdT.of_own hTr) (RdI.of_own own) (by omega)
      have x0 := bxr.c0
      have x1 := bxr.c1
      have bR := br.of_block (hgr.block _ br.lt (fun e => by have := Option.some.inj e; omega))
      have OT := Lib.hid hTr
      have OC := Lib.hid own
      have HB0 := Lib.hid hb4
      have apTC : ApG (.slice A1 T.length c1) (.slice (some ⟨G, 0, none⟩) D.length D.length) := ApG.of_lt (m := G) hT2 (fun g hg => by cases hg; show G ≤ G; omega)
      clear hTr own hb4 hb hgr hall oT2 oC2 bx br Hs Hn Hst H4
      cases hp : pzB T D
      · rw [hp] at eB con
        have Bad := Lib.hid (Hbad.out eB)
        have Con := Lib.hid con
        clear eB con hp
        go_wp2_with fail
        refine Con.out.mono ?_
        rintro e' w6 ⟨rfl, h6⟩
        have HB := Lib.hid (bstep HB0.out h6)
        replace bR := bR.keep h6
        clear h6 x0 x1 bxr
        have y0 := bR.c0
        have y1 := bR.c1
        have f0 := bR.fz 0
        have f1 := bR.fz 1
        have nr := bR.lt
        clear bR
        go_wp2
        refine bodyPost_ret (v := .tuple #[.agg #[.slice none 0 0, .slice none 0 0], .bool false]) (by simp [results, Tryd.results11, go_sem, y0, y1]) rfl ?_
        rw [Bad.out.1, Bad.out.2.1, Bad.out.2.2]
        exact ⟨none, 0, none, 0, rfl, OwnP.none_ _ _ _, below_box (below_box HB.out (by omega)) (by omega)⟩

      · rw [hp] at eB con
        have E5 := Lib.hid (H5.out eB)
        have EB := Lib.hid eB
        have Con := Lib.hid con
        clear eB con hp
        go_wp2_with fail
        refine Con.out.mono ?_
        rintro e' w6 ⟨rfl, h6⟩
        have HB := Lib.hid (bstep HB0.out h6)
        replace bR := bR.keep h6
        have bx6 := bxr.keep h6
        have OT6 := Lib.hid (own_keep OT.out h6)
        have OC6 := Lib.hid (own_keep OC.out h6)
        clear h6 x0 x1 bxr
        have x0 := bx6.c0
        have x1 := bx6.c1
        have y0 := bR.c0
        have y1 := bR.c1
        have f0 := bR.fz 0
        have f1 := bR.fz 1
        have nr := bR.lt
        have nx := bx6.lt
        clear bR bx6
        go_wp2
        refine bodyPost_ret (v := .tuple #[.agg #[.slice A1 T.length c1, .slice (some ⟨G, 0, none⟩) D.length D.length], .bool true]) (by simp [results, Tryd.results11, go_sem, y0, y1]) rfl ?_
        rw [E5.out.1, E5.out.2, EB.out]
        refine ⟨A1, c1, some ⟨G, 0, none⟩, D.length, rfl, ?_, below_box (below_box HB.out (by omega)) (by omega)⟩
        have oU := own_box (own_box OT6.out (a := w.heap.size) (j := 0) (u := .slice A1 T.length c1) (by omega)) (a := w.heap.size) (j := 1) (u := .slice (some ⟨G, 0, none⟩) D.length D.length) (by omega)
        have oV := own_box (own_box OC6.out (a := w.heap.size) (j := 0) (u := .slice A1 T.length c1) (by omega)) (a := w.heap.size) (j := 1) (u := .slice (some ⟨G, 0, none⟩) D.length D.length) (by omega)
        exact { f := own_base oU (by omega), r := own_base oV (by omega), hf := fun g h => (oU.lt g h).2, hr := fun g h => (oV.lt g h).2, fr := apTC }

end Go.Proofs.YtjdnkcdnppcbhabDoor

/- Texts of puzzles read: the specification. -/
import Derived.Test.YtjdnkcdnppcbhabDoorPzP
import Derived.Test.YtjdnkcdnppcbhabDoorPzY
import Derived.Test.YtjdnkcdnppcbhabDoorRegK
import Derived.Deep.Cut
import Derived.BigQuiet
import Derived.Deep.CutBlock
namespace Go.Proofs.YtjdnkcdnppcbhabDoor
open Go.RowKit
set_option linter.unusedVariables false

theorem parseHL_lenS (s : ByteArray) : (parseHL s).length ≤ 1000 := by
  unfold parseHL
  split
  · simp
  · split
    · rename_i h
      unfold parseHB at h
      rw [Bool.and_eq_true] at h
      have := (hd_good h.2).1
      omega
    · simp
theorem pB_drop {s : ByteArray} {j : Nat} (hi : j < s.size) (hx : s[j] = 58) (hn : 58 ∉ s.data.toList.take j) : pB s = s.data.toList.drop (j + 1) := by
  unfold pB
  rw [(par_hit hi hx hn).2, Lib.extract_to_end]
theorem pB_at {s : ByteArray} {j q : Nat} (hi : j < s.size) (hx : s[j] = 58) (hn : 58 ∉ s.data.toList.take j) (h1 : j + 1 ≤ q) (h2 : q < s.size) : (pB s)[q - (j + 1)]? = some s[q] := by
  rw [pB_drop hi hx hn, List.getElem?_drop, show j + 1 + (q - (j + 1)) = q by omega]
  rw [List.getElem?_eq_getElem (by simpa using h2)]
  rfl
theorem own_capP {w : World} {base e size n : Nat} {A : Option Addr} {c : Nat} {cs : List Value} (h : w.ownsRow base e size (.slice A n c) n cs) : n ≤ c := own_capH h
theorem chV_gap {u : UInt8} (h : (u.toNat : Int) = 46) : okCh u = true ∧ chV u = -1 := by
  have e : u = 46 := UInt8.toNat_inj.1 (by show u.toNat = 46; omega)
  subst e
  exact ⟨by decide, by decide⟩
theorem chV_dig {u : UInt8} (h1 : 48 ≤ (u.toNat : Int)) (h2 : (u.toNat : Int) ≤ 57) : okCh u = true ∧ chV u = (u.toNat : Int) - 48 := by
  have e : u ≠ 46 := fun e => by subst e; exact absurd h1 (by decide)
  refine ⟨?_, if_neg e⟩
  unfold okCh
  rw [decide_eq_true (show 48 ≤ u.toNat by omega), decide_eq_true (show u.toNat ≤ 57 by omega)]
  simp
theorem chV_bad {u : UInt8} (h0 : ¬ (u.toNat : Int) = 46) (h : (u.toNat : Int) < 48 ∨ 57 < (u.toNat : Int)) : okCh u = false := by
  have e : u ≠ 46 := fun e => by subst e; exact h0 (by decide)
  unfold okCh
  rw [beq_eq_false_iff_ne.2 e, Bool.false_or, Bool.and_eq_false_iff, decide_eq_false_iff_not, decide_eq_false_iff_not]
  omega

set_option maxRecDepth 100000 in
set_option maxHeartbeats 16000000 in
theorem c_pzParse_none (s : ByteArray) (w : World) (hl : s.size ≤ 1048576) (hno : 58 ∉ s.data.toList.take 37) :
    Calls Tryd.prog 24 #[.string s] w (RetPB w (parPT s) (parPC s) (parPB s)) := by
  have hB := par_far hno
  have e1 : parPT s = [] := by unfold parPT; rw [hB]; rfl
  have e2 : parPC s = [] := by unfold parPC; rw [hB]; rfl
  rw [hB, e1, e2]
  have Hx := Lib.hid (fun k (hk : k < s.size) (h : k ≤ 36) => (show ¬ (s[k].toNat : Int) = 58 from fun e => hno (by
    have e2 : s[k] = 58 := UInt8.toNat_inj.1 (by show s[k].toNat = 58; omega)
    have hk2 : k < s.data.toList.length := by simpa using hk
    have e3 : s.data.toList[k] = 58 := by rw [← e2]; rfl
    rw [← e3]
    exact List.mem_take_iff_getElem.2 ⟨k, by omega, rfl⟩)))
  clear hB e1 e2 hno
  show Calls _ _ _ _ (RetPB w [] [] false)
  go_enter Tryd.func24, Tryd.ntmps24
  go_upto_block 0 with (fail)
  obtain ⟨w0, hw0⟩ : ∃ w0, w0 = w.alloc (.cells #[.slice none 0 0, .slice none 0 0] 31) := ⟨_, rfl⟩
  rw [← hw0]
  have br : Bx2 w0 w.heap.size (.slice none 0 0) (.slice none 0 0) := by rw [hw0]; exact Bx2.fresh w _ _ _
  have hb : Below w.heap.size w w0 := by rw [hw0]; go_grown
  clear hw0
  go_wp2_with fail
  go_loopw [4, 5] (fun v i wr => ∃ k : Nat, k ≤ 37 ∧ k ≤ s.size ∧ i = .int .i64 k ∧ v = .int .i64 (-1) ∧ wr = w0) (fun _ i _ => 40 - (intOf i).toNat)
  case atStart => exact ⟨0, by omega, Nat.zero_le _, rfl, rfl, rfl⟩
  case round =>
    obtain ⟨k, h37, hks, rfl, rfl, rfl⟩ := hrel
    by_cases hlt : k < s.size
    · have i0 : (0 : Int) ≤ (k : Int) := by omega
      have i3 : (k : Int) < (s.size : Int) := by omega
      by_cases h36 : k ≤ 36
      · have i4 : (k : Int) ≤ 36 := by omega
        have hxc := Hx.out k hlt h36
        clear Hx
        go_wp2
        go_roundw
        case rel => exact ⟨k + 1, by omega, by omega, by go_num, rfl, trivial⟩
        case measure => simp [intOf]; omega
      · have i4 : (36 : Int) < (k : Int) := by omega
        have y0 := br.c0
        have y1 := br.c1
        have f0 := br.fz 0
        have f1 := br.fz 1
        have nr := br.lt
        have HB := Lib.hid hb
        clear hb br
        go_wp2
        refine bodyPost_ret (v := .tuple #[.agg #[.slice none 0 0, .slice none 0 0], .bool false]) (by simp [results, Tryd.results24, go_sem, y0, y1]) rfl ⟨none, 0, none, 0, rfl, OwnP.none_ _ _ _, below_box (below_box HB.out (by omega)) (by omega)⟩
    · have i3 : (s.size : Int) ≤ (k : Int) := by omega
      have y0 := br.c0
      have y1 := br.c1
      have f0 := br.fz 0
      have f1 := br.fz 1
      have nr := br.lt
      have HB := Lib.hid hb
      clear hb br
      go_wp2
      refine bodyPost_ret (v := .tuple #[.agg #[.slice none 0 0, .slice none 0 0], .bool false]) (by simp [results, Tryd.results24, go_sem, y0, y1]) rfl ⟨none, 0, none, 0, rfl, OwnP.none_ _ _ _, below_box (below_box HB.out (by omega)) (by omega)⟩

set_option maxRecDepth 100000 in
set_option maxHeartbeats 16000000 in
theorem c_pzParse_at (s : ByteArray) (w : World) (hl : s.size ≤ 1048576) (j : Nat) (hj : j < s.size) (hx : s[j] = 58) (hn : 58 ∉ s.data.toList.take j) (hj36 : j ≤ 36) :
    Calls Tryd.prog 24 #[.string s] w (RetPB w (parPT s) (parPC s) (parPB s)) := by
  obtain ⟨eA, eB⟩ := par_hit hj hx hn
  have conH : ∀ W, Calls Tryd.prog 46 #[.string (s.extract 0 j)] W (RetT W (parseHL (pA s)) (parseB (pA s))) := fun W => by
    rw [eA]
    exact c_tiParse (s.extract 0 j) W (by rw [ByteArray.size_extract]; omega)
  have hul : (pB s).length = s.size - (j + 1) := by rw [pB_len, eB, ByteArray.size_extract]; omega
  have hY : (pBB s).size = s.size - (j + 1) := by rw [← pB_len, hul]
  have hat := fun q (h1 : j + 1 ≤ q) (h2 : q < s.size) => pB_at hj hx hn h1 h2
  have hbad : parPB s = false → (parPT s = [] ∧ parPC s = [] ∧ parPB s = false) := fun h => ⟨by unfold parPT; rw [h]; rfl, by unfold parPC; rw [h]; rfl, h⟩
  have h5 : parPB s = true → parPT s = parseHL (pA s) ∧ parPC s = (pB s).map chV := fun h => ⟨by unfold parPT; rw [h]; rfl, by unfold parPC; rw [h]; rfl⟩
  have hP : parPB s = (parseB (pA s) && (decide ((pBB s).size ≤ 10) && ((pB s).all okCh && pzB (parseHL (pA s)) ((pB s).map chV)))) := rfl
  rw [hY] at hP
  have htx := fun (hp : parPB s = true) => text_back hj hx hn hp
  have hTl := parseHL_lenS (pA s)
  have Hx := Lib.hid (fun k (hk : k < s.size) (h : k < j) => (show ¬ (s[k].toNat : Int) = 58 from fun e => hn (by
    have e2 : s[k] = 58 := UInt8.toNat_inj.1 (by show s[k].toNat = 58; omega)
    have hk2 : k < s.data.toList.length := by simpa using hk
    have e3 : s.data.toList[k] = 58 := by rw [← e2]; rfl
    rw [← e3]
    exact List.mem_take_iff_getElem.2 ⟨k, by omega, rfl⟩)))
  have hxj : (s[j].toNat : Int) = 58 := by rw [hx]; rfl
  generalize parseHL (pA s) = T at *
  generalize parseB (pA s) = okH at *
  generalize pB s = us at *
  obtain ⟨D, hD⟩ : ∃ D, D = us.map chV := ⟨_, rfl⟩
  rw [← hD] at hP h5 htx
  have hDl : D.length = s.size - (j + 1) := by rw [hD, List.length_map, hul]
  obtain ⟨F, hF⟩ : ∃ F : Nat → List Int, F = fun q => D.take (q - (j + 1)) := ⟨_, rfl⟩
  obtain ⟨P, hPd⟩ : ∃ P : Nat → Prop, P = fun q => ∀ u ∈ us.take (q - (j + 1)), okCh u = true := ⟨_, rfl⟩
  have F0 := Lib.hid (show F (j + 1) = [] by rw [hF]; simp)
  have FL := Lib.hid (fun q => (show (F q).length ≤ s.size - (j + 1) by rw [hF, ← hDl]; simp; omega))
  have FS := Lib.hid (fun q (h1 : j + 1 ≤ q) (h2 : q < s.size) => (show F (q + 1) = F q ++ [chV s[q]] from by
    have e := hat q h1 h2
    obtain ⟨hk2, e⟩ := List.getElem?_eq_some_iff.1 e
    have hk3 : q - (j + 1) < D.length := by rw [hD, List.length_map]; exact hk2
    rw [hF]
    show D.take (q + 1 - (j + 1)) = D.take (q - (j + 1)) ++ _
    rw [show q + 1 - (j + 1) = (q - (j + 1)) + 1 by omega, List.take_succ_eq_append_getElem hk3]
    congr 2
    simp [hD, e]))
  have FE := Lib.hid (show F s.size = D by rw [hF]; show D.take (s.size - (j + 1)) = D; rw [← hDl, List.take_length])
  have P0 := Lib.hid (show P (j + 1) by rw [hPd]; simp)
  have PS := Lib.hid (fun q (h1 : j + 1 ≤ q) (h2 : q < s.size) (h : okCh s[q] = true) (hp : P q) => (show P (q + 1) from by
    obtain ⟨hk2, e⟩ := List.getElem?_eq_some_iff.1 (hat q h1 h2)
    rw [hPd] at hp ⊢
    show ∀ u ∈ us.take (q + 1 - (j + 1)), okCh u = true
    rw [show q + 1 - (j + 1) = (q - (j + 1)) + 1 by omega, List.take_succ_eq_append_getElem hk2]
    intro b hb'
    rcases List.mem_append.1 hb' with h' | h'
    · exact hp b h'
    · rw [List.mem_singleton.1 h', e]; exact h))
  have PN := Lib.hid (fun q (h1 : j + 1 ≤ q) (h2 : q < s.size) (h : okCh s[q] = false) => (show parPT s = [] ∧ parPC s = [] ∧ parPB s = false from by
    obtain ⟨hk2, e⟩ := List.getElem?_eq_some_iff.1 (hat q h1 h2)
    refine hbad ?_
    rw [hP]
    have : us.all okCh = false := by
      cases ha : us.all okCh
      · rfl
      · have := List.all_eq_true.1 ha _ (List.getElem_mem hk2)
        rw [e, h] at this
        cases this
    rw [this]
    cases okH <;> simp))
  have PE := Lib.hid (fun (hp : P s.size) => (show us.all okCh = true from by
    rw [hPd] at hp
    have hp2 : ∀ u ∈ us.take (s.size - (j + 1)), okCh u = true := hp
    rw [← hul, List.take_length] at hp2
    exact List.all_eq_true.2 hp2))
  have iw1 : IntKind.i64.wrap ((s.size : Int) - j) = (s.size : Int) - j := IntWalk.i64_in _ (by omega)
  have iw2 : IntKind.i64.wrap ((s.size : Int) - j - 1) = (s.size : Int) - j - 1 := IntWalk.i64_in _ (by omega)
  have ij0 : (0 : Int) ≤ (j : Int) := by omega
  have ij1 : (j : Int) ≤ (s.size : Int) := by omega
  have HP := Lib.hid hP
  have Hbad := Lib.hid hbad
  have H5 := Lib.hid h5
  have Htx := Lib.hid htx
  have ConH := Lib.hid conH
  have hD1 : D.length ≤ s.size - (j + 1) := by omega
  clear eA eB hul hY hat hbad h5 hP htx hF hPd hD hn hx conH hDl
  have Xj := Lib.hid hxj
  clear hxj
  go_enter Tryd.func24, Tryd.ntmps24
  go_upto_block 0 with (fail)
  obtain ⟨w0, hw0⟩ : ∃ w0, w0 = w.alloc (.cells #[.slice none 0 0, .slice none 0 0] 31) := ⟨_, rfl⟩
  rw [← hw0]
  have br : Bx2 w0 w.heap.size (.slice none 0 0) (.slice none 0 0) := by rw [hw0]; exact Bx2.fresh w _ _ _
  have hb : Below w.heap.size w w0 := by rw [hw0]; go_grown
  clear hw0
  go_cut [4, 5] from 10 (fun v i wr => v = .int .i64 (j : Int) ∧ wr = w0)
  case first =>
    go_wp2_with fail
    go_loopw [4, 5] (fun v i wr => ∃ k : Nat, i = .int .i64 k ∧ ((k ≤ j ∧ v = .int .i64 (-1)) ∨ (k = j + 1 ∧ v = .int .i64 (j : Int))) ∧ wr = w0) (fun _ i _ => 40 - (intOf i).toNat)
    case atStart => exact ⟨0, rfl, .inl ⟨Nat.zero_le _, rfl⟩, rfl⟩
    case round =>
      obtain ⟨k, rfl, ⟨hkj, rfl⟩ | ⟨rfl, rfl⟩, rfl⟩ := hrel
      · have hlt : k < s.size := by omega
        have i0 : (0 : Int) ≤ (k : Int) := by omega
        have i3 : (k : Int) < (s.size : Int) := by omega
        have i4 : (k : Int) ≤ 36 := by omega
        by_cases hkj2 : k < j
        · have hxc := Hx.out k hlt hkj2
          go_wp2
          go_roundw
          case rel => exact ⟨k + 1, by go_num, .inl ⟨by omega, rfl⟩, trivial⟩
          case measure => simp [intOf]; omega
        · obtain rfl : k = j := by omega
          have hxc := Xj.out
          go_wp2
          go_roundw
          case rel => exact ⟨k + 1, by go_num, .inr ⟨rfl, rfl⟩, trivial⟩
          case measure => simp [intOf]; omega
      · by_cases hlt : ((j + 1 : Nat) : Int) < (s.size : Int)
        · by_cases h36 : ((j + 1 : Nat) : Int) ≤ 36
          · go_wp2
            go_meet
            exact ⟨rfl, rfl⟩
          · go_wp2
            go_meet
            exact ⟨rfl, rfl⟩
        · go_wp2
          go_meet
          exact ⟨rfl, rfl⟩
  case rest =>
    obtain ⟨rfl, hwc⟩ := hcut
    subst hwc
    by_cases h10 : (10 : Int) < (s.size : Int) - j - 1
    · have Bad := Lib.hid (Hbad.out (by rw [HP.out, decide_eq_false (show ¬ s.size - (j + 1) ≤ 10 by omega)]; cases okH <;> rfl))
      clear FL FS FE P0 PS PN PE HP Hbad H5 Htx F0 Hx
      have y0 := br.c0
      have y1 := br.c1
      have f0 := br.fz 0
      have f1 := br.fz 1
      have nr := br.lt
      have HB := Lib.hid hb
      clear hb br
      go_wp2
      refine bodyPost_ret (v := .tuple #[.agg #[.slice none 0 0, .slice none 0 0], .bool false]) (by simp [results, Tryd.results24, go_sem, y0, y1]) rfl ?_
      rw [Bad.out.1, Bad.out.2.1, Bad.out.2.2]
      exact ⟨none, 0, none, 0, rfl, OwnP.none_ _ _ _, below_box (below_box HB.out (by omega)) (by omega)⟩
    cases okH
    · have Bad := Lib.hid (Hbad.out (by rw [HP.out]; rfl))
      clear FL FS FE P0 PS PN PE HP Hbad H5 Htx F0 Hx
      go_wp2_with fail
      refine (ConH.out _).mono ?_
      rintro e' w1 ⟨U, cU, rfl, oU, h1⟩
      replace hb := bstep hb h1
      replace br := br.keep h1
      clear h1 oU
      have y0 := br.c0
      have y1 := br.c1
      have f0 := br.fz 0
      have f1 := br.fz 1
      have nr := br.lt
      have HB := Lib.hid hb
      clear hb br
      go_wp2
      refine bodyPost_ret (v := .tuple #[.agg #[.slice none 0 0, .slice none 0 0], .bool false]) (by simp [results, Tryd.results24, go_sem, y0, y1]) rfl ?_
      rw [Bad.out.1, Bad.out.2.1, Bad.out.2.2]
      exact ⟨none, 0, none, 0, rfl, OwnP.none_ _ _ _, below_box (below_box HB.out (by omega)) (by omega)⟩
    · go_wp2_with fail
      refine (ConH.out _).mono ?_
      rintro e' w1 ⟨A1, c1, rfl, oT, h1⟩
      have nr0 := br.lt
      replace hb := bstep hb h1
      replace br := br.keep h1
      have oT1 := own_base (b' := w.heap.size + 1) oT (by omega)
      have kT := own_capP oT
      have nr1 := br.lt
      clear h1 oT
      go_upto_region 13 with (fail)
      obtain ⟨nb, hnb⟩ : ∃ nb, nb = w1.heap.size := ⟨_, rfl⟩
      obtain ⟨w4, hw4⟩ : ∃ w4, w4 = w1.alloc (.cells #[.slice A1 T.length c1, .slice none 0 0] 31) := ⟨_, rfl⟩
      rw [← hw4]
      have h4 : Below w1.heap.size w1 w4 := by rw [hw4]; exact (Below.refl _ _).alloc (Nat.le_refl _) _
      have bx : Bx2 w4 nb (.slice A1 T.length c1) (.slice none 0 0) := by rw [hw4, hnb]; exact Bx2.fresh w1 _ _ _
      rw [← hnb]
      have nbw : w.heap.size < nb := by omega
      have hT3 : ∀ g, (Value.slice A1 T.length c1).ownBlock = some g → g < nb := fun g hg => by have := (oT1.lt g hg).2; omega
      replace hb := bstep hb h4
      replace br := br.keep h4
      have oT2 := own_keep oT1 h4
      have zn : nb + 1 ≤ w4.heap.size := bx.lt
      have FL10 := Lib.hid (fun q => (show (F q).length ≤ 10 by have := FL.out q; omega))
      clear hw4 hnb h4 oT1 nr0 nr1 FL Hx ConH Xj
      go_wp2
      go_loopw [9] (fun i wr => ∃ (q : Nat) (A2 : Option Addr) (c2 : Nat), j + 1 ≤ q ∧ q ≤ s.size ∧ i = .int .i64 q ∧ P q ∧ Bx2 wr nb (.slice A1 T.length c1) (.slice A2 (F q).length c2) ∧ wr.ownsRow (nb + 1) 3 1 (.slice A2 (F q).length c2) (F q).length (cellsI (F q)) ∧ Below nb w4 wr ∧ w4.heap.size ≤ wr.heap.size) (fun i _ => s.size - (intOf i).toNat)
      case atStart => exact ⟨j + 1, none, 0, Nat.le_refl _, by omega, by go_num, P0.out, by rw [F0.out]; exact bx, by rw [F0.out]; exact World.ownsRow_nil _ _ _ _, Below.refl _ _, Nat.le_refl _⟩
      case round =>
        obtain ⟨q, A2, c2, hq1, hq2, rfl, hP, bxr, own, hbr, hsz⟩ := hrel
        have hml := FL10.out q
        by_cases hlt : q < s.size
        · have i0 : (0 : Int) ≤ (q : Int) := by omega
          have i3 : (q : Int) < (s.size : Int) := by omega
          have x1 := bxr.c1
          have nbx := bxr.lt
          have hu := byte_le2 s[q]
          have fs := FS.out q hq1 hlt
          by_cases c46 : (s[q].toNat : Int) = 46
          · obtain ⟨ok1, ch1⟩ := chV_gap c46
            rw [ch1] at fs
            have Xst := Lib.hid fs
            have PS1 := Lib.hid (PS.out q hq1 hlt ok1 hP)
            have Ho2 := Lib.hid (own.alloc (.cells #[.int .i64 (-1)] 3))
            have bxa := bxr.more (.cells #[.int .i64 (-1)] 3)
            have Hb2 := Lib.hid (hbr.alloc (show nb ≤ wr.heap.size by omega) (.cells #[.int .i64 (-1)] 3))
            clear own hbr fs ok1 ch1 hP
            go_wp2_with (at_builtin; refine wp_append_int rfl _ _ rfl (nb + 1) _ _ rfl Ho2.out (-1) wr.heap.size rfl (by simp) (by omega) (by simp; omega) ?_; intro A3 c3 w5 own5 hg5; have bx5 := bxa.of_block (hg5.block nb bxa.lt (fun e => by have := (Ho2.out.lt _ e.symm).1; omega)); have y1 := bx5.c1; have fz1 := bx5.fz 1; have nb5 := bx5.lt; have s5 := hg5.size; simp only [World.size_alloc] at s5)
            go_roundw
            case rel =>
              refine ⟨q + 1, A3, c3, by omega, by omega, by go_num, PS1.out, ?_, ?_, ?_, ?_⟩
              · rw [Xst.out, List.length_append]
                exact bx5.set1 _
              · rw [Xst.out, List.length_append]
                exact own_box own5 (by omega)
              · exact below_box (Hb2.out.trans (below_of_grown hg5 (by simp; omega) (fun g hg => by have := (Ho2.out.lt g hg).1; omega))) (Nat.le_refl _)
              · simp [World.setCell]; omega
            case measure => simp [intOf]; omega
          have Bad0 := Lib.hid (fun h => PN.out q hq1 hlt h)
          by_cases c48 : (s[q].toNat : Int) < 48
          · have Bad := Lib.hid (Bad0.out (chV_bad c46 (.inl c48)))
            replace br := br.of_block (hbr.block _ nbw)
            replace hb := hb.trans (hbr.mono (by omega))
            clear own hbr fs hP bxr bx oT2 x1
            have y0 := br.c0
            have y1 := br.c1
            have f0 := br.fz 0
            have f1 := br.fz 1
            have nr := br.lt
            have HB := Lib.hid hb
            clear hb br
            go_wp2
            refine bodyPost_ret (v := .tuple #[.agg #[.slice none 0 0, .slice none 0 0], .bool false]) (by simp [results, Tryd.results24, go_sem, y0, y1]) rfl ?_
            rw [Bad.out.1, Bad.out.2.1, Bad.out.2.2]
            exact ⟨none, 0, none, 0, rfl, OwnP.none_ _ _ _, below_box (below_box HB.out (by omega)) (by omega)⟩
          by_cases c57 : (57 : Int) < (s[q].toNat : Int)
          · have Bad := Lib.hid (Bad0.out (chV_bad c46 (.inr c57)))
            replace br := br.of_block (hbr.block _ nbw)
            replace hb := hb.trans (hbr.mono (by omega))
            clear own hbr fs hP bxr bx oT2 x1
            have y0 := br.c0
            have y1 := br.c1
            have f0 := br.fz 0
            have f1 := br.fz 1
            have nr := br.lt
            have HB := Lib.hid hb
            clear hb br
            go_wp2
            refine bodyPost_ret (v := .tuple #[.agg #[.slice none 0 0, .slice none 0 0], .bool false]) (by simp [results, Tryd.results24, go_sem, y0, y1]) rfl ?_
            rw [Bad.out.1, Bad.out.2.1, Bad.out.2.2]
            exact ⟨none, 0, none, 0, rfl, OwnP.none_ _ _ _, below_box (below_box HB.out (by omega)) (by omega)⟩
          obtain ⟨ok1, ch1⟩ := chV_dig (u := s[q]) (by omega) (by omega)
          rw [ch1] at fs
          have u1 : IntKind.u8.wrap ((s[q].toNat : Int) - 48) = (s[q].toNat : Int) - 48 := dg_u8 (by omega) (by omega)
          have u3 : IntKind.i64.wrap ((s[q].toNat : Int) - 48) = (s[q].toNat : Int) - 48 := IntWalk.i64_in _ (by omega)
          have Xst := Lib.hid fs
          have PS1 := Lib.hid (PS.out q hq1 hlt ok1 hP)
          have hdz : wr.heap.size ≤ wr.drew.heap.size := Nat.le_refl _
          have Ho2 := Lib.hid ((own_drew own).alloc (.cells #[.int .i64 ((s[q].toNat : Int) - 48)] 3))
          have bxa := bxr.drew.more (.cells #[.int .i64 ((s[q].toNat : Int) - 48)] 3)
          have Hb2 := Lib.hid (hbr.drew.alloc (show nb ≤ wr.drew.heap.size by omega) (.cells #[.int .i64 ((s[q].toNat : Int) - 48)] 3))
          have hcd : nb + 1 ≤ (wr.drew.alloc (.cells #[.int .i64 ((s[q].toNat : Int) - 48)] 3)).heap.size := by rw [World.size_alloc]; omega
          have hx0 : (wr.drew.alloc (.cells #[.int .i64 ((s[q].toNat : Int) - 48)] 3)).cell? ⟨wr.drew.heap.size, 0, none⟩ = some (.int .i64 ((s[q].toNat : Int) - 48)) := (show (wr.alloc (.cells #[.int .i64 ((s[q].toNat : Int) - 48)] 3)).cell? ⟨wr.heap.size, 0, none⟩ = _ by simp)
          clear own hbr fs ok1 ch1 hP Bad0
          go_wp2_with fail
          refine wp_regK (k0 := 10) (S := fun w' => w'.cell? ⟨nb, 1, none⟩ = some (.slice A2 (F q).length c2)) (by kernel_rfl) bxr.drew.c1 (fun hH0 => ?_)
          refine regK_take 0 rfl (by kernel_rfl) (by kernel_rfl) (by kernel_rfl) (by kernel_rfl) (by kernel_rfl) (fun _ _ _ h => h) (by rfl) (fun w _ => by first | (go_simp; done) | (go_simp; with_reducible rfl)) (by assumption) ?_
          try simp only [Act.put, List.setIfInBounds_toArray, List.set_cons_zero, List.set_cons_succ, List.getElem_toArray, List.getElem_cons_zero]
          refine regK_take 1 rfl (by kernel_rfl) (by kernel_rfl) (by kernel_rfl) (by kernel_rfl) (by kernel_rfl) (fun _ _ _ h => h) (by rfl) (fun w hSw => by (try dsimp only at hSw); first | (go_simp; done) | (go_simp; with_reducible rfl)) (by assumption) ?_
          try simp only [Act.put, List.setIfInBounds_toArray, List.set_cons_zero, List.set_cons_succ, List.getElem_toArray, List.getElem_cons_zero, List.getElem_cons_succ]
          refine regK_take 2 rfl (by kernel_rfl) (by kernel_rfl) (by kernel_rfl) (by kernel_rfl) (by kernel_rfl) (fun _ _ _ h => h) (by rfl) (fun w _ => by first | (go_simp; done) | (go_simp; with_reducible rfl)) (by assumption) ?_
          try simp only [Act.put, List.setIfInBounds_toArray, List.set_cons_zero, List.set_cons_succ, List.getElem_toArray, List.getElem_cons_zero, List.getElem_cons_succ]
          refine regK_take 3 rfl (by kernel_rfl) (by kernel_rfl) (by kernel_rfl) (by kernel_rfl) (by kernel_rfl) (fun _ _ _ h => h) (by rfl) (fun w _ => by first | (go_simp; done) | (go_simp; with_reducible rfl)) (by assumption) ?_
          try simp only [Act.put, List.setIfInBounds_toArray, List.set_cons_zero, List.set_cons_succ, List.getElem_toArray, List.getElem_cons_zero, List.getElem_cons_succ]
          refine regK_take 4 rfl (by kernel_rfl) (by kernel_rfl) (by kernel_rfl) (by kernel_rfl) (by kernel_rfl) (fun _ _ _ h => h) (by rfl) (fun w _ => by first | (go_simp; done) | (go_simp; with_reducible rfl)) (by assumption) ?_
          try simp only [Act.put, List.setIfInBounds_toArray, List.set_cons_zero, List.set_cons_succ, List.getElem_toArray, List.getElem_cons_zero, List.getElem_cons_succ]
          refine regK_take 5 rfl (by kernel_rfl) (by kernel_rfl) (by kernel_rfl) (by kernel_rfl) (by kernel_rfl) (fun _ _ _ h => h) (by rfl) (fun w _ => by first | (go_simp; done) | (go_simp; with_reducible rfl)) (by assumption) ?_
          try simp only [Act.put, List.setIfInBounds_toArray, List.set_cons_zero, List.set_cons_succ, List.getElem_toArray, List.getElem_cons_zero, List.getElem_cons_succ]
          refine regK_take 6 rfl (by kernel_rfl) (by kernel_rfl) (by kernel_rfl) (by kernel_rfl) (by kernel_rfl) (fun _ _ _ h => h) (by rfl) (fun w _ => by first | (go_simp; done) | (go_simp; with_reducible rfl)) (by assumption) ?_
          try simp only [Act.put, List.setIfInBounds_toArray, List.set_cons_zero, List.set_cons_succ, List.getElem_toArray, List.getElem_cons_zero, List.getElem_cons_succ]
          refine regK_one 7 rfl (by kernel_rfl) (fun K hK => ?_)
          go_simp
          skip
          refine regK_go hK bxa.c1 (fun hH7 => ?_)
          clear hK K
          try simp only [Act.put, List.setIfInBounds_toArray, List.set_cons_zero, List.set_cons_succ, List.getElem_toArray, List.getElem_cons_zero, List.getElem_cons_succ]
          refine regK_one 8 rfl (by kernel_rfl) (fun K hK => ?_)
          refine step_append_int rfl (.tmp 83) (.tmp 89) rfl (nb + 1) (.slice A2 (F q).length c2) (F q) rfl Ho2.out ((s[q].toNat : Int) - 48) wr.heap.size rfl hx0 (by omega) hcd ?_
          intro A3 c3 w5 own5 hg5
          have bx5 := bxa.of_block (hg5.block nb bxa.lt (fun e => absurd (Ho2.out.lt _ e.symm).1 (by omega)))
          have y1 := bx5.c1
          have fz1 := bx5.fz 1
          have nb5 := bx5.lt
          have s5 : wr.heap.size + 1 ≤ w5.heap.size := Nat.le_trans (Nat.le_of_eq (show wr.heap.size + 1 = (wr.drew.alloc (.cells #[.int .i64 ((s[q].toNat : Int) - 48)] 3)).heap.size from (World.size_alloc ..).symm)) hg5.size
          refine regK_go hK bx5.c1 (fun hH8 => ?_)
          clear hK K
          try simp only [Act.put, List.setIfInBounds_toArray, List.set_cons_zero, List.set_cons_succ, List.getElem_toArray, List.getElem_cons_zero, List.getElem_cons_succ]
          refine regK_take 9 rfl (by kernel_rfl) (by kernel_rfl) (by kernel_rfl) (by kernel_rfl) (by kernel_rfl) (fun _ _ _ h => h) (by rfl) (fun w _ => by first | (go_simp; done) | (go_simp; with_reducible rfl)) (by assumption) ?_
          try simp only [Act.put, List.setIfInBounds_toArray, List.set_cons_zero, List.set_cons_succ, List.getElem_toArray, List.getElem_cons_zero, List.getElem_cons_succ]
          refine regK_one 10 rfl (by kernel_rfl) (fun K hK => ?_)
          go_simp
          refine regK_on hK (by kernel_rfl) ?_
          clear hK K
          try simp only [Act.put, List.setIfInBounds_toArray, List.set_cons_zero, List.set_cons_succ, List.getElem_toArray, List.getElem_cons_zero, List.getElem_cons_succ]
          refine regK_done (by kernel_rfl) ?_ _
          go_wp2
          go_roundw
          case rel =>
            refine ⟨q + 1, A3, c3, by omega, by omega, by go_num, PS1.out, ?_, ?_, ?_, ?_⟩
            · rw [Xst.out, List.length_append]
              exact bx5.set1 _
            · rw [Xst.out, List.length_append]
              exact own_box own5 (by omega)
            · exact below_box (Hb2.out.trans (below_of_grown hg5 (by simp; omega) (fun g hg => by have := (Ho2.out.lt g hg).1; omega))) (Nat.le_refl _)
            · simp [World.setCell]; omega
          case measure => simp [intOf]; omega
        · have : q = s.size := by omega
          subst this
          rw [FE.out] at own bxr
          replace br := br.of_block (hbr.block _ nbw)
          replace hb := hb.trans (hbr.mono (by omega))
          have oT3 := own_below oT2 hbr hT3
          have hall := PE.out hP
          have eP : parPB s = pzB T D := by rw [HP.out, hall, decide_eq_true (show s.size - (j + 1) ≤ 10 by omega)]; rfl
          have conG := c_pzGood A1 c1 T A2 c2 D wr (RdT.of_own oT3) (RdI.of_own own) (by omega) kT
          have con2 := fun (hp : pzB T D = true) W (hbW : Below wr.heap.size wr W) => c_pzText A1 c1 T A2 c2 D W ((RdT.of_own oT3).below hbW) ((RdI.of_own own).below hbW) hp kT
          have apTC : ApG (.slice A1 T.length c1) (.slice A2 D.length c2) := ApG.of_lt (m := nb) hT3 (fun g hg => by have := (own.lt g hg).1; omega)
          have x0 := bxr.c0
          have x1 := bxr.c1
          clear hbr hP hall FS FE P0 PS PN PE F0 FL10 HP bx oT2
          cases hp : pzB T D
          · rw [hp] at eP conG
            have Bad := Lib.hid (Hbad.out eP)
            have Con := Lib.hid conG
            clear eP conG hp con2
            go_wp2_with fail
            refine Con.out.mono ?_
            rintro e' w6 ⟨rfl, h6⟩
            replace hb := bstep hb h6
            replace br := br.keep h6
            clear h6 x0 x1 bxr oT3 own
            have y0 := br.c0
            have y1 := br.c1
            have f0 := br.fz 0
            have f1 := br.fz 1
            have nr := br.lt
            have HB := Lib.hid hb
            clear hb br
            go_wp2
            refine bodyPost_ret (v := .tuple #[.agg #[.slice none 0 0, .slice none 0 0], .bool false]) (by simp [results, Tryd.results24, go_sem, y0, y1]) rfl ?_
            rw [Bad.out.1, Bad.out.2.1, Bad.out.2.2]
            exact ⟨none, 0, none, 0, rfl, OwnP.none_ _ _ _, below_box (below_box HB.out (by omega)) (by omega)⟩
          · rw [hp] at eP conG
            have con3 := con2 hp
            simp only [Htx.out eP] at con3
            have Con2 := Lib.hid con3
            have E5 := Lib.hid (H5.out eP)
            have EB := Lib.hid eP
            have Con := Lib.hid conG
            have hss : (s.toList != s.toList) = false := by simp
            clear eP conG hp con2 con3
            go_wp2_with fail
            refine Con.out.mono ?_
            rintro e' w6 ⟨rfl, h6⟩
            have H6 := Lib.hid h6
            replace hb := bstep hb h6
            replace br := br.keep h6
            replace bxr := bxr.keep h6
            have oT6 := own_keep oT3 h6
            have oC6 := own_keep own h6
            clear h6 x0 x1 oT3 own
            have x0 := bxr.c0
            have x1 := bxr.c1
            go_wp2_with fail
            refine (Con2.out _ H6.out).mono ?_
            rintro e' w7 ⟨rfl, h7⟩
            replace hb := bstep hb h7
            replace br := br.keep h7
            replace bxr := bxr.keep h7
            have OT := Lib.hid (own_keep oT6 h7)
            have OC := Lib.hid (own_keep oC6 h7)
            clear h7 x0 x1 oT6 oC6 H6
            have x0 := bxr.c0
            have x1 := bxr.c1
            have nx := bxr.lt
            have y0 := br.c0
            have y1 := br.c1
            have f0 := br.fz 0
            have f1 := br.fz 1
            have nr := br.lt
            have HB := Lib.hid hb
            clear hb br bxr
            go_wp2
            refine bodyPost_ret (v := .tuple #[.agg #[.slice A1 T.length c1, .slice A2 D.length c2], .bool true]) (by simp [results, Tryd.results24, go_sem, y0, y1]) rfl ?_
            rw [E5.out.1, E5.out.2, EB.out]
            refine ⟨A1, c1, A2, c2, rfl, ?_, below_box (below_box HB.out (by omega)) (by omega)⟩
            have oU := own_box (own_box OT.out (a := w.heap.size) (j := 0) (u := .slice A1 T.length c1) (by omega)) (a := w.heap.size) (j := 1) (u := .slice A2 D.length c2) (by omega)
            have oV := own_box (own_box OC.out (a := w.heap.size) (j := 0) (u := .slice A1 T.length c1) (by omega)) (a := w.heap.size) (j := 1) (u := .slice A2 D.length c2) (by omega)
            exact { f := own_base oU (by omega), r := own_base oV (by omega), hf := fun g h => (oU.lt g h).2, hr := fun g h => (oV.lt g h).2, fr := apTC }

theorem c_pzParse (s : ByteArray) (w : World) (hl : s.size ≤ 1048576) :
    Calls Tryd.prog 24 #[.string s] w (RetPB w (parPT s) (parPC s) (parPB s)) := by
  by_cases h : 58 ∈ s.data.toList.take 37
  · rcases ix_cases 58 s.data.toList with ⟨_, h2⟩ | ⟨j, h1, h0, h2, h3⟩
    · exact absurd (List.mem_of_mem_take h) h2
    · have hjs : j < s.size := by simpa using h0
      have hx : s[j] = 58 := by
        rw [List.getElem?_eq_getElem h0] at h3
        exact Option.some.inj h3
      have hj36 : j ≤ 36 := by
        rcases Nat.lt_or_ge 36 j with h4 | h4
        · obtain ⟨i, hi, e⟩ := List.mem_take_iff_getElem.1 h
          exact absurd (List.mem_take_iff_getElem.2 ⟨i, by omega, e⟩) h2
        · exact h4
      exact c_pzParse_at s w hl j hjs hx h2 hj36
  · exact c_pzParse_none s w hl h

set_option maxRecDepth 100000 in
set_option maxHeartbeats 4000000 in
theorem c_specParsePz (s : ByteArray) (w : World) (hl : s.size ≤ 1048576) :
    Calls Tryd.prog 10 #[.string s] w (RetPB w (parPT s) (parPC s) (parPB s)) := by
  have con := Lib.hid (fun W => c_pzParse s W hl)
  generalize parPT s = T at *
  generalize parPC s = C at *
  generalize parPB s = ok at *
  go_enter Tryd.func10, Tryd.ntmps10
  go_wp2_with fail
  obtain ⟨w0, hw0⟩ : ∃ w0, w0 = w.alloc (.cells #[.slice none 0 0, .slice none 0 0] 31) := ⟨_, rfl⟩
  rw [← hw0]
  have br : Bx2 w0 w.heap.size (.slice none 0 0) (.slice none 0 0) := by rw [hw0]; exact Bx2.fresh w _ _ _
  have hb : Below w.heap.size w w0 := by rw [hw0]; go_grown
  clear hw0
  refine (con.out _).mono ?_
  rintro e' w1 ⟨A1, c1, A2, c2, rfl, oP, h1⟩
  have nr0 := br.lt
  replace hb := bstep hb h1
  replace br := br.keep h1
  have y0 := br.c0
  have y1 := br.c1
  have f0 := br.fz 0
  have f1 := br.fz 1
  have nr := br.lt
  have HB := Lib.hid hb
  have OP := Lib.hid (oP.base (lo' := w.heap.size + 1) (by omega))
  clear hb br oP h1
  go_wp2
  refine bodyPost_ret (v := .tuple #[.agg #[.slice A1 T.length c1, .slice A2 C.length c2], .bool ok]) (by simp [results, Tryd.results10, go_sem, y0, y1]) rfl ⟨A1, c1, A2, c2, rfl, ?_, below_box (below_box HB.out (by omega)) (by omega)⟩
  exact (((OP.out.box (by omega)).box (by omega)).base (by omega)).top (by simp [World.setCell])

end Go.Proofs.YtjdnkcdnppcbhabDoor

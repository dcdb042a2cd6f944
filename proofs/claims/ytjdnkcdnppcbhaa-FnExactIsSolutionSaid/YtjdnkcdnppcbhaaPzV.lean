/- The program's IsWhole (cut from the texts of chapter 3). -/
import Derived.Test.YtjdnkcdnppcbhaaSorted
import Derived.Test.YtjdnkcdnppcbhaaTilesC
import Derived.Test.YtjdnkcdnppcbhaaPzM
import Derived.Deep.Cut
import Derived.BigQuiet
namespace Go.Proofs.Ytjdnkcdnppcbhaa
open Go.RowKit
set_option linter.unusedVariables false

theorem nodup_back {α : Type} [DecidableEq α] : ∀ (ys xs : List α), ys.Nodup → (∀ y ∈ ys, y ∈ xs) → xs.length ≤ ys.length → ∀ x ∈ xs, x ∈ ys
  | [], xs, _, _, hl, x, hx => by
    have : xs = [] := List.length_eq_zero_iff.1 (by simpa using hl)
    subst this
    simp at hx
  | y :: ys, xs, hn, hs, hl, x, hx => by
    have hy := hs y (by simp)
    have hp := List.perm_cons_erase hy
    rw [List.nodup_cons] at hn
    have ih := nodup_back ys (xs.erase y) hn.2 (fun z hz => by
      have hzy : z ≠ y := fun e => hn.1 (e ▸ hz)
      exact (List.mem_erase_of_ne hzy).2 (hs z (by simp [hz]))) (by rw [List.length_erase_of_mem hy]; simp at hl; omega)
    rcases List.mem_cons.1 (hp.mem_iff.1 hx) with rfl | h
    · simp
    · exact List.mem_cons_of_mem _ (ih x h)
def wholeV (ts : List (Int × Int)) (xs : List Int) : Bool := handB ts && (chainB xs && decide (sortL (tilesC xs) = sortL ts))

set_option maxRecDepth 100000 in
set_option maxHeartbeats 2000000 in
theorem c_slicesEqual (A B : Option Addr) (c d : Nat) (xs ys : List (Int × Int)) (w : World) (hx : RdT w A xs) (hy : RdT w B ys) (lx : xs.length ≤ 9223372036854775807) (ly : ys.length ≤ 9223372036854775807) :
    Calls Try.prog 121 #[.slice A xs.length c, .slice B ys.length d] w fun e w' => e = .returned (.bool (decide (xs = ys))) ∧ Below w.heap.size w w' := by
  by_cases hne : xs.length = ys.length
  · have hne' : ((xs.length : Int) != (ys.length : Int)) = false := by simp [hne]
    have Hne := Lib.hid hne
    clear hne
    go_enter Try.func121, Try.ntmps121
    go_wp2
    go_loopw [13] (fun i wr => ∃ k : Nat, k ≤ xs.length ∧ i = .int .i64 k ∧ (∀ j (hj : j < xs.length) (hj' : j < ys.length), j < k → xs[j] = ys[j]) ∧ Below w.heap.size w wr) (fun i _ => xs.length - (intOf i).toNat)
    case atStart => exact ⟨0, Nat.zero_le _, rfl, by omega, Below.refl _ _⟩
    case round =>
      obtain ⟨k, hk, rfl, hn, hb⟩ := hrel
      by_cases hlt : k < xs.length
      · have hlt' : k < ys.length := by have := Hne.out; omega
        obtain ⟨bk, off, rfl, hbk, hc⟩ := hx.at_ hlt
        obtain ⟨bj, oj, rfl, hbj, hd⟩ := hy.at_ hlt'
        have g1 := (hb.cell (p := ⟨bk, _, none⟩) hbk).trans (hc k hlt).1
        have g2 := (hb.cell (p := ⟨bk, _, none⟩) hbk).trans (hc k hlt).2
        have g3 := (hb.cell (p := ⟨bj, _, none⟩) hbj).trans (hd k hlt').1
        have g4 := (hb.cell (p := ⟨bj, _, none⟩) hbj).trans (hd k hlt').2
        have i0 : (0 : Int) ≤ (k : Int) := by omega
        have i1 : (k : Int) < (xs.length : Int) := by omega
        have i2 : (k : Int) < (ys.length : Int) := by omega
        have Hn := Lib.hid hn
        have Hb := Lib.hid hb
        clear hc hx hd hy hn hb
        by_cases h1 : xs[k].1 = ys[k].1
        · have f1 : (xs[k].1 == ys[k].1) = true := by simp [h1]
          have H1 := Lib.hid h1
          clear h1
          by_cases h2 : xs[k].2 = ys[k].2
          · have f2 : (xs[k].2 == ys[k].2) = true := by simp [h2]
            have H2 := Lib.hid h2
            clear h2
            go_wp2
            go_quiet (fail)
            go_wp2
            go_roundw
            case rel =>
              refine ⟨k + 1, by omega, by go_num, fun j hj hj' hjk => ?_, Hb.out.trans ⟨rfl, rfl, rfl, Nat.le_refl _, fun _ _ => rfl⟩⟩
              rcases Nat.lt_succ_iff_lt_or_eq.1 hjk with h | rfl
              · exact Hn.out j hj hj' h
              · exact Prod.ext H1.out H2.out
            case measure => simp [intOf]; omega
          · have f2 : (xs[k].2 == ys[k].2) = false := by simp [h2]
            have HF := Lib.hid (decide_eq_false (fun e => h2 (by simp [e])) : decide (xs = ys) = false)
            clear h2
            go_wp2
            go_quiet (fail)
            go_wp2
            go_ret
            exact ⟨ret_b HF.out.symm, Hb.out.trans ⟨rfl, rfl, rfl, Nat.le_refl _, fun _ _ => rfl⟩⟩
        · have f1 : (xs[k].1 == ys[k].1) = false := by simp [h1]
          have HF := Lib.hid (decide_eq_false (fun e => h1 (by simp [e])) : decide (xs = ys) = false)
          clear h1
          go_wp2
          go_quiet (fail)
          go_wp2
          go_ret
          exact ⟨ret_b HF.out.symm, Hb.out.trans ⟨rfl, rfl, rfl, Nat.le_refl _, fun _ _ => rfl⟩⟩
      · go_wp2
        go_ret
        refine ⟨ret_b ?_, hb⟩
        have := Hne.out
        symm
        simp only [decide_eq_true_eq]
        exact List.ext_getElem this (fun j h1 h2 => hn j h1 h2 (by omega))
  · have hne' : ((xs.length : Int) != (ys.length : Int)) = true := by simp; omega
    have Hne := Lib.hid hne
    clear hne
    go_enter Try.func121, Try.ntmps121
    go_wp2
    go_ret
    refine ⟨ret_b ?_, Below.refl _ _⟩
    symm
    simp only [decide_eq_false_iff_not]
    rintro rfl
    exact Hne.out rfl

set_option maxRecDepth 100000 in
set_option maxHeartbeats 2000000 in
theorem c_implIsWhole (A : Option Addr) (c : Nat) (ts : List (Int × Int)) (A' : Option Addr) (c' : Nat) (xs : List Int) (w : World) (hr : RdT w A ts) (hl : ts.length ≤ 1048576) (hr' : RdI w A' xs) (hl' : xs.length ≤ 1048576) :
    Calls Try.prog 71 #[.slice A ts.length c, .slice A' xs.length c'] w fun e w' => e = .returned (.tuple #[.bool (wholeV ts xs), .bool (handB ts)]) ∧ Below w.heap.size w w' := by
  have conS := c_implSortHand A c ts w hr hl
  by_cases h : handB ts = true
  · have es : sortHL ts = sortL ts := by simp [sortHL, h]
    rw [es, h] at conS
    have conC := fun W (hb : Below w.heap.size w W) => c_implTiles A' c' xs W (hr'.below hb) hl'
    by_cases h1 : chainB xs = true
    · have hW : tilesHL xs = tilesC xs := by simp [tilesHL, h1]
      have hlen : (tilesC xs).length ≤ xs.length := by rw [tilesC_len]; omega
      have hx56 := (chain_len h1).2
      have hu := chain_hand h1
      have hwv : wholeV ts xs = decide (sortL (tilesC xs) = sortL ts) := by simp [wholeV, h, h1]
      rw [hwv, h]
      simp only [hW, h1] at conC
      obtain ⟨us, hus⟩ : ∃ us, us = tilesC xs := ⟨_, rfl⟩
      rw [← hus] at hlen hu ⊢
      simp only [← hus] at conC
      have es2 : sortHL us = sortL us := by simp [sortHL, hu]
      have conS2 := fun W A3 c3 (h3 : RdT W A3 us) => c_implSortHand A3 c3 us W h3 (by omega)
      simp only [es2, hu] at conS2
      have l1 := sortL_len ts
      have l2 := sortL_len us
      have ConS := Lib.hid conS
      have ConC := Lib.hid conC
      have ConS2 := Lib.hid conS2
      clear conS conC conS2 hwv hW hu hus hr hr' h1 es es2
      obtain ⟨ss, hss⟩ : ∃ ss, ss = sortL ts := ⟨_, rfl⟩
      obtain ⟨su, hsu⟩ : ∃ su, su = sortL us := ⟨_, rfl⟩
      rw [← hss] at l1 ConS ⊢
      rw [← hsu] at l2 ConS2 ⊢
      clear hss hsu
      go_enter Try.func71, Try.ntmps71
      go_wp2_with (first | (go_at_call_of 120 (Value.slice A ts.length c); refine ConS.out.mono ?_; rintro e w1 ⟨A1, c1, rfl, ho1, hb1⟩) | (go_at_call 81; refine (ConC.out _ hb1).mono ?_; rintro e w2 ⟨A2, c2, rfl, ho2, hb2⟩) | (go_at_call 120; refine (ConS2.out _ _ _ (RdT.of_own ho2)).mono ?_; rintro e w3 ⟨A3, c3, rfl, ho3, hb3⟩) | (go_at_call 121; refine (c_slicesEqual _ _ _ _ su ss _ (RdT.of_own ho3) (RdT.of_own (own_keep (own_keep ho1 hb2) hb3)) (by omega) (by omega)).mono ?_; rintro e w4 ⟨rfl, hb4⟩))
      go_ret2
      exact ⟨rfl, bstep (bstep (bstep hb1 hb2) hb3) hb4⟩
    · have h1' : chainB xs = false := by simpa using h1
      have hwv : wholeV ts xs = false := by simp [wholeV, h1']
      rw [hwv, h]
      simp only [h1'] at conC
      have ConS := Lib.hid conS
      have ConC := Lib.hid conC
      clear conC conS hwv hr hr' h1 es
      go_enter Try.func71, Try.ntmps71
      go_wp2_with (first | (go_at_call 120; refine ConS.out.mono ?_; rintro e w1 ⟨A1, c1, rfl, ho1, hb1⟩) | (go_at_call 81; refine (ConC.out _ hb1).mono ?_; rintro e w2 ⟨A2, c2, rfl, ho2, hb2⟩))
      go_ret2
      exact ⟨rfl, bstep hb1 hb2⟩
  · have h' : handB ts = false := by simpa using h
    have hwv : wholeV ts xs = false := by simp [wholeV, h']
    rw [h'] at conS
    rw [hwv, h']
    have ConS := Lib.hid conS
    clear h hr hr' hwv conS
    go_enter Try.func71, Try.ntmps71
    go_wp2_with (go_at_call 120; refine ConS.out.mono ?_; rintro e w1 ⟨A1, c1, rfl, ho1, hb1⟩)
    go_ret2
    exact ⟨rfl, hb1⟩

end Go.Proofs.Ytjdnkcdnppcbhaa

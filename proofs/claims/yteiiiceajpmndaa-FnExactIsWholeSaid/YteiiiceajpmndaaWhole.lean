/- Whether a list of numbers is a whole chain of a hand. -/
import Derived.Test.YteiiiceajpmndaaReach
import Derived.Test.YteiiiceajpmndaaTilesC
namespace Go.Proofs.Yteiiiceajpmndaa
open Go.RowKit
set_option linter.unusedVariables false

theorem nodup_back {α : Type} [DecidableEq α] : ∀ (ys xs : List α), ys.Nodup → (∀ y ∈ ys, y ∈ xs) → xs.length ≤ ys.length → ∀ x ∈ xs, x ∈ ys
  | [], xs, _, _, hl, x, hx => by
    have : xs = [] := List.length_eq_zero_iff.1 (by simpa using hl)
    subst this
    simp at hx
  | y :: ys, xs, hn, hs, hl, x, hx => by
    have hy := hs y (by simp)
    have hp := List.perm_cons_erase hy
    rw [List.nodup_cons] at hn
    have ih := nodup_back ys (xs.erase y) hn.2 (fun z hz => by
      have hzy : z ≠ y := fun e => hn.1 (e ▸ hz)
      exact (List.mem_erase_of_ne hzy).2 (hs z (by simp [hz]))) (by rw [List.length_erase_of_mem hy]; simp at hl; omega)
    rcases List.mem_cons.1 (hp.mem_iff.1 hx) with rfl | h
    · simp
    · exact List.mem_cons_of_mem _ (ih x h)
def wholeV (ts : List (Int × Int)) (xs : List Int) : Bool := handB ts && (chainB xs && decide (sortL (tilesC xs) = sortL ts))
theorem whole_iff {ts us : List (Int × Int)} (ht : handB ts = true) (hu : handB us = true) : sortL us = sortL ts ↔ us.length = ts.length ∧ (thoseL ts us false).length = 0 := by
  have gt := (handB_good ht).2
  have gu := (handB_good hu).2
  have nt : ts.Nodup := (of_decide_eq_true ht : handP ts).2.2
  have nu : us.Nodup := (of_decide_eq_true hu : handP us).2.2
  constructor
  · intro h
    have hm : ∀ t, t ∈ us ↔ t ∈ ts := fun t => by rw [← mem_sortL gu, h, mem_sortL gt]
    refine ⟨Nat.le_antisymm (nodup_lenG _ _ nu fun t h => (hm t).1 h) (nodup_lenG _ _ nt fun t h => (hm t).2 h), ?_⟩
    rw [List.length_eq_zero_iff]
    refine List.filter_eq_nil_iff.2 fun t h1 h2 => ?_
    have h3 := (hm t).2 ((mem_sortL gt t).1 h1)
    simp [pickB, h3] at h2
  · rintro ⟨hl, h0⟩
    have h0 := List.length_eq_zero_iff.1 h0
    have h1 : ∀ t ∈ ts, t ∈ us := fun t ht' => by
      have := List.filter_eq_nil_iff.1 h0 t ((mem_sortL gt t).2 ht')
      by_cases h : t ∈ us
      · exact h
      · simp [pickB, h] at this
    have h2 := nodup_back ts us nt h1 (by omega)
    refine sorted_ext (pickL_sorted us true) (pickL_sorted ts true) (fun t => ?_)
    rw [mem_sortL gu, mem_sortL gt]
    exact ⟨h2 t, h1 t⟩

set_option maxRecDepth 100000 in
set_option maxHeartbeats 2000000 in
theorem c_slicesEqual (A B : Option Addr) (c d : Nat) (xs ys : List (Int × Int)) (w : World) (hx : RdT w A xs) (hy : RdT w B ys) (lx : xs.length ≤ 9223372036854775807) (ly : ys.length ≤ 9223372036854775807) :
    Calls Try.prog 69 #[.slice A xs.length c, .slice B ys.length d] w fun e w' => e = .returned (.bool (decide (xs = ys))) ∧ Below w.heap.size w w' := by
  by_cases hne : xs.length = ys.length
  · have hne' : ((xs.length : Int) != (ys.length : Int)) = false := by simp [hne]
    have Hne := Lib.hid hne
    clear hne
    go_enter Try.func69, Try.ntmps69
    go_wp2
    go_loopw [13] (fun i wr => ∃ k : Nat, k ≤ xs.length ∧ i = .int .i64 k ∧ (∀ j (hj : j < xs.length) (hj' : j < ys.length), j < k → xs[j] = ys[j]) ∧ Below w.heap.size w wr) (fun i _ => xs.length - (intOf i).toNat)
    case atStart => exact ⟨0, Nat.zero_le _, rfl, by omega, Below.refl _ _⟩
    case round =>
      obtain ⟨k, hk, rfl, hn, hb⟩ := hrel
      by_cases hlt : k < xs.length
      · have hlt' : k < ys.length := by have := Hne.out; omega
        obtain ⟨bk, off, rfl, hbk, hc⟩ := hx.at_ hlt
        obtain ⟨bj, oj, rfl, hbj, hd⟩ := hy.at_ hlt'
        have g1 := (hb.cell (p := ⟨bk, _, none⟩) hbk).trans (hc k hlt).1
        have g2 := (hb.cell (p := ⟨bk, _, none⟩) hbk).trans (hc k hlt).2
        have g3 := (hb.cell (p := ⟨bj, _, none⟩) hbj).trans (hd k hlt').1
        have g4 := (hb.cell (p := ⟨bj, _, none⟩) hbj).trans (hd k hlt').2
        have i0 : (0 : Int) ≤ (k : Int) := by omega
        have i1 : (k : Int) < (xs.length : Int) := by omega
        have i2 : (k : Int) < (ys.length : Int) := by omega
        have Hn := Lib.hid hn
        have Hb := Lib.hid hb
        clear hc hx hd hy hn hb
        by_cases h1 : xs[k].1 = ys[k].1
        · have f1 : (xs[k].1 == ys[k].1) = true := by simp [h1]
          have H1 := Lib.hid h1
          clear h1
          by_cases h2 : xs[k].2 = ys[k].2
          · have f2 : (xs[k].2 == ys[k].2) = true := by simp [h2]
            have H2 := Lib.hid h2
            clear h2
            go_wp2
            go_quiet (fail)
            go_wp2
            go_roundw
            case rel =>
              refine ⟨k + 1, by omega, by go_num, fun j hj hj' hjk => ?_, Hb.out.trans ⟨rfl, rfl, rfl, Nat.le_refl _, fun _ _ => rfl⟩⟩
              rcases Nat.lt_succ_iff_lt_or_eq.1 hjk with h | rfl
              · exact Hn.out j hj hj' h
              · exact Prod.ext H1.out H2.out
            case measure => simp [intOf]; omega
          · have f2 : (xs[k].2 == ys[k].2) = false := by simp [h2]
            have HF := Lib.hid (decide_eq_false (fun e => h2 (by simp [e])) : decide (xs = ys) = false)
            clear h2
            go_wp2
            go_quiet (fail)
            go_wp2
            go_ret
            exact ⟨ret_b HF.out.symm, Hb.out.trans ⟨rfl, rfl, rfl, Nat.le_refl _, fun _ _ => rfl⟩⟩
        · have f1 : (xs[k].1 == ys[k].1) = false := by simp [h1]
          have HF := Lib.hid (decide_eq_false (fun e => h1 (by simp [e])) : decide (xs = ys) = false)
          clear h1
          go_wp2
          go_quiet (fail)
          go_wp2
          go_ret
          exact ⟨ret_b HF.out.symm, Hb.out.trans ⟨rfl, rfl, rfl, Nat.le_refl _, fun _ _ => rfl⟩⟩
      · go_wp2
        go_ret
        refine ⟨ret_b ?_, hb⟩
        have := Hne.out
        symm
        simp only [decide_eq_true_eq]
        exact List.ext_getElem this (fun j h1 h2 => hn j h1 h2 (by omega))
  · have hne' : ((xs.length : Int) != (ys.length : Int)) = true := by simp; omega
    have Hne := Lib.hid hne
    clear hne
    go_enter Try.func69, Try.ntmps69
    go_wp2
    go_ret
    refine ⟨ret_b ?_, Below.refl _ _⟩
    symm
    simp only [decide_eq_false_iff_not]
    rintro rfl
    exact Hne.out rfl

def whTiles (xs : List Int) : List (Int × Int) := if 1 ≤ xs.length ∧ xs.length ≤ 56 ∧ ∀ x ∈ xs, numB x = true then tilesC xs else []

set_option maxRecDepth 100000 in
set_option maxHeartbeats 2000000 in
theorem c_whChain (A : Option Addr) (c : Nat) (xs : List Int) (w : World) (hr : RdI w A xs) (hl : xs.length ≤ 1048576) :
    Calls Try.prog 65 #[.slice A xs.length c] w (RetT w (whTiles xs) (chainB xs)) := by
  have conA := c_l1All A c xs w hr (by omega)
  by_cases h0 : (1 : Int) ≤ xs.length
  · by_cases h1 : (xs.length : Int) ≤ 56
    · by_cases hg : ∀ x ∈ xs, numB x = true
      · have hB := chain_hand' (by omega) (by omega) hg
        have hW : whTiles xs = tilesC xs := if_pos ⟨by omega, by omega, hg⟩
        have hd : decide (∀ x ∈ xs, numB x = true) = true := decide_eq_true hg
        rw [hd] at conA
        have hx1 : (tilesC xs).length ≤ xs.length := by rw [tilesC_len]; omega
        have hstep : ∀ k, k ≤ xs.length - 1 → ¬ k + 1 < xs.length → tilesTo xs k = tilesC xs := fun k h2 h3 => by unfold tilesC; congr 1; omega
        obtain ⟨ts, hts⟩ : ∃ ts, ts = tilesC xs := ⟨_, rfl⟩
        rw [hW, ← hB, ← hts]
        simp only [← hts] at hstep
        rw [← hts] at hx1
        have Hstep := Lib.hid hstep
        have ConA := Lib.hid conA
        clear hd hg conA hW hB hstep hts
        go_enter Try.func65, Try.ntmps65
        go_wp2_with (first | (go_at_call 83; refine (c_l1In _ _ _ _).mono ?_; rintro e w' ⟨rfl, rfl⟩) | (go_at_call 85; refine ConA.out.mono ?_; rintro e w1 ⟨rfl, hb1⟩))
        have hr1 := hr.below hb1
        clear hr ConA
        go_loopw [4, 5] (fun v i wr => ∃ (k : Nat) (A' : Option Addr) (c' : Nat), k ≤ xs.length - 1 ∧ i = .int .i64 (k + 1) ∧ v = .slice A' (tilesTo xs k).length c' ∧ wr.ownsRow w1.heap.size 58 2 (.slice A' (tilesTo xs k).length c') (tilesTo xs k).length (cellsT (tilesTo xs k)) ∧ Below w1.heap.size w1 wr) (fun _ i _ => xs.length - (intOf i).toNat)
        case atStart => exact ⟨0, none, 0, Nat.zero_le _, rfl, rfl, World.ownsRow_nil _ _ _ _, Below.refl _ _⟩
        case round =>
          obtain ⟨k, A', c', hk, rfl, rfl, hown, hb⟩ := hrel
          have hpl : (tilesTo xs k).length ≤ xs.length := by rw [tilesTo_len]; omega
          by_cases hlt : k + 1 < xs.length
          · obtain ⟨bk, off, rfl, hbk, hc⟩ := hr1.at_ hlt
            have g1 := (hb.cell (p := ⟨bk, _, none⟩) hbk).trans (hc k (by omega))
            have g2 := (hb.cell (p := ⟨bk, _, none⟩) hbk).trans (hc (k + 1) hlt)
            have Hb := Lib.hid hb
            have Hb1 := Lib.hid hb1
            have Ho := Lib.hid hown
            have hsz := hb.size
            have hst := Lib.hid (tilesTo_step hlt)
            have iw : IntKind.i64.wrap ((k : Int) + 1 - 1) = (k : Int) := by rw [IntWalk.i64_in _ (by omega)]; omega
            have iw' : IntKind.i64.wrap (k : Int) = (k : Int) := IntWalk.i64_in _ (by omega)
            have i0 : (0 : Int) ≤ (k : Int) := by omega
            have i1 : (k : Int) < (xs.length : Int) := by omega
            have i2 : (0 : Int) ≤ (k : Int) + 1 := by omega
            have i3 : (k : Int) + 1 < (xs.length : Int) := by omega
            clear hc hr1 hb hb1 hown Hstep hx1
            go_wp2
            go_region_held3 (fun w' => w'.cell? ⟨bk, off + k, none⟩ = some (.int .i64 (xs[k]'(by omega))) ∧ w'.cell? ⟨bk, off + (k + 1), none⟩ = some (.int .i64 xs[k + 1])) (first | exact ⟨z1, z2⟩ | exact ⟨y1, y2⟩ | go_keep) (first | (go_at_call 86; refine (c_tiOf _ _ _).mono ?_; rintro e w2 ⟨rfl, hb2⟩; have y1 := keepc hb2 (g1d _ g1); have y2 := keepc hb2 (g1d _ g2); have hz2 : wr.heap.size ≤ w2.heap.size := hb2.size; have Ho2 := Lib.hid ((own_keep (own_drew Ho.out) hb2).alloc (.cells #[.int .i64 (min (xs[k]'(by omega)) xs[k + 1]), .int .i64 (max (xs[k]'(by omega)) xs[k + 1])] 58))) | (refine step_append_tile rfl (.tmp 21) (.tmp 32) rfl w1.heap.size (.slice A' (tilesTo xs k).length c') (tilesTo xs k) rfl Ho2.out (min (xs[k]'(by omega)) xs[k + 1]) (max (xs[k]'(by omega)) xs[k + 1]) w2.heap.size rfl ?ca ?cb ?cc ?cd ?ce; (case ca => simp); (case cb => simp); (case cc => omega); (case cd => rw [World.size_alloc]; omega); intro A2 c2 w3 hown3 hg3; have hbz := below_of_grown hg3 (B := w1.heap.size) (by rw [World.size_alloc]; omega) (fun g hg => (Ho2.out.lt g hg).1); have z1 : w3.cell? ⟨bk, off + k, none⟩ = some (.int .i64 (xs[k]'(by omega))) := (hbz.cell (p := ⟨bk, off + k, none⟩) hbk).trans (keepc ((Below.refl _ w2).alloc (Nat.le_refl _) _) y1); have z2 : w3.cell? ⟨bk, off + (k + 1), none⟩ = some (.int .i64 xs[k + 1]) := (hbz.cell (p := ⟨bk, off + (k + 1), none⟩) hbk).trans (keepc ((Below.refl _ w2).alloc (Nat.le_refl _) _) y2)))
            go_wp2
            go_roundw
            case rel =>
              refine ⟨k + 1, A2, c2, by omega, by go_num, by rw [hst.out, List.length_append]; rfl, ?_, ?_⟩
              · rw [hst.out, List.length_append]; exact hown3
              · have hb3 : Below w1.heap.size w1 w2 := bstep Hb.out.drew hb2
                have hz3 := hb3.size
                exact Below.grown (by go_grown) hg3 (by simp; omega) (fun g hg => (Ho2.out.lt g hg).1)
            case measure => simp [intOf]; omega
          · rw [Hstep.out k hk hlt] at hown ⊢
            have conH := Lib.hid (c_tiHand A' c' ts wr (RdT.of_own hown) (by omega) (own_cap hown))
            have Ho := Lib.hid hown
            clear hr1 hown Hstep
            go_wp2_with (go_at_call 54; refine conH.out.mono ?_; rintro e w3 ⟨rfl, hb3⟩)
            go_ret2
            exact ⟨A', c', rfl, own_base (own_keep Ho.out hb3) hb1.size, bstep (bstep hb1 hb) hb3⟩
      · have hB := chain_bad' hg
        have hW : whTiles xs = [] := if_neg fun h => hg h.2.2
        have hd : decide (∀ x ∈ xs, numB x = true) = false := decide_eq_false hg
        rw [hd] at conA
        have ConA := Lib.hid conA
        rw [hW, hB]
        clear hd hg hr conA hB hW
        go_enter Try.func65, Try.ntmps65
        go_wp2_with (first | (go_at_call 83; refine (c_l1In _ _ _ _).mono ?_; rintro e w' ⟨rfl, rfl⟩) | (go_at_call 85; refine ConA.out.mono ?_; rintro e w1 ⟨rfl, hb1⟩))
        go_ret2
        exact ⟨none, 0, rfl, World.ownsRow_nil _ _ _ _, hb1⟩
    · have HB := chain_long (xs := xs) (by omega)
      have hW : whTiles xs = [] := if_neg fun h => h1 (by omega)
      rw [HB, hW]
      clear conA hr HB hW
      go_enter Try.func65, Try.ntmps65
      go_wp2_with (first | (go_at_call 83; refine (c_l1In _ _ _ _).mono ?_; rintro e w' ⟨rfl, rfl⟩))
      go_ret2
      exact ⟨none, 0, rfl, World.ownsRow_nil _ _ _ _, Below.refl _ _⟩
  · have HB := chain_empty (xs := xs) (by omega)
    have hW : whTiles xs = [] := if_neg fun h => h0 (by omega)
    rw [HB, hW]
    clear conA hr HB hW
    go_enter Try.func65, Try.ntmps65
    go_wp2_with (first | (go_at_call 83; refine (c_l1In _ _ _ _).mono ?_; rintro e w' ⟨rfl, rfl⟩))
    go_ret2
    exact ⟨none, 0, rfl, World.ownsRow_nil _ _ _ _, Below.refl _ _⟩

end Go.Proofs.Yteiiiceajpmndaa

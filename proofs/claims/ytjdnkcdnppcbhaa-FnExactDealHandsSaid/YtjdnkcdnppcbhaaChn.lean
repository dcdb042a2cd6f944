/- Whether a list of numbers is a chain: the program's own answer. -/
import Derived.Test.YtjdnkcdnppcbhaaChain
namespace Go.Proofs.Ytjdnkcdnppcbhaa
open Go.RowKit
set_option linter.unusedVariables false

theorem marks_add {g : Nat} {ts : List (Int × Int)} {w : World} {a b : Nat} (ha : a ≤ 9) (hb : b ≤ 9) (h : Marks g ts w) :
    Marks g (ts ++ [tile2 a b]) ((w.setCell ⟨g, a * 10 + b, none⟩ (.bool true)).setCell ⟨g, b * 10 + a, none⟩ (.bool true)) := by
  obtain ⟨h1, h2⟩ := h
  refine ⟨fun p q hp hq => ?_, fun m => by simp [h2]⟩
  have c1 := h1 a b ha hb
  have c2 := h1 b a hb ha
  by_cases e2 : p * 10 + q = b * 10 + a
  · have ep : p = b := by omega
    have eq : q = a := by omega
    subst ep eq
    have c3 : ∃ v, (w.setCell ⟨g, q * 10 + p, none⟩ (.bool true)).cell? ⟨g, p * 10 + q, none⟩ = some v := by
      by_cases e : p * 10 + q = q * 10 + p
      · rw [e, World.cell?_setCell_same _ _ _ c1]; exact ⟨_, rfl⟩
      · rw [World.cell?_setCell_other _ _ _ _ (by first | (simp; omega) | simp)]; exact ⟨_, c2⟩
    obtain ⟨v, c3⟩ := c3
    rw [World.cell?_setCell_same _ _ _ c3]
    simp [tile2_comm]
  · rw [World.cell?_setCell_other _ _ _ _ (by first | (simp; omega) | simp)]
    by_cases e1 : p * 10 + q = a * 10 + b
    · have ep : p = a := by omega
      have eq : q = b := by omega
      subst ep eq
      rw [World.cell?_setCell_same _ _ _ c1]
      simp
    · rw [World.cell?_setCell_other _ _ _ _ (by first | (simp; omega) | simp), h1 p q hp hq]
      have : ¬ tile2 (p : Int) q = tile2 (a : Int) b := by
        rw [tile2_eq]
        omega
      simp [this]

theorem marks_drew {g : Nat} {ts : List (Int × Int)} {w : World} (h : Marks g ts w) : Marks g ts w.drew := h
theorem frozen_new (w : World) (cs : Array Value) (t : TypeId) (m : Nat) : (w.alloc (.cells cs t)).frozen? ⟨w.heap.size, m, none⟩ = false := by
  unfold World.frozen? World.alloc
  simp
theorem zero_marks : Try.zeroCells148 = Array.replicate 100 (.bool false) := by kernel_rfl
theorem marks_fresh (w : World) : Marks w.heap.size [] (w.alloc (.cells Try.zeroCells148 148)) := by
  refine ⟨fun a b ha hb => ?_, fun m => frozen_new _ _ _ m⟩
  rw [cell_of_row _ _ _ _ _ _ (heap_alloc_new w _), zero_marks, Array.getElem?_replicate, if_pos (by omega)]
  simp

set_option maxRecDepth 100000 in
set_option maxHeartbeats 4000000 in
theorem c_implIsChain (A : Option Addr) (c : Nat) (xs : List Int) (w : World) (hr : RdI w A xs) (hl : xs.length ≤ 9223372036854775807) :
    Calls Try.prog 70 #[.slice A xs.length c] w fun e w' => e = .returned (.bool (chainB xs)) ∧ Below w.heap.size w w' := by
  go_enter Try.func70, Try.ntmps70
  go_wp2
  go_loopw [9] (fun i wr => ∃ k : Nat, k ≤ xs.length ∧ i = .int .i64 k ∧ (∀ j (hj : j < xs.length), j < k → numB xs[j] = true) ∧ (tilesTo xs (k - 1)).Nodup ∧ Marks w.heap.size (tilesTo xs (k - 1)) wr ∧ Below w.heap.size w wr ∧ w.heap.size < wr.heap.size) (fun i _ => xs.length - (intOf i).toNat)
  case atStart =>
    exact ⟨0, Nat.zero_le _, rfl, by omega, by simp [tilesTo], marks_fresh w, by go_grown, by simp⟩
  case round =>
    obtain ⟨k, hk, rfl, hg, hnd, hm, hb, hz⟩ := hrel
    by_cases hlt : k < xs.length
    · obtain ⟨bk, off, rfl, hbk, hc⟩ := hr.at_ hlt
      have g1 := (hb.cell (p := ⟨bk, _, none⟩) hbk).trans (hc k hlt)
      have Hg := Lib.hid hg
      have Hb := Lib.hid hb
      have Hnd := Lib.hid hnd
      have Hm := Lib.hid hm
      by_cases hn : numB xs[k] = true
      · cases k with
        | zero =>
          have Hn := Lib.hid hn
          rw [Nat.add_zero] at g1
          clear hc hr hg hb hnd hm
          go_wp2_with (go_at_call 62; refine (c_isNumber _ _).mono ?_; rintro e w' ⟨rfl, rfl⟩)
          go_roundw
          case rel =>
            exact ⟨1, by omega, by go_num, fun j hj hjk => by obtain rfl : j = 0 := by omega
                                                              exact Hn.out, Hnd.out, Hm.out, Hb.out, hz⟩
          case measure => simp [intOf]; omega
        | succ k =>
          have g0 := (hb.cell (p := ⟨bk, _, none⟩) hbk).trans (hc k (by omega))
          have hn0 := hg k (by omega) (by omega)
          obtain ⟨q, hq, eq⟩ := numB_nat hn
          obtain ⟨p, hp, ep⟩ := numB_nat hn0
          have Ep := Lib.hid ep
          have Eq := Lib.hid eq
          have Hn := Lib.hid hn
          rw [eq] at g1 hn
          rw [ep] at g0
          have hcm := hm.1 p q hp hq
          have hcn := hm.1 q p hq hp
          have hfr := hm.2
          clear hc hr hg hb hnd hm hn0 ep eq
          have hk0 : ((k : Int) + 1 == 0) = false := by simp; omega
          by_cases hin : tile2 (p : Int) q ∈ tilesTo xs k
          · have hd : decide (tile2 (p : Int) q ∈ tilesTo xs (k + 1 - 1)) = true := decide_eq_true hin
            rw [hd] at hcm
            have Ha := Lib.hid (chain_twice (k := k) hlt (by rw [Eq.out, Ep.out]; exact hin))
            clear hd hin
            go_wp2_with (go_at_call 62; refine (c_isNumber _ _).mono ?_; rintro e w' ⟨rfl, rfl⟩)
            go_ret
            exact ⟨ret_b Ha.out.symm, Hb.out⟩
          · have hd : decide (tile2 (p : Int) q ∈ tilesTo xs (k + 1 - 1)) = false := decide_eq_false hin
            rw [hd] at hcm
            have Hin := Lib.hid hin
            clear hd hin
            go_wp2_with (first | (go_at_call 62; refine (c_isNumber _ _).mono ?_; rintro e w' ⟨rfl, rfl⟩) | (go_at_call 119; refine (c_marksSet _ p q hp hq true _ _ _ hcm hcn hfr).mono ?_; rintro e w' ⟨rfl, rfl⟩))
            go_roundw
            case rel =>
              have hst := tilesTo_step hlt
              rw [Ep.out, Eq.out] at hst
              refine ⟨k + 2, by omega, by go_num, fun j hj hjk => ?_, ?_, ?_, ((Hb.out.setCell (Nat.le_refl _) _).setCell (Nat.le_refl _) _).drew, by simpa using hz⟩
              · rcases Nat.lt_succ_iff_lt_or_eq.1 hjk with h | rfl
                · exact Hg.out j hj h
                · exact Hn.out
              · exact nodup_step hlt Hnd.out (by rw [Ep.out, Eq.out]; exact Hin.out)
              · show Marks _ (tilesTo xs (k + 1)) _
                rw [hst]
                exact marks_drew (marks_add hp hq Hm.out)
            case measure => simp [intOf]; omega
      · have hn' : numB xs[k] = false := (Bool.not_eq_true _).mp hn
        have Ha := Lib.hid (chain_bad hlt hn')
        clear hn hc hr hg hb hnd hm
        go_wp2_with (go_at_call 62; refine (c_isNumber _ _).mono ?_; rintro e w' ⟨rfl, rfl⟩)
        go_ret
        exact ⟨ret_b Ha.out.symm, Hb.out⟩
    · have e : tilesTo xs (k - 1) = tilesC xs := by unfold tilesC; congr 1; omega
      have hall : ∀ x ∈ xs, numB x = true := fun x hx => by
        obtain ⟨j, hj, rfl⟩ := List.getElem_of_mem hx
        exact hg j hj (by omega)
      rw [e] at hnd
      by_cases h0 : (0 : Int) < xs.length
      · have Ha := Lib.hid (chain_good (by omega) hall hnd)
        clear e hall hnd hg hm hr
        go_wp2
        go_ret
        exact ⟨ret_b (by rw [Ha.out]; exact decide_eq_true (by omega)), hb⟩
      · have Ha := Lib.hid (chain_empty (xs := xs) (by omega))
        clear e hall hnd hg hm hr
        go_wp2
        go_ret
        exact ⟨ret_b (by rw [Ha.out]; exact decide_eq_false (by omega)), hb⟩
end Go.Proofs.Ytjdnkcdnppcbhaa

/- The tiles of a chain, the way of chapter 3. -/
import Derived.Test.YtjdnkcdnppcbhaaTilesC
import Derived.Deep.RegionHeld3
namespace Go.Proofs.Ytjdnkcdnppcbhaa
open Go.RowKit
set_option linter.unusedVariables false

def whTiles (xs : List Int) : List (Int × Int) := if 1 ≤ xs.length ∧ xs.length ≤ 56 ∧ ∀ x ∈ xs, numB x = true then tilesC xs else []

set_option maxRecDepth 100000 in
set_option maxHeartbeats 2000000 in
theorem c_whChain (A : Option Addr) (c : Nat) (xs : List Int) (w : World) (hr : RdI w A xs) (hl : xs.length ≤ 1048576) :
    Calls Try.prog 153 #[.slice A xs.length c] w (RetT w (whTiles xs) (chainB xs)) := by
  have conA := c_l1All A c xs w hr (by omega)
  by_cases h0 : (1 : Int) ≤ xs.length
  · by_cases h1 : (xs.length : Int) ≤ 56
    · by_cases hg : ∀ x ∈ xs, numB x = true
      · have hB := chain_hand' (by omega) (by omega) hg
        have hW : whTiles xs = tilesC xs := if_pos ⟨by omega, by omega, hg⟩
        have hd : decide (∀ x ∈ xs, numB x = true) = true := decide_eq_true hg
        rw [hd] at conA
        have hx1 : (tilesC xs).length ≤ xs.length := by rw [tilesC_len]; omega
        have hstep : ∀ k, k ≤ xs.length - 1 → ¬ k + 1 < xs.length → tilesTo xs k = tilesC xs := fun k h2 h3 => by unfold tilesC; congr 1; omega
        obtain ⟨ts, hts⟩ : ∃ ts, ts = tilesC xs := ⟨_, rfl⟩
        rw [hW, ← hB, ← hts]
        simp only [← hts] at hstep
        rw [← hts] at hx1
        have Hstep := Lib.hid hstep
        have ConA := Lib.hid conA
        clear hd hg conA hW hB hstep hts
        go_enter Try.func153, Try.ntmps153
        go_wp2_with (first | (go_at_call 79; refine (c_l1In _ _ _ _).mono ?_; rintro e w' ⟨rfl, rfl⟩) | (go_at_call 87; refine ConA.out.mono ?_; rintro e w1 ⟨rfl, hb1⟩))
        have hr1 := hr.below hb1
        clear hr ConA
        go_loopw [4, 5] (fun v i wr => ∃ (k : Nat) (A' : Option Addr) (c' : Nat), k ≤ xs.length - 1 ∧ i = .int .i64 (k + 1) ∧ v = .slice A' (tilesTo xs k).length c' ∧ wr.ownsRow w1.heap.size 82 2 (.slice A' (tilesTo xs k).length c') (tilesTo xs k).length (cellsT (tilesTo xs k)) ∧ Below w1.heap.size w1 wr) (fun _ i _ => xs.length - (intOf i).toNat)
        case atStart => exact ⟨0, none, 0, Nat.zero_le _, rfl, rfl, World.ownsRow_nil _ _ _ _, Below.refl _ _⟩
        case round =>
          obtain ⟨k, A', c', hk, rfl, rfl, hown, hb⟩ := hrel
          have hpl : (tilesTo xs k).length ≤ xs.length := by rw [tilesTo_len]; omega
          by_cases hlt : k + 1 < xs.length
          · obtain ⟨bk, off, rfl, hbk, hc⟩ := hr1.at_ hlt
            have g1 := (hb.cell (p := ⟨bk, _, none⟩) hbk).trans (hc k (by omega))
            have g2 := (hb.cell (p := ⟨bk, _, none⟩) hbk).trans (hc (k + 1) hlt)
            have Hb := Lib.hid hb
            have Hb1 := Lib.hid hb1
            have Ho := Lib.hid hown
            have hsz := hb.size
            have hst := Lib.hid (tilesTo_step hlt)
            have iw : IntKind.i64.wrap ((k : Int) + 1 - 1) = (k : Int) := by rw [IntWalk.i64_in _ (by omega)]; omega
            have iw' : IntKind.i64.wrap (k : Int) = (k : Int) := IntWalk.i64_in _ (by omega)
            have i0 : (0 : Int) ≤ (k : Int) := by omega
            have i1 : (k : Int) < (xs.length : Int) := by omega
            have i2 : (0 : Int) ≤ (k : Int) + 1 := by omega
            have i3 : (k : Int) + 1 < (xs.length : Int) := by omega
            clear hc hr1 hb hb1 hown Hstep hx1
            go_wp2
            go_region_held3 (fun w' => w'.cell? ⟨bk, off + k, none⟩ = some (.int .i64 (xs[k]'(by omega))) ∧ w'.cell? ⟨bk, off + (k + 1), none⟩ = some (.int .i64 xs[k + 1])) (first | exact ⟨z1, z2⟩ | exact ⟨y1, y2⟩ | go_keep) (first | (go_at_call 89; refine (c_tiOf _ _ _).mono ?_; rintro e w2 ⟨rfl, hb2⟩; have y1 := keepc hb2 (g1d _ g1); have y2 := keepc hb2 (g1d _ g2); have hz2 : wr.heap.size ≤ w2.heap.size := hb2.size; have Ho2 := Lib.hid ((own_keep (own_drew Ho.out) hb2).alloc (.cells #[.int .i64 (min (xs[k]'(by omega)) xs[k + 1]), .int .i64 (max (xs[k]'(by omega)) xs[k + 1])] 82))) | (refine step_append_tile rfl (.tmp 21) (.tmp 32) rfl w1.heap.size (.slice A' (tilesTo xs k).length c') (tilesTo xs k) rfl Ho2.out (min (xs[k]'(by omega)) xs[k + 1]) (max (xs[k]'(by omega)) xs[k + 1]) w2.heap.size rfl ?ca ?cb ?cc ?cd ?ce; (case ca => simp); (case cb => simp); (case cc => omega); (case cd => rw [World.size_alloc]; omega); intro A2 c2 w3 hown3 hg3; have hbz := below_of_grown hg3 (B := w1.heap.size) (by rw [World.size_alloc]; omega) (fun g hg => (Ho2.out.lt g hg).1); have z1 : w3.cell? ⟨bk, off + k, none⟩ = some (.int .i64 (xs[k]'(by omega))) := (hbz.cell (p := ⟨bk, off + k, none⟩) hbk).trans (keepc ((Below.refl _ w2).alloc (Nat.le_refl _) _) y1); have z2 : w3.cell? ⟨bk, off + (k + 1), none⟩ = some (.int .i64 xs[k + 1]) := (hbz.cell (p := ⟨bk, off + (k + 1), none⟩) hbk).trans (keepc ((Below.refl _ w2).alloc (Nat.le_refl _) _) y2)))
            go_wp2
            go_roundw
            case rel =>
              refine ⟨k + 1, A2, c2, by omega, by go_num, by rw [hst.out, List.length_append]; rfl, ?_, ?_⟩
              · rw [hst.out, List.length_append]; exact hown3
              · have hb3 : Below w1.heap.size w1 w2 := bstep Hb.out.drew hb2
                have hz3 := hb3.size
                exact Below.grown (by go_grown) hg3 (by simp; omega) (fun g hg => (Ho2.out.lt g hg).1)
            case measure => simp [intOf]; omega
          · rw [Hstep.out k hk hlt] at hown ⊢
            have conH := Lib.hid (c_tiHand A' c' ts wr (RdT.of_own hown) (by omega) (own_cap hown))
            have Ho := Lib.hid hown
            clear hr1 hown Hstep
            go_wp2_with (go_at_call 114; refine conH.out.mono ?_; rintro e w3 ⟨rfl, hb3⟩)
            go_ret2
            exact ⟨A', c', rfl, own_base (own_keep Ho.out hb3) hb1.size, bstep (bstep hb1 hb) hb3⟩
      · have hB := chain_bad' hg
        have hW : whTiles xs = [] := if_neg fun h => hg h.2.2
        have hd : decide (∀ x ∈ xs, numB x = true) = false := decide_eq_false hg
        rw [hd] at conA
        have ConA := Lib.hid conA
        rw [hW, hB]
        clear hd hg hr conA hB hW
        go_enter Try.func153, Try.ntmps153
        go_wp2_with (first | (go_at_call 79; refine (c_l1In _ _ _ _).mono ?_; rintro e w' ⟨rfl, rfl⟩) | (go_at_call 87; refine ConA.out.mono ?_; rintro e w1 ⟨rfl, hb1⟩))
        go_ret2
        exact ⟨none, 0, rfl, World.ownsRow_nil _ _ _ _, hb1⟩
    · have HB := chain_long (xs := xs) (by omega)
      have hW : whTiles xs = [] := if_neg fun h => h1 (by omega)
      rw [HB, hW]
      clear conA hr HB hW
      go_enter Try.func153, Try.ntmps153
      go_wp2_with (first | (go_at_call 79; refine (c_l1In _ _ _ _).mono ?_; rintro e w' ⟨rfl, rfl⟩))
      go_ret2
      exact ⟨none, 0, rfl, World.ownsRow_nil _ _ _ _, Below.refl _ _⟩
  · have HB := chain_empty (xs := xs) (by omega)
    have hW : whTiles xs = [] := if_neg fun h => h0 (by omega)
    rw [HB, hW]
    clear conA hr HB hW
    go_enter Try.func153, Try.ntmps153
    go_wp2_with (first | (go_at_call 79; refine (c_l1In _ _ _ _).mono ?_; rintro e w' ⟨rfl, rfl⟩))
    go_ret2
    exact ⟨none, 0, rfl, World.ownsRow_nil _ _ _ _, Below.refl _ _⟩

end Go.Proofs.Ytjdnkcdnppcbhaa

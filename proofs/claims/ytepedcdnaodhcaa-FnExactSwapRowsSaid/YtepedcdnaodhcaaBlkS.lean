/- Blocks: the specification's functions. -/
import Derived.Test.YtepedcdnaodhcaaBlkM
import Derived.Test.YtepedcdnaodhcaaWinS
import Derived.Test.YtepedcdnaodhcaaNestA
import Derived.Test.YtepedcdnaodhcaaApp
namespace Go.Proofs.Ytepedcdnaodhcaa
open Go.RowKit
set_option linter.unusedVariables false

theorem pairs2_flat0 (rss : List (List Int)) : pairs2 (flatTo rss 0) = [] := by
  rw [flatTo_zero]
  rfl

theorem nebT {m n : Int} (h : m ≠ n) : (m != n) = true := bne_iff_ne.2 h

theorem nebF {m n : Int} (h : m = n) : (m != n) = false := bne_eq_false_iff_eq.2 h

/-- A row of a slice of slices, in memory. -/
theorem RdII.row {w : World} {A : Option Addr} {rss : List (List Int)} (h : RdII w A rss) {k : Nat} (hk : k < rss.length) :
    ∃ b off B d, A = some ⟨b, off, none⟩ ∧ b < w.heap.size ∧ w.cell? ⟨b, off + k, none⟩ = some (.slice B (rss.getD k []).length d) ∧ RdI w B (rss.getD k []) ∧ ∀ j, j < rss.length → ∃ B d, w.cell? ⟨b, off + j, none⟩ = some (.slice B (rss.getD j []).length d) ∧ RdI w B (rss.getD j []) := by
  obtain ⟨b, off, B, d, ha, hc⟩ := h
  exact ⟨b, off, B k, d k, ha (by rintro rfl; simp at hk), block_lt (hc k hk).1, (hc k hk).1, (hc k hk).2, fun j hj => ⟨B j, d j, hc j hj⟩⟩

set_option maxRecDepth 100000 in
set_option maxHeartbeats 2000000 in
theorem c_wiBlockTiles (A : Option Addr) (c : Nat) (rss : List (List Int)) (w : World) (hr : RdII w A rss) (hs : shapeP rss) :
    Calls Try.prog 119 #[.slice A rss.length c] w (RetL w (pairs2 rss.flatten)) := by
  have hW4 : widB rss ≤ 4 := by have := hs.2.2.1; omega
  have hWe : widB rss % 2 = 0 := by have := hs.2.2.1; omega
  have Hw := Lib.hid hs.2.2.2
  have hl3 := hs.2.1
  have Hall := Lib.hid (flatTo_all rss)
  have HW4 := Lib.hid hW4
  have HWe := Lib.hid hWe
  clear hs hW4 hWe
  rw [← Hall.out]
  go_enter Try.func119, Try.ntmps119
  go_wp2
  go_loopw [3, 8] (fun v i wr => ∃ (k : Nat) (A' : Option Addr) (c' : Nat), k ≤ rss.length ∧ i = .int .i64 k ∧ v = .slice A' (pairs2 (flatTo rss k)).length c' ∧ wr.ownsRow w.heap.size 74 2 (.slice A' (pairs2 (flatTo rss k)).length c') (pairs2 (flatTo rss k)).length (cellsT (pairs2 (flatTo rss k))) ∧ Below w.heap.size w wr) (fun _ i _ => rss.length - (intOf i).toNat)
  case atStart =>
    refine ⟨0, none, 0, Nat.zero_le _, rfl, ?_, ?_, Below.refl _ _⟩
    · rw [pairs2_flat0]; rfl
    · rw [pairs2_flat0]; exact World.ownsRow_nil _ _ _ _
  case round =>
    obtain ⟨k, A', c', hk, rfl, rfl, hown, hb⟩ := hrel
    have hfl := flatTo_len Hw.out k hk
    have hpl : (pairs2 (flatTo rss k)).length ≤ 12 := by
      rw [pairs2_len, hfl]
      have := HW4.out
      have : k * widB rss ≤ 3 * 4 := Nat.mul_le_mul (by omega) (by omega)
      omega
    by_cases hlt : k < rss.length
    · obtain ⟨b, off, B, d, rfl, hbk, hc, hrk, _⟩ := hr.row hlt
      have g1 := (hb.cell (p := ⟨b, _, none⟩) hbk).trans hc
      have hst : pairs2 (flatTo rss (k + 1)) = pairs2 (flatTo rss k) ++ pairs2 (rss.getD k []) := by
        rw [flatTo_step hlt, pairs2_append]
        rw [hfl, Nat.mul_mod, HWe.out, Nat.mul_zero, Nat.zero_mod]
      have hrl : (rss.getD k []).length ≤ 4 := by rw [Hw.out k hlt]; exact HW4.out
      have con := Lib.hid (fun W (hW : Below wr.heap.size wr W) => c_wiTiles B d (rss.getD k []) W ((hrk.below hb).below hW) (by omega))
      have hql : (pairs2 (rss.getD k [])).length ≤ 2 := by rw [pairs2_len]; omega
      have Hst := Lib.hid hst
      have Hb := Lib.hid hb
      have Ho := Lib.hid hown
      have hsz := hb.size
      have i0 : (0 : Int) ≤ (k : Int) := by omega
      have i1 : (k : Int) < (rss.length : Int) := by omega
      clear hc hr hrk hb hown hst hfl
      generalize pairs2 (rss.getD k []) = Q at *
      generalize (rss.getD k []).length = n at *
      generalize hT : pairs2 (flatTo rss k) = T at *
      clear hT
      go_wp2_with (first | (go_at_call 154; refine (con.out _ (Below.refl _ _)).mono ?_; rintro e w2 ⟨A2, c2, rfl, ho2, hb2⟩; have Ho2 := Lib.hid (own_keep Ho.out hb2); have Hb2 := Lib.hid (bstep Hb.out hb2); have hz2 := Hb2.out.size) | (at_builtin; refine wp_append_tiles rfl _ _ rfl w.heap.size _ T rfl Ho2.out A2 c2 Q rfl (RdT.of_own ho2) (by omega) (by omega) hz2 ⟨_, _, rfl⟩ ?_; intro A3 c3 w3 hown3 hg3))
      go_roundw
      case rel => exact ⟨k + 1, A3, c3, by omega, by go_num, by rw [Hst.out, List.length_append], by rw [Hst.out]; exact hown3, Below.grown Hb2.out hg3 hz2 (fun g hg => (Ho2.out.lt g hg).1)⟩
      case measure => simp [intOf]; omega
    · obtain rfl : k = rss.length := by omega
      go_wp2
      go_ret
      exact ⟨A', c', rfl, hown, hb⟩

set_option maxRecDepth 100000 in
set_option maxHeartbeats 4000000 in
theorem c_wiBlock (A : Option Addr) (c : Nat) (rss : List (List Int)) (w : World) (hr : RdII w A rss) (hl : rss.length ≤ 9223372036854775807) (hlr : ∀ k, k < rss.length → (rss.getD k []).length ≤ 9223372036854775807) :
    Calls Try.prog 84 #[.slice A rss.length c] w fun e w' => e = .returned (.bool (blkB rss)) ∧ Below w.heap.size w w' := by
  have conI := Lib.hid (fun W => c_l1In (rss.length : Int) 1 3 W)
  by_cases h13 : 1 ≤ rss.length ∧ rss.length ≤ 3
  · have hd : (decide ((1 : Int) ≤ (rss.length : Int)) && decide ((rss.length : Int) ≤ 3)) = true := by
      rw [Bool.and_eq_true, decide_eq_true_eq, decide_eq_true_eq]; omega
    rw [hd] at conI
    have Hrow := Lib.hid (fun k (hk : k < rss.length) h2 h4 => blk_row (rss := rss) hk h2 h4)
    have Hwid := Lib.hid (fun k (hk : k < rss.length) h => blk_wid (rss := rss) hk h)
    have Hnum := Lib.hid (fun k (hk : k < rss.length) h => blk_num (rss := rss) hk h)
    have H13 := Lib.hid h13
    have hl3 : rss.length ≤ 3 := h13.2
    have Hlr := Lib.hid hlr
    have HB := Lib.hid (show (∀ k, k < rss.length → ((rss.getD k []).length = 2 ∨ (rss.getD k []).length = 4) ∧ (rss.getD k []).length = widB rss) → shapeP rss from fun h => ⟨h13.1, h13.2, by have h0 := (h 0 (by omega)).1; exact h0, fun k hk => (h k hk).2⟩)
    have conT := Lib.hid (fun W (hb : Below w.heap.size w W) hs => c_wiBlockTiles A c rss W (hr.below hb) hs)
    have Hyes := Lib.hid (fun h => blk_yes (rss := rss) h)
    have Hlen := Lib.hid (fun (hs : shapeP rss) => (show (pairs2 rss.flatten).length ≤ 12 from by
      rw [pairs2_len, flat_len hs.2.2.2]
      have h4 : widB rss ≤ 4 := by have := hs.2.2.1; omega
      have : rss.length * widB rss ≤ 3 * 4 := Nat.mul_le_mul hs.2.1 h4
      omega))
    clear hd h13 hlr
    go_enter Try.func84, Try.ntmps84
    go_wp2_with (go_at_call 76; refine (conI.out _).mono ?_; rintro e w' ⟨rfl, rfl⟩)
    clear conI
    go_loopw [11] (fun i wr => ∃ k : Nat, k ≤ rss.length ∧ i = .int .i64 k ∧ (∀ j, j < k → ((rss.getD j []).length = 2 ∨ (rss.getD j []).length = 4) ∧ (rss.getD j []).length = widB rss) ∧ Below w.heap.size w wr) (fun i _ => rss.length - (intOf i).toNat)
    case atStart => exact ⟨0, Nat.zero_le _, rfl, by omega, Below.refl _ _⟩
    case round =>
      obtain ⟨k, hk, rfl, hs, hb⟩ := hrel
      by_cases hlt : k < rss.length
      · obtain ⟨b, off, B, d, rfl, hbk, hc, hrk, hall⟩ := hr.row hlt
        have g1 := (hb.cell (p := ⟨b, _, none⟩) hbk).trans hc
        obtain ⟨B0, d0, hc0, _⟩ := hall 0 (by omega)
        have g0 := (hb.cell (p := ⟨b, _, none⟩) hbk).trans hc0
        rw [Nat.add_zero] at g0
        have hrl := Hlr.out k hlt
        have con := Lib.hid (c_l1All B d (rss.getD k []) wr (hrk.below hb) hrl)
        have hw0 : (rss.getD 0 []).length = widB rss := rfl
        rw [hw0] at g0
        have HrowK := Lib.hid (Hrow.out k hlt)
        have HwidK := Lib.hid (Hwid.out k hlt)
        have HnumK := Lib.hid (Hnum.out k hlt)
        have Hs2 := Lib.hid (show ((rss.getD k []).length = 2 ∨ (rss.getD k []).length = 4) ∧ (rss.getD k []).length = widB rss → ∀ j, j < k + 1 → ((rss.getD j []).length = 2 ∨ (rss.getD j []).length = 4) ∧ (rss.getD j []).length = widB rss from fun h j hj => by
          rcases Nat.lt_succ_iff_lt_or_eq.1 hj with h1 | rfl
          · exact hs j h1
          · exact h)
        have Hb := Lib.hid hb
        have i0 : (0 : Int) ≤ (k : Int) := by omega
        have i1 : (k : Int) < (rss.length : Int) := by omega
        have i2 : (0 : Int) < (rss.length : Int) := by omega
        have bad : ∀ {m : Nat}, m ≠ 2 → m ≠ 4 → ((m : Int) != 2) = true ∧ ((m : Int) != 4) = true := fun h2 h4 => ⟨nebT (by omega), nebT (by omega)⟩
        by_cases h24 : (rss.getD k []).length = 2 ∨ (rss.getD k []).length = 4
        · by_cases hw : (rss.getD k []).length = widB rss
          · have q0 : (((rss.getD k []).length : Int) != (widB rss : Int)) = false := nebF (by omega)
            by_cases hn : ∀ x ∈ rss.getD k [], numB x = true
            · rw [decide_eq_true hn] at con
              have Hok := Lib.hid (Hs2.out ⟨h24, hw⟩)
              rcases h24 with h2 | h4
              · have q2 : (((rss.getD k []).length : Int) != 2) = false := nebF (by omega)
                clear hc hc0 hall hr hrk hs hb hw hn h2 bad hw0
                generalize (rss.getD k []).length = n at *
                generalize widB rss = m at *
                go_wp2_with (go_at_call 118; refine con.out.mono ?_; rintro e w1 ⟨rfl, hb1⟩)
                go_roundw
                case rel => exact ⟨k + 1, by omega, by go_num, Hok.out, bstep Hb.out hb1⟩
                case measure => simp [intOf]; omega
              · have q2 : (((rss.getD k []).length : Int) != 2) = true := nebT (by omega)
                have q4 : (((rss.getD k []).length : Int) != 4) = false := nebF (by omega)
                clear hc hc0 hall hr hrk hs hb hw hn h4 bad hw0
                generalize (rss.getD k []).length = n at *
                generalize widB rss = m at *
                go_wp2_with (go_at_call 118; refine con.out.mono ?_; rintro e w1 ⟨rfl, hb1⟩)
                go_roundw
                case rel => exact ⟨k + 1, by omega, by go_num, Hok.out, bstep Hb.out hb1⟩
                case measure => simp [intOf]; omega
            · rw [decide_eq_false hn] at con
              have Hno := Lib.hid (HnumK.out hn)
              rcases h24 with h2 | h4
              · have q2 : (((rss.getD k []).length : Int) != 2) = false := nebF (by omega)
                clear hc hc0 hall hr hrk hs hb hw hn h2 bad hw0 Hs2
                generalize (rss.getD k []).length = n at *
                generalize widB rss = m at *
                go_wp2_with (go_at_call 118; refine con.out.mono ?_; rintro e w1 ⟨rfl, hb1⟩)
                go_ret
                exact ⟨ret_b Hno.out.symm, bstep Hb.out hb1⟩
              · have q2 : (((rss.getD k []).length : Int) != 2) = true := nebT (by omega)
                have q4 : (((rss.getD k []).length : Int) != 4) = false := nebF (by omega)
                clear hc hc0 hall hr hrk hs hb hw hn h4 bad hw0 Hs2
                generalize (rss.getD k []).length = n at *
                generalize widB rss = m at *
                go_wp2_with (go_at_call 118; refine con.out.mono ?_; rintro e w1 ⟨rfl, hb1⟩)
                go_ret
                exact ⟨ret_b Hno.out.symm, bstep Hb.out hb1⟩
          · have q0 : (((rss.getD k []).length : Int) != (widB rss : Int)) = true := nebT (by omega)
            have Hno := Lib.hid (HwidK.out hw)
            rcases h24 with h2 | h4
            · have q2 : (((rss.getD k []).length : Int) != 2) = false := nebF (by omega)
              clear hc hc0 hall hr hrk hs hb hw h2 bad hw0 Hs2 con HwidK
              generalize (rss.getD k []).length = n at *
              generalize widB rss = m at *
              go_wp2
              go_ret
              exact ⟨ret_b Hno.out.symm, Hb.out⟩
            · have q2 : (((rss.getD k []).length : Int) != 2) = true := nebT (by omega)
              have q4 : (((rss.getD k []).length : Int) != 4) = false := nebF (by omega)
              clear hc hc0 hall hr hrk hs hb hw h4 bad hw0 Hs2 con HwidK
              generalize (rss.getD k []).length = n at *
              generalize widB rss = m at *
              go_wp2
              go_ret
              exact ⟨ret_b Hno.out.symm, Hb.out⟩
        · have hb2 := bad (m := (rss.getD k []).length) (by omega) (by omega)
          obtain ⟨q2, q4⟩ := hb2
          have Hno := Lib.hid (HrowK.out (by omega) (by omega))
          clear hc hc0 hall hr hrk hs hb h24 bad hw0 Hs2 con HwidK
          generalize (rss.getD k []).length = n at *
          generalize widB rss = m at *
          go_wp2
          go_ret
          exact ⟨ret_b Hno.out.symm, Hb.out⟩
      · obtain rfl : k = rss.length := by omega
        have hsh := HB.out hs
        have Hy := Lib.hid (Hyes.out hsh)
        have hln := Hlen.out hsh
        have conT2 := Lib.hid (fun W hb => conT.out W hb hsh)
        have Hb := Lib.hid hb
        clear hs hr hsh hb conT HB Hlen Hyes
        generalize pairs2 rss.flatten = T at *
        have conH := Lib.hid (fun W A' c' (hr' : RdT W A' T) (hc : T.length ≤ c') => c_tiHand A' c' T W hr' (by omega) hc)
        go_wp2_with (first | (go_at_call 119; refine (conT2.out _ Hb.out).mono ?_; rintro e w2 ⟨A2, c2, rfl, ho2, hb2⟩) | (go_at_call 103; refine (conH.out _ _ _ (RdT.of_own ho2) (own_cap ho2)).mono ?_; rintro e w3 ⟨rfl, hb3⟩))
        go_ret
        exact ⟨ret_b Hy.out.symm, bstep (bstep Hb.out hb2) hb3⟩
  · have hd : (decide ((1 : Int) ≤ (rss.length : Int)) && decide ((rss.length : Int) ≤ 3)) = false := by
      rw [Bool.and_eq_false_iff, decide_eq_false_iff_not, decide_eq_false_iff_not]; omega
    rw [hd] at conI
    have HB := Lib.hid (show blkB rss = false from by
      by_cases h1 : 1 ≤ rss.length
      · exact blk_long (fun h => h13 ⟨h1, h⟩)
      · exact blk_none h1)
    clear hd h13 hr
    go_enter Try.func84, Try.ntmps84
    go_wp2_with (go_at_call 76; refine (conI.out _).mono ?_; rintro e w' ⟨rfl, rfl⟩)
    go_ret
    exact ⟨ret_b HB.out.symm, Below.refl _ _⟩
end Go.Proofs.Ytepedcdnaodhcaa

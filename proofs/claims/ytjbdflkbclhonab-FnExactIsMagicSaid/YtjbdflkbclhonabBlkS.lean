/- Blocks: the specification's functions. -/
import Derived.Test.YtjbdflkbclhonabBlkM
import Derived.Test.YtjbdflkbclhonabWinS
import Derived.Test.YtjbdflkbclhonabNestA
import Derived.Test.YtjbdflkbclhonabApp
namespace Go.Proofs.Ytjbdflkbclhonab
open Go.RowKit
set_option linter.unusedVariables false

theorem pairs2_flat0 (rss : List (List Int)) : pairs2 (flatTo rss 0) = [] := by
  rw [flatTo_zero]
  rfl

theorem nebT {m n : Int} (h : m ≠ n) : (m != n) = true := bne_iff_ne.2 h

theorem nebF {m n : Int} (h : m = n) : (m != n) = false := bne_eq_false_iff_eq.2 h

/-- A row of a slice of slices, in memory. -/
theorem RdII.row {w : World} {A : Option Addr} {rss : List (List Int)} (h : RdII w A rss) {k : Nat} (hk : k < rss.length) :
    ∃ b off B d, A = some ⟨b, off, none⟩ ∧ b < w.heap.size ∧ w.cell? ⟨b, off + k, none⟩ = some (.slice B (rss.getD k []).length d) ∧ RdI w B (rss.getD k []) ∧ ∀ j, j < rss.length → ∃ B d, w.cell? ⟨b, off + j, none⟩ = some (.slice B (rss.getD j []).length d) ∧ RdI w B (rss.getD j []) := by
  obtain ⟨b, off, B, d, ha, hc⟩ := h
  exact ⟨b, off, B k, d k, ha (by rintro rfl; simp at hk), block_lt (hc k hk).1, (hc k hk).1, (hc k hk).2, fun j hj => ⟨B j, d j, hc j hj⟩⟩

set_option maxRecDepth 100000 in
set_option maxHeartbeats 2000000 in
theorem c_wiBlockTiles (A : Option Addr) (c : Nat) (rss : List (List Int)) (w : World) (hr : RdII w A rss) (hs : shapeP rss) :
    Calls Try.prog 77 #[.slice A rss.length c] w (RetL w (pairs2 rss.flatten)) := by
  have hW4 : widB rss ≤ 4 := by have := hs.2.2.1; omega
  have hWe : widB rss % 2 = 0 := by have := hs.2.2.1; omega
  have Hw := Lib.hid hs.2.2.2
  have hl3 := hs.2.1
  have Hall := Lib.hid (flatTo_all rss)
  have HW4 := Lib.hid hW4
  have HWe := Lib.hid hWe
  clear hs hW4 hWe
  rw [← Hall.out]
  go_enter Try.func77, Try.ntmps77
  go_wp2
  go_loopw [3, 8] (fun v i wr => ∃ (k : Nat) (A' : Option Addr) (c' : Nat), k ≤ rss.length ∧ i = .int .i64 k ∧ v = .slice A' (pairs2 (flatTo rss k)).length c' ∧ wr.ownsRow w.heap.size 72 2 (.slice A' (pairs2 (flatTo rss k)).length c') (pairs2 (flatTo rss k)).length (cellsT (pairs2 (flatTo rss k))) ∧ Below w.heap.size w wr) (fun _ i _ => rss.length - (intOf i).toNat)
  case atStart =>
    refine ⟨0, none, 0, Nat.zero_le _, rfl, ?_, ?_, Below.refl _ _⟩
    · rw [pairs2_flat0]; rfl
    · rw [pairs2_flat0]; exact World.ownsRow_nil _ _ _ _
  case round =>
    obtain ⟨k, A', c', hk, rfl, rfl, hown, hb⟩ := hrel
    have hfl := flatTo_len Hw.out k hk
    have hpl : (pairs2 (flatTo rss k)).length ≤ 12 := by
      rw [pairs2_len, hfl]
      have := HW4.out
      have : k * widB rss ≤ 3 * 4 := Nat.mul_le_mul (by omega) (by omega)
      omega
    by_cases hlt : k < rss.length
    · obtain ⟨b, off, B, d, rfl, hbk, hc, hrk, _⟩ := hr.row hlt
      have g1 := (hb.cell (p := ⟨b, _, none⟩) hbk).trans hc
      have hst : pairs2 (flatTo rss (k + 1)) = pairs2 (flatTo rss k) ++ pairs2 (rss.getD k []) := by
        rw [flatTo_step hlt, pairs2_append]
        rw [hfl, Nat.mul_mod, HWe.out, Nat.mul_zero, Nat.zero_mod]
      have hrl : (rss.getD k []).length ≤ 4 := by rw [Hw.out k hlt]; exact HW4.out
      have con := Lib.hid (fun W (hW : Below wr.heap.size wr W) => c_wiTiles B d (rss.getD k []) W ((hrk.below hb).below hW) (by omega))
      have hql : (pairs2 (rss.getD k [])).length ≤ 2 := by rw [pairs2_len]; omega
      have Hst := Lib.hid hst
      have Hb := Lib.hid hb
      have Ho := Lib.hid hown
      have hsz := hb.size
      have i0 : (0 : Int) ≤ (k : Int) := by omega
      have i1 : (k : Int) < (rss.length : Int) := by omega
      clear hc hr hrk hb hown hst hfl
      generalize pairs2 (rss.getD k []) = Q at *
      generalize (rss.getD k []).length = n at *
      generalize hT : pairs2 (flatTo rss k) = T at *
      clear hT
      go_wp2_with (first | (go_at_call 113; refine (con.out _ (Below.refl _ _)).mono ?_; rintro e w2 ⟨A2, c2, rfl, ho2, hb2⟩; have Ho2 := Lib.hid (own_keep Ho.out hb2); have Hb2 := Lib.hid (bstep Hb.out hb2); have hz2 := Hb2.out.size) | (at_builtin; refine wp_append_tiles rfl _ _ rfl w.heap.size _ T rfl Ho2.out A2 c2 Q rfl (RdT.of_own ho2) (by omega) (by omega) hz2 ⟨_, _, rfl⟩ ?_; intro A3 c3 w3 hown3 hg3))
      go_roundw
      case rel => exact ⟨k + 1, A3, c3, by omega, by go_num, by rw [Hst.out, List.length_append], by rw [Hst.out]; exact hown3, Below.grown Hb2.out hg3 hz2 (fun g hg => (Ho2.out.lt g hg).1)⟩
      case measure => simp [intOf]; omega
    · obtain rfl : k = rss.length := by omega
      go_wp2
      go_ret
      exact ⟨A', c', rfl, hown, hb⟩

set_option maxRecDepth 100000 in
set_option maxHeartbeats 4000000 in
theorem c_wiBlock (A : Option Addr) (c : Nat) (rss : List (List Int)) (w : World) (hr : RdII w A rss) (hl : rss.length ≤ 9223372036854775807) (hlr : ∀ k, k < rss.length → (rss.getD k []).length ≤ 9223372036854775807) :
    Calls Try.prog 45 #[.slice A rss.length c] w fun e w' => e = .returned (.bool (blkB rss)) ∧ Below w.heap.size w w' := by
  have conI := Lib.hid (fun W => c_l1In (rss.length : Int) 1 3 W)
  by_cases h13 : 1 ≤ rss.length ∧ rss.length ≤ 3
  · have hd : (decide ((1 : Int) ≤ (rss.length : Int)) && decide ((rss.length : Int) ≤ 3)) = true := by
      rw [Bool.and_eq_true, decide_eq_true_eq, decide_eq_true_eq]; omega
    rw [hd] at conI
    have Hrow := Lib.hid (fun k (hk : k < rss.length) h2 h4 => blk_row (rss := rss) hk h2 h4)
    have Hwid := Lib.hid (fun k (hk : k < rss.length) h => blk_wid (rss := rss) hk h)
    have Hnum := Lib.hid (fun k (hk : k < rss.length) h => blk_num (rss := rss) hk h)
    have H13 := Lib.hid h13
    have hl3 : rss.length ≤ 3 := h13.2
    have Hlr := Lib.hid hlr
    have HB := Lib.hid (show (∀ k, k < rss.length → ((rss.getD k []).length = 2 ∨ (rss.getD k []).length = 4) ∧ (rss.getD k []).length = widB rss) → shapeP rss from fun h => ⟨h13.1, h13.2, by have h0 := (h 0 (by omega)).1; exact h0, fun k hk => (h k hk).2⟩)
    have conT := Lib.hid (fun W (hb : Below w.heap.size w W) hs => c_wiBlockTiles A c rss W (hr.below hb) hs)
    have Hyes := Lib.hid (fun h => blk_yes (rss := rss) h)
    have Hlen := Lib.hid (fun (hs : shapeP rss) => (show (pairs2 rss.flatten).length ≤ 12 from by
      rw [pairs2_len, flat_len hs.2.2.2]
      have h4 : widB rss ≤ 4 := by have := hs.2.2.1; omega
      have : rss.length * widB rss ≤ 3 * 4 := Nat.mul_le_mul hs.2.1 h4
      omega))
    clear hd h13 hlr
    go_enter Try.func45, Try.ntmps45
    go_wp2_with (go_at_call 52; refine (conI.out _).mono ?_; rintro e w' ⟨rfl, rfl⟩)
    clear conI
    go_loopw [11] (fun i wr => ∃ k : Nat, k ≤ rss.length ∧ i = .int .i64 k ∧ (∀ j, j < k → ((rss.getD j []).length = 2 ∨ (rss.getD j []).length = 4) ∧ (rss.getD j []).length = widB rss) ∧ Below w.heap.size w wr) (fun i _ => rss.length - (intOf i).toNat)
    case atStart => exact ⟨0, Nat.zero_le _, rfl, by omega, Below.refl _ _⟩
    case round =>
      obtain ⟨k, hk, rfl, hs, hb⟩ := hrel
      by_cases hlt : k < rss.length
      · obtain ⟨b, off, B, d, rfl, hbk, hc, hrk, hall⟩ := hr.row hlt
        have g1 := (hb.cell (p := ⟨b, _, none⟩) hbk).trans hc
        obtain ⟨B0, d0, hc0, _⟩ := hall 0 (by omega)
        have g0 := (hb.cell (p := ⟨b, _, none⟩) hbk).trans hc0
        rw [Nat.add_zero] at g0
        have hrl := Hlr.out k hlt
        have con := Lib.hid (c_l1All B d (rss.getD k []) wr (hrk.below hb) hrl)
        have hw0 : (rss.getD 0 []).length = widB rss := rfl
        rw [hw0] at g0
        have HrowK := Lib.hid (Hrow.out k hlt)
        have HwidK := Lib.hid (Hwid.out k hlt)
        have HnumK := Lib.hid (Hnum.out k hlt)
        have Hs2 := Lib.hid (show ((rss.getD k []).length = 2 ∨ (rss.getD k []).length = 4) ∧ (rss.getD k []).length = widB rss → ∀ j, j < k + 1 → ((rss.getD j []).length = 2 ∨ (rss.getD j []).length = 4) ∧ (rss.getD j []).length = widB rss from fun h j hj => by
          rcases Nat.lt_succ_iff_lt_or_eq.1 hj with h1 | rfl
          · exact hs j h1
          · exact h)
        have Hb := Lib.hid hb
        have i0 : (0 : Int) ≤ (k : Int) := by omega
        have i1 : (k : Int) < (rss.length : Int) := by omega
        have i2 : (0 : Int) < (rss.length : Int) := by omega
        have bad : ∀ {m : Nat}, m ≠ 2 → m ≠ 4 → ((m : Int) != 2) = true ∧ ((m : Int) != 4) = true := fun h2 h4 => ⟨nebT (by omega), nebT (by omega)⟩
        by_cases h24 : (rss.getD k []).length = 2 ∨ (rss.getD k []).length = 4
        · by_cases hw : (rss.getD k []).length = widB rss
          · have q0 : (((rss.getD k []).length : Int) != (widB rss : Int)) = false := nebF (by omega)
            by_cases hn : ∀ x ∈ rss.getD k [], numB x = true
            · rw [decide_eq_true hn] at con
              have Hok := Lib.hid (Hs2.out ⟨h24, hw⟩)
              rcases h24 with h2 | h4
              · have q2 : (((rss.getD k []).length : Int) != 2) = false := nebF (by omega)
                clear hc hc0 hall hr hrk hs hb hw hn h2 bad hw0
                generalize (rss.getD k []).length = n at *
                generalize widB rss = m at *
                go_wp2_with (go_at_call 75; refine con.out.mono ?_; rintro e w1 ⟨rfl, hb1⟩)
                go_roundw
                case rel => exact ⟨k + 1, by omega, by go_num, Hok.out, bstep Hb.out hb1⟩
                case measure => simp [intOf]; omega
              · have q2 : (((rss.getD k []).length : Int) != 2) = true := nebT (by omega)
                have q4 : (((rss.getD k []).length : Int) != 4) = false := nebF (by omega)
                clear hc hc0 hall hr hrk hs hb hw hn h4 bad hw0
                generalize (rss.getD k []).length = n at *
                generalize widB rss = m at *
                go_wp2_with (go_at_call 75; refine con.out.mono ?_; rintro e w1 ⟨rfl, hb1⟩)
                go_roundw
                case rel => exact ⟨k + 1, by omega, by go_num, Hok.out, bstep Hb.out hb1⟩
                case measure => simp [intOf]; omega
            · rw [decide_eq_false hn] at con
              have Hno := Lib.hid (HnumK.out hn)
              rcases h24 with h2 | h4
              · have q2 : (((rss.getD k []).length : Int) != 2) = false := nebF (by omega)
                clear hc hc0 hall hr hrk hs hb hw hn h2 bad hw0 Hs2
                generalize (rss.getD k []).length = n at *
                generalize widB rss = m at *
                go_wp2_with (go_at_call 75; refine con.out.mono ?_; rintro e w1 ⟨rfl, hb1⟩)
                go_ret
                exact ⟨ret_b Hno.out.symm, bstep Hb.out hb1⟩
              · have q2 : (((rss.getD k []).length : Int) != 2) = true := nebT (by omega)
                have q4 : (((rss.getD k []).length : Int) != 4) = false := nebF (by omega)
                clear hc hc0 hall hr hrk hs hb hw hn h4 bad hw0 Hs2
                generalize (rss.getD k []).length = n at *
                generalize widB rss = m at *
                go_wp2_with (go_at_call 75; refine con.out.mono ?_; rintro e w1 ⟨rfl, hb1⟩)
                go_ret
                exact ⟨ret_b Hno.out.symm, bstep Hb.out hb1⟩
          · have q0 : (((rss.getD k []).length : Int) != (widB rss : Int)) = true := nebT (by omega)
            have Hno := Lib.hid (HwidK.out hw)
            rcases h24 with h2 | h4
            · have q2 : (((rss.getD k []).length : Int) != 2) = false := nebF (by omega)
              clear hc hc0 hall hr hrk hs hb hw h2 bad hw0 Hs2 con HwidK
              generalize (rss.getD k []).length = n at *
              generalize widB rss = m at *
              go_wp2
              go_ret
              exact ⟨ret_b Hno.out.symm, Hb.out⟩
            · have q2 : (((rss.getD k []).length : Int) != 2) = true := nebT (by omega)
              have q4 : (((rss.getD k []).length : Int) != 4) = false := nebF (by omega)
              clear hc hc0 hall hr hrk hs hb hw h4 bad hw0 Hs2 con HwidK
              generalize (rss.getD k []).length = n at *
              generalize widB rss = m at *
              go_wp2
              go_ret
              exact ⟨ret_b Hno.out.symm, Hb.out⟩
        · have hb2 := bad (m := (rss.getD k []).length) (by omega) (by omega)
          obtain ⟨q2, q4⟩ := hb2
          have Hno := Lib.hid (HrowK.out (by omega) (by omega))
          clear hc hc0 hall hr hrk hs hb h24 bad hw0 Hs2 con HwidK
          generalize (rss.getD k []).length = n at *
          generalize widB rss = m at *
          go_wp2
          go_ret
          exact ⟨ret_b Hno.out.symm, Hb.out⟩
      · obtain rfl : k = rss.length := by omega
        have hsh := HB.out hs
        have Hy := Lib.hid (Hyes.out hsh)
        have hln := Hlen.out hsh
        have conT2 := Lib.hid (fun W hb => conT.out W hb hsh)
        have Hb := Lib.hid hb
        clear hs hr hsh hb conT HB Hlen Hyes
        generalize pairs2 rss.flatten = T at *
        have conH := Lib.hid (fun W A' c' (hr' : RdT W A' T) (hc : T.length ≤ c') => c_tiHand A' c' T W hr' (by omega) hc)
        go_wp2_with (first | (go_at_call 77; refine (conT2.out _ Hb.out).mono ?_; rintro e w2 ⟨A2, c2, rfl, ho2, hb2⟩) | (go_at_call 76; refine (conH.out _ _ _ (RdT.of_own ho2) (own_cap ho2)).mono ?_; rintro e w3 ⟨rfl, hb3⟩))
        go_ret
        exact ⟨ret_b Hy.out.symm, bstep (bstep Hb.out hb2) hb3⟩
  · have hd : (decide ((1 : Int) ≤ (rss.length : Int)) && decide ((rss.length : Int) ≤ 3)) = false := by
      rw [Bool.and_eq_false_iff, decide_eq_false_iff_not, decide_eq_false_iff_not]; omega
    rw [hd] at conI
    have HB := Lib.hid (show blkB rss = false from by
      by_cases h1 : 1 ≤ rss.length
      · exact blk_long (fun h => h13 ⟨h1, h⟩)
      · exact blk_none h1)
    clear hd h13 hr
    go_enter Try.func45, Try.ntmps45
    go_wp2_with (go_at_call 52; refine (conI.out _).mono ?_; rintro e w' ⟨rfl, rfl⟩)
    go_ret
    exact ⟨ret_b HB.out.symm, Below.refl _ _⟩

set_option maxRecDepth 100000 in
set_option maxHeartbeats 2000000 in
theorem c_wiRows (A : Option Addr) (c : Nat) (rss : List (List Int)) (w : World) (hr : RdII w A rss) (hs : shapeP rss) (hbd : ∀ i j, 0 ≤ matF rss i j ∧ matF rss i j ≤ 9) :
    Calls Try.prog 47 #[.slice A rss.length c] w (RetN w (sumsL (matF rss) rss.length (widB rss))) := by
  rw [← rsTo_all]
  have hl3 := hs.2.1
  have hW4 : widB rss ≤ 4 := by have := hs.2.2.1; omega
  have Hw := Lib.hid hs.2.2.2
  have Hbd := Lib.hid hbd
  have Hsb := Lib.hid (fun i j => sumF_bd (matF rss) i (fun j => hbd i j) j)
  clear hs hbd
  go_enter Try.func47, Try.ntmps47
  go_wp2
  go_loopw [3, 11] (fun v i wr => ∃ (k : Nat) (A' : Option Addr) (c' : Nat), k ≤ rss.length ∧ i = .int .i64 k ∧ v = .slice A' (rsTo rss (widB rss) k).length c' ∧ wr.ownsRow w.heap.size 3 1 (.slice A' (rsTo rss (widB rss) k).length c') (rsTo rss (widB rss) k).length (cellsI (rsTo rss (widB rss) k)) ∧ Below w.heap.size w wr) (fun _ i _ => rss.length - (intOf i).toNat)
  case atStart => exact ⟨0, none, 0, Nat.zero_le _, rfl, rfl, World.ownsRow_nil _ _ _ _, Below.refl _ _⟩
  case round =>
    obtain ⟨k, A', c', hk, rfl, rfl, hown, hb⟩ := hrel
    have hpl : (rsTo rss (widB rss) k).length ≤ 3 := by rw [rsTo_len]; omega
    by_cases hlt : k < rss.length
    · obtain ⟨b, off, B, d, rfl, hbk, hc, hrk, _⟩ := hr.row hlt
      have g1 := (hb.cell (p := ⟨b, _, none⟩) hbk).trans hc
      have hwk := Hw.out k hlt
      have hrk2 := Lib.hid (hrk.cellD (n := (rss.getD k []).length) rfl)
      rw [hwk] at g1 hrk2
      have hst := rsTo_step rss (widB rss) k
      have Hst := Lib.hid hst
      have Ho := Lib.hid hown
      have Hb := Lib.hid hb
      have hsz := hb.size
      have i0 : (0 : Int) ≤ (k : Int) := by omega
      have i1 : (k : Int) < (rss.length : Int) := by omega
      have Hmat := Lib.hid (fun j => (show (rss.getD k []).getD j 0 = matF rss k j from rfl))
      have Hss := Lib.hid (fun j => (show sumF (matF rss) k (j + 1) = sumF (matF rss) k j + matF rss k j from rfl))
      clear hc hr hrk hown hb hst hwk Hw
      generalize hT : rsTo rss (widB rss) k = T at *
      clear hT
      obtain ⟨wo, rfl⟩ : ∃ wo : World, wo = wr := ⟨_, rfl⟩
      go_wp2
      go_loop [6, 17] (fun s i => ∃ j : Nat, j ≤ widB rss ∧ i = .int .i64 j ∧ s = .int .i64 (sumF (matF rss) k j)) (fun _ i => widB rss - (intOf i).toNat)
      case atStart => exact ⟨0, Nat.zero_le _, rfl, rfl⟩
      case round =>
        obtain ⟨j, hj, rfl, rfl⟩ := hrel
        by_cases hlj : j < widB rss
        · obtain ⟨bk, ok, rfl, hbb, hcc⟩ := hrk2.out (by omega)
          have x1 := (Hb.out.cell (p := ⟨bk, _, none⟩) hbb).trans (hcc j hlj)
          rw [Hmat.out] at x1
          have b1 := Hbd.out k j
          have b2 := Hsb.out k j
          have j0 : (0 : Int) ≤ (j : Int) := by omega
          have j1 : (j : Int) < (widB rss : Int) := by omega
          have hss := Lib.hid (Hss.out j)
          generalize sumF (matF rss) k j = s at *
          generalize matF rss k j = v at *
          clear hcc
          go_wp2
          go_round
          case rel => exact ⟨j + 1, by omega, by go_num, by rw [hss.out]⟩
          case measure => simp [intOf]; omega
        · obtain rfl : j = widB rss := by omega
          generalize hS : sumF (matF rss) k (widB rss) = s at *
          have Ho2 := Lib.hid (Ho.out.alloc (.cells #[.int .i64 s] 3))
          clear hS
          go_wp2_with (at_builtin; refine wp_append_int rfl _ _ rfl w.heap.size _ _ rfl Ho2.out s wo.heap.size rfl (by simp) (by omega) (by simp; omega) ?_; intro A2 c2 w3 hown3 hg3)
          go_roundw
          case rel =>
            refine ⟨k + 1, A2, c2, by omega, by go_num, by rw [Hst.out, List.length_append]; rfl, ?_, ?_⟩
            · rw [Hst.out, List.length_append]; exact hown3
            · have hb0 := Hb.out
              exact Below.grown (by go_grown) hg3 (by simp; omega) (fun g hg => (Ho2.out.lt g hg).1)
          case measure => simp [intOf]; omega
    · obtain rfl : k = rss.length := by omega
      go_wp2
      go_ret
      exact ⟨A', c', rfl, hown, hb⟩

set_option maxRecDepth 100000 in
set_option maxHeartbeats 2000000 in
theorem c_wiColumns (A : Option Addr) (c : Nat) (rss : List (List Int)) (w : World) (hr : RdII w A rss) (hs : shapeP rss) (hbd : ∀ i j, 0 ≤ matF rss i j ∧ matF rss i j ≤ 9) :
    Calls Try.prog 48 #[.slice A rss.length c] w (RetN w (sumsL (fun c i => matF rss i c) (widB rss) rss.length)) := by
  obtain ⟨i0, hi, hz0, hz1, hz2⟩ := info_parts Try.info_int
  have HR := Lib.hid (show sumsL (fun c i => matF rss i c) (widB rss) rss.length = colTo rss (widB rss) rss.length 0 from (colTo_all rss (widB rss) rss.length).symm)
  have hl3 := hs.2.1
  have hl1 := hs.1
  have hW4 : widB rss ≤ 4 := by have := hs.2.2.1; omega
  have Hw := Lib.hid hs.2.2.2
  have Hbd := Lib.hid hbd
  have Hsb := Lib.hid (fun i j => sumF_bd (fun c i => matF rss i c) i (fun j => hbd j i) j)
  have Hlen := Lib.hid (fun k j => colTo_len rss (widB rss) k j)
  have Hz0 := Lib.hid (colTo_zero rss (widB rss))
  obtain ⟨b, off, B, d, rfl, hbk, hc, _, hall⟩ := hr.row (k := 0) (by omega)
  have g0 := hc
  rw [Nat.add_zero, show (rss.getD 0 []).length = widB rss from rfl] at g0
  have Hrows := Lib.hid hall
  have j2 : (0 : Int) < (rss.length : Int) := by omega
  clear hs hbd hc hall hr
  go_enter Try.func48, Try.ntmps48
  go_wp2_with (refine wpList_make_full _ rfl _ _ _ rfl w.heap.size 3 i0 _ 1 Try.underlying42 hi hz0 hz1 .i64 .i64 _ _ (widB rss) rfl rfl rfl rfl (by rw [hz2]; omega) (by unfold maxLen; omega) (Nat.le_refl _) ?_; intro w1 hown1 hg1)
  have hz : (madeCells (Value.int .i64 0).cells (widB rss * 1)).toList = cellsI (colTo rss (widB rss) 0 0) := by
    have h := copyI_zero (List.replicate (widB rss) 0)
    rw [List.length_replicate] at h
    rw [← h, Hz0.out]
    simp [copyI]
  rw [hz] at hown1
  have hb1 : Below w.heap.size w w1 := below_of_grown hg1 (Nat.le_refl _) (by simp)
  clear hg1 hz0 hz1 hz2 hi hz Hz0
  go_loopw [15] (fun i wr => ∃ k : Nat, k ≤ rss.length ∧ i = .int .i64 k ∧ wr.ownsRow w.heap.size 3 1 (.slice (some ⟨w.heap.size, 0, none⟩) (widB rss) (widB rss)) (widB rss) (cellsI (colTo rss (widB rss) k 0)) ∧ Below w.heap.size w wr) (fun i _ => rss.length - (intOf i).toNat)
  case atStart => exact ⟨0, Nat.zero_le _, rfl, hown1, hb1⟩
  case round =>
    clear hown1 hb1
    obtain ⟨k, hk, rfl, hown, hb⟩ := hrel
    by_cases hlt : k < rss.length
    · obtain ⟨Bk, dk, hck, hrk⟩ := Hrows.out k hlt
      have g1 := (hb.cell (p := ⟨b, _, none⟩) hbk).trans hck
      have hwk := Hw.out k hlt
      have hrk2 := Lib.hid (hrk.cellD (n := (rss.getD k []).length) rfl)
      rw [hwk] at g1 hrk2
      have k0 : (0 : Int) ≤ (k : Int) := by omega
      have k1 : (k : Int) < (rss.length : Int) := by omega
      clear hck hrk hwk
      obtain ⟨wo, rfl⟩ : ∃ wo : World, wo = wr := ⟨_, rfl⟩
      go_wp2
      go_loopw [21] (fun i wr => ∃ j : Nat, j ≤ widB rss ∧ i = .int .i64 j ∧ wr.ownsRow w.heap.size 3 1 (.slice (some ⟨w.heap.size, 0, none⟩) (widB rss) (widB rss)) (widB rss) (cellsI (colTo rss (widB rss) k j)) ∧ Below w.heap.size w wr) (fun i _ => widB rss - (intOf i).toNat)
      case atStart => exact ⟨0, Nat.zero_le _, rfl, hown, hb⟩
      case round =>
        clear hown hb
        obtain ⟨j, hj, rfl, hown, hb⟩ := hrel
        by_cases hlj : j < widB rss
        · obtain ⟨bk, ok, rfl, hbb, hcc⟩ := hrk2.out (by omega)
          have y1 := (hb.cell (p := ⟨bk, _, none⟩) hbb).trans (hcc j hlj)
          have x1 := (hown.cellAt j (by omega)).trans (show (cellsI (colTo rss (widB rss) k j))[j]? = some (.int .i64 (sumF (fun c i => matF rss i c) j k)) from by rw [cellsI, List.getElem?_map, colTo_get rss hlj]; rfl)
          have f1 := hown.frozenAt j
          rw [show (rss.getD k []).getD j 0 = matF rss k j from rfl] at y1
          have b1 := Hbd.out k j
          have b2 := Hsb.out j k
          have j0 : (0 : Int) ≤ (j : Int) := by omega
          have j1 : (j : Int) < (widB rss : Int) := by omega
          have hst := colTo_step rss (k := k) hlj
          have Hst := Lib.hid hst
          have Ho := Lib.hid hown
          have Hb := Lib.hid hb
          clear hst hown hb hcc
          generalize sumF (fun c i => matF rss i c) j k = s at *
          generalize matF rss k j = v at *
          go_wp2
          go_roundw
          case rel =>
            refine ⟨j + 1, by omega, by go_num, ?_, Hb.out.setCell (Nat.le_refl _) _⟩
            rw [← Hst.out, ← cellsI_setS]
            exact (Ho.out.stored _ _).1
          case measure => simp [intOf]; omega
        · obtain rfl : j = widB rss := by omega
          have Ho := Lib.hid hown
          have Hb := Lib.hid hb
          clear hown hb
          go_wp2
          go_roundw
          case rel => exact ⟨k + 1, by omega, by go_num, by rw [← colTo_next]; exact Ho.out, Hb.out⟩
          case measure => simp [intOf]; omega
    · obtain rfl : k = rss.length := by omega
      go_wp2
      go_ret
      rw [HR.out]
      refine ⟨some ⟨w.heap.size, 0, none⟩, widB rss, (by rw [Hlen.out]; rfl), ?_, hb⟩
      rw [Hlen.out]
      exact hown
end Go.Proofs.Ytjbdflkbclhonab

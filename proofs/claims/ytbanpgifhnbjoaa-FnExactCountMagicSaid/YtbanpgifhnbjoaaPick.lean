/- Tiles picked out of the whole set: sorted hands by the specification. -/
import Derived.Test.YtbanpgifhnbjoaaSet
import Derived.Test.YtbanpgifhnbjoaaHand
namespace Go.Proofs.Ytbanpgifhnbjoaa
open Go.RowKit
set_option linter.unusedVariables false

def pickB (ts : List (Int × Int)) (b : Bool) (t : Int × Int) : Bool := decide (t ∈ ts) == b
/-- Those of the first k tiles of a set that are in a list, or are not. -/
def pickTo (us ts : List (Int × Int)) (b : Bool) (k : Nat) : List (Int × Int) := (us.take k).filter (pickB ts b)
theorem pickTo_yes {us ts : List (Int × Int)} {b : Bool} {k : Nat} (hk : k < us.length) (h : pickB ts b us[k] = true) : pickTo us ts b (k + 1) = pickTo us ts b k ++ [us[k]] := by
  unfold pickTo
  rw [List.take_succ_eq_append_getElem hk, List.filter_append]
  simp [h]
theorem pickTo_no {us ts : List (Int × Int)} {b : Bool} {k : Nat} (hk : k < us.length) (h : pickB ts b us[k] = false) : pickTo us ts b (k + 1) = pickTo us ts b k := by
  unfold pickTo
  rw [List.take_succ_eq_append_getElem hk, List.filter_append]
  simp [h]
theorem pickTo_len (us ts : List (Int × Int)) (b : Bool) (k : Nat) : (pickTo us ts b k).length ≤ us.length := by
  unfold pickTo
  exact Nat.le_trans (List.length_filter_le _ _) (by simp; omega)
def pickL (n : Nat) (ts : List (Int × Int)) (b : Bool) : List (Int × Int) := (setL n).filter (pickB ts b)
theorem pickTo_all (n : Nat) (ts : List (Int × Int)) (b : Bool) : pickTo (setL n) ts b (setL n).length = pickL n ts b := by simp [pickTo, pickL]
theorem pickL_len {n : Nat} (hn : n ≤ 9) (ts : List (Int × Int)) (b : Bool) : (pickL n ts b).length ≤ 110 := by
  have h1 := pickTo_len (setL n) ts b (setL n).length
  rw [pickTo_all] at h1
  have := setL_len hn
  omega
def sortL (ts : List (Int × Int)) : List (Int × Int) := pickL 9 ts true
theorem sortL_len (ts : List (Int × Int)) : (sortL ts).length ≤ 110 := pickL_len (by omega) ts true

set_option maxHeartbeats 2000000 in
theorem c_tiPick (n : Nat) (hn : n ≤ 9) (A : Option Addr) (c : Nat) (ts : List (Int × Int)) (b : Bool) (w : World) (hr : RdT w A ts) (hl : ts.length ≤ 1048576) :
    Calls Try.prog 71 #[.int .i64 n, .slice A ts.length c, .bool b] w (RetL w (pickL n ts b)) := by
  have hlen := setL_len hn
  obtain ⟨us, hus⟩ : ∃ us, us = setL n := ⟨_, rfl⟩
  have conS := Lib.hid (c_tiSet n hn w)
  rw [← pickTo_all]
  rw [← hus] at hlen conS ⊢
  clear hus
  go_enter Try.func71, Try.ntmps71
  go_wp2_with (go_at_call 98; refine conS.out.mono ?_; rintro e w1 ⟨U, cU, rfl, ho1, hb1⟩)
  have hru := RdT.of_own ho1
  clear conS
  go_loopw [7, 13] (fun v i wr => ∃ (k : Nat) (A' : Option Addr) (c' : Nat), k ≤ us.length ∧ i = .int .i64 k ∧ v = .slice A' (pickTo us ts b k).length c' ∧ wr.ownsRow w1.heap.size 50 2 (.slice A' (pickTo us ts b k).length c') (pickTo us ts b k).length (cellsT (pickTo us ts b k)) ∧ Below w1.heap.size w1 wr) (fun _ i _ => us.length - (intOf i).toNat)
  case atStart => exact ⟨0, none, 0, Nat.zero_le _, rfl, rfl, World.ownsRow_nil _ _ _ _, Below.refl _ _⟩
  case round =>
    clear ho1
    obtain ⟨k, A', c', hk, rfl, rfl, hown, hb⟩ := hrel
    have hpl := pickTo_len us ts b k
    by_cases hlt : k < us.length
    · obtain ⟨bk, off, rfl, hbk, hc⟩ := hru.at_ hlt
      have g1 := (hb.cell (p := ⟨bk, _, none⟩) hbk).trans (hc k hlt).1
      have g2 := (hb.cell (p := ⟨bk, _, none⟩) hbk).trans (hc k hlt).2
      have hr' := Lib.hid ((hr.below hb1).below hb)
      have Hb := Lib.hid hb
      have Ho := Lib.hid hown
      have hsz := hb.size
      have x0 : (wr.alloc (.cells #[.int .i64 us[k].1, .int .i64 us[k].2] 50)).cell? ⟨wr.heap.size, 0, none⟩ = some (.int .i64 us[k].1) := by simp
      have x1 : (wr.alloc (.cells #[.int .i64 us[k].1, .int .i64 us[k].2] 50)).cell? ⟨wr.heap.size, 1, none⟩ = some (.int .i64 us[k].2) := by simp
      clear hc hr hb hown hru
      by_cases hin : us[k] ∈ ts
      · have hge : decide (0 ≤ placeI ts (us[k].1, us[k].2)) = true := decide_eq_true (placeI_nonneg.2 hin)
        cases b
        · have hst := Lib.hid (pickTo_no (ts := ts) (b := false) hlt (by simp [pickB, hin]))
          clear hin
          go_wp2_with (first | (go_at_call 64; refine (c_tiPlace _ _ ts _ _ _ (hr'.out.below (by go_grown)) (by omega)).mono ?_; rintro e w2 ⟨rfl, hb2⟩; have y0 := keepc hb2 x0; have y1 := keepc hb2 x1; have hz2 := hb2.size; simp only [World.size_alloc] at hz2; have Ho2 := Lib.hid ((own_keep (Ho.out.alloc (.cells #[.int .i64 us[k].1, .int .i64 us[k].2] 50)) hb2).alloc (.cells #[.int .i64 us[k].1, .int .i64 us[k].2] 50))) | (at_builtin; refine wp_append_tile rfl _ _ rfl w1.heap.size _ _ rfl Ho2.out us[k].1 us[k].2 w2.heap.size rfl (by simp) (by simp) (by omega) (by simp; omega) ?_; intro A2 c2 w3 hown3 hg3))
          go_roundw
          case rel => exact ⟨k + 1, A', c', by omega, by go_num, by rw [hst.out], by rw [hst.out]; exact own_keep (Ho.out.alloc _) hb2, bstep (by have hb0 := Hb.out; have hz0 := hb0.size; go_grown) hb2⟩
          case measure => simp [intOf]; omega
        · have hst := Lib.hid (pickTo_yes (ts := ts) (b := true) hlt (by simp [pickB, hin]))
          clear hin
          go_wp2_with (first | (go_at_call 64; refine (c_tiPlace _ _ ts _ _ _ (hr'.out.below (by go_grown)) (by omega)).mono ?_; rintro e w2 ⟨rfl, hb2⟩; have y0 := keepc hb2 x0; have y1 := keepc hb2 x1; have hz2 := hb2.size; simp only [World.size_alloc] at hz2; have Ho2 := Lib.hid ((own_keep (Ho.out.alloc (.cells #[.int .i64 us[k].1, .int .i64 us[k].2] 50)) hb2).alloc (.cells #[.int .i64 us[k].1, .int .i64 us[k].2] 50))) | (at_builtin; refine wp_append_tile rfl _ _ rfl w1.heap.size _ _ rfl Ho2.out us[k].1 us[k].2 w2.heap.size rfl (by simp) (by simp) (by omega) (by simp; omega) ?_; intro A2 c2 w3 hown3 hg3))
          go_roundw
          case rel =>
            refine ⟨k + 1, A2, c2, by omega, by go_num, by rw [hst.out, List.length_append]; rfl, ?_, ?_⟩
            · rw [hst.out, List.length_append]; exact hown3
            · have hb3 : Below w1.heap.size w1 w2 := bstep (by have hb0 := Hb.out; have hz0 := hb0.size; go_grown) hb2
              have hz3 := hb3.size
              exact Below.grown (by go_grown) hg3 (by simp; omega) (fun g hg => (Ho2.out.lt g hg).1)
          case measure => simp [intOf]; omega
      · have hge : decide (0 ≤ placeI ts (us[k].1, us[k].2)) = false := decide_eq_false fun h => hin (placeI_nonneg.1 h)
        cases b
        · have hst := Lib.hid (pickTo_yes (ts := ts) (b := false) hlt (by simp [pickB, hin]))
          clear hin
          go_wp2_with (first | (go_at_call 64; refine (c_tiPlace _ _ ts _ _ _ (hr'.out.below (by go_grown)) (by omega)).mono ?_; rintro e w2 ⟨rfl, hb2⟩; have y0 := keepc hb2 x0; have y1 := keepc hb2 x1; have hz2 := hb2.size; simp only [World.size_alloc] at hz2; have Ho2 := Lib.hid ((own_keep (Ho.out.alloc (.cells #[.int .i64 us[k].1, .int .i64 us[k].2] 50)) hb2).alloc (.cells #[.int .i64 us[k].1, .int .i64 us[k].2] 50))) | (at_builtin; refine wp_append_tile rfl _ _ rfl w1.heap.size _ _ rfl Ho2.out us[k].1 us[k].2 w2.heap.size rfl (by simp) (by simp) (by omega) (by simp; omega) ?_; intro A2 c2 w3 hown3 hg3))
          go_roundw
          case rel =>
            refine ⟨k + 1, A2, c2, by omega, by go_num, by rw [hst.out, List.length_append]; rfl, ?_, ?_⟩
            · rw [hst.out, List.length_append]; exact hown3
            · have hb3 : Below w1.heap.size w1 w2 := bstep (by have hb0 := Hb.out; have hz0 := hb0.size; go_grown) hb2
              have hz3 := hb3.size
              exact Below.grown (by go_grown) hg3 (by simp; omega) (fun g hg => (Ho2.out.lt g hg).1)
          case measure => simp [intOf]; omega
        · have hst := Lib.hid (pickTo_no (ts := ts) (b := true) hlt (by simp [pickB, hin]))
          clear hin
          go_wp2_with (first | (go_at_call 64; refine (c_tiPlace _ _ ts _ _ _ (hr'.out.below (by go_grown)) (by omega)).mono ?_; rintro e w2 ⟨rfl, hb2⟩; have y0 := keepc hb2 x0; have y1 := keepc hb2 x1; have hz2 := hb2.size; simp only [World.size_alloc] at hz2; have Ho2 := Lib.hid ((own_keep (Ho.out.alloc (.cells #[.int .i64 us[k].1, .int .i64 us[k].2] 50)) hb2).alloc (.cells #[.int .i64 us[k].1, .int .i64 us[k].2] 50))) | (at_builtin; refine wp_append_tile rfl _ _ rfl w1.heap.size _ _ rfl Ho2.out us[k].1 us[k].2 w2.heap.size rfl (by simp) (by simp) (by omega) (by simp; omega) ?_; intro A2 c2 w3 hown3 hg3))
          go_roundw
          case rel => exact ⟨k + 1, A', c', by omega, by go_num, by rw [hst.out], by rw [hst.out]; exact own_keep (Ho.out.alloc _) hb2, bstep (by have hb0 := Hb.out; have hz0 := hb0.size; go_grown) hb2⟩
          case measure => simp [intOf]; omega
    · have : k = us.length := by omega
      subst this
      go_wp2
      go_ret
      exact ⟨A', c', rfl, own_base hown hb1.size, bstep hb1 hb⟩

set_option maxHeartbeats 400000 in
theorem c_tiSort (A : Option Addr) (c : Nat) (ts : List (Int × Int)) (w : World) (hr : RdT w A ts) (hl : ts.length ≤ 1048576) :
    Calls Try.prog 46 #[.slice A ts.length c] w (RetL w (sortL ts)) := by
  have con := Lib.hid (c_tiPick 9 (by omega) A c ts true w hr hl)
  go_enter Try.func46, Try.ntmps46
  go_wp2_with (go_at_call 71; refine con.out.mono ?_; rintro e w1 ⟨A', c', rfl, ho, hb⟩)
  go_ret
  exact ⟨A', c', rfl, ho, hb⟩

def sortHL (ts : List (Int × Int)) : List (Int × Int) := if handB ts then sortL ts else []
theorem sortHL_len (ts : List (Int × Int)) : (sortHL ts).length ≤ 110 := by
  unfold sortHL
  split
  · exact sortL_len ts
  · simp
end Go.Proofs.Ytbanpgifhnbjoaa

/- Tiles of one hand that another one has, or has not. -/
import Derived.Test.YtbanpgifhnbjoaaPick
import Derived.Test.YtbanpgifhnbjoaaApp
namespace Go.Proofs.Ytbanpgifhnbjoaa
open Go.RowKit
set_option linter.unusedVariables false

def thoseL (a b : List (Int × Int)) (v : Bool) : List (Int × Int) := (sortL a).filter (pickB b v)
theorem those_all (a b : List (Int × Int)) (v : Bool) : pickTo (sortL a) b v (sortL a).length = thoseL a b v := by simp [pickTo, thoseL]
theorem thoseL_len (a b : List (Int × Int)) (v : Bool) : (thoseL a b v).length ≤ 110 := Nat.le_trans (List.length_filter_le _ _) (sortL_len a)
theorem sort_filter (a : List (Int × Int)) (p : Int × Int → Bool) : (sortL a).filter p = sortL (a.filter p) := by
  unfold sortL pickL
  rw [List.filter_filter]
  refine List.filter_congr fun t _ => ?_
  simp only [pickB, beq_true, List.mem_filter]
  by_cases h1 : t ∈ a <;> cases h2 : p t <;> simp [h1]
def okAB (a b : List (Int × Int)) : Bool := handB a && handB b

set_option maxHeartbeats 2000000 in
theorem c_tiThose (A0 : Option Addr) (c0 : Nat) (ts0 : List (Int × Int)) (A : Option Addr) (c : Nat) (ts : List (Int × Int)) (b : Bool) (w : World) (hr0 : RdT w A0 ts0) (hl0 : ts0.length ≤ 1048576) (hr : RdT w A ts) (hl : ts.length ≤ 1048576) :
    Calls Try.prog 70 #[.slice A0 ts0.length c0, .slice A ts.length c, .bool b] w (RetL w (thoseL ts0 ts b)) := by
  have hlen := sortL_len ts0
  obtain ⟨us, hus⟩ : ∃ us, us = sortL ts0 := ⟨_, rfl⟩
  have conS := Lib.hid (c_tiSort A0 c0 ts0 w hr0 hl0)
  rw [← those_all]
  rw [← hus] at hlen conS ⊢
  clear hus hr0 hl0
  go_enter Try.func70, Try.ntmps70
  go_wp2_with (go_at_call 46; refine conS.out.mono ?_; rintro e w1 ⟨U, cU, rfl, ho1, hb1⟩)
  have hru := RdT.of_own ho1
  clear conS
  go_loopw [7, 13] (fun v i wr => ∃ (k : Nat) (A' : Option Addr) (c' : Nat), k ≤ us.length ∧ i = .int .i64 k ∧ v = .slice A' (pickTo us ts b k).length c' ∧ wr.ownsRow w1.heap.size 50 2 (.slice A' (pickTo us ts b k).length c') (pickTo us ts b k).length (cellsT (pickTo us ts b k)) ∧ Below w1.heap.size w1 wr) (fun _ i _ => us.length - (intOf i).toNat)
  case atStart => exact ⟨0, none, 0, Nat.zero_le _, rfl, rfl, World.ownsRow_nil _ _ _ _, Below.refl _ _⟩
  case round =>
    clear ho1
    obtain ⟨k, A', c', hk, rfl, rfl, hown, hb⟩ := hrel
    have hpl := pickTo_len us ts b k
    by_cases hlt : k < us.length
    · obtain ⟨bk, off, rfl, hbk, hc⟩ := hru.at_ hlt
      have g1 := (hb.cell (p := ⟨bk, _, none⟩) hbk).trans (hc k hlt).1
      have g2 := (hb.cell (p := ⟨bk, _, none⟩) hbk).trans (hc k hlt).2
      have hr' := Lib.hid ((hr.below hb1).below hb)
      have Hb := Lib.hid hb
      have Ho := Lib.hid hown
      have hsz := hb.size
      have x0 : (wr.alloc (.cells #[.int .i64 us[k].1, .int .i64 us[k].2] 50)).cell? ⟨wr.heap.size, 0, none⟩ = some (.int .i64 us[k].1) := by simp
      have x1 : (wr.alloc (.cells #[.int .i64 us[k].1, .int .i64 us[k].2] 50)).cell? ⟨wr.heap.size, 1, none⟩ = some (.int .i64 us[k].2) := by simp
      clear hc hr hb hown hru
      by_cases hin : us[k] ∈ ts
      · have hge : decide (0 ≤ placeI ts (us[k].1, us[k].2)) = true := decide_eq_true (placeI_nonneg.2 hin)
        cases b
        · have hst := Lib.hid (pickTo_no (ts := ts) (b := false) hlt (by simp [pickB, hin]))
          clear hin
          go_wp2_with (first | (go_at_call 64; refine (c_tiPlace _ _ ts _ _ _ (hr'.out.below (by go_grown)) (by omega)).mono ?_; rintro e w2 ⟨rfl, hb2⟩; have y0 := keepc hb2 x0; have y1 := keepc hb2 x1; have hz2 := hb2.size; simp only [World.size_alloc] at hz2; have Ho2 := Lib.hid ((own_keep (Ho.out.alloc (.cells #[.int .i64 us[k].1, .int .i64 us[k].2] 50)) hb2).alloc (.cells #[.int .i64 us[k].1, .int .i64 us[k].2] 50))) | (at_builtin; refine wp_append_tile rfl _ _ rfl w1.heap.size _ _ rfl Ho2.out us[k].1 us[k].2 w2.heap.size rfl (by simp) (by simp) (by omega) (by simp; omega) ?_; intro A2 c2 w3 hown3 hg3))
          go_roundw
          case rel => exact ⟨k + 1, A', c', by omega, by go_num, by rw [hst.out], by rw [hst.out]; exact own_keep (Ho.out.alloc _) hb2, bstep (by have hb0 := Hb.out; have hz0 := hb0.size; go_grown) hb2⟩
          case measure => simp [intOf]; omega
        · have hst := Lib.hid (pickTo_yes (ts := ts) (b := true) hlt (by simp [pickB, hin]))
          clear hin
          go_wp2_with (first | (go_at_call 64; refine (c_tiPlace _ _ ts _ _ _ (hr'.out.below (by go_grown)) (by omega)).mono ?_; rintro e w2 ⟨rfl, hb2⟩; have y0 := keepc hb2 x0; have y1 := keepc hb2 x1; have hz2 := hb2.size; simp only [World.size_alloc] at hz2; have Ho2 := Lib.hid ((own_keep (Ho.out.alloc (.cells #[.int .i64 us[k].1, .int .i64 us[k].2] 50)) hb2).alloc (.cells #[.int .i64 us[k].1, .int .i64 us[k].2] 50))) | (at_builtin; refine wp_append_tile rfl _ _ rfl w1.heap.size _ _ rfl Ho2.out us[k].1 us[k].2 w2.heap.size rfl (by simp) (by simp) (by omega) (by simp; omega) ?_; intro A2 c2 w3 hown3 hg3))
          go_roundw
          case rel =>
            refine ⟨k + 1, A2, c2, by omega, by go_num, by rw [hst.out, List.length_append]; rfl, ?_, ?_⟩
            · rw [hst.out, List.length_append]; exact hown3
            · have hb3 : Below w1.heap.size w1 w2 := bstep (by have hb0 := Hb.out; have hz0 := hb0.size; go_grown) hb2
              have hz3 := hb3.size
              exact Below.grown (by go_grown) hg3 (by simp; omega) (fun g hg => (Ho2.out.lt g hg).1)
          case measure => simp [intOf]; omega
      · have hge : decide (0 ≤ placeI ts (us[k].1, us[k].2)) = false := decide_eq_false fun h => hin (placeI_nonneg.1 h)
        cases b
        · have hst := Lib.hid (pickTo_yes (ts := ts) (b := false) hlt (by simp [pickB, hin]))
          clear hin
          go_wp2_with (first | (go_at_call 64; refine (c_tiPlace _ _ ts _ _ _ (hr'.out.below (by go_grown)) (by omega)).mono ?_; rintro e w2 ⟨rfl, hb2⟩; have y0 := keepc hb2 x0; have y1 := keepc hb2 x1; have hz2 := hb2.size; simp only [World.size_alloc] at hz2; have Ho2 := Lib.hid ((own_keep (Ho.out.alloc (.cells #[.int .i64 us[k].1, .int .i64 us[k].2] 50)) hb2).alloc (.cells #[.int .i64 us[k].1, .int .i64 us[k].2] 50))) | (at_builtin; refine wp_append_tile rfl _ _ rfl w1.heap.size _ _ rfl Ho2.out us[k].1 us[k].2 w2.heap.size rfl (by simp) (by simp) (by omega) (by simp; omega) ?_; intro A2 c2 w3 hown3 hg3))
          go_roundw
          case rel =>
            refine ⟨k + 1, A2, c2, by omega, by go_num, by rw [hst.out, List.length_append]; rfl, ?_, ?_⟩
            · rw [hst.out, List.length_append]; exact hown3
            · have hb3 : Below w1.heap.size w1 w2 := bstep (by have hb0 := Hb.out; have hz0 := hb0.size; go_grown) hb2
              have hz3 := hb3.size
              exact Below.grown (by go_grown) hg3 (by simp; omega) (fun g hg => (Ho2.out.lt g hg).1)
          case measure => simp [intOf]; omega
        · have hst := Lib.hid (pickTo_no (ts := ts) (b := true) hlt (by simp [pickB, hin]))
          clear hin
          go_wp2_with (first | (go_at_call 64; refine (c_tiPlace _ _ ts _ _ _ (hr'.out.below (by go_grown)) (by omega)).mono ?_; rintro e w2 ⟨rfl, hb2⟩; have y0 := keepc hb2 x0; have y1 := keepc hb2 x1; have hz2 := hb2.size; simp only [World.size_alloc] at hz2; have Ho2 := Lib.hid ((own_keep (Ho.out.alloc (.cells #[.int .i64 us[k].1, .int .i64 us[k].2] 50)) hb2).alloc (.cells #[.int .i64 us[k].1, .int .i64 us[k].2] 50))) | (at_builtin; refine wp_append_tile rfl _ _ rfl w1.heap.size _ _ rfl Ho2.out us[k].1 us[k].2 w2.heap.size rfl (by simp) (by simp) (by omega) (by simp; omega) ?_; intro A2 c2 w3 hown3 hg3))
          go_roundw
          case rel => exact ⟨k + 1, A', c', by omega, by go_num, by rw [hst.out], by rw [hst.out]; exact own_keep (Ho.out.alloc _) hb2, bstep (by have hb0 := Hb.out; have hz0 := hb0.size; go_grown) hb2⟩
          case measure => simp [intOf]; omega
    · have : k = us.length := by omega
      subst this
      go_wp2
      go_ret
      exact ⟨A', c', rfl, own_base hown hb1.size, bstep hb1 hb⟩

end Go.Proofs.Ytbanpgifhnbjoaa

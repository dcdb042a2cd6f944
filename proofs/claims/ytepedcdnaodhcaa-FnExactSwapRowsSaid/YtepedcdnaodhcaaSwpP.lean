/- Two rows of a block exchanged: the program's. -/
import Derived.Test.YtepedcdnaodhcaaSwpI
namespace Go.Proofs.Ytepedcdnaodhcaa
open Go.RowKit
set_option linter.unusedVariables false

/-- The outer row's cells with two rows exchanged. -/
def rowsW (g W H p q : Nat) : List Value := (List.range H).map fun i => Value.slice (some ⟨g, swpN p q i * W, none⟩) W W

theorem rowsV_at {g W H k : Nat} (h : k < H) : (rowsV g W H H)[k]? = some (.slice (some ⟨g, k * W, none⟩) W W) := by
  unfold rowsV
  rw [List.getElem?_map, List.getElem?_range h]
  simp [h]

theorem rowsW_of {g W H p q : Nat} (hp : p < H) (hq : q < H) : ((rowsV g W H H).set p (.slice (some ⟨g, q * W, none⟩) W W)).set q (.slice (some ⟨g, p * W, none⟩) W W) = rowsW g W H p q := by
  apply List.ext_getElem?
  intro i
  rw [List.getElem?_set, List.getElem?_set]
  simp only [rowsV_len, List.length_set]
  unfold rowsW swpN
  rw [List.getElem?_map]
  by_cases hi : i < H
  · rw [List.getElem?_range hi, rowsV_at hi]
    simp only [Option.map_some]
    by_cases e1 : q = i
    · subst e1
      rw [if_pos rfl, if_pos hi]
      by_cases e2 : q = p
      · rw [if_pos e2, e2]
      · rw [if_neg e2, if_pos rfl]
    · rw [if_neg e1]
      by_cases e2 : p = i
      · rw [if_pos e2, if_pos hp, if_pos e2.symm]
      · rw [if_neg e2, if_neg (fun h => e2 h.symm), if_neg (fun h => e1 h.symm)]
  · rw [if_neg (by omega), if_neg (by omega), List.getElem?_eq_none (by rw [rowsV_len]; omega), List.getElem?_eq_none (by simp; omega)]
    rfl

def RetSw (w : World) (rss : List (List Int)) (p q : Nat) (e : Ending) (w' : World) : Prop :=
  ∃ go g cap, e = .returned (.tuple #[.slice (some ⟨go, 0, none⟩) rss.length rss.length, .bool true]) ∧ w'.ownsRow w.heap.size 23 1 (.slice (some ⟨go, 0, none⟩) rss.length rss.length) rss.length (rowsW g (widB rss) rss.length p q) ∧ w'.ownsRow w.heap.size 3 1 (.slice (some ⟨g, 0, none⟩) rss.flatten.length cap) rss.flatten.length (cellsI rss.flatten) ∧ g < go ∧ Below w.heap.size w w'

set_option maxRecDepth 100000 in
set_option maxHeartbeats 4000000 in
theorem c_implSwapNo (A : Option Addr) (c : Nat) (rss : List (List Int)) (i j : Int) (w : World) (hr : RdII w A rss) (hl : rss.length ≤ 9223372036854775807) (hlr : ∀ k, k < rss.length → (rss.getD k []).length ≤ 9223372036854775807) (hno : swOk rss i j = false) :
    Calls Try.prog 39 #[.slice A rss.length c, .int .i64 i, .int .i64 j] w fun e w' => e = .returned (.tuple #[.slice none 0 0, .bool false]) ∧ Below w.heap.size w w' := by
  cases hw : blkB rss
  · have con := Lib.hid (c_blockNo A c rss w hr hl hlr hw)
    clear hr hw hlr hno
    go_enter Try.func39, Try.ntmps39
    go_wp2_with (go_at_call 86; refine con.out.mono ?_; rintro e w1 ⟨A1, c1, rfl, hb1⟩)
    go_ret2
    exact ⟨rfl, hb1.alloc hb1.size _⟩
  · have con := Lib.hid (c_blockYes A c rss w hr hl hlr hw)
    have hout : i < 0 ∨ j < 0 ∨ (rss.length : Int) ≤ i ∨ (rss.length : Int) ≤ j := by
      unfold swOk inSw at hno
      rw [hw] at hno
      simp only [Bool.true_and, Bool.and_eq_false_iff, decide_eq_false_iff_not] at hno
      omega
    clear hr hw hlr hno
    generalize rss.flatten = F at *
    generalize widB rss = W at *
    by_cases h1 : j < i
    · have h2 : ¬ i < j := by omega
      by_cases h3 : j < 0
      · go_enter Try.func39, Try.ntmps39
        go_wp2_with (go_at_call 86; refine con.out.mono ?_; rintro e w1 ⟨A1, c1, rfl, ho1, hc1, hm1, hb1⟩)
        go_ret2
        exact ⟨rfl, hb1.alloc hb1.size _⟩
      · have h4 : (rss.length : Int) ≤ i := by omega
        go_enter Try.func39, Try.ntmps39
        go_wp2_with (go_at_call 86; refine con.out.mono ?_; rintro e w1 ⟨A1, c1, rfl, ho1, hc1, hm1, hb1⟩)
        go_ret2
        exact ⟨rfl, hb1.alloc hb1.size _⟩
    · by_cases h3 : i < 0
      · go_enter Try.func39, Try.ntmps39
        go_wp2_with (go_at_call 86; refine con.out.mono ?_; rintro e w1 ⟨A1, c1, rfl, ho1, hc1, hm1, hb1⟩)
        go_ret2
        exact ⟨rfl, hb1.alloc hb1.size _⟩
      · have h4 : (rss.length : Int) ≤ j := by omega
        by_cases h5 : i < j
        · go_enter Try.func39, Try.ntmps39
          go_wp2_with (go_at_call 86; refine con.out.mono ?_; rintro e w1 ⟨A1, c1, rfl, ho1, hc1, hm1, hb1⟩)
          go_ret2
          exact ⟨rfl, hb1.alloc hb1.size _⟩
        · have h6 : (rss.length : Int) ≤ i := by omega
          go_enter Try.func39, Try.ntmps39
          go_wp2_with (go_at_call 86; refine con.out.mono ?_; rintro e w1 ⟨A1, c1, rfl, ho1, hc1, hm1, hb1⟩)
          go_ret2
          exact ⟨rfl, hb1.alloc hb1.size _⟩

set_option maxRecDepth 100000 in
set_option maxHeartbeats 4000000 in
theorem c_implSwapYes (A : Option Addr) (c : Nat) (rss : List (List Int)) (p q : Nat) (w : World) (hr : RdII w A rss) (hl : rss.length ≤ 9223372036854775807) (hlr : ∀ k, k < rss.length → (rss.getD k []).length ≤ 9223372036854775807) (hw : blkB rss = true) (hp : p < rss.length) (hq : q < rss.length) :
    Calls Try.prog 39 #[.slice A rss.length c, .int .i64 p, .int .i64 q] w (RetSw w rss p q) := by
  have con := Lib.hid (c_blockYes A c rss w hr hl hlr hw)
  have hs := blk_shape hw
  have hfl := flat_len hs.2.2.2
  have hW4 : widB rss ≤ 4 := by have := hs.2.2.1; omega
  have hW0 : 0 < widB rss := by have := hs.2.2.1; omega
  have hH3 := hs.2.1
  have hH0 := hs.1
  have conR := Lib.hid (fun A' c' W0 (h : RdI W0 A' rss.flatten) => c_blkRows A' rss.flatten.length c' (widB rss) rss.length rss.flatten W0 h rfl hfl hW0 hW4 hH0 hH3)
  unfold RetRows at conR
  have ip : (0 : Int) ≤ (p : Int) := by omega
  have iq : (0 : Int) ≤ (q : Int) := by omega
  have jp : (p : Int) < (rss.length : Int) := by omega
  have jq : (q : Int) < (rss.length : Int) := by omega
  have np : ¬ rss.length ≤ p := by omega
  have nq : ¬ rss.length ≤ q := by omega
  unfold RetSw
  clear hr hw hlr hs hfl hW4 hW0
  generalize rss.flatten = F at *
  generalize widB rss = W at *
  by_cases h1 : q < p
  · have h2 : ¬ p < q := by omega
    go_enter Try.func39, Try.ntmps39
    go_wp2_with (first | (go_at_call 86; refine con.out.mono ?_; rintro e w1 ⟨A1, c1, rfl, ho1, hc1, hm1, hb1⟩; have x0 : (w1.alloc (.cells #[.slice A1 F.length c1, .int .i64 W] 94)).cell? ⟨w1.heap.size, 0, none⟩ = some (.slice A1 F.length c1) := (by simp); have x1 : (w1.alloc (.cells #[.slice A1 F.length c1, .int .i64 W] 94)).cell? ⟨w1.heap.size, 1, none⟩ = some (.int .i64 W) := (by simp); have HR := Lib.hid (RdI.of_own (ho1.alloc (.cells #[.slice A1 F.length c1, .int .i64 W] 94))); have Hb1 := Lib.hid (hb1.alloc hb1.size (.cells #[.slice A1 F.length c1, .int .i64 W] 94)); clear ho1 hb1) | (go_at_call 87; refine (conR.out _ _ _ HR.out).mono ?_; rintro e w2 ⟨go, g, cap, rfl, ho2, hg2, hlt2, hb2⟩; have y1 := (ho2.cellAt p (by omega)).trans (rowsV_at hp); have y2 := (ho2.cellAt q (by omega)).trans (rowsV_at hq); have f1 := ho2.frozenAt p; have f2 := ho2.frozenAt q; have Hfin := Lib.hid (rowsW_of (g := g) (W := W) hp hq); have Ho2 := Lib.hid ho2; have Hg2 := Lib.hid hg2; have Hlt := Lib.hid hlt2; have hgo := (ho2.lt go rfl).1; have Hb2 := Lib.hid hb2; have Hbb := Lib.hid (bstep Hb1.out hb2); have hz1 := Hb1.out.size; clear ho2 hg2 hb2 x0 x1))
    generalize p * W = a at *
    generalize q * W = b at *
    obtain ⟨v', hy⟩ := cell?_setCell_some (w := w2.drew) (p := ⟨go, p, none⟩) (x := .slice (some ⟨g, b, none⟩) W W) (q := ⟨go, q, none⟩) (v := .slice (some ⟨g, b, none⟩) W W) y2
    go_region
    go_wp2
    go_ret2
    have hgg : w.heap.size ≤ go := Nat.le_trans hz1 hgo
    refine ⟨go, g, cap, rfl, ?_, ?_, Hlt.out, ((Hbb.out.setCell hgg _).setCell hgg _).drew⟩
    · rw [← Hfin.out]
      exact own_base (own_drew (World.ownsRow.stored (Ho2.out.stored _ _).1 _ _).1) hz1
    · exact own_base (own_drew (own_apart_set (own_apart_set Hg2.out (by have := Hlt.out; omega)) (by have := Hlt.out; omega))) hz1
  · by_cases h2 : p < q
    · go_enter Try.func39, Try.ntmps39
      go_wp2_with (first | (go_at_call 86; refine con.out.mono ?_; rintro e w1 ⟨A1, c1, rfl, ho1, hc1, hm1, hb1⟩; have x0 : (w1.alloc (.cells #[.slice A1 F.length c1, .int .i64 W] 94)).cell? ⟨w1.heap.size, 0, none⟩ = some (.slice A1 F.length c1) := (by simp); have x1 : (w1.alloc (.cells #[.slice A1 F.length c1, .int .i64 W] 94)).cell? ⟨w1.heap.size, 1, none⟩ = some (.int .i64 W) := (by simp); have HR := Lib.hid (RdI.of_own (ho1.alloc (.cells #[.slice A1 F.length c1, .int .i64 W] 94))); have Hb1 := Lib.hid (hb1.alloc hb1.size (.cells #[.slice A1 F.length c1, .int .i64 W] 94)); clear ho1 hb1) | (go_at_call 87; refine (conR.out _ _ _ HR.out).mono ?_; rintro e w2 ⟨go, g, cap, rfl, ho2, hg2, hlt2, hb2⟩; have y1 := (ho2.cellAt p (by omega)).trans (rowsV_at hp); have y2 := (ho2.cellAt q (by omega)).trans (rowsV_at hq); have f1 := ho2.frozenAt p; have f2 := ho2.frozenAt q; have Hfin := Lib.hid (rowsW_of (g := g) (W := W) hp hq); have Ho2 := Lib.hid ho2; have Hg2 := Lib.hid hg2; have Hlt := Lib.hid hlt2; have hgo := (ho2.lt go rfl).1; have Hb2 := Lib.hid hb2; have Hbb := Lib.hid (bstep Hb1.out hb2); have hz1 := Hb1.out.size; clear ho2 hg2 hb2 x0 x1))
      generalize p * W = a at *
      generalize q * W = b at *
      obtain ⟨v', hy⟩ := cell?_setCell_some (w := w2.drew) (p := ⟨go, p, none⟩) (x := .slice (some ⟨g, b, none⟩) W W) (q := ⟨go, q, none⟩) (v := .slice (some ⟨g, b, none⟩) W W) y2
      go_region
      go_wp2
      go_ret2
      have hgg : w.heap.size ≤ go := Nat.le_trans hz1 hgo
      refine ⟨go, g, cap, rfl, ?_, ?_, Hlt.out, ((Hbb.out.setCell hgg _).setCell hgg _).drew⟩
      · rw [← Hfin.out]
        exact own_base (own_drew (World.ownsRow.stored (Ho2.out.stored _ _).1 _ _).1) hz1
      · exact own_base (own_drew (own_apart_set (own_apart_set Hg2.out (by have := Hlt.out; omega)) (by have := Hlt.out; omega))) hz1
    · obtain rfl : p = q := by omega
      go_enter Try.func39, Try.ntmps39
      go_wp2_with (first | (go_at_call 86; refine con.out.mono ?_; rintro e w1 ⟨A1, c1, rfl, ho1, hc1, hm1, hb1⟩; have x0 : (w1.alloc (.cells #[.slice A1 F.length c1, .int .i64 W] 94)).cell? ⟨w1.heap.size, 0, none⟩ = some (.slice A1 F.length c1) := (by simp); have x1 : (w1.alloc (.cells #[.slice A1 F.length c1, .int .i64 W] 94)).cell? ⟨w1.heap.size, 1, none⟩ = some (.int .i64 W) := (by simp); have HR := Lib.hid (RdI.of_own (ho1.alloc (.cells #[.slice A1 F.length c1, .int .i64 W] 94))); have Hb1 := Lib.hid (hb1.alloc hb1.size (.cells #[.slice A1 F.length c1, .int .i64 W] 94)); clear ho1 hb1) | (go_at_call 87; refine (conR.out _ _ _ HR.out).mono ?_; rintro e w2 ⟨go, g, cap, rfl, ho2, hg2, hlt2, hb2⟩; have y1 := (ho2.cellAt p (by omega)).trans (rowsV_at hp); have y2 := (ho2.cellAt p (by omega)).trans (rowsV_at hq); have f1 := ho2.frozenAt p; have f2 := ho2.frozenAt p; have Hfin := Lib.hid (rowsW_of (g := g) (W := W) hp hq); have Ho2 := Lib.hid ho2; have Hg2 := Lib.hid hg2; have Hlt := Lib.hid hlt2; have hgo := (ho2.lt go rfl).1; have Hb2 := Lib.hid hb2; have Hbb := Lib.hid (bstep Hb1.out hb2); have hz1 := Hb1.out.size; clear ho2 hg2 hb2 x0 x1))
      generalize p * W = a at *
      obtain ⟨v', hy⟩ := cell?_setCell_some (w := w2.drew) (p := ⟨go, p, none⟩) (x := .slice (some ⟨g, a, none⟩) W W) (q := ⟨go, p, none⟩) (v := .slice (some ⟨g, a, none⟩) W W) y2
      go_region
      go_wp2
      go_ret2
      have hgg : w.heap.size ≤ go := Nat.le_trans hz1 hgo
      refine ⟨go, g, cap, rfl, ?_, ?_, Hlt.out, ((Hbb.out.setCell hgg _).setCell hgg _).drew⟩
      · rw [← Hfin.out]
        exact own_base (own_drew (World.ownsRow.stored (Ho2.out.stored _ _).1 _ _).1) hz1
      · exact own_base (own_drew (own_apart_set (own_apart_set Hg2.out (by have := Hlt.out; omega)) (by have := Hlt.out; omega))) hz1

end Go.Proofs.Ytepedcdnaodhcaa

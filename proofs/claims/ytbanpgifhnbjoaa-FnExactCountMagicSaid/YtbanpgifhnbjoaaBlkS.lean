/- Blocks: the specification's functions. -/
import Derived.Test.YtbanpgifhnbjoaaBlkM
import Derived.Test.YtbanpgifhnbjoaaWinS
import Derived.Test.YtbanpgifhnbjoaaNestA
import Derived.Test.YtbanpgifhnbjoaaApp
namespace Go.Proofs.Ytbanpgifhnbjoaa
open Go.RowKit
set_option linter.unusedVariables false

theorem pairs2_flat0 (rss : List (List Int)) : pairs2 (flatTo rss 0) = [] := by
  rw [flatTo_zero]
  rfl

theorem nebT {m n : Int} (h : m ≠ n) : (m != n) = true := bne_iff_ne.2 h

theorem nebF {m n : Int} (h : m = n) : (m != n) = false := bne_eq_false_iff_eq.2 h

/-- A row of a slice of slices, in memory. -/
theorem RdII.row {w : World} {A : Option Addr} {rss : List (List Int)} (h : RdII w A rss) {k : Nat} (hk : k < rss.length) :
    ∃ b off B d, A = some ⟨b, off, none⟩ ∧ b < w.heap.size ∧ w.cell? ⟨b, off + k, none⟩ = some (.slice B (rss.getD k []).length d) ∧ RdI w B (rss.getD k []) ∧ ∀ j, j < rss.length → ∃ B d, w.cell? ⟨b, off + j, none⟩ = some (.slice B (rss.getD j []).length d) ∧ RdI w B (rss.getD j []) := by
  obtain ⟨b, off, B, d, ha, hc⟩ := h
  exact ⟨b, off, B k, d k, ha (by rintro rfl; simp at hk), block_lt (hc k hk).1, (hc k hk).1, (hc k hk).2, fun j hj => ⟨B j, d j, hc j hj⟩⟩

set_option maxRecDepth 100000 in
set_option maxHeartbeats 2000000 in
theorem c_wiRows (A : Option Addr) (c : Nat) (rss : List (List Int)) (w : World) (hr : RdII w A rss) (hs : shapeP rss) (hbd : ∀ i j, 0 ≤ matF rss i j ∧ matF rss i j ≤ 9) :
    Calls Try.prog 67 #[.slice A rss.length c] w (RetN w (sumsL (matF rss) rss.length (widB rss))) := by
  rw [← rsTo_all]
  have hl3 := hs.2.1
  have hW4 : widB rss ≤ 4 := by have := hs.2.2.1; omega
  have Hw := Lib.hid hs.2.2.2
  have Hbd := Lib.hid hbd
  have Hsb := Lib.hid (fun i j => sumF_bd (matF rss) i (fun j => hbd i j) j)
  clear hs hbd
  go_enter Try.func67, Try.ntmps67
  go_wp2
  go_loopw [3, 11] (fun v i wr => ∃ (k : Nat) (A' : Option Addr) (c' : Nat), k ≤ rss.length ∧ i = .int .i64 k ∧ v = .slice A' (rsTo rss (widB rss) k).length c' ∧ wr.ownsRow w.heap.size 3 1 (.slice A' (rsTo rss (widB rss) k).length c') (rsTo rss (widB rss) k).length (cellsI (rsTo rss (widB rss) k)) ∧ Below w.heap.size w wr) (fun _ i _ => rss.length - (intOf i).toNat)
  case atStart => exact ⟨0, none, 0, Nat.zero_le _, rfl, rfl, World.ownsRow_nil _ _ _ _, Below.refl _ _⟩
  case round =>
    obtain ⟨k, A', c', hk, rfl, rfl, hown, hb⟩ := hrel
    have hpl : (rsTo rss (widB rss) k).length ≤ 3 := by rw [rsTo_len]; omega
    by_cases hlt : k < rss.length
    · obtain ⟨b, off, B, d, rfl, hbk, hc, hrk, _⟩ := hr.row hlt
      have g1 := (hb.cell (p := ⟨b, _, none⟩) hbk).trans hc
      have hwk := Hw.out k hlt
      have hrk2 := Lib.hid (hrk.cellD (n := (rss.getD k []).length) rfl)
      rw [hwk] at g1 hrk2
      have hst := rsTo_step rss (widB rss) k
      have Hst := Lib.hid hst
      have Ho := Lib.hid hown
      have Hb := Lib.hid hb
      have hsz := hb.size
      have i0 : (0 : Int) ≤ (k : Int) := by omega
      have i1 : (k : Int) < (rss.length : Int) := by omega
      have Hmat := Lib.hid (fun j => (show (rss.getD k []).getD j 0 = matF rss k j from rfl))
      have Hss := Lib.hid (fun j => (show sumF (matF rss) k (j + 1) = sumF (matF rss) k j + matF rss k j from rfl))
      clear hc hr hrk hown hb hst hwk Hw
      generalize hT : rsTo rss (widB rss) k = T at *
      clear hT
      obtain ⟨wo, rfl⟩ : ∃ wo : World, wo = wr := ⟨_, rfl⟩
      go_wp2
      go_loop [6, 17] (fun s i => ∃ j : Nat, j ≤ widB rss ∧ i = .int .i64 j ∧ s = .int .i64 (sumF (matF rss) k j)) (fun _ i => widB rss - (intOf i).toNat)
      case atStart => exact ⟨0, Nat.zero_le _, rfl, rfl⟩
      case round =>
        obtain ⟨j, hj, rfl, rfl⟩ := hrel
        by_cases hlj : j < widB rss
        · obtain ⟨bk, ok, rfl, hbb, hcc⟩ := hrk2.out (by omega)
          have x1 := (Hb.out.cell (p := ⟨bk, _, none⟩) hbb).trans (hcc j hlj)
          rw [Hmat.out] at x1
          have b1 := Hbd.out k j
          have b2 := Hsb.out k j
          have j0 : (0 : Int) ≤ (j : Int) := by omega
          have j1 : (j : Int) < (widB rss : Int) := by omega
          have hss := Lib.hid (Hss.out j)
          generalize sumF (matF rss) k j = s at *
          generalize matF rss k j = v at *
          clear hcc
          go_wp2
          go_round
          case rel => exact ⟨j + 1, by omega, by go_num, by rw [hss.out]⟩
          case measure => simp [intOf]; omega
        · obtain rfl : j = widB rss := by omega
          generalize hS : sumF (matF rss) k (widB rss) = s at *
          have Ho2 := Lib.hid (Ho.out.alloc (.cells #[.int .i64 s] 3))
          clear hS
          go_wp2_with (at_builtin; refine wp_append_int rfl _ _ rfl w.heap.size _ _ rfl Ho2.out s wo.heap.size rfl (by simp) (by omega) (by simp; omega) ?_; intro A2 c2 w3 hown3 hg3)
          go_roundw
          case rel =>
            refine ⟨k + 1, A2, c2, by omega, by go_num, by rw [Hst.out, List.length_append]; rfl, ?_, ?_⟩
            · rw [Hst.out, List.length_append]; exact hown3
            · have hb0 := Hb.out
              exact Below.grown (by go_grown) hg3 (by simp; omega) (fun g hg => (Ho2.out.lt g hg).1)
          case measure => simp [intOf]; omega
    · obtain rfl : k = rss.length := by omega
      go_wp2
      go_ret
      exact ⟨A', c', rfl, hown, hb⟩

set_option maxRecDepth 100000 in
set_option maxHeartbeats 2000000 in
theorem c_wiColumns (A : Option Addr) (c : Nat) (rss : List (List Int)) (w : World) (hr : RdII w A rss) (hs : shapeP rss) (hbd : ∀ i j, 0 ≤ matF rss i j ∧ matF rss i j ≤ 9) :
    Calls Try.prog 68 #[.slice A rss.length c] w (RetN w (sumsL (fun c i => matF rss i c) (widB rss) rss.length)) := by
  obtain ⟨i0, hi, hz0, hz1, hz2⟩ := info_parts Try.info_int
  have HR := Lib.hid (show sumsL (fun c i => matF rss i c) (widB rss) rss.length = colTo rss (widB rss) rss.length 0 from (colTo_all rss (widB rss) rss.length).symm)
  have hl3 := hs.2.1
  have hl1 := hs.1
  have hW4 : widB rss ≤ 4 := by have := hs.2.2.1; omega
  have Hw := Lib.hid hs.2.2.2
  have Hbd := Lib.hid hbd
  have Hsb := Lib.hid (fun i j => sumF_bd (fun c i => matF rss i c) i (fun j => hbd j i) j)
  have Hlen := Lib.hid (fun k j => colTo_len rss (widB rss) k j)
  have Hz0 := Lib.hid (colTo_zero rss (widB rss))
  obtain ⟨b, off, B, d, rfl, hbk, hc, _, hall⟩ := hr.row (k := 0) (by omega)
  have g0 := hc
  rw [Nat.add_zero, show (rss.getD 0 []).length = widB rss from rfl] at g0
  have Hrows := Lib.hid hall
  have j2 : (0 : Int) < (rss.length : Int) := by omega
  clear hs hbd hc hall hr
  go_enter Try.func68, Try.ntmps68
  go_wp2_with (refine wpList_make_full _ rfl _ _ _ rfl w.heap.size 3 i0 _ 1 Try.underlying39 hi hz0 hz1 .i64 .i64 _ _ (widB rss) rfl rfl rfl rfl (by rw [hz2]; omega) (by unfold maxLen; omega) (Nat.le_refl _) ?_; intro w1 hown1 hg1)
  have hz : (madeCells (Value.int .i64 0).cells (widB rss * 1)).toList = cellsI (colTo rss (widB rss) 0 0) := by
    have h := copyI_zero (List.replicate (widB rss) 0)
    rw [List.length_replicate] at h
    rw [← h, Hz0.out]
    simp [copyI]
  rw [hz] at hown1
  have hb1 : Below w.heap.size w w1 := below_of_grown hg1 (Nat.le_refl _) (by simp)
  clear hg1 hz0 hz1 hz2 hi hz Hz0
  go_loopw [15] (fun i wr => ∃ k : Nat, k ≤ rss.length ∧ i = .int .i64 k ∧ wr.ownsRow w.heap.size 3 1 (.slice (some ⟨w.heap.size, 0, none⟩) (widB rss) (widB rss)) (widB rss) (cellsI (colTo rss (widB rss) k 0)) ∧ Below w.heap.size w wr) (fun i _ => rss.length - (intOf i).toNat)
  case atStart => exact ⟨0, Nat.zero_le _, rfl, hown1, hb1⟩
  case round =>
    clear hown1 hb1
    obtain ⟨k, hk, rfl, hown, hb⟩ := hrel
    by_cases hlt : k < rss.length
    · obtain ⟨Bk, dk, hck, hrk⟩ := Hrows.out k hlt
      have g1 := (hb.cell (p := ⟨b, _, none⟩) hbk).trans hck
      have hwk := Hw.out k hlt
      have hrk2 := Lib.hid (hrk.cellD (n := (rss.getD k []).length) rfl)
      rw [hwk] at g1 hrk2
      have k0 : (0 : Int) ≤ (k : Int) := by omega
      have k1 : (k : Int) < (rss.length : Int) := by omega
      clear hck hrk hwk
      obtain ⟨wo, rfl⟩ : ∃ wo : World, wo = wr := ⟨_, rfl⟩
      go_wp2
      go_loopw [21] (fun i wr => ∃ j : Nat, j ≤ widB rss ∧ i = .int .i64 j ∧ wr.ownsRow w.heap.size 3 1 (.slice (some ⟨w.heap.size, 0, none⟩) (widB rss) (widB rss)) (widB rss) (cellsI (colTo rss (widB rss) k j)) ∧ Below w.heap.size w wr) (fun i _ => widB rss - (intOf i).toNat)
      case atStart => exact ⟨0, Nat.zero_le _, rfl, hown, hb⟩
      case round =>
        clear hown hb
        obtain ⟨j, hj, rfl, hown, hb⟩ := hrel
        by_cases hlj : j < widB rss
        · obtain ⟨bk, ok, rfl, hbb, hcc⟩ := hrk2.out (by omega)
          have y1 := (hb.cell (p := ⟨bk, _, none⟩) hbb).trans (hcc j hlj)
          have x1 := (hown.cellAt j (by omega)).trans (show (cellsI (colTo rss (widB rss) k j))[j]? = some (.int .i64 (sumF (fun c i => matF rss i c) j k)) from by rw [cellsI, List.getElem?_map, colTo_get rss hlj]; rfl)
          have f1 := hown.frozenAt j
          rw [show (rss.getD k []).getD j 0 = matF rss k j from rfl] at y1
          have b1 := Hbd.out k j
          have b2 := Hsb.out j k
          have j0 : (0 : Int) ≤ (j : Int) := by omega
          have j1 : (j : Int) < (widB rss : Int) := by omega
          have hst := colTo_step rss (k := k) hlj
          have Hst := Lib.hid hst
          have Ho := Lib.hid hown
          have Hb := Lib.hid hb
          clear hst hown hb hcc
          generalize sumF (fun c i => matF rss i c) j k = s at *
          generalize matF rss k j = v at *
          go_wp2
          go_roundw
          case rel =>
            refine ⟨j + 1, by omega, by go_num, ?_, Hb.out.setCell (Nat.le_refl _) _⟩
            rw [← Hst.out, ← cellsI_setS]
            exact (Ho.out.stored _ _).1
          case measure => simp [intOf]; omega
        · obtain rfl : j = widB rss := by omega
          have Ho := Lib.hid hown
          have Hb := Lib.hid hb
          clear hown hb
          go_wp2
          go_roundw
          case rel => exact ⟨k + 1, by omega, by go_num, by rw [← colTo_next]; exact Ho.out, Hb.out⟩
          case measure => simp [intOf]; omega
    · obtain rfl : k = rss.length := by omega
      go_wp2
      go_ret
      rw [HR.out]
      refine ⟨some ⟨w.heap.size, 0, none⟩, widB rss, (by rw [Hlen.out]; rfl), ?_, hb⟩
      rw [Hlen.out]
      exact hown
end Go.Proofs.Ytbanpgifhnbjoaa

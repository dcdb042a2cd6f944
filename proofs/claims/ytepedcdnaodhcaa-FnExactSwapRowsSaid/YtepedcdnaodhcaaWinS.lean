/- Windows: the specification's functions. -/
import Derived.Test.YtepedcdnaodhcaaWinM
import Derived.Test.YtepedcdnaodhcaaConc
import Derived.BigQuiet
namespace Go.Proofs.Ytepedcdnaodhcaa
open Go.RowKit
set_option linter.unusedVariables false

theorem RdI.cellD {w : World} {A : Option Addr} {xs : List Int} {n : Nat} (h : RdI w A xs) (hn : xs.length = n) (h0 : 0 < n) : ∃ b off, A = some ⟨b, off, none⟩ ∧ b < w.heap.size ∧ ∀ k, k < n → w.cell? ⟨b, off + k, none⟩ = some (.int .i64 (xs.getD k 0)) := by
  obtain ⟨b, off, hA, hb, hc⟩ := h.at_ (k := 0) (by omega)
  refine ⟨b, off, hA, hb, fun k hk => ?_⟩
  rw [hc k (by omega)]
  simp [List.getD, List.getElem?_eq_getElem (show k < xs.length by omega)]

set_option maxRecDepth 100000 in
set_option maxHeartbeats 1000000 in
theorem c_wiTiles (A : Option Addr) (c : Nat) (xs : List Int) (w : World) (hr : RdI w A xs) (hl : xs.length ≤ 1048576) :
    Calls Try.prog 154 #[.slice A xs.length c] w (RetL w (pairs2 xs)) := by
  go_enter Try.func154, Try.ntmps154
  go_wp2
  go_loopw [3, 4] (fun v i wr => ∃ (k m : Nat) (A' : Option Addr) (c' : Nat), m = 2 * k ∧ m ≤ xs.length ∧ i = .int .i64 m ∧ v = .slice A' (pairTo xs k).length c' ∧ wr.ownsRow w.heap.size 74 2 (.slice A' (pairTo xs k).length c') (pairTo xs k).length (cellsT (pairTo xs k)) ∧ Below w.heap.size w wr) (fun _ i _ => xs.length - (intOf i).toNat)
  case atStart => exact ⟨0, 0, none, 0, rfl, Nat.zero_le _, rfl, rfl, World.ownsRow_nil _ _ _ _, Below.refl _ _⟩
  case round =>
    obtain ⟨k, m, A', c', hm, hk, rfl, rfl, hown, hb⟩ := hrel
    have hpl : (pairTo xs k).length ≤ xs.length := by rw [pairTo_len]; omega
    by_cases hlt : m + 1 < xs.length
    · obtain ⟨bk, off, rfl, hbk, hc⟩ := hr.at_ hlt
      have g1 := (hb.cell (p := ⟨bk, _, none⟩) hbk).trans (hc m (by omega))
      have g2 := (hb.cell (p := ⟨bk, _, none⟩) hbk).trans (hc (m + 1) hlt)
      have Hb := Lib.hid hb
      have Ho := Lib.hid hown
      have hsz := hb.size
      have hst : pairTo xs (k + 1) = pairTo xs k ++ [(min (xs[m]'(by omega)) xs[m + 1], max (xs[m]'(by omega)) xs[m + 1])] := by
        rw [pairTo_step, ← hm, List.getD_eq_getElem?_getD, List.getD_eq_getElem?_getD, List.getElem?_eq_getElem hlt, List.getElem?_eq_getElem (show m < xs.length by omega)]
        rfl
      have Hst := Lib.hid hst
      have Hm := Lib.hid hm
      have iw : IntKind.i64.wrap ((m : Int) + 1) = (m : Int) + 1 := IntWalk.i64_in _ (by omega)
      have i0 : (0 : Int) ≤ (m : Int) := by omega
      have i1 : (m : Int) < (xs.length : Int) := by omega
      have i2 : (0 : Int) ≤ (m : Int) + 1 := by omega
      have i3 : (m : Int) + 1 < (xs.length : Int) := by omega
      clear hst
      generalize xs[m]'(by omega) = p at *
      generalize xs[m + 1] = q at *
      generalize hT : pairTo xs k = T at *
      clear hc hr hb hown hm hT
      go_wp2
      go_region_held3 (fun w' => w'.cell? ⟨bk, off + m, none⟩ = some (.int .i64 p) ∧ w'.cell? ⟨bk, off + (m + 1), none⟩ = some (.int .i64 q)) (first | exact ⟨z1, z2⟩ | exact ⟨y1, y2⟩ | go_keep) (first | (go_at_call 171; refine (c_tiOf _ _ _).mono ?_; rintro e w2 ⟨rfl, hb2⟩; have y1 := keepc hb2 (g1d _ g1); have y2 := keepc hb2 (g1d _ g2); have hz2 : wr.heap.size ≤ w2.heap.size := hb2.size; have Ho2 := Lib.hid ((own_keep (own_drew Ho.out) hb2).alloc (.cells #[.int .i64 (min p q), .int .i64 (max p q)] 74))) | (refine step_append_tile rfl (.tmp 12) (.tmp 23) rfl w.heap.size (.slice A' T.length c') T rfl Ho2.out (min p q) (max p q) w2.heap.size rfl ?ca ?cb ?cc ?cd ?ce; (case ca => simp); (case cb => simp); (case cc => omega); (case cd => rw [World.size_alloc]; omega); intro A2 c2 w3 hown3 hg3; have hbz := below_of_grown hg3 (B := w.heap.size) (by rw [World.size_alloc]; omega) (fun g hg => (Ho2.out.lt g hg).1); have z1 : w3.cell? ⟨bk, off + m, none⟩ = some (.int .i64 p) := (hbz.cell (p := ⟨bk, off + m, none⟩) hbk).trans (keepc ((Below.refl _ w2).alloc (Nat.le_refl _) _) y1); have z2 : w3.cell? ⟨bk, off + (m + 1), none⟩ = some (.int .i64 q) := (hbz.cell (p := ⟨bk, off + (m + 1), none⟩) hbk).trans (keepc ((Below.refl _ w2).alloc (Nat.le_refl _) _) y2)))
      go_wp2
      go_roundw
      case rel =>
        refine ⟨k + 1, m + 2, A2, c2, by have := Hm.out; omega, by omega, by go_num, by rw [Hst.out, List.length_append]; rfl, ?_, ?_⟩
        · rw [Hst.out, List.length_append]; exact hown3
        · have hb3 : Below w.heap.size w w2 := bstep Hb.out.drew hb2
          have hz3 := hb3.size
          exact Below.grown (by go_grown) hg3 (by simp; omega) (fun g hg => (Ho2.out.lt g hg).1)
      case measure => simp [intOf]; omega
    · have e : pairTo xs k = pairs2 xs := by unfold pairs2; congr 1; omega
      rw [e] at hown ⊢
      clear hm e
      go_wp2
      go_ret
      exact ⟨A', c', rfl, hown, hb⟩

def winT (xs : List Int) : List (Int × Int) := if winB xs then pairs2 xs else []
theorem winT_len (xs : List Int) : (winT xs).length ≤ 110 := by
  unfold winT
  split
  · rename_i h
    rw [pairs2_len, win_len h]
    decide
  · simp
end Go.Proofs.Ytepedcdnaodhcaa

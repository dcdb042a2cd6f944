/- The text of a grid: the program's. -/
import Derived.Test.YtjbdflkbclhonabDoorTabWt
namespace Go.Proofs.YtjbdflkbclhonabDoor
open Go.RowKit
set_option linter.unusedVariables false

def cellsV (us : List ByteArray) : List Value := us.map Value.string

def copyV (k : Nat) (xs : List ByteArray) : List ByteArray := xs.take k ++ List.replicate (xs.length - k) ⟨#[]⟩

theorem copyV_all (xs : List ByteArray) : copyV xs.length xs = xs := by simp [copyV]

theorem copyV_length {k : Nat} {xs : List ByteArray} (h : k ≤ xs.length) : (copyV k xs).length = xs.length := by
  simp [copyV]
  omega

theorem cellsV_zero (n : Nat) : cellsV (List.replicate n ⟨#[]⟩) = (madeCells (Value.string ⟨#[]⟩).cells (n * 1)).toList := by
  rw [Nat.mul_one]
  refine Eq.trans ?_ (toList_madeCells_one (.string ⟨#[]⟩) n).symm
  simp [cellsV]

theorem cellsV_step {k : Nat} {xs : List ByteArray} (h : k < xs.length) : (cellsV (copyV k xs)).set k (.string xs[k]) = cellsV (copyV (k + 1) xs) := by
  unfold copyV cellsV
  rw [show xs.length - k = (xs.length - (k + 1)) + 1 from by omega, List.replicate_succ, List.map_append, List.map_cons, List.take_succ_eq_append_getElem h, List.map_append, List.map_append]
  rw [List.set_append_right _ _ (by simp; omega)]
  simp [Nat.min_eq_left (Nat.le_of_lt h)]

theorem Tryd.info_strV : (Tryd.prog.info? 9).map (fun i => (i.zero, i.size, i.bytes)) = some (some (.string ⟨#[]⟩), 1, 16) := by kernel_rfl

set_option maxRecDepth 100000 in
set_option maxHeartbeats 4000000 in
theorem c_gridText (g n c W H : Nat) (G : Nat → UInt8) (w : World) (hc : ∀ j, j < n → w.cell? ⟨g, j, none⟩ = some (.int .u8 ((G j).toNat : Int))) (hn : n = H * W) (hW : 0 < W) (hH : 0 < H) (hcap : n ≤ c) (k30 : n ≤ 60) :
    Calls Tryd.prog 42 #[.agg #[.slice (some ⟨g, 0, none⟩) n c, .int .i64 W]] w fun e w' => e = .returned (.string (txB W G n)) ∧ Below w.heap.size w w' := by
  obtain ⟨v1, hv1⟩ : ∃ v1, v1 = w.alloc (.cells #[.slice (some ⟨g, 0, none⟩) n c, .int .i64 W] 53) := ⟨_, rfl⟩
  have hb0 : Below w.heap.size w v1 := by rw [hv1]; go_grown
  have r0 : v1.cell? ⟨w.heap.size, 0, none⟩ = some (.slice (some ⟨g, 0, none⟩) n c) := by rw [hv1]; simp
  have r1 : v1.cell? ⟨w.heap.size, 1, none⟩ = some (.int .i64 W) := by rw [hv1]; simp
  have hHn : H ≤ n := by rw [hn]; exact Nat.le_mul_of_pos_right _ hW
  have hWn : W ≤ n := by rw [hn]; exact Nat.le_mul_of_pos_left _ hH
  have hdiv : n / W = H := by rw [hn, Nat.mul_div_cancel _ hW]
  obtain ⟨ss, hss⟩ : ∃ ss : List ByteArray, ss = (List.range H).map fun i => ⟨(rwG W G i).toArray⟩ := ⟨_, rfl⟩
  have hsl : ss.length = H := by rw [hss]; simp
  have hje : (⟨(Lib.join (ss.map (·.data.toList)) (⟨#[47]⟩ : ByteArray).data.toList).toArray⟩ : ByteArray) = txB W G n := by
    unfold txB
    rw [hn, ← join_rows G hW H, hss, List.map_map]
    rfl
  have hjl2 : (Lib.join (ss.map (·.data.toList)) (⟨#[47]⟩ : ByteArray).data.toList).length ≤ 140737488355328 := by
    have e := congrArg ByteArray.size hje
    have e2 := txB_size W G n
    have e3 : (⟨(Lib.join (ss.map (·.data.toList)) (⟨#[47]⟩ : ByteArray).data.toList).toArray⟩ : ByteArray).size = (Lib.join (ss.map (·.data.toList)) (⟨#[47]⟩ : ByteArray).data.toList).length := by
      show (Lib.join (ss.map (·.data.toList)) (⟨#[47]⟩ : ByteArray).data.toList).toArray.size = _
      simp only [List.size_toArray]
    omega
  have Hrun := Lib.hid (fun k (hk : k < H) (hk' : k < ss.length) W0 (hb : Below w.heap.size w W0) => (show (convert 51 9 (.slice (some ⟨g, k * W, none⟩) W W)).run Tryd.prog W0 = .ok (.string ss[k]) W0 from by
    have hlr : (rwG W G k).length = W := by simp [rwG]
    have hkW : k * W + W ≤ n := by rw [hn, ← Nat.succ_mul]; exact Nat.mul_le_mul_right _ hk
    have h := run_convert_bytes_back W0 51 9 5 ⟨g, k * W, none⟩ W (rwG W G k) Tryd.underlying51 Tryd.underlying5 Tryd.underlying9 (fun j hj => by
      rw [hlr] at hj
      rw [addr_addV, keepc hb (hc (k * W + j) (by omega))]
      simp [rwG])
    rw [hlr] at h
    rw [h]
    simp [hss]))
  have Hrow := Lib.hid (fun k (hk : k < H) W0 => (show Calls Tryd.prog 41 #[.agg #[.slice (some ⟨g, 0, none⟩) n c, .int .i64 W], .int .i64 k] W0 fun e w' => e = .returned (.slice (some ⟨g, k * W, none⟩) W W) ∧ Below W0.heap.size W0 w' from by
    have hkW : k * W + W ≤ n := by rw [hn, ← Nat.succ_mul]; exact Nat.mul_le_mul_right _ hk
    have h := c_gridRow g 0 n c W k (k * W) W0 hW rfl hkW hcap (by omega) (by omega)
    rwa [Nat.zero_add] at h))
  have Hhei := Lib.hid (fun W0 => (show Calls Tryd.prog 40 #[.agg #[.slice (some ⟨g, 0, none⟩) n c, .int .i64 W]] W0 fun e w' => e = .returned (.int .i64 (H : Int)) ∧ Below W0.heap.size W0 w' from by
    have h := c_height (some ⟨g, 0, none⟩) n c W W0 hW (by omega)
    rwa [hdiv] at h))
  have Hsl := Lib.hid hsl
  have Hje := Lib.hid hje
  have hH60 : H ≤ 60 := by omega
  obtain ⟨i0, hi, hz0, hz1, hz2⟩ := info_parts Tryd.info_strV
  have Hb0 := Lib.hid hb0
  clear hss hsl hje hc hb0 hn hdiv hcap hHn hWn
  go_enter Tryd.func42, Tryd.ntmps42
  go_wp2_with fail
  rw [← hv1]
  clear hv1
  go_wp2_with (first | (go_at_call 40; refine (Hhei.out _).mono ?_; rintro e w1 ⟨rfl, hb1⟩; have s0 := keepc hb1 r0; have s1 := keepc hb1 r1; have Hb1 := Lib.hid (bstep Hb0.out hb1); clear hb1) | (refine wpList_make_full _ rfl _ _ _ rfl w1.heap.size 9 i0 _ 1 Tryd.underlying71 hi hz0 hz1 .i64 .i64 _ _ H rfl rfl rfl rfl (by rw [hz2]; omega) (by unfold maxLen; omega) (Nat.le_refl _) ?_; intro w2 hown2 hg2))
  have hown : w2.ownsRow w1.heap.size 9 1 (.slice (some ⟨w1.heap.size, 0, none⟩) H H) H (cellsV (copyV 0 ss)) := by
    have e : copyV 0 ss = List.replicate H ⟨#[]⟩ := by simp [copyV, Hsl.out]
    rw [e, cellsV_zero]
    exact hown2
  have hb2 : Below w1.heap.size w1 w2 := below_of_grown hg2 (Nat.le_refl _) (by simp)
  have hbb : Below w1.heap.size w1 w2 := hb2
  clear hown2 hg2 hb2 hz0 hz1 hz2 hi
  go_loopw [10] (fun i wr => ∃ k : Nat, k ≤ H ∧ i = .int .i64 k ∧ wr.ownsRow w1.heap.size 9 1 (.slice (some ⟨w1.heap.size, 0, none⟩) H H) H (cellsV (copyV k ss)) ∧ Below w1.heap.size w1 wr) (fun i _ => H - (intOf i).toNat)
  case atStart => exact ⟨0, Nat.zero_le _, rfl, hown, hbb⟩
  case round =>
    clear hown hbb
    obtain ⟨k, hk, rfl, hown, hb⟩ := hrel
    by_cases hlt : k < H
    · have hl2 : k < ss.length := by rw [Hsl.out]; exact hlt
      have hst := cellsV_step (xs := ss) hl2
      have t0 := keepc hb s0
      have t1 := keepc hb s1
      have hcl := copyV_length (k := k) (xs := ss) (by omega)
      have hcg : (cellsV (copyV k ss))[k]? = some (.string ((copyV k ss)[k]'(by omega))) := by simp [cellsV, hcl, hl2]
      have x1 := (hown.cellAt k (by omega)).trans hcg
      have f1 := hown.frozenAt k
      have hsz := (hown.lt w1.heap.size rfl).2
      have Hrk := Lib.hid (fun W0 hb => Hrun.out k hlt hl2 W0 hb)
      have Hrow2 := Lib.hid (fun W0 => Hrow.out k hlt W0)
      generalize (copyV k ss)[k]'(by omega) = Z at *
      generalize ss[k] = S at *
      generalize k * W = p at *
      have Hst := Lib.hid hst
      have Ho := Lib.hid hown
      have Hb := Lib.hid hb
      have j0 : (0 : Int) ≤ (k : Int) := by omega
      have j1 : (k : Int) < (H : Int) := by omega
      clear hst hcg hown hb hcl Hrun Hrow
      go_wp2_with (go_at_call 41; refine (Hrow2.out _).mono ?_; rintro e w5 ⟨rfl, hb5⟩; have y1 := keepc hb5 x1; have y2 := (hb5.frozen (p := ⟨w1.heap.size, k, none⟩) hsz).trans f1; have hrun := Hrk.out w5 (bstep Hb1.out (bstep Hb.out hb5)); have Ho5 := Lib.hid (own_keep Ho.out hb5); have Hb5 := Lib.hid (bstep Hb.out hb5); clear hb5)
      go_roundw
      case rel =>
        refine ⟨k + 1, by omega, by go_num, ?_, Hb5.out.setCell (Nat.le_refl _) _⟩
        rw [← Hst.out]
        exact (Ho5.out.stored _ _).1
      case measure => simp [intOf]; omega
    · obtain rfl : k = H := by omega
      rw [← Hsl.out, copyV_all, Hsl.out] at hown
      have conJ := Tryd.strings_Join w1.heap.size 0 k ss ⟨#[47]⟩ wr (fun j x hj => by
        obtain ⟨hj1, hj2⟩ := List.getElem?_eq_some_iff.1 hj
        have e3 : (cellsV ss)[j]? = some (.string x) := by simp [cellsV, hj]
        have := (hown.cellAt j (by have := Hsl.out; omega)).trans e3
        rw [Nat.zero_add]
        exact this) (hown.lt w1.heap.size rfl).2 (by rw [Hsl.out]; omega) (by rw [Hsl.out]; exact Nat.le_refl _) hjl2
      rw [Hsl.out, Hje.out] at conJ
      have ConJ := Lib.hid conJ
      clear conJ hown
      go_wp2_with (go_at_call 59; refine ConJ.out.mono ?_; rintro e w5 ⟨rfl, hb5⟩)
      go_ret
      exact ⟨rfl, bstep Hb1.out (bstep hb hb5)⟩

end Go.Proofs.YtjbdflkbclhonabDoor

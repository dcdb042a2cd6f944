/- Rows of texts as arguments of the laws: opened, measured, copied. -/
import Derived.Test.YtgjdpiooocpmhabGreatDoorStrs
import Derived.Test.YtgjdpiooocpmhabGreatDoorLawA
import Derived.Deep.Strs
namespace Go.Proofs.YtgjdpiooocpmhabGreatDoor
open Go.ChangeShapes Go.WideShapes Go.ChangeAt Go.RowKit Go.Joins
set_option linter.unusedVariables false

def szTo (xs : List ByteArray) (k : Nat) : Nat := ((xs.take k).map ByteArray.size).sum
theorem szTo_zero (xs : List ByteArray) : szTo xs 0 = 0 := by simp [szTo]
theorem szTo_step {xs : List ByteArray} {k : Nat} (h : k < xs.length) : szTo xs (k + 1) = szTo xs k + xs[k].size := by
  unfold szTo
  rw [List.take_succ_eq_append_getElem h, List.map_append, List.sum_append]
  simp
theorem szTo_le {xs : List ByteArray} : ∀ {j k : Nat}, j ≤ k → k ≤ xs.length → szTo xs j ≤ szTo xs k
  | j, 0, h, _ => by rw [Nat.le_zero.1 h]; exact Nat.le_refl _
  | j, k + 1, h, hk => by
    by_cases e : j = k + 1
    · rw [e]; exact Nat.le_refl _
    · have h1 := szTo_le (xs := xs) (show j ≤ k by omega) (by omega)
      rw [szTo_step (by omega : k < xs.length)]
      omega

section
variable {H : Type} {enc : TypeId × Value → H}
set_option maxRecDepth 100000 in
theorem open_texts {W : World} {r : Reach} {b0 : Nat} {v : Value} {d : DataW H} {p : List MemPlace}
    (hv : Value.okWide Tryz.prog W r b0 27 v) (h : DataW.Trod enc Tryz.prog W 0 (fun _ => true) true 27 v d p) :
    ∃ (A : Option Addr) (c : Nat) (xs : List ByteArray), v = .slice A xs.length c ∧ RdSt W A xs ∧ xs.length ≤ 9223372036854775807 ∧ ∀ k (h : k < xs.length), xs[k].size ≤ 9223372036854775807 := by
  obtain ⟨a0, len0, cap0, rfl⟩ := okWide_slice Tryz.underlying27 hv
  obtain ⟨fuel, h⟩ := h
  rcases Deep.open_strs Tryz.underlying27 Tryz.underlying9 (by kernel_rfl) h with ⟨h1, _⟩ | ⟨a, len, cap, m, Sx, h1, _, hlc, hcm, hm, _, hi⟩
  · simp only [Value.cells, List.cons.injEq, Value.slice.injEq, and_true] at h1
    obtain ⟨rfl, rfl, rfl⟩ := h1
    exact ⟨none, 0, [], rfl, RdSt.nil_, by simp, fun k hk => by simp at hk⟩
  · simp only [Value.cells, List.cons.injEq, Value.slice.injEq, and_true] at h1
    obtain ⟨rfl, rfl, rfl⟩ := h1
    simp only [if_true] at hm
    subst hm
    refine ⟨some a, m, (List.range len0).map Sx, by simp, ⟨a.block, a.off, fun hne => ?_, fun k hk => ?_⟩, by simp; unfold maxLen at hcm; omega, fun k hk => ?_⟩
    · have h0 : 0 < len0 := by
        rcases Nat.eq_zero_or_pos len0 with h | h
        · subst h; simp at hne
        · exact h
      have := (hi 0 (by omega)).1
      rw [show a.add 0 = a from by simp [Addr.add]] at this
      exact congrArg some (plain_of_cell this)
    · simp only [List.length_map, List.length_range] at hk
      have h1 := cell_add_plain (hi k (by omega)).1
      simp only [List.getElem_map, List.getElem_range]
      exact h1
    · simp only [List.length_map, List.length_range] at hk
      have h1 := (hi k (by omega)).2
      simp only [List.getElem_map, List.getElem_range]
      unfold maxLen at h1
      omega
end

set_option maxHeartbeats 1000000 in
theorem c_szStringS (A : Option Addr) (c : Nat) (xs : List ByteArray) (q : Int) (w : World) (hr : RdSt w A xs) (hl : xs.length ≤ 9223372036854775807) (hb : ∀ k (h : k < xs.length), xs[k].size ≤ 9223372036854775807) (h0 : 0 ≤ q) (h1 : q ≤ 1048576) :
    Calls Tryz.prog 21 #[.slice A xs.length c, .int .i64 q] w fun e w' => e = .returned (.int .i64 (if q - (xs.length : Int) - (szTo xs xs.length : Int) < 0 then -1 else q - (xs.length : Int) - (szTo xs xs.length : Int))) ∧ w = w' := by
  by_cases hn : q - (xs.length : Int) < 0
  · rw [if_pos (by omega)]
    go_enter Tryz.func21, Tryz.ntmps21
    go_wp2
    go_ret
    exact ⟨rfl, rfl⟩
  have hle := Lib.hid (fun k (hk : k ≤ xs.length) => szTo_le (xs := xs) hk (Nat.le_refl _))
  have hst := Lib.hid (fun k (hk : k < xs.length) => szTo_step hk)
  have hbd := Lib.hid hb
  obtain ⟨T, hT⟩ : ∃ T, (if q - (xs.length : Int) - (szTo xs xs.length : Int) < 0 then -1 else q - (xs.length : Int) - (szTo xs xs.length : Int)) = T := ⟨_, rfl⟩
  rw [hT]
  have HT := Lib.hid hT
  clear hT hb
  go_enter Tryz.func21, Tryz.ntmps21
  go_wp2
  go_loop [1, 5] (fun l i => ∃ k : Nat, k ≤ xs.length ∧ i = .int .i64 k ∧ l = .int .i64 (q - (xs.length : Int) - (szTo xs k : Int)) ∧ 0 ≤ q - (xs.length : Int) - (szTo xs k : Int)) (fun _ i => xs.length - (intOf i).toNat)
  case atStart => exact ⟨0, Nat.zero_le _, rfl, by rw [szTo_zero]; go_num, by rw [szTo_zero]; omega⟩
  case round =>
    obtain ⟨k, hk, rfl, rfl, hpos⟩ := hrel
    by_cases hlt : k < xs.length
    · obtain ⟨bk, off, rfl, hbk, hc⟩ := hr.at_ hlt
      have g0 := hc k hlt
      have s1 := hst.out k hlt
      have s2 := hle.out (k + 1) hlt
      have s3 := hbd.out k hlt
      generalize xs[k] = s at *
      generalize szTo xs k = y at *
      generalize hz : szTo xs (k + 1) = z at *
      have Hz := Lib.hid hz
      clear hc hr hz
      by_cases hneg : q - (xs.length : Int) - (z : Int) < 0
      · have hneg' : q - (xs.length : Int) - (y : Int) - (s.size : Int) < 0 := by omega
        have HT2 := Lib.hid (show T = -1 by rw [← HT.out, if_pos (by omega)])
        go_wp2
        go_ret
        exact ⟨by rw [HT2.out]; rfl, rfl⟩
      · have hneg' : ¬ q - (xs.length : Int) - (y : Int) - (s.size : Int) < 0 := by omega
        go_wp2
        go_round
        case rel => exact ⟨k + 1, by omega, by go_num, by rw [Hz.out]; go_num, by rw [Hz.out]; omega⟩
        case measure => simp [intOf]; omega
    · have : k = xs.length := by omega
      subst this
      have HT2 := Lib.hid (show q - (xs.length : Int) - (szTo xs xs.length : Int) = T by rw [← HT.out, if_neg (by omega)])
      go_wp2
      go_ret
      exact ⟨by rw [← HT2.out]; rfl, rfl⟩

set_option maxHeartbeats 1000000 in
theorem c_toStringS (A : Option Addr) (c : Nat) (xs : List ByteArray) (w : World) (hr : RdSt w A xs) (hl : xs.length ≤ 1048576) :
    Calls Tryz.prog 23 #[.slice A xs.length c] w fun e w' => e = .returned (.slice (some ⟨w.heap.size, 0, none⟩) xs.length xs.length) ∧
      w'.ownsRow w.heap.size 9 1 (.slice (some ⟨w.heap.size, 0, none⟩) xs.length xs.length) xs.length (cellsSt xs) ∧ Below w.heap.size w w' := by
  obtain ⟨i0, hi, hz0, hz1, hz2⟩ := info_parts Tryz.info_text
  go_enter Tryz.func23, Tryz.ntmps23
  go_wp2_with (refine wpList_make_full _ rfl _ _ _ rfl w.heap.size 9 i0 _ 1 Tryz.underlying27 hi hz0 hz1 .i64 .i64 _ _ xs.length rfl rfl rfl rfl (by rw [hz2]; omega) (by unfold maxLen; omega) (Nat.le_refl _) ?_; intro w1 hown1 hg1)
  rw [← cellsSt_zero, ← cpSt_zero] at hown1
  have hsz : w.heap.size < w1.heap.size := (hown1.lt w.heap.size rfl).2
  have hb1 : Below w.heap.size w w1 := below_of_grown hg1 (Nat.le_refl _) (by simp)
  clear hg1 hz0 hz1 hz2 hi
  go_loopw [4] (fun i wr => ∃ k : Nat, k ≤ xs.length ∧ i = .int .i64 k ∧ wr.ownsRow w.heap.size 9 1 (.slice (some ⟨w.heap.size, 0, none⟩) xs.length xs.length) xs.length (cellsSt (cpSt k xs)) ∧ Below w.heap.size w wr) (fun i _ => xs.length - (intOf i).toNat)
  case atStart => exact ⟨0, Nat.zero_le _, rfl, hown1, hb1⟩
  case round =>
    clear hown1 hb1 hsz
    obtain ⟨k, hk, rfl, hown, hb⟩ := hrel
    by_cases hlt : k < xs.length
    · obtain ⟨bk, off, rfl, hbk, hc⟩ := hr.at_ hlt
      have g1 := (hb.cell (p := ⟨bk, _, none⟩) hbk).trans (hc k hlt)
      have hst := cpSt_step hlt
      have hcl : (cpSt k xs).length = xs.length := cpSt_length (by omega)
      have hcg : (cellsSt (cpSt k xs))[k]? = some (.string ((cpSt k xs)[k]'(by rw [hcl]; exact hlt))) := by simp [cellsSt, hcl, hlt]
      have x1 := (hown.cellAt k (by omega)).trans hcg
      have f1 := hown.frozenAt k
      have hsz := (hown.lt w.heap.size rfl).2
      generalize (cpSt k xs)[k]'(by rw [hcl]; exact hlt) = old at x1
      generalize xs[k] = s at *
      have Hst := Lib.hid hst
      have Ho := Lib.hid hown
      have Hb := Lib.hid hb
      clear hc hr hown hb hst hcg hcl
      go_wp2
      go_roundw
      case rel =>
        refine ⟨k + 1, by omega, by go_num, ?_, Hb.out.setCell (Nat.le_refl _) _⟩
        rw [← Hst.out]
        exact (Ho.out.stored _ _).1
      case measure => simp [intOf]; omega
    · have : k = xs.length := by omega
      subst this
      rw [cpSt_all] at hown
      go_wp2
      go_ret
      exact ⟨rfl, hown, hb⟩

end Go.Proofs.YtgjdpiooocpmhabGreatDoor

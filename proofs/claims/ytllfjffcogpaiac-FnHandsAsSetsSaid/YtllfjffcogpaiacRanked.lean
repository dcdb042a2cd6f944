/- What the law on ranks of tiles needs: its own small functions, its arguments, facts on ranks and sets. -/
import Derived.Test.YtllfjffcogpaiacDraw
import Derived.Test.YtllfjffcogpaiacRank
import Derived.Test.YtllfjffcogpaiacCount
import Derived.Test.YtllfjffcogpaiacLaw
import Derived.ChangeSlices
namespace Go.Proofs.Ytllfjffcogpaiac
open Go.ChangeShapes Go.WideShapes Go.ChangeAt Go.RowKit Go.Joins
set_option linter.unusedVariables false

set_option maxHeartbeats 400000 in
theorem c_big_yes (A B : Option Addr) (c d n m : Nat) (w : World) (hn : n ≤ 9223372036854775807) (hm : m ≤ 9223372036854775807) (h : 1048576 < n ∨ 1048576 < n + m) :
    Calls Try.prog 4 #[.slice A n c, .slice B m d] w fun e w' => e = .returned (.bool true) ∧ w = w' := by
  by_cases h1 : 1048576 < n
  · have h1' : (1048576 : Int) < (n : Int) := by omega
    go_enter Try.func4, Try.ntmps4
    go_wp2
    go_ret
    exact ⟨rfl, rfl⟩
  · have h1' : ¬ (1048576 : Int) < (n : Int) := by omega
    have h2' : (1048576 : Int) - (n : Int) < (m : Int) := by omega
    have iw : IntKind.i64.wrap ((1048576 : Int) - (n : Int)) = (1048576 : Int) - (n : Int) := IntWalk.i64_in _ (by omega)
    clear h h1
    go_enter Try.func4, Try.ntmps4
    go_wp2
    go_ret
    exact ⟨rfl, rfl⟩

set_option maxHeartbeats 400000 in
theorem c_big_no (A B : Option Addr) (c d n m : Nat) (w : World) (h : n + m ≤ 1048576) :
    Calls Try.prog 4 #[.slice A n c, .slice B m d] w fun e w' => e = .returned (.bool false) ∧ w = w' := by
  have h1' : ¬ (1048576 : Int) < (n : Int) := by omega
  have h2' : ¬ (1048576 : Int) - (n : Int) < (m : Int) := by omega
  have iw : IntKind.i64.wrap ((1048576 : Int) - (n : Int)) = (1048576 : Int) - (n : Int) := IntWalk.i64_in _ (by omega)
  clear h
  go_enter Try.func4, Try.ntmps4
  go_wp2
  go_ret
  exact ⟨rfl, rfl⟩

set_option maxRecDepth 100000 in
set_option maxHeartbeats 1000000 in
theorem c_mTiles_same (A B : Option Addr) (c d : Nat) (xs : List (Int × Int)) (w : World) (hx : RdT w A xs) (hy : RdT w B xs) (lx : xs.length ≤ 9223372036854775807) :
    Calls Try.prog 12 #[.slice A xs.length c, .slice B xs.length d] w fun e w' => e = .returned (.bool true) ∧ Below w.heap.size w w' := by
  go_enter Try.func12, Try.ntmps12
  go_wp2
  go_loopw [13] (fun i wr => ∃ k : Nat, k ≤ xs.length ∧ i = .int .i64 k ∧ Below w.heap.size w wr) (fun i _ => xs.length - (intOf i).toNat)
  case atStart => exact ⟨0, Nat.zero_le _, rfl, Below.refl _ _⟩
  case round =>
    obtain ⟨k, hk, rfl, hb⟩ := hrel
    by_cases hlt : k < xs.length
    · obtain ⟨bk, off, rfl, hbk, hc⟩ := hx.at_ hlt
      obtain ⟨bj, oj, rfl, hbj, hd⟩ := hy.at_ hlt
      have g1 := (hb.cell (p := ⟨bk, _, none⟩) hbk).trans (hc k hlt).1
      have g2 := (hb.cell (p := ⟨bk, _, none⟩) hbk).trans (hc k hlt).2
      have g3 := (hb.cell (p := ⟨bj, _, none⟩) hbj).trans (hd k hlt).1
      have g4 := (hb.cell (p := ⟨bj, _, none⟩) hbj).trans (hd k hlt).2
      have i0 : (0 : Int) ≤ (k : Int) := by omega
      have i1 : (k : Int) < (xs.length : Int) := by omega
      have Hb := Lib.hid hb
      clear hc hx hd hy hb
      go_wp2
      go_quiet (fail)
      go_wp2
      go_roundw
      case rel => exact ⟨k + 1, by omega, by go_num, Hb.out.trans ⟨rfl, rfl, rfl, Nat.le_refl _, fun _ _ => rfl⟩⟩
      case measure => simp [intOf]; omega
    · go_wp2
      go_ret
      exact ⟨rfl, hb⟩

theorem rank_facts : ∀ a b : Fin 10, a.1 ≤ b.1 → okR (rankV (a.1 : Int) (b.1 : Int)) = true ∧ rLow (rankV (a.1 : Int) (b.1 : Int)) = a.1 ∧ rHigh (rankV (a.1 : Int) (b.1 : Int)) = b.1 := by decide +kernel
theorem tile_facts : ∀ r : Fin 55, goodB (rLow (r.1 : Int)) (rHigh (r.1 : Int)) = true ∧ rankV (rLow (r.1 : Int)) (rHigh (r.1 : Int)) = r.1 := by decide +kernel
set_option maxRecDepth 100000 in
theorem setn_facts : ∀ n : Fin 10, handB (setL n.1) = true ∧ pipsI (setL n.1) = (n.1 : Int) * ((n.1 : Int) + 1) / 2 * ((n.1 : Int) + 2) ∧ ((setL n.1).length : Int) = countV n.1 ∧ ∀ t ∈ setL n.1, t.2 ≤ (n.1 : Int) ∧ goodB t.1 t.2 = true := by decide +kernel
theorem good_rank {a b : Int} (h : goodB a b = true) : okR (rankV a b) = true ∧ rLow (rankV a b) = a ∧ rHigh (rankV a b) = b ∧ bothNum b a = true ∧ ofLow b a = a ∧ ofHigh b a = b := by
  obtain ⟨h1, h2, h3⟩ := good_bd h
  have hf := rank_facts ⟨a.toNat, by omega⟩ ⟨b.toNat, by omega⟩ (by simp only; omega)
  simp only at hf
  rw [show ((a.toNat : Nat) : Int) = a from by omega, show ((b.toNat : Nat) : Int) = b from by omega] at hf
  have hb : bothNum b a = true := by simp only [bothNum, numB, Bool.and_eq_true, decide_eq_true_eq]; omega
  refine ⟨hf.1, hf.2.1, hf.2.2, hb, ?_, ?_⟩
  · simp only [ofLow, hb, if_true]; omega
  · simp only [ofHigh, hb, if_true]; omega
theorem ok_rank {r : Int} (h : okR r = true) : goodB (rLow r) (rHigh r) = true ∧ rankV (rLow r) (rHigh r) = r := by
  simp only [okR, Bool.and_eq_true, decide_eq_true_eq] at h
  have hf := tile_facts ⟨r.toNat, by omega⟩
  simp only at hf
  rw [show ((r.toNat : Nat) : Int) = r from by omega] at hf
  exact hf

section
variable {H : Type} {enc : TypeId × Value → H}
theorem Try.cells_u8 : Try.prog.cellsOf 5 = 1 := by kernel_rfl
set_option maxRecDepth 100000 in
theorem open_bytes {W : World} {r : Reach} {b0 : Nat} {v : Value} {d : DataW H} {p : List MemPlace}
    (hv : Value.okWide Try.prog W r b0 22 v) (h : DataW.Trod enc Try.prog W 0 (fun _ => true) true 22 v d p) :
    ∃ (A : Option Addr) (c n : Nat), v = .slice A n c ∧ RdB W A n ∧ n ≤ 9223372036854775807 := by
  obtain ⟨a0, len0, cap0, rfl⟩ := okWide_slice Try.underlying22 hv
  obtain ⟨fuel, h⟩ := h
  rcases open_ints Try.underlying22 Try.underlying5 Try.cells_u8 h with ⟨h1, _⟩ | ⟨a, len, cap, zs, h1, _, hlc, hcm, hz, _, hi, hw⟩
  · simp only [Value.cells, List.cons.injEq, Value.slice.injEq, and_true] at h1
    obtain ⟨rfl, rfl, rfl⟩ := h1
    exact ⟨none, 0, 0, rfl, ⟨0, 0, fun h => by omega, fun k hk => by omega⟩, by omega⟩
  · simp only [Value.cells, List.cons.injEq, Value.slice.injEq, and_true] at h1
    obtain ⟨rfl, rfl, rfl⟩ := h1
    simp only [if_true] at hz
    refine ⟨some a, cap0, len0, rfl, ⟨a.block, a.off, fun h0 => ?_, fun k hk => ?_⟩, by unfold maxLen at hcm; omega⟩
    · have := hi 0 (by omega)
      rw [show a.add 0 = a from by simp [Addr.add]] at this
      exact congrArg some (plain_of_cell this)
    · have h1 := cell_add_plain (hi k (by omega))
      have hk' : k < zs.length := by omega
      have hm : zs.getD k 0 ∈ zs := by simp [List.getD, List.getElem?_eq_getElem hk']
      have h2 := hw _ hm
      simp only [Lit.wf, Bool.and_eq_true, decide_eq_true_eq] at h2
      exact ⟨_, h1, h2⟩
end
end Go.Proofs.Ytllfjffcogpaiac

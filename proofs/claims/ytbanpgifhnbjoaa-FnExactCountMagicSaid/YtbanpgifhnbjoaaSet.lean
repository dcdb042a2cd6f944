/- Whole sets, tile by tile. -/
import Derived.Test.YtbanpgifhnbjoaaHelp
namespace Go.Proofs.Ytbanpgifhnbjoaa
open Go.RowKit
set_option linter.unusedVariables false

/-- The tiles with low number lo and high numbers from lo up to before hi. -/
def rowL (lo hi : Nat) : List (Int × Int) := (List.range (hi - lo)).map fun i => ((lo : Int), ((lo + i : Nat) : Int))
/-- The first k rows of the set of n. -/
def setP (n k : Nat) : List (Int × Int) := (List.range k).flatMap fun lo => rowL lo (n + 1)
def setL (n : Nat) : List (Int × Int) := setP n (n + 1)
theorem rowL_self (lo : Nat) : rowL lo lo = [] := by simp [rowL]
theorem rowL_step {lo hi : Nat} (h : lo ≤ hi) : rowL lo (hi + 1) = rowL lo hi ++ [((lo : Int), (hi : Int))] := by
  unfold rowL
  rw [show hi + 1 - lo = (hi - lo) + 1 from by omega, List.range_succ, List.map_append]
  simp
  omega
theorem setP_step (n k : Nat) : setP n (k + 1) = setP n k ++ rowL k (n + 1) := by
  unfold setP
  rw [List.range_succ, List.flatMap_append]
  simp
theorem rowL_len (lo hi : Nat) : (rowL lo hi).length = hi - lo := by simp [rowL]
theorem setP_len {n : Nat} (hn : n ≤ 9) : ∀ k, k ≤ n + 1 → (setP n k ++ rowL k (n + 1)).length ≤ 10 * (k + 1)
  | 0, _ => by simp [setP, rowL_len]; omega
  | k + 1, h => by
    have := setP_len hn k (by omega)
    rw [setP_step, List.length_append, rowL_len]
    omega
/-- k rows, and the next one up to before h. -/
def setQ (n k h : Nat) : List (Int × Int) := setP n k ++ rowL k h
theorem setQ_self (n k : Nat) : setQ n k k = setP n k := by simp [setQ, rowL_self]
theorem setQ_step {n k h : Nat} (hk : k ≤ h) : setQ n k (h + 1) = setQ n k h ++ [((k : Int), (h : Int))] := by simp [setQ, rowL_step hk]
theorem setQ_all (n k : Nat) : setQ n k (n + 1) = setP n (k + 1) := (setP_step n k).symm
theorem setQ_len {n k h : Nat} (hn : n ≤ 9) (hk : k ≤ n) (hh : h ≤ n + 1) : (setQ n k h).length ≤ 110 := by
  have := setP_len hn k (by omega)
  unfold setQ
  simp only [List.length_append, rowL_len] at *
  omega
theorem setL_len {n : Nat} (hn : n ≤ 9) : (setL n).length ≤ 110 := by
  have := setP_len hn (n + 1) (Nat.le_refl _)
  unfold setL
  rw [List.length_append] at this
  omega

set_option maxHeartbeats 1000000 in
theorem c_tiSet (n : Nat) (hn : n ≤ 9) (w : World) : Calls Try.prog 98 #[.int .i64 n] w (RetL w (setL n)) := by
  go_enter Try.func98, Try.ntmps98
  go_wp2
  go_loopw [3, 4] (fun v i wr => ∃ (k : Nat) (A : Option Addr) (c : Nat), k ≤ n + 1 ∧ i = .int .i64 k ∧ v = .slice A (setP n k).length c ∧ wr.ownsRow w.heap.size 50 2 (.slice A (setP n k).length c) (setP n k).length (cellsT (setP n k)) ∧ Below w.heap.size w wr) (fun _ i _ => n + 1 - (intOf i).toNat)
  case atStart => exact ⟨0, none, 0, Nat.zero_le _, rfl, rfl, World.ownsRow_nil _ _ _ _, Below.refl _ _⟩
  case round =>
    obtain ⟨k, A, c, hk, rfl, rfl, hown, hb⟩ := hrel
    by_cases hlt : k ≤ n
    · obtain ⟨wo, rfl⟩ : ∃ wo : World, wo = wr := ⟨_, rfl⟩
      go_wp2
      go_loopw [3, 5] (fun v j wr => ∃ (h : Nat) (A : Option Addr) (c : Nat), k ≤ h ∧ h ≤ n + 1 ∧ j = .int .i64 h ∧ v = .slice A (setQ n k h).length c ∧ wr.ownsRow w.heap.size 50 2 (.slice A (setQ n k h).length c) (setQ n k h).length (cellsT (setQ n k h)) ∧ Below w.heap.size w wr) (fun _ j _ => n + 1 - (intOf j).toNat)
      case atStart => exact ⟨k, A, c, Nat.le_refl _, by omega, rfl, by rw [setQ_self], by rw [setQ_self]; exact hown, hb⟩
      case round =>
        clear hown hb
        obtain ⟨h, A', c', hkh, hh, rfl, rfl, hown, hb⟩ := hrel
        have hlen := setQ_len hn hlt hh
        have Ho := Lib.hid (hown.alloc (.cells #[.int .i64 k, .int .i64 h] 50))
        have Ho' := Lib.hid hown
        have Hb := Lib.hid hb
        have hsz := hb.size
        clear hown hb
        by_cases hlt2 : h ≤ n
        · go_wp2_with (at_builtin; refine wp_append_tile rfl _ _ rfl w.heap.size _ _ rfl Ho.out k h wr.heap.size rfl (by simp) (by simp) (by omega) (by simp; omega) ?_; intro A2 c2 w2 hown2 hg2)
          go_roundw
          case rel =>
            refine ⟨h + 1, A2, c2, by omega, by omega, by go_num, by rw [setQ_step hkh, List.length_append]; rfl, ?_, ?_⟩
            · rw [setQ_step hkh, List.length_append]; exact hown2
            · exact Below.grown (by have hb0 := Hb.out; go_grown) hg2 (by simp; omega) (fun g hg => (Ho'.out.lt g hg).1)
          case measure => simp [intOf]; omega
        · have : h = n + 1 := by omega
          subst this
          go_wp2
          go_roundw
          case rel => exact ⟨k + 1, A', c', by omega, by go_num, by rw [setQ_all], by rw [← setQ_all]; exact Ho'.out, Hb.out⟩
          case measure => simp [intOf]; omega
    · have : k = n + 1 := by omega
      subst this
      go_wp2
      go_ret
      exact ⟨A, c, rfl, hown, hb⟩

theorem numB_nat {n : Int} (h : numB n = true) : ∃ m : Nat, m ≤ 9 ∧ n = m := by
  simp only [numB, Bool.and_eq_true, decide_eq_true_eq] at h
  exact ⟨n.toNat, by omega, by omega⟩
def setOfL (n : Int) : List (Int × Int) := if numB n then setL n.toNat else []
theorem setOfL_len (n : Int) : (setOfL n).length ≤ 110 := by
  unfold setOfL
  split
  · rename_i h
    obtain ⟨m, hm, rfl⟩ := numB_nat h
    exact setL_len hm
  · simp
end Go.Proofs.Ytbanpgifhnbjoaa

/- Rows of tiles: slices.Clone; slices.Grow; slices.Concat of any number of rows. -/
import Derived.Test.YtjdnkcdnppcbhaaApp
import Derived.Lib.AppendZeros
import Derived.Lib.SliceRun
namespace Go.Proofs.Ytjdnkcdnppcbhaa
open Go.RowKit
set_option linter.unusedVariables false

set_option maxRecDepth 100000 in
set_option maxHeartbeats 1000000 in
theorem c_cloneT (A : Option Addr) (c : Nat) (xs : List (Int × Int)) (w : World) (hr : RdT w A xs) (hl : xs.length ≤ 1048576) :
    Calls Try.prog 127 #[.slice A xs.length c] w (RetL w xs) := by
  have ho0 : (w.alloc (.cells #[] 82)).ownsRow w.heap.size 82 2 (.slice (some ⟨w.heap.size, 0, none⟩) 0 0) 0 (cellsT []) := World.ownsRow_lit w #[] 0 (Nat.le_refl _) (by unfold maxLen; omega) rfl
  have hb0 : Below w.heap.size w (w.alloc (.cells #[] 82)) := (Below.refl _ _).alloc (Nat.le_refl _) _
  have q : ∀ (w : World) (a : Option Addr) (n c n' c' : Nat), (binOp .eql 28 (.slice a n c) (.slice none n' c')).run Try.prog w = .ok (.bool a.isNone) w := fun w a n c n' c' => Lib.run_eql_slice_nil w _ _ a n c n' c' Try.underlying28
  cases A with
  | none =>
    have e0 : xs = [] := by
      cases xs with
      | nil => rfl
      | cons x r => obtain ⟨bk, off, h, _⟩ := hr.at_ (k := 0) (by simp); cases h
    subst e0
    go_enter Try.func127, Try.ntmps127
    go_wp2
    go_ret
    exact ⟨none, 0, rfl, World.ownsRow_nil _ _ _ _, Below.refl _ _⟩
  | some ad =>
    go_enter Try.func127, Try.ntmps127
    go_wp2_with (at_builtin; refine wp_append_tiles rfl _ _ rfl w.heap.size _ [] rfl ho0 _ c xs rfl (hr.below hb0) (by simp) (by omega) (by simp) ⟨_, _, rfl⟩ ?_; intro A4 c4 w4 ho4 hg4; have hb4 : Below w.heap.size w w4 := hb0.trans (below_of_grown hg4 hb0.size (fun g hg => by cases hg; exact Nat.le_refl _)); simp only [List.nil_append] at ho4)
    go_ret
    exact ⟨A4, c4, rfl, ho4, hb4⟩

set_option maxRecDepth 100000 in
set_option maxHeartbeats 1000000 in
theorem c_growT (n : Nat) (hn : n ≤ 2097152) (w : World) :
    Calls Try.prog 173 #[.slice none 0 0, .int .i64 n] w fun e w' => ∃ A c, e = .returned (.slice A 0 c) ∧ w'.ownsRow w.heap.size 82 2 (.slice A 0 c) 0 (cellsT []) ∧ Below w.heap.size w w' := by
  obtain ⟨i0, hi, hz0, hz1, hz2⟩ := info_parts Try.info_tile
  by_cases h0 : (0 : Int) < n
  · have hrun := Lib.hid (Lib.run_append_nil_zeros w 28 3 28 82 i0 (.agg #[.int .i64 0, .int .i64 0]) .i64 .i64 Try.underlying28 Try.underlying3 hi hz0 n (by omega) (by rw [hz1]; omega) (by omega) (by rw [hz2]; omega))
    obtain ⟨cp, hcp⟩ : ∃ cp, cp = grownCap w n 0 82 := ⟨_, rfl⟩
    have hge : n ≤ cp := by rw [hcp]; exact grownCap_ge _ _ _ _
    have hle : cp ≤ maxLen := by rw [hcp]; exact grownCap_le_maxLen _ _ _ _ (by unfold maxLen; omega)
    rw [← hcp] at hrun
    have hsz : (Builtin.zeroCells (Value.cells (.agg #[.int .i64 0, .int .i64 0])) n ++ Builtin.zeroCells (Value.cells (.agg #[.int .i64 0, .int .i64 0])) (cp - n)).size = cp * 2 := by
      rw [Array.size_append]
      simp [Builtin.zeroCells, Value.cells]
      omega
    generalize Builtin.zeroCells (Value.cells (.agg #[.int .i64 0, .int .i64 0])) n ++ Builtin.zeroCells (Value.cells (.agg #[.int .i64 0, .int .i64 0])) (cp - n) = cur at *
    have Hs := Lib.hid hsz
    have Hle := Lib.hid hle
    clear hz0 hz1 hz2 hi hsz hle hcp
    go_enter Try.func173, Try.ntmps173
    go_wp2_with (at_builtin; refine Lib.wpList_append_run w rfl _ _ _ _ rfl (.slice none 0 0) (.int .i64 n) rfl rfl _ _ hrun.out ?_)
    go_ret
    exact ⟨_, cp, rfl, own_keep (World.ownsRow_made w cur cp (Nat.le_refl _) Hle.out Hs.out) (Below.refl _ _).drew, by go_grown⟩
  · go_enter Try.func173, Try.ntmps173
    go_wp2
    go_ret
    exact ⟨none, 0, rfl, World.ownsRow_nil _ _ _ _, Below.refl _ _⟩

/-- The first k rows, put together. -/
def catT (tss : List (List (Int × Int))) (k : Nat) : List (Int × Int) := (tss.take k).flatten
theorem catT_zero (tss : List (List (Int × Int))) : catT tss 0 = [] := by simp [catT]
theorem catT_step {tss : List (List (Int × Int))} {k : Nat} (h : k < tss.length) : catT tss (k + 1) = catT tss k ++ tss.getD k [] := by
  unfold catT
  rw [List.take_succ_eq_append_getElem h, List.flatten_append]
  simp [h]
theorem catT_all (tss : List (List (Int × Int))) : catT tss tss.length = tss.flatten := by simp [catT]
theorem catT_le (tss : List (List (Int × Int))) (k : Nat) : (catT tss k).length ≤ tss.flatten.length := by
  have h : tss.flatten = catT tss k ++ (tss.drop k).flatten := by rw [catT, ← List.flatten_append, List.take_append_drop]
  rw [h, List.length_append]; omega

/-- Rows that lie one behind the other in a block. -/
def RowsAt (w : World) (g off : Nat) (tss : List (List (Int × Int))) : Prop :=
  ∀ k, k < tss.length → ∃ A c, w.cell? ⟨g, off + k, none⟩ = some (.slice A (tss.getD k []).length c) ∧ RdT w A (tss.getD k [])
theorem RowsAt.below {w w' : World} {g off : Nat} {tss : List (List (Int × Int))} (h : RowsAt w g off tss) (hb : Below w.heap.size w w') : RowsAt w' g off tss := fun k hk => by
  obtain ⟨A, c, h1, h2⟩ := h k hk
  exact ⟨A, c, keepc hb h1, h2.below hb⟩

set_option maxRecDepth 100000 in
set_option maxHeartbeats 2000000 in
theorem c_concatT (g off m : Nat) (tss : List (List (Int × Int))) (w : World) (hm : tss.length = m) (h : RowsAt w g off tss) (hlen : tss.flatten.length ≤ 2097152) (hn : m ≤ 100) (hpos : 0 < m) :
    Calls Try.prog 154 #[.slice (some ⟨g, off, none⟩) m m] w (RetL w tss.flatten) := by
  have hst : Hid (∀ k, k < m → ∃ A c us, w.cell? ⟨g, off + k, none⟩ = some (.slice A us.length c) ∧ RdT w A us ∧ us.length ≤ 2097152 ∧ catT tss (k + 1) = catT tss k ++ us ∧ (catT tss (k + 1)).length = (catT tss k).length + us.length) := Lib.hid (fun k hk => by
    subst hm
    obtain ⟨A, c, h1, h2⟩ := h k hk
    have hs := catT_step hk
    have := catT_le tss (k + 1)
    rw [hs, List.length_append] at this
    exact ⟨A, c, _, h1, h2, by omega, hs, by rw [hs, List.length_append]⟩)
  have hg : g < w.heap.size := by
    obtain ⟨A, c, us, h1, _⟩ := hst.out 0 hpos
    exact block_lt h1
  have e2 : Hid (catT tss m = tss.flatten) := Lib.hid (by rw [← hm]; exact catT_all tss)
  have hle : Hid (∀ k, (catT tss k).length ≤ 2097152) := Lib.hid (fun k => Nat.le_trans (catT_le tss k) hlen)
  have e0 : Hid (catT tss 0 = []) := Lib.hid (catT_zero tss)
  have conG := Lib.hid (fun W => c_growT (catT tss m).length (hle.out m) W)
  have i9 : (m : Int) ≤ 100 := by omega
  clear h hm hlen
  go_enter Try.func154, Try.ntmps154
  go_wp2
  go_loop [3, 11] (fun s i => ∃ k : Nat, k ≤ m ∧ i = .int .i64 k ∧ s = .int .i64 ((catT tss k).length : Int)) (fun _ i => m - (intOf i).toNat)
  case atStart => exact ⟨0, by omega, rfl, by rw [e0.out]; rfl⟩
  case round =>
    obtain ⟨k, hk, rfl, rfl⟩ := hrel
    have hcl := hle.out k
    obtain ⟨n, hn⟩ : ∃ n, n = (catT tss k).length := ⟨_, rfl⟩
    by_cases hlt : k < m
    · obtain ⟨A1, c1, us, hc1, _, hul, _, hs⟩ := hst.out k hlt
      rw [← hn] at hs hcl ⊢
      have Hs := Lib.hid hs
      clear hs hn
      have i1 : (k : Int) < (m : Int) := by omega
      go_wp2
      all_goals
        go_round
        case rel => exact ⟨k + 1, by omega, by go_num, by have := Hs.out; go_num⟩
        case measure => simp [intOf]; omega
    · obtain rfl : k = m := by omega
      clear hn
      go_wp2_with (go_at_call 173; refine (conG.out _).mono ?_; rintro e w1 ⟨A1, c1, rfl, ho1, hb1⟩)
      go_loopw [6, 27] (fun v i wr => ∃ (j : Nat) (A' : Option Addr) (c' : Nat), j ≤ k ∧ i = .int .i64 j ∧ v = .slice A' (catT tss j).length c' ∧ wr.ownsRow w.heap.size 82 2 (.slice A' (catT tss j).length c') (catT tss j).length (cellsT (catT tss j)) ∧ Below w.heap.size w wr) (fun _ i _ => k - (intOf i).toNat)
      case atStart => exact ⟨0, A1, c1, by omega, rfl, by rw [e0.out]; rfl, by rw [e0.out]; exact ho1, hb1⟩
      case round =>
        clear ho1 hb1
        obtain ⟨j, A', c', hj, rfl, rfl, hown, hb⟩ := hrel
        by_cases hlt : j < k
        · obtain ⟨A1, c1, us, hc1, hru, hul, hcat, _⟩ := hst.out j hlt
          have g1 := (hb.cell (p := ⟨g, _, none⟩) hg).trans hc1
          have hru' := Lib.hid (hru.below hb)
          have Hc := Lib.hid hcat
          have Hb := Lib.hid hb
          have Ho := Lib.hid hown
          have hz := hb.size
          have hcl := hle.out j
          have i1 : (j : Int) < (k : Int) := by omega
          clear hc1 hru hcat hb hown
          go_wp2_with (at_builtin; refine wp_append_tiles rfl _ _ rfl w.heap.size _ (catT tss j) rfl Ho.out _ _ us rfl hru'.out (by omega) (by omega) (by omega) ⟨_, _, rfl⟩ ?_; intro A4 c4 w4 ho4 hg4)
          go_roundw
          case rel =>
            refine ⟨j + 1, A4, c4, by omega, by go_num, by rw [Hc.out, List.length_append], by rw [Hc.out]; exact ho4, ?_⟩
            have hb0 := Hb.out
            exact Below.grown hb0 hg4 (by omega) (fun g hg => (Ho.out.lt g hg).1)
          case measure => simp [intOf]; omega
        · obtain rfl : j = k := by omega
          rw [e2.out] at hown ⊢
          go_wp2
          go_ret
          exact ⟨A', c', rfl, hown, hb⟩
end Go.Proofs.Ytjdnkcdnppcbhaa

/- The laws' own small functions over slices: copies, sizes, marks. -/
import Derived.Test.YtbanpgifhnbjoaaPlace
namespace Go.Proofs.Ytbanpgifhnbjoaa
open Go.RowKit
set_option linter.unusedVariables false

theorem Try.info_tile : (Try.prog.info? 50).map (fun i => (i.zero, i.size, i.bytes)) = some (some (.agg #[.int .i64 0, .int .i64 0]), 2, 16) := by kernel_rfl

set_option maxHeartbeats 400000 in
theorem c_szTileS (A : Option Addr) (c n : Nat) (q : Int) (w : World) (hn : n ≤ 9223372036854775807) (h0 : 0 ≤ q) (h1 : q ≤ 9223372036854775807) :
    Calls Try.prog 8 #[.slice A n c, .int .i64 q] w fun e w' => e = .returned (.int .i64 (if q - n < 0 then -1 else q - n)) ∧ w = w' := by
  by_cases h : q - n < 0
  all_goals
    go_enter Try.func8, Try.ntmps8
    go_wp2
    go_ret
    exact ⟨ret_i (by first | omega | (split <;> omega)), rfl⟩

set_option maxHeartbeats 400000 in
theorem c_toTileS (A : Option Addr) (c : Nat) (ts : List (Int × Int)) (w : World) (hr : RdT w A ts) (hl : ts.length ≤ 1048576) :
    Calls Try.prog 10 #[.slice A ts.length c] w fun e w' => e = .returned (.slice (some ⟨w.heap.size, 0, none⟩) ts.length ts.length) ∧
      w'.ownsRow w.heap.size 50 2 (.slice (some ⟨w.heap.size, 0, none⟩) ts.length ts.length) ts.length (cellsT ts) ∧ Below w.heap.size w w' := by
  obtain ⟨i0, hi, hz0, hz1, hz2⟩ := info_parts Try.info_tile
  go_enter Try.func10, Try.ntmps10
  go_wp2_with (refine wpList_make_full _ rfl _ _ _ rfl w.heap.size 50 i0 _ 2 Try.underlying26 hi hz0 hz1 .i64 .i64 _ _ ts.length rfl rfl rfl rfl (by rw [hz2]; omega) (by unfold maxLen; omega) (Nat.le_refl _) ?_; intro w1 hown1 hg1)
  rw [← copyL_zero] at hown1
  have hsz : w.heap.size < w1.heap.size := (hown1.lt w.heap.size rfl).2
  have hb1 : Below w.heap.size w w1 := below_of_grown hg1 (Nat.le_refl _) (by simp)
  clear hg1 hz0 hz1 hz2 hi
  go_loopw [4] (fun i wr => ∃ k : Nat, k ≤ ts.length ∧ i = .int .i64 k ∧ wr.ownsRow w.heap.size 50 2 (.slice (some ⟨w.heap.size, 0, none⟩) ts.length ts.length) ts.length (cellsT (copyL k ts)) ∧ Below w.heap.size w wr) (fun i _ => ts.length - (intOf i).toNat)
  case atStart => exact ⟨0, Nat.zero_le _, rfl, hown1, hb1⟩
  case round =>
    clear hown1 hb1 hsz
    obtain ⟨k, hk, rfl, hown, hb⟩ := hrel
    by_cases hlt : k < ts.length
    · obtain ⟨bk, off, rfl, hbk, hc⟩ := hr.at_ hlt
      have g1 := (hb.cell (p := ⟨bk, _, none⟩) hbk).trans (hc k hlt).1
      have g2 := (hb.cell (p := ⟨bk, _, none⟩) hbk).trans (hc k hlt).2
      have Hb := Lib.hid hb
      have Ho := Lib.hid hown
      have hcg := cellsT_get (copyL k ts) k (by rw [copyL_length hk]; exact hlt)
      have x1 := (hown.cellAt (k * 2) (by omega)).trans hcg.1
      have x2 := (hown.cellAt (k * 2 + 1) (by omega)).trans hcg.2
      have f1 := hown.frozenAt (k * 2)
      have f2 := hown.frozenAt (k * 2 + 1)
      have hsz := (hown.lt w.heap.size rfl).2
      clear hc hcg hown hb hr
      go_wp2_with (go_at_call 29; refine (c_toTile _ _ _).mono ?_; rintro e w2 ⟨rfl, hb2⟩; have y1 := keepc hb2 x1; have y2 := keepc hb2 x2; have k1 := (hb2.frozen (p := ⟨w.heap.size, k * 2, none⟩) hsz).trans f1; have k2 := (hb2.frozen (p := ⟨w.heap.size, k * 2 + 1, none⟩) hsz).trans f2)
      go_roundw
      case rel =>
        refine ⟨k + 1, by omega, by go_num, ?_, ((bstep Hb.out hb2).setCell (Nat.le_refl _) _).setCell (Nat.le_refl _) _⟩
        rw [← copyL_step hlt]
        exact (World.ownsRow.stored ((own_keep Ho.out hb2).stored _ _).1 _ _).1
      case measure => simp [intOf]; omega
    · have : k = ts.length := by omega
      subst this
      rw [copyL_all] at hown
      go_wp2
      go_ret
      exact ⟨rfl, hown, hb⟩

set_option maxHeartbeats 400000 in
theorem c_markTileS (A : Option Addr) (c base : Nat) (ts : List (Int × Int)) (q : Int) (w : World) (hr : w.ownsRow base 50 2 (.slice A ts.length c) ts.length (cellsT ts)) (h0 : 0 ≤ q) (h1 : q + 2 * ts.length ≤ 9223372036854775807) :
    Calls Try.prog 16 #[.slice A ts.length c, .int .i64 q] w fun e w' => e = .returned (.int .i64 (q + 2 * ts.length)) ∧
      w'.ownsRow base 50 2 (.slice A ts.length c) ts.length (cellsT (marks q ts.length)) ∧ w.grownBy w' (Value.slice A ts.length c).ownBlock := by
  go_enter Try.func16, Try.ntmps16
  go_wp2
  go_loopw [1, 5] (fun p i wr => ∃ k : Nat, k ≤ ts.length ∧ i = .int .i64 k ∧ p = .int .i64 (q + 2 * (k : Int)) ∧ wr.ownsRow base 50 2 (.slice A ts.length c) ts.length (cellsT (markL q k ts)) ∧ w.grownBy wr (Value.slice A ts.length c).ownBlock) (fun _ i _ => ts.length - (intOf i).toNat)
  case atStart => exact ⟨0, Nat.zero_le _, rfl, by go_num, by rw [markL_zero]; exact hr, World.grownBy.refl _ _⟩
  case round =>
    obtain ⟨k, hk, rfl, rfl, hown, hg⟩ := hrel
    by_cases hlt : k < ts.length
    · have hown' := hown
      obtain ⟨_, ⟨hv, hn⟩ | ⟨g, cap, cur, hv, _⟩⟩ := hown'
      · omega
      injection hv with e1 e2 e3
      subst e1
      have Hg := Lib.hid hg
      have Ho := Lib.hid hown
      have f1 := hown.frozenAt (k * 2)
      have f2 := hown.frozenAt (k * 2 + 1)
      have hcg := cellsT_get (markL q k ts) k (by rw [markL_length q hk]; exact hlt)
      have x1 := (hown.cellAt (k * 2) (by omega)).trans hcg.1
      have x2 := (hown.cellAt (k * 2 + 1) (by omega)).trans hcg.2
      clear hg hown hcg hr e3 e2
      go_wp2
      go_roundw
      case rel =>
        refine ⟨k + 1, by omega, by go_num, by go_num, ?_, grown_set (grown_set Hg.out _ _) _ _⟩
        rw [← markL_step q hlt]
        exact (World.ownsRow.stored (Ho.out.stored _ _).1 _ _).1
      case measure => simp [intOf]; omega
    · have : k = ts.length := by omega
      subst this
      go_wp2
      go_ret
      rw [markL_all] at hown
      exact ⟨rfl, hown, hg⟩

theorem c_eqTileS_same (A B : Option Addr) (c d : Nat) (xs : List (Int × Int)) (w : World) (hx : RdT w A xs) (hy : RdT w B xs) (lx : xs.length ≤ 9223372036854775807) :
    Calls Try.prog 12 #[.slice A xs.length c, .slice B xs.length d] w fun e w' => e = .returned (.bool true) ∧ Below w.heap.size w w' :=
  (c_eqTileS A B c d xs xs w hx hy lx lx).mono fun e w' h => ⟨h.1.trans (ret_b (by simp)), h.2⟩

theorem Try.info_int : (Try.prog.info? 3).map (fun i => (i.zero, i.size, i.bytes)) = some (some (.int .i64 0), 1, 8) := by kernel_rfl

set_option maxHeartbeats 1000000 in
theorem c_eqIntS_same (A B : Option Addr) (c d : Nat) (xs : List Int) (w : World) (hx : RdI w A xs) (hy : RdI w B xs) (lx : xs.length ≤ 9223372036854775807) :
    Calls Try.prog 25 #[.slice A xs.length c, .slice B xs.length d] w fun e w' => e = .returned (.bool true) ∧ Below w.heap.size w w' := by
  go_enter Try.func25, Try.ntmps25
  go_wp2
  go_loopw [5] (fun i wr => ∃ k : Nat, k ≤ xs.length ∧ i = .int .i64 k ∧ Below w.heap.size w wr) (fun i _ => xs.length - (intOf i).toNat)
  case atStart => exact ⟨0, Nat.zero_le _, rfl, Below.refl _ _⟩
  case round =>
    obtain ⟨k, hk, rfl, hb⟩ := hrel
    by_cases hlt : k < xs.length
    · obtain ⟨bk, off, rfl, hbk, hc⟩ := hx.at_ hlt
      obtain ⟨bj, oj, rfl, hbj, hd⟩ := hy.at_ hlt
      have g1 := (hb.cell (p := ⟨bk, _, none⟩) hbk).trans (hc k hlt)
      have g3 := (hb.cell (p := ⟨bj, _, none⟩) hbj).trans (hd k hlt)
      have Hb := Lib.hid hb
      clear hc hx hd hy hb
      go_wp2
      go_quiet (fail)
      go_wp2
      go_roundw
      case rel => exact ⟨k + 1, by omega, by go_num, Hb.out.trans ⟨rfl, rfl, rfl, Nat.le_refl _, fun _ _ => rfl⟩⟩
      case measure => simp [intOf]; omega
    · go_wp2
      go_ret
      exact ⟨rfl, hb⟩

set_option maxHeartbeats 400000 in
theorem c_heldIntS (A : Option Addr) (c n : Nat) (q : Int) (w : World) (hr : RdI w A (marksI q n)) (h0 : 0 ≤ q) (h1 : q + n ≤ 9223372036854775807) :
    Calls Try.prog 27 #[.slice A n c, .int .i64 q] w fun e w' => e = .returned (.int .i64 (q + n)) ∧ w = w' := by
  go_enter Try.func27, Try.ntmps27
  go_wp2
  go_loop [1, 5] (fun p i => ∃ k : Nat, k ≤ n ∧ i = .int .i64 k ∧ p = .int .i64 (q + (k : Int))) (fun _ i => n - (intOf i).toNat)
  case atStart => exact ⟨0, Nat.zero_le _, rfl, by go_num⟩
  case round =>
    obtain ⟨k, hk, rfl, rfl⟩ := hrel
    by_cases hlt : k < n
    · obtain ⟨bk, off, rfl, hbk, hc⟩ := hr.at_ (k := k) (by rw [marksI_length]; exact hlt)
      have hc := hc k (by rw [marksI_length]; exact hlt)
      rw [marksI_get] at hc
      clear hr
      go_wp2
      go_round
      case rel => exact ⟨k + 1, by omega, by go_num, by go_num⟩
      case measure => simp [intOf]; omega
    · have : k = n := by omega
      subst this
      go_wp2
      go_ret
      exact ⟨rfl, rfl⟩

set_option maxHeartbeats 400000 in
theorem c_markIntS (A : Option Addr) (c base : Nat) (xs : List Int) (q : Int) (w : World) (hr : w.ownsRow base 3 1 (.slice A xs.length c) xs.length (cellsI xs)) (h0 : 0 ≤ q) (h1 : q + xs.length ≤ 9223372036854775807) :
    Calls Try.prog 26 #[.slice A xs.length c, .int .i64 q] w fun e w' => e = .returned (.int .i64 (q + xs.length)) ∧
      w'.ownsRow base 3 1 (.slice A xs.length c) xs.length (cellsI (marksI q xs.length)) ∧ w.grownBy w' (Value.slice A xs.length c).ownBlock := by
  go_enter Try.func26, Try.ntmps26
  go_wp2
  go_loopw [1, 5] (fun p i wr => ∃ k : Nat, k ≤ xs.length ∧ i = .int .i64 k ∧ p = .int .i64 (q + (k : Int)) ∧ wr.ownsRow base 3 1 (.slice A xs.length c) xs.length (cellsI (markI q k xs)) ∧ w.grownBy wr (Value.slice A xs.length c).ownBlock) (fun _ i _ => xs.length - (intOf i).toNat)
  case atStart => exact ⟨0, Nat.zero_le _, rfl, by go_num, by rw [markI_zero]; exact hr, World.grownBy.refl _ _⟩
  case round =>
    obtain ⟨k, hk, rfl, rfl, hown, hg⟩ := hrel
    by_cases hlt : k < xs.length
    · have hown' := hown
      obtain ⟨_, ⟨hv, hn⟩ | ⟨g, cap, cur, hv, _⟩⟩ := hown'
      · omega
      injection hv with e1 e2 e3
      subst e1
      have Hg := Lib.hid hg
      have Ho := Lib.hid hown
      have f1 := hown.frozenAt k
      have hcg : (cellsI (markI q k xs))[k]? = some (.int .i64 ((markI q k xs)[k]'(by rw [markI_length q hk]; exact hlt))) := by
        simp [cellsI, markI_length q hk, hlt]
      have x1 := (hown.cellAt k (by omega)).trans hcg
      clear hg hown hcg hr e3 e2
      go_wp2
      go_roundw
      case rel =>
        refine ⟨k + 1, by omega, by go_num, by go_num, ?_, grown_set Hg.out _ _⟩
        rw [← markI_step q hlt]
        exact (Ho.out.stored _ _).1
      case measure => simp [intOf]; omega
    · have : k = xs.length := by omega
      subst this
      go_wp2
      go_ret
      rw [markI_all] at hown
      exact ⟨rfl, hown, hg⟩

/-- One tile appended to a row of the call's own. -/
theorem wp_append_tile {w : World} {ops : Array Oper} {rest : List Oper} {o : Oper} {a : Act} {Q : Exit → Act → World → Prop} (hgd : o.guard = none) (s x : Operand)
    (ho : o.op = .call { callee := .builtin .append, args := #[s, x], argTypes := #[26, 26] }) (base : Nat) (v : Value) (ts : List (Int × Int)) (hs : a.eval s = v)
    (hown : w.ownsRow base 50 2 v ts.length (cellsT ts)) (p q : Int) (g : Nat) (hx : a.eval x = .slice (some ⟨g, 0, none⟩) 1 1)
    (h0 : w.cell? ⟨g, 0, none⟩ = some (.int .i64 p)) (h1 : w.cell? ⟨g, 1, none⟩ = some (.int .i64 q)) (hlen : ts.length ≤ 4194304) (hbase : base ≤ w.heap.size)
    (h : ∀ A c w', w'.ownsRow base 50 2 (.slice A (ts.length + 1) c) (ts.length + 1) (cellsT (ts ++ [(p, q)])) → w.grownBy w' v.ownBlock → wpList Try.prog ops Q rest (a.put o.dst (.slice A (ts.length + 1) c)) w') :
    wpList Try.prog ops Q (o :: rest) a w := by
  obtain ⟨i0, hi, hz0, hz1, hz2⟩ := info_parts Try.info_tile
  refine wpList_append_own w hgd s x 26 ho base 50 i0 _ 2 16 Try.underlying26 hi hz0 hz1 hz2 rfl (by decide) v ts.length (cellsT ts) hs hown ⟨g, 0, none⟩ 1 1 [.int .i64 p, .int .i64 q] hx rfl ?_ ?_ (by unfold maxLen; omega) (by omega) hbase ?_
  · intro j u hj
    match j, hj with
    | 0, hj => simp at hj; subst hj; simpa [Addr.add] using h0
    | 1, hj => simp at hj; subst hj; simpa [Addr.add] using h1
  · intro u hu
    simp at hu
    rcases hu with rfl | rfl <;> rfl
  · intro v' w' h1 h2 _
    have h1' := h1
    obtain ⟨_, ⟨_, hn⟩ | ⟨g', cap, cur, rfl, _⟩⟩ := h1'
    · omega
    refine h _ _ w' ?_ h2
    rw [cellsT_append]
    exact h1

/-- One number appended to a row of the call's own. -/
theorem wp_append_int {w : World} {ops : Array Oper} {rest : List Oper} {o : Oper} {a : Act} {Q : Exit → Act → World → Prop} (hgd : o.guard = none) (s x : Operand)
    (ho : o.op = .call { callee := .builtin .append, args := #[s, x], argTypes := #[39, 39] }) (base : Nat) (v : Value) (xs : List Int) (hs : a.eval s = v)
    (hown : w.ownsRow base 3 1 v xs.length (cellsI xs)) (p : Int) (g : Nat) (hx : a.eval x = .slice (some ⟨g, 0, none⟩) 1 1)
    (h0 : w.cell? ⟨g, 0, none⟩ = some (.int .i64 p)) (hlen : xs.length ≤ 4194304) (hbase : base ≤ w.heap.size)
    (h : ∀ A c w', w'.ownsRow base 3 1 (.slice A (xs.length + 1) c) (xs.length + 1) (cellsI (xs ++ [p])) → w.grownBy w' v.ownBlock → wpList Try.prog ops Q rest (a.put o.dst (.slice A (xs.length + 1) c)) w') :
    wpList Try.prog ops Q (o :: rest) a w := by
  obtain ⟨i0, hi, hz0, hz1, hz2⟩ := info_parts Try.info_int
  refine wpList_append_own w hgd s x 39 ho base 3 i0 _ 1 8 Try.underlying39 hi hz0 hz1 hz2 rfl (by decide) v xs.length (cellsI xs) hs (by simpa using hown) ⟨g, 0, none⟩ 1 1 [.int .i64 p] hx rfl ?_ ?_ (by unfold maxLen; omega) (by omega) hbase ?_
  · intro j u hj
    match j, hj with
    | 0, hj => simp at hj; subst hj; simpa [Addr.add] using h0
  · intro u hu
    simp at hu
    rcases hu with rfl; rfl
  · intro v' w' h1 h2 _
    have h1' := h1
    obtain ⟨_, ⟨_, hn⟩ | ⟨g', cap, cur, rfl, _⟩⟩ := h1'
    · omega
    refine h _ _ w' ?_ h2
    rw [cellsI_append]
    exact h1

end Go.Proofs.Ytbanpgifhnbjoaa

/- Rows of Play values appended whole; slices.Clone; slices.Concat of two. -/
import Derived.Test.YtnnkdnleencofabRowP
import Derived.Lib.AppendZeros
import Derived.Lib.SliceRun
namespace Go.Proofs.Ytnnkdnleencofab
open Go.RowKit
set_option linter.unusedVariables false

/-- A list of numbers appended, from wherever it comes. -/
theorem wp_append_Ps {w : World} {ops : Array Oper} {rest : List Oper} {o : Oper} {a : Act} {Q : Exit → Act → World → Prop} (hgd : o.guard = none) (s x : Operand)
    (ho : o.op = .call { callee := .builtin .append, args := #[s, x], argTypes := #[35, 35] }) (base : Nat) (v : Value) (ts : List (Int × Int × Int)) (hs : a.eval s = v)
    (hown : w.ownsRow base 32 3 v ts.length (cellsP ts)) (A : Option Addr) (c : Nat) (us : List (Int × Int × Int)) (hx : a.eval x = .slice A us.length c) (hr : RdP w A us)
    (hlen : ts.length ≤ 2097152) (hlen' : us.length ≤ 2097152) (hbase : base ≤ w.heap.size) (hv : ∃ A' c', v = .slice A' ts.length c')
    (h : ∀ A c w', w'.ownsRow base 32 3 (.slice A (ts ++ us).length c) (ts ++ us).length (cellsP (ts ++ us)) → w.grownBy w' v.ownBlock → wpList Try.prog ops Q rest (a.put o.dst (.slice A (ts ++ us).length c)) w') :
    wpList Try.prog ops Q (o :: rest) a w := by
  obtain ⟨i0, hi, hz0, hz1, hz2⟩ := info_parts Try.info_P
  by_cases hu : us = []
  · subst hu
    cases A with
    | none =>
      obtain ⟨A', c', rfl⟩ := hv
      refine wpList_plain hgd fun K hK => ?_
      have hrun : (Builtin.append_ #[35, 35] o.type #[.slice A' ts.length c', .slice none 0 c]).run Try.prog w = .ok (.slice A' ts.length c') w := by
        rcases hown.2 with ⟨hv, hn⟩ | ⟨g, cap, cur, hv, _, _, hnc, _⟩
        · simp only [Value.slice.injEq] at hv
          obtain ⟨rfl, h2, rfl⟩ := hv
          simp [Builtin.append_, run_underlying Try.underlying35, sizeOf, typeInfo, hi, Builtin.lenOf, Builtin.firstCells, h2]
        · simp only [Value.slice.injEq] at hv
          obtain ⟨rfl, _, rfl⟩ := hv
          simp [Builtin.append_, run_underlying Try.underlying35, sizeOf, typeInfo, hi, Builtin.lenOf, Builtin.firstCells, hnc, storeCells]
      unfold Oper.wp
      simp [execOp, ho, resolve, invoke, builtin, hs, hx, hrun, Result.andThen]
      exact hK _ _ (by simpa using h A' c' w (by simpa using hown) (World.grownBy.refl w _))
    | some ad =>
      refine wpList_append_own w hgd s x 35 ho base 32 i0 _ 3 24 Try.underlying35 hi hz0 hz1 hz2 rfl (by decide) v ts.length (cellsP ts) hs hown ad 0 c [] hx rfl (by simp) (by simp) (by unfold maxLen; omega) (by omega) hbase ?_
      intro v' w' h1 h2 h3
      obtain ⟨A', c', rfl⟩ := hv
      obtain ⟨A2, c2, rfl⟩ : ∃ A2 c2, v' = .slice A2 ts.length c2 := by
        rcases h1.2 with ⟨hv, hn⟩ | ⟨g, cap, cur, rfl, _⟩
        · subst hv
          have h0 : ts.length = 0 := by omega
          exact ⟨none, 0, by rw [h0]⟩
        · exact ⟨_, cap, rfl⟩
      have := h A2 c2 w' (by simpa using h1) h2
      simpa using this
  · have hpos : 0 < us.length := List.length_pos_iff.2 hu
    obtain ⟨b, off, rfl, _, hc⟩ := hr.at_ hpos
    refine wpList_append_own w hgd s x 35 ho base 32 i0 _ 3 24 Try.underlying35 hi hz0 hz1 hz2 rfl (by decide) v ts.length (cellsP ts) hs hown ⟨b, off, none⟩ us.length c (cellsP us) hx (cellsP_length us) ?_ (cellsP_one us) (by unfold maxLen; omega) (by omega) hbase ?_
    · intro j u hj
      have hjl : j < us.length * 3 := by
        have := (List.getElem?_eq_some_iff.1 hj).1
        rw [cellsP_length] at this
        exact this
      have hk : j / 3 < us.length := by omega
      have hg := cellsP_get us (j / 3) hk
      have hcc := hc (j / 3) hk
      have hadd : (⟨b, off, none⟩ : Addr).add j = ⟨b, off + j, none⟩ := by
        unfold Addr.add
        split <;> simp_all
      rw [hadd]
      simp only [Nat.add_assoc] at hcc
      rcases (by omega : j % 3 = 0 ∨ j % 3 = 1 ∨ j % 3 = 2) with h0 | h0 | h0
      · have e : j / 3 * 3 = j := by omega
        have h1 := hg.1
        have h2 := hcc.1
        rw [e] at h1 h2
        rw [h2]
        rw [h1] at hj
        exact hj
      · have e : j / 3 * 3 + 1 = j := by omega
        have h1 := hg.2.1
        have h2 := hcc.2.1
        rw [e] at h1 h2
        rw [h2]
        rw [h1] at hj
        exact hj
      · have e : j / 3 * 3 + 2 = j := by omega
        have h1 := hg.2.2
        have h2 := hcc.2.2
        rw [e] at h1 h2
        rw [h2]
        rw [h1] at hj
        exact hj
    · intro v' w' h1 h2 _
      rw [← cellsP_append, ← List.length_append] at h1
      obtain ⟨A2, c2, rfl⟩ : ∃ A2 c2, v' = .slice A2 (ts ++ us).length c2 := by
        rcases h1.2 with ⟨hv, hn⟩ | ⟨g, cap, cur, rfl, _⟩
        · rw [List.length_append] at hn; omega
        · exact ⟨_, cap, rfl⟩
      exact h A2 c2 w' h1 h2

set_option maxRecDepth 100000 in
set_option maxHeartbeats 1000000 in
theorem c_growP (n : Nat) (hn : n ≤ 2097152) (w : World) :
    Calls Try.prog 136 #[.slice none 0 0, .int .i64 n] w fun e w' => ∃ A c, e = .returned (.slice A 0 c) ∧ w'.ownsRow w.heap.size 32 3 (.slice A 0 c) 0 (cellsP []) ∧ Below w.heap.size w w' := by
  obtain ⟨i0, hi, hz0, hz1, hz2⟩ := info_parts Try.info_P
  by_cases h0 : (0 : Int) < n
  · have hrun := Lib.hid (Lib.run_append_nil_zeros w 35 3 35 32 i0 (.agg #[.int .i64 0, .int .i64 0, .int .i64 0]) .i64 .i64 Try.underlying35 Try.underlying3 hi hz0 n (by omega) (by rw [hz1]; omega) (by omega) (by rw [hz2]; omega))
    obtain ⟨cp, hcp⟩ : ∃ cp, cp = grownCap w n 0 32 := ⟨_, rfl⟩
    have hge : n ≤ cp := by rw [hcp]; exact grownCap_ge _ _ _ _
    have hle : cp ≤ maxLen := by rw [hcp]; exact grownCap_le_maxLen _ _ _ _ (by unfold maxLen; omega)
    rw [← hcp] at hrun
    have hsz : (Builtin.zeroCells (Value.cells (.agg #[.int .i64 0, .int .i64 0, .int .i64 0])) n ++ Builtin.zeroCells (Value.cells (.agg #[.int .i64 0, .int .i64 0, .int .i64 0])) (cp - n)).size = cp * 3 := by
      rw [Array.size_append]
      simp [Builtin.zeroCells, Value.cells]
      omega
    generalize Builtin.zeroCells (Value.cells (.agg #[.int .i64 0, .int .i64 0, .int .i64 0])) n ++ Builtin.zeroCells (Value.cells (.agg #[.int .i64 0, .int .i64 0, .int .i64 0])) (cp - n) = cur at *
    have Hs := Lib.hid hsz
    have Hle := Lib.hid hle
    clear hz0 hz1 hz2 hi hsz hle hcp
    go_enter Try.func136, Try.ntmps136
    go_wp2_with (at_builtin; refine Lib.wpList_append_run w rfl _ _ _ _ rfl (.slice none 0 0) (.int .i64 n) rfl rfl _ _ hrun.out ?_)
    go_ret
    exact ⟨_, cp, rfl, own_keep (World.ownsRow_made w cur cp (Nat.le_refl _) Hle.out Hs.out) (Below.refl _ _).drew, by go_grown⟩
  · go_enter Try.func136, Try.ntmps136
    go_wp2
    go_ret
    exact ⟨none, 0, rfl, World.ownsRow_nil _ _ _ _, Below.refl _ _⟩

/-- A list of numbers appended, as one operation. -/
theorem op_append_Ps {w : World} {o : Oper} {a : Act} {K : Act → World → Prop} {Q : Exit → Act → World → Prop} (s x : Operand)
    (ho : o.op = .call { callee := .builtin .append, args := #[s, x], argTypes := #[35, 35] }) (base : Nat) (v : Value) (ts : List (Int × Int × Int)) (hs : a.eval s = v)
    (hown : w.ownsRow base 32 3 v ts.length (cellsP ts)) (A : Option Addr) (c : Nat) (us : List (Int × Int × Int)) (hx : a.eval x = .slice A us.length c) (hr : RdP w A us)
    (hlen : ts.length ≤ 2097152) (hlen' : us.length ≤ 2097152) (hbase : base ≤ w.heap.size) (hv : ∃ A' c', v = .slice A' ts.length c')
    (h : ∀ A c w', w'.ownsRow base 32 3 (.slice A (ts ++ us).length c) (ts ++ us).length (cellsP (ts ++ us)) → w.grownBy w' v.ownBlock → K (a.put o.dst (.slice A (ts ++ us).length c)) w') :
    o.wp Try.prog a w K Q := by
  obtain ⟨i0, hi, hz0, hz1, hz2⟩ := info_parts Try.info_P
  by_cases hu : us = []
  · subst hu
    cases A with
    | none =>
      obtain ⟨A', c', rfl⟩ := hv
      have hrun : (Builtin.append_ #[35, 35] o.type #[.slice A' ts.length c', .slice none 0 c]).run Try.prog w = .ok (.slice A' ts.length c') w := by
        rcases hown.2 with ⟨hv, hn⟩ | ⟨g, cap, cur, hv, _, _, hnc, _⟩
        · simp only [Value.slice.injEq] at hv
          obtain ⟨rfl, h2, rfl⟩ := hv
          simp [Builtin.append_, run_underlying Try.underlying35, sizeOf, typeInfo, hi, Builtin.lenOf, Builtin.firstCells, h2]
        · simp only [Value.slice.injEq] at hv
          obtain ⟨rfl, _, rfl⟩ := hv
          simp [Builtin.append_, run_underlying Try.underlying35, sizeOf, typeInfo, hi, Builtin.lenOf, Builtin.firstCells, hnc, storeCells]
      unfold Oper.wp
      simp [execOp, ho, resolve, invoke, builtin, hs, hx, hrun, Result.andThen]
      have := h A' c' w (by simpa using hown) (World.grownBy.refl w _)
      rw [List.append_nil] at this
      exact this
    | some ad =>
      refine wp_append_own w s x 35 ho base 32 i0 _ 3 24 Try.underlying35 hi hz0 hz1 hz2 rfl (by decide) v ts.length (cellsP ts) hs hown ad 0 c [] hx rfl (by simp) (by simp) (by unfold maxLen; omega) (by omega) hbase ?_
      intro v' w' h1 h2 h3
      obtain ⟨A', c', rfl⟩ := hv
      obtain ⟨A2, c2, rfl⟩ : ∃ A2 c2, v' = .slice A2 ts.length c2 := by
        rcases h1.2 with ⟨hv, hn⟩ | ⟨g, cap, cur, rfl, _⟩
        · subst hv
          have h0 : ts.length = 0 := by omega
          exact ⟨none, 0, by rw [h0]⟩
        · exact ⟨_, cap, rfl⟩
      have := h A2 c2 w' (by simpa using h1) h2
      simpa using this
  · have hpos : 0 < us.length := List.length_pos_iff.2 hu
    obtain ⟨b, off, rfl, _, hc⟩ := hr.at_ hpos
    refine wp_append_own w s x 35 ho base 32 i0 _ 3 24 Try.underlying35 hi hz0 hz1 hz2 rfl (by decide) v ts.length (cellsP ts) hs hown ⟨b, off, none⟩ us.length c (cellsP us) hx (cellsP_length us) ?_ (cellsP_one us) (by unfold maxLen; omega) (by omega) hbase ?_
    · intro j u hj
      have hjl : j < us.length * 3 := by
        have := (List.getElem?_eq_some_iff.1 hj).1
        rw [cellsP_length] at this
        exact this
      have hk : j / 3 < us.length := by omega
      have hg := cellsP_get us (j / 3) hk
      have hcc := hc (j / 3) hk
      have hadd : (⟨b, off, none⟩ : Addr).add j = ⟨b, off + j, none⟩ := by
        unfold Addr.add
        split <;> simp_all
      rw [hadd]
      simp only [Nat.add_assoc] at hcc
      rcases (by omega : j % 3 = 0 ∨ j % 3 = 1 ∨ j % 3 = 2) with h0 | h0 | h0
      · have e : j / 3 * 3 = j := by omega
        have h1 := hg.1
        have h2 := hcc.1
        rw [e] at h1 h2
        rw [h2]
        rw [h1] at hj
        exact hj
      · have e : j / 3 * 3 + 1 = j := by omega
        have h1 := hg.2.1
        have h2 := hcc.2.1
        rw [e] at h1 h2
        rw [h2]
        rw [h1] at hj
        exact hj
      · have e : j / 3 * 3 + 2 = j := by omega
        have h1 := hg.2.2
        have h2 := hcc.2.2
        rw [e] at h1 h2
        rw [h2]
        rw [h1] at hj
        exact hj
    · intro v' w' h1 h2 _
      rw [← cellsP_append, ← List.length_append] at h1
      obtain ⟨A2, c2, rfl⟩ : ∃ A2 c2, v' = .slice A2 (ts ++ us).length c2 := by
        rcases h1.2 with ⟨hv, hn⟩ | ⟨g, cap, cur, rfl, _⟩
        · rw [List.length_append] at hn; omega
        · exact ⟨_, cap, rfl⟩
      exact h A2 c2 w' h1 h2

/-- .. at a step of a region that draws its order. -/
theorem step_append_Ps {w : World} {ops : Array Oper} {o : Oper} {a : Act} {K : Act → World → Prop} {Q : Exit → Act → World → Prop} {E : Prop} (hgd : o.guard = none) (s x : Operand)
    (ho : o.op = .call { callee := .builtin .append, args := #[s, x], argTypes := #[35, 35] }) (base : Nat) (v : Value) (ts : List (Int × Int × Int)) (hs : a.eval s = v)
    (hown : w.ownsRow base 32 3 v ts.length (cellsP ts)) (A : Option Addr) (c : Nat) (us : List (Int × Int × Int)) (hx : a.eval x = .slice A us.length c) (hr : RdP w A us)
    (hlen : ts.length ≤ 2097152) (hlen' : us.length ≤ 2097152) (hbase : base ≤ w.heap.size) (hv : ∃ A' c', v = .slice A' ts.length c')
    (h : ∀ A c w', w'.ownsRow base 32 3 (.slice A (ts ++ us).length c) (ts ++ us).length (cellsP (ts ++ us)) → w.grownBy w' v.ownBlock → K (a.put o.dst (.slice A (ts ++ us).length c)) w') :
    if Region.wanted o (yielded ops a.tmps) = true then o.wp Try.prog a w K Q else E := by
  have hw : Region.wanted o (yielded ops a.tmps) = true := by simp [Region.wanted, hgd]
  rw [if_pos hw]
  exact op_append_Ps s x ho base v ts hs hown A c us hx hr hlen hlen' hbase hv h

/-- The first k of two lists, put together. -/
def catToP (xs ys : List (Int × Int × Int)) (k : Nat) : List (Int × Int × Int) := if k = 0 then [] else if k = 1 then xs else xs ++ ys
def catLenP (n m k : Nat) : Nat := if k = 0 then 0 else if k = 1 then n else n + m
theorem cat_stepP {w : World} {g off c d : Nat} {A B : Option Addr} {xs ys : List (Int × Int × Int)} (h0 : w.cell? ⟨g, off + 0, none⟩ = some (.slice A xs.length c)) (h1 : w.cell? ⟨g, off + 1, none⟩ = some (.slice B ys.length d)) (hrx : RdP w A xs) (hry : RdP w B ys) {k : Nat} (hk : k < 2) :
    ∃ A' c' us, w.cell? ⟨g, off + k, none⟩ = some (.slice A' us.length c') ∧ RdP w A' us ∧ us.length ≤ xs.length + ys.length ∧ catToP xs ys (k + 1) = catToP xs ys k ++ us ∧ catLenP xs.length ys.length (k + 1) = catLenP xs.length ys.length k + us.length ∧ (us = xs ∨ us = ys) := by
  obtain rfl | rfl : k = 0 ∨ k = 1 := by omega
  · exact ⟨A, c, xs, h0, hrx, by omega, by simp [catToP], by simp [catLenP], .inl rfl⟩
  · exact ⟨B, d, ys, h1, hry, by omega, by simp [catToP], by simp [catLenP], .inr rfl⟩
theorem catLenP_le (n m k : Nat) : catLenP n m k ≤ n + m := by unfold catLenP; split; omega; split <;> omega
theorem catToP_len (xs ys : List (Int × Int × Int)) (k : Nat) : (catToP xs ys k).length ≤ xs.length + ys.length := by unfold catToP; split; simp; split <;> simp
theorem catToP_two (xs ys : List (Int × Int × Int)) : catToP xs ys 2 = xs ++ ys := by simp [catToP]

set_option maxRecDepth 100000 in
set_option maxHeartbeats 2000000 in
theorem c_concatP (g off : Nat) (A : Option Addr) (c : Nat) (xs : List (Int × Int × Int)) (B : Option Addr) (d : Nat) (ys : List (Int × Int × Int)) (w : World) (h0 : w.cell? ⟨g, off + 0, none⟩ = some (.slice A xs.length c)) (h1 : w.cell? ⟨g, off + 1, none⟩ = some (.slice B ys.length d)) (hrx : RdP w A xs) (hry : RdP w B ys) (lx : xs.length ≤ 1048576) (ly : ys.length ≤ 1048576) :
    Calls Try.prog 106 #[.slice (some ⟨g, off, none⟩) 2 2] w (RetPL w (xs ++ ys)) := by
  have hst := Lib.hid (fun k hk => cat_stepP h0 h1 hrx hry (k := k) hk)
  have hg : g < w.heap.size := block_lt h0
  have e2 := Lib.hid (catToP_two xs ys)
  have l2 : catLenP xs.length ys.length 2 = xs.length + ys.length := by simp [catLenP]
  have conG := Lib.hid (fun W => c_growP (catLenP xs.length ys.length 2) (by rw [l2]; omega) W)
  clear h0 h1 hrx hry l2
  go_enter Try.func106, Try.ntmps106
  go_wp2
  go_loop [3, 11] (fun s i => ∃ k : Nat, k ≤ 2 ∧ i = .int .i64 k ∧ s = .int .i64 (catLenP xs.length ys.length k)) (fun _ i => 2 - (intOf i).toNat)
  case atStart => exact ⟨0, by omega, rfl, by go_num⟩
  case round =>
    obtain ⟨k, hk, rfl, rfl⟩ := hrel
    have hcl := catLenP_le xs.length ys.length k
    by_cases hlt : k < 2
    · obtain ⟨A1, c1, us, hc1, _, hul, _, hs, _⟩ := hst.out k hlt
      have Hs := Lib.hid hs
      clear hs
      go_wp2
      all_goals
        go_round
        case rel => exact ⟨k + 1, by omega, by go_num, by have := Hs.out; go_num⟩
        case measure => simp [intOf]; omega
    · obtain rfl : k = 2 := by omega
      go_wp2_with (go_at_call 136; refine (conG.out _).mono ?_; rintro e w1 ⟨A1, c1, rfl, ho1, hb1⟩)
      go_loopw [6, 27] (fun v i wr => ∃ (k : Nat) (A' : Option Addr) (c' : Nat), k ≤ 2 ∧ i = .int .i64 k ∧ v = .slice A' (catToP xs ys k).length c' ∧ wr.ownsRow w.heap.size 32 3 (.slice A' (catToP xs ys k).length c') (catToP xs ys k).length (cellsP (catToP xs ys k)) ∧ Below w.heap.size w wr) (fun _ i _ => 2 - (intOf i).toNat)
      case atStart => exact ⟨0, A1, c1, by omega, rfl, rfl, ho1, hb1⟩
      case round =>
        clear ho1 hb1
        obtain ⟨k, A', c', hk, rfl, rfl, hown, hb⟩ := hrel
        by_cases hlt : k < 2
        · obtain ⟨A1, c1, us, hc1, hru, hul, hcat, _, _⟩ := hst.out k hlt
          have g1 := (hb.cell (p := ⟨g, _, none⟩) hg).trans hc1
          have hru' := Lib.hid (hru.below hb)
          have Hc := Lib.hid hcat
          have Hb := Lib.hid hb
          have Ho := Lib.hid hown
          have hz := hb.size
          have hcl := catToP_len xs ys k
          clear hc1 hru hcat hb hown
          go_wp2_with (at_builtin; refine wp_append_Ps rfl _ _ rfl w.heap.size _ (catToP xs ys k) rfl Ho.out _ _ us rfl hru'.out (by omega) (by omega) (by omega) ⟨_, _, rfl⟩ ?_; intro A4 c4 w4 ho4 hg4)
          go_roundw
          case rel =>
            refine ⟨k + 1, A4, c4, by omega, by go_num, by rw [Hc.out, List.length_append], by rw [Hc.out]; exact ho4, ?_⟩
            have hb0 := Hb.out
            exact Below.grown hb0 hg4 (by omega) (fun g hg => (Ho.out.lt g hg).1)
          case measure => simp [intOf]; omega
        · obtain rfl : k = 2 := by omega
          rw [e2.out] at hown ⊢
          go_wp2
          go_ret
          exact ⟨A', c', rfl, hown, hb⟩
end Go.Proofs.Ytnnkdnleencofab

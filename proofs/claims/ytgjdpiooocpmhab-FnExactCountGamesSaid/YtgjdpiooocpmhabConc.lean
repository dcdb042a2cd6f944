/- Lists of numbers put behind one another by the program: slices.Concat. -/
import Derived.Test.YtgjdpiooocpmhabCat
import Derived.Test.YtgjdpiooocpmhabChn
import Derived.Lib.AppendZeros
namespace Go.Proofs.Ytgjdpiooocpmhab
open Go.RowKit
set_option linter.unusedVariables false

theorem own_at {w : World} {base e size n c : Nat} {A : Option Addr} {cs : List Value} (h : w.ownsRow base e size (.slice A n c) n cs) (hn : 0 < n) : ∃ g, A = some ⟨g, 0, none⟩ := by
  obtain ⟨_, ⟨hv, hz⟩ | ⟨g, cap, cur, hv, _⟩⟩ := h
  · omega
  · injection hv with h1 h2 h3
    exact ⟨g, h1⟩

theorem own_cut {w : World} {base e size g n c k : Nat} {cs : List Value} (h : w.ownsRow base e size (.slice (some ⟨g, 0, none⟩) n c) n cs) (hk : k ≤ n) :
    w.ownsRow base e size (.slice (some ⟨g, 0, none⟩) k c) k (cs.take (k * size)) := by
  obtain ⟨h0, ⟨hv, hn⟩ | ⟨g', cap, cur, hv, hg, hh, hc, hm, hs, ht⟩⟩ := h
  · cases hv
  · injection hv with e1 e2 e3
    injection e1 with e1
    injection e1 with e1
    subst e1 e3
    refine ⟨?_, .inr ⟨g, c, cur, rfl, hg, hh, by omega, hm, hs, ?_⟩⟩
    · rw [List.length_take, h0]
      exact Nat.min_eq_left (Nat.mul_le_mul_right _ hk)
    · rw [← ht, List.take_take, Nat.min_eq_left (Nat.mul_le_mul_right _ hk)]

set_option maxRecDepth 100000 in
set_option maxHeartbeats 1000000 in
theorem c_grow (n : Nat) (hn : n ≤ 2097152) (w : World) :
    Calls Try.prog 189 #[.slice none 0 0, .int .i64 n] w fun e w' => ∃ A c, e = .returned (.slice A 0 c) ∧ w'.ownsRow w.heap.size 3 1 (.slice A 0 c) 0 (cellsI []) ∧ Below w.heap.size w w' := by
  obtain ⟨i0, hi, hz0, hz1, hz2⟩ := info_parts Try.info_int
  by_cases h0 : (0 : Int) < n
  · have hrun := Lib.hid (Lib.run_append_nil_zeros w 23 3 23 3 i0 (.int .i64 0) .i64 .i64 Try.underlying23 Try.underlying3 hi hz0 n (by omega) (by rw [hz1]; omega) (by omega) (by rw [hz2]; omega))
    obtain ⟨cp, hcp⟩ : ∃ cp, cp = grownCap w n 0 3 := ⟨_, rfl⟩
    have hge : n ≤ cp := by rw [hcp]; exact grownCap_ge _ _ _ _
    have hle : cp ≤ maxLen := by rw [hcp]; exact grownCap_le_maxLen _ _ _ _ (by unfold maxLen; omega)
    rw [← hcp] at hrun
    have hsz : (Builtin.zeroCells (Value.int .i64 0).cells n ++ Builtin.zeroCells (Value.int .i64 0).cells (cp - n)).size = cp * 1 := by
      rw [Array.size_append]
      simp [Builtin.zeroCells, Value.cells]
      omega
    generalize Builtin.zeroCells (Value.int .i64 0).cells n ++ Builtin.zeroCells (Value.int .i64 0).cells (cp - n) = cur at *
    have Hs := Lib.hid hsz
    have Hle := Lib.hid hle
    clear hz0 hz1 hz2 hi hsz hle hcp
    go_enter Try.func189, Try.ntmps189
    go_wp2_with (at_builtin; refine Lib.wpList_append_run w rfl _ _ _ _ rfl (.slice none 0 0) (.int .i64 n) rfl rfl _ _ hrun.out ?_)
    go_ret
    exact ⟨_, cp, rfl, own_drew (World.ownsRow_made w cur cp (Nat.le_refl _) Hle.out Hs.out), by go_grown⟩
  · go_enter Try.func189, Try.ntmps189
    go_wp2
    go_ret
    exact ⟨none, 0, rfl, World.ownsRow_nil _ _ _ _, Below.refl _ _⟩

/-- A list of numbers appended, as one operation. -/
theorem op_append_ints {w : World} {o : Oper} {a : Act} {K : Act → World → Prop} {Q : Exit → Act → World → Prop} (s x : Operand)
    (ho : o.op = .call { callee := .builtin .append, args := #[s, x], argTypes := #[23, 23] }) (base : Nat) (v : Value) (ts : List Int) (hs : a.eval s = v)
    (hown : w.ownsRow base 3 1 v ts.length (cellsI ts)) (A : Option Addr) (c : Nat) (us : List Int) (hx : a.eval x = .slice A us.length c) (hr : RdI w A us)
    (hlen : ts.length ≤ 2097152) (hlen' : us.length ≤ 2097152) (hbase : base ≤ w.heap.size) (hv : ∃ A' c', v = .slice A' ts.length c')
    (h : ∀ A c w', w'.ownsRow base 3 1 (.slice A (ts ++ us).length c) (ts ++ us).length (cellsI (ts ++ us)) → w.grownBy w' v.ownBlock → K (a.put o.dst (.slice A (ts ++ us).length c)) w') :
    o.wp Try.prog a w K Q := by
  obtain ⟨i0, hi, hz0, hz1, hz2⟩ := info_parts Try.info_int
  by_cases hu : us = []
  · subst hu
    cases A with
    | none =>
      obtain ⟨A', c', rfl⟩ := hv
      have hrun : (Builtin.append_ #[23, 23] o.type #[.slice A' ts.length c', .slice none 0 c]).run Try.prog w = .ok (.slice A' ts.length c') w := by
        rcases hown.2 with ⟨hv, hn⟩ | ⟨g, cap, cur, hv, _, _, hnc, _⟩
        · simp only [Value.slice.injEq] at hv
          obtain ⟨rfl, h2, rfl⟩ := hv
          simp [Builtin.append_, run_underlying Try.underlying23, sizeOf, typeInfo, hi, Builtin.lenOf, Builtin.firstCells, h2]
        · simp only [Value.slice.injEq] at hv
          obtain ⟨rfl, _, rfl⟩ := hv
          simp [Builtin.append_, run_underlying Try.underlying23, sizeOf, typeInfo, hi, Builtin.lenOf, Builtin.firstCells, hnc, storeCells]
      unfold Oper.wp
      simp [execOp, ho, resolve, invoke, builtin, hs, hx, hrun, Result.andThen]
      have := h A' c' w (by simpa using hown) (World.grownBy.refl w _)
      rw [List.append_nil] at this
      exact this
    | some ad =>
      refine wp_append_own w s x 23 ho base 3 i0 _ 1 8 Try.underlying23 hi hz0 hz1 hz2 rfl (by decide) v ts.length (cellsI ts) hs hown ad 0 c [] hx rfl (by simp) (by simp) (by unfold maxLen; omega) (by omega) hbase ?_
      intro v' w' h1 h2 h3
      obtain ⟨A', c', rfl⟩ := hv
      obtain ⟨A2, c2, rfl⟩ : ∃ A2 c2, v' = .slice A2 ts.length c2 := by
        rcases h1.2 with ⟨hv, hn⟩ | ⟨g, cap, cur, rfl, _⟩
        · subst hv
          have h0 : ts.length = 0 := by omega
          exact ⟨none, 0, by rw [h0]⟩
        · exact ⟨_, cap, rfl⟩
      have := h A2 c2 w' (by simpa using h1) h2
      simpa using this
  · have hpos : 0 < us.length := List.length_pos_iff.2 hu
    obtain ⟨b, off, rfl, _, hc⟩ := hr.at_ hpos
    refine wp_append_own w s x 23 ho base 3 i0 _ 1 8 Try.underlying23 hi hz0 hz1 hz2 rfl (by decide) v ts.length (cellsI ts) hs hown ⟨b, off, none⟩ us.length c (cellsI us) hx (by rw [cellsI_length, Nat.mul_one]) ?_ (cellsI_one us) (by unfold maxLen; omega) (by omega) hbase ?_
    · intro j u hj
      have hk : j < us.length := by
        have := (List.getElem?_eq_some_iff.1 hj).1
        rw [cellsI_length] at this
        exact this
      have hadd : (⟨b, off, none⟩ : Addr).add j = ⟨b, off + j, none⟩ := by
        unfold Addr.add
        split <;> simp_all
      rw [hadd, hc j hk]
      have e : (cellsI us)[j]? = some (.int .i64 us[j]) := by simp [cellsI, hk]
      rw [e] at hj
      exact hj
    · intro v' w' h1 h2 _
      rw [← cellsI_append, ← List.length_append] at h1
      obtain ⟨A2, c2, rfl⟩ : ∃ A2 c2, v' = .slice A2 (ts ++ us).length c2 := by
        rcases h1.2 with ⟨hv, hn⟩ | ⟨g, cap, cur, rfl, _⟩
        · rw [List.length_append] at hn; omega
        · exact ⟨_, cap, rfl⟩
      exact h A2 c2 w' h1 h2
/-- .. at a step of a region that draws its order. -/
theorem step_append_ints {w : World} {ops : Array Oper} {o : Oper} {a : Act} {K : Act → World → Prop} {Q : Exit → Act → World → Prop} {E : Prop} (hgd : o.guard = none) (s x : Operand)
    (ho : o.op = .call { callee := .builtin .append, args := #[s, x], argTypes := #[23, 23] }) (base : Nat) (v : Value) (ts : List Int) (hs : a.eval s = v)
    (hown : w.ownsRow base 3 1 v ts.length (cellsI ts)) (A : Option Addr) (c : Nat) (us : List Int) (hx : a.eval x = .slice A us.length c) (hr : RdI w A us)
    (hlen : ts.length ≤ 2097152) (hlen' : us.length ≤ 2097152) (hbase : base ≤ w.heap.size) (hv : ∃ A' c', v = .slice A' ts.length c')
    (h : ∀ A c w', w'.ownsRow base 3 1 (.slice A (ts ++ us).length c) (ts ++ us).length (cellsI (ts ++ us)) → w.grownBy w' v.ownBlock → K (a.put o.dst (.slice A (ts ++ us).length c)) w') :
    if Region.wanted o (yielded ops a.tmps) = true then o.wp Try.prog a w K Q else E := by
  have hw : Region.wanted o (yielded ops a.tmps) = true := by simp [Region.wanted, hgd]
  rw [if_pos hw]
  exact op_append_ints s x ho base v ts hs hown A c us hx hr hlen hlen' hbase hv h

/-- The first k of two lists, put together. -/
def catTo (xs ys : List Int) (k : Nat) : List Int := if k = 0 then [] else if k = 1 then xs else xs ++ ys
def catLen (n m k : Nat) : Nat := if k = 0 then 0 else if k = 1 then n else n + m
theorem cat_step {w : World} {g off c d : Nat} {A B : Option Addr} {xs ys : List Int} (h0 : w.cell? ⟨g, off + 0, none⟩ = some (.slice A xs.length c)) (h1 : w.cell? ⟨g, off + 1, none⟩ = some (.slice B ys.length d)) (hrx : RdI w A xs) (hry : RdI w B ys) {k : Nat} (hk : k < 2) :
    ∃ A' c' us, w.cell? ⟨g, off + k, none⟩ = some (.slice A' us.length c') ∧ RdI w A' us ∧ us.length ≤ xs.length + ys.length ∧ catTo xs ys (k + 1) = catTo xs ys k ++ us ∧ catLen xs.length ys.length (k + 1) = catLen xs.length ys.length k + us.length ∧ (us = xs ∨ us = ys) := by
  obtain rfl | rfl : k = 0 ∨ k = 1 := by omega
  · exact ⟨A, c, xs, h0, hrx, by omega, by simp [catTo], by simp [catLen], .inl rfl⟩
  · exact ⟨B, d, ys, h1, hry, by omega, by simp [catTo], by simp [catLen], .inr rfl⟩
theorem catLen_le (n m k : Nat) : catLen n m k ≤ n + m := by unfold catLen; split; omega; split <;> omega
theorem catTo_len (xs ys : List Int) (k : Nat) : (catTo xs ys k).length ≤ xs.length + ys.length := by unfold catTo; split; simp; split <;> simp
theorem catTo_two (xs ys : List Int) : catTo xs ys 2 = xs ++ ys := by simp [catTo]

set_option maxRecDepth 100000 in
set_option maxHeartbeats 2000000 in
theorem c_concat (g off : Nat) (A : Option Addr) (c : Nat) (xs : List Int) (B : Option Addr) (d : Nat) (ys : List Int) (w : World) (h0 : w.cell? ⟨g, off + 0, none⟩ = some (.slice A xs.length c)) (h1 : w.cell? ⟨g, off + 1, none⟩ = some (.slice B ys.length d)) (hrx : RdI w A xs) (hry : RdI w B ys) (lx : xs.length ≤ 1048576) (ly : ys.length ≤ 1048576) :
    Calls Try.prog 187 #[.slice (some ⟨g, off, none⟩) 2 2] w (RetN w (xs ++ ys)) := by
  have hst := Lib.hid (fun k hk => cat_step h0 h1 hrx hry (k := k) hk)
  have hg : g < w.heap.size := block_lt h0
  have e2 := Lib.hid (catTo_two xs ys)
  have l2 : catLen xs.length ys.length 2 = xs.length + ys.length := by simp [catLen]
  have conG := Lib.hid (fun W => c_grow (catLen xs.length ys.length 2) (by rw [l2]; omega) W)
  clear h0 h1 hrx hry l2
  go_enter Try.func187, Try.ntmps187
  go_wp2
  go_loop [3, 11] (fun s i => ∃ k : Nat, k ≤ 2 ∧ i = .int .i64 k ∧ s = .int .i64 (catLen xs.length ys.length k)) (fun _ i => 2 - (intOf i).toNat)
  case atStart => exact ⟨0, by omega, rfl, by go_num⟩
  case round =>
    obtain ⟨k, hk, rfl, rfl⟩ := hrel
    have hcl := catLen_le xs.length ys.length k
    by_cases hlt : k < 2
    · obtain ⟨A1, c1, us, hc1, _, hul, _, hs, _⟩ := hst.out k hlt
      have Hs := Lib.hid hs
      clear hs
      go_wp2
      all_goals
        go_round
        case rel => exact ⟨k + 1, by omega, by go_num, by have := Hs.out; go_num⟩
        case measure => simp [intOf]; omega
    · obtain rfl : k = 2 := by omega
      go_wp2_with (go_at_call 189; refine (conG.out _).mono ?_; rintro e w1 ⟨A1, c1, rfl, ho1, hb1⟩)
      go_loopw [6, 27] (fun v i wr => ∃ (k : Nat) (A' : Option Addr) (c' : Nat), k ≤ 2 ∧ i = .int .i64 k ∧ v = .slice A' (catTo xs ys k).length c' ∧ wr.ownsRow w.heap.size 3 1 (.slice A' (catTo xs ys k).length c') (catTo xs ys k).length (cellsI (catTo xs ys k)) ∧ Below w.heap.size w wr) (fun _ i _ => 2 - (intOf i).toNat)
      case atStart => exact ⟨0, A1, c1, by omega, rfl, rfl, ho1, hb1⟩
      case round =>
        clear ho1 hb1
        obtain ⟨k, A', c', hk, rfl, rfl, hown, hb⟩ := hrel
        by_cases hlt : k < 2
        · obtain ⟨A1, c1, us, hc1, hru, hul, hcat, _, _⟩ := hst.out k hlt
          have g1 := (hb.cell (p := ⟨g, _, none⟩) hg).trans hc1
          have hru' := Lib.hid (hru.below hb)
          have Hc := Lib.hid hcat
          have Hb := Lib.hid hb
          have Ho := Lib.hid hown
          have hz := hb.size
          have hcl := catTo_len xs ys k
          clear hc1 hru hcat hb hown
          go_wp2_with (at_builtin; refine wp_append_ints rfl _ _ rfl w.heap.size _ (catTo xs ys k) rfl Ho.out _ _ us rfl hru'.out (by omega) (by omega) (by omega) ⟨_, _, rfl⟩ ?_; intro A4 c4 w4 ho4 hg4)
          go_roundw
          case rel =>
            refine ⟨k + 1, A4, c4, by omega, by go_num, by rw [Hc.out, List.length_append], by rw [Hc.out]; exact ho4, ?_⟩
            have hb0 := Hb.out
            exact Below.grown hb0 hg4 (by omega) (fun g hg => (Ho.out.lt g hg).1)
          case measure => simp [intOf]; omega
        · obtain rfl : k = 2 := by omega
          rw [e2.out] at hown ⊢
          go_wp2
          go_ret
          exact ⟨A', c', rfl, hown, hb⟩

def layL (xs ys : List Int) : List Int := if chainB (xs ++ ys) then xs ++ ys else []
theorem layL_len (xs ys : List Int) : (layL xs ys).length ≤ 110 := by
  unfold layL
  split
  · rename_i h
    have := chain_len h
    omega
  · simp

set_option maxRecDepth 100000 in
set_option maxHeartbeats 1000000 in
theorem c_layNumbers (A : Option Addr) (c : Nat) (xs : List Int) (B : Option Addr) (d : Nat) (ys : List Int) (w : World) (hrx : RdI w A xs) (hry : RdI w B ys) (lx : xs.length ≤ 1048576) (ly : ys.length ≤ 1048576) :
    Calls Try.prog 180 #[.slice A xs.length c, .slice B ys.length d] w (RetI w (layL xs ys) (chainB (xs ++ ys))) := by
  have conC := Lib.hid (fun W (hb : Below w.heap.size w W) g h0 h1 => c_concat g 0 A c xs B d ys W h0 h1 (hrx.below hb) (hry.below hb) lx ly)
  have hl : (xs ++ ys).length ≤ 2097152 := by simp; omega
  have e1 : layL xs ys = if chainB (xs ++ ys) then xs ++ ys else [] := rfl
  rw [e1]
  obtain ⟨zs, hzs⟩ : ∃ zs, zs = xs ++ ys := ⟨_, rfl⟩
  rw [← hzs] at conC hl ⊢
  have conI := Lib.hid (fun W A' c' (hr : RdI W A' zs) => c_implIsChain A' c' zs W hr (by omega))
  clear e1 hzs hrx hry
  cases hc : chainB zs
  · rw [hc] at conI
    clear hc
    go_enter Try.func180, Try.ntmps180
    go_wp2_with (first | (go_at_call 187; refine (conC.out _ (by go_grown) w.heap.size (by simp) (by simp)).mono ?_; rintro e w2 ⟨A2, c2, rfl, ho2, hb2⟩) | (go_at_call 124; refine (conI.out _ _ _ (RdI.of_own ho2)).mono ?_; rintro e w3 ⟨rfl, hb3⟩))
    go_ret2
    exact ⟨none, 0, rfl, World.ownsRow_nil _ _ _ _, bstep (bstep (by go_grown) hb2) hb3⟩
  · rw [hc] at conI
    clear hc
    go_enter Try.func180, Try.ntmps180
    go_wp2_with (first | (go_at_call 187; refine (conC.out _ (by go_grown) w.heap.size (by simp) (by simp)).mono ?_; rintro e w2 ⟨A2, c2, rfl, ho2, hb2⟩) | (go_at_call 124; refine (conI.out _ _ _ (RdI.of_own ho2)).mono ?_; rintro e w3 ⟨rfl, hb3⟩))
    go_ret2
    exact ⟨A2, c2, rfl, own_base (own_keep ho2 hb3) (by simp), bstep (bstep (by go_grown) hb2) hb3⟩
end Go.Proofs.Ytgjdpiooocpmhab

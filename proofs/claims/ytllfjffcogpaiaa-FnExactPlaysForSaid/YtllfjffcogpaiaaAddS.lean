/- A play added: the specification's. -/
import Derived.Test.YtllfjffcogpaiaaBrdA
import Derived.Test.YtllfjffcogpaiaaLyR
import Derived.Test.YtllfjffcogpaiaaRegS
namespace Go.Proofs.Ytllfjffcogpaiaa
open Go.RowKit
set_option linter.unusedVariables false

theorem keepA {w : World} {a : Addr} {v : Value} {o : Obj} (h : w.cell? a = some v) : (w.alloc o).cell? a = some v := keepc ((Below.refl _ _).alloc (Nat.le_refl _) _) h

theorem own_drew {w : World} {base e size n : Nat} {v : Value} {cs : List Value} (h : w.ownsRow base e size v n cs) : w.drew.ownsRow base e size v n cs := h
theorem g1d {w : World} (a : Addr) {v : Value} (h : w.cell? a = some v) : w.drew.cell? a = some v := h

/-- One play appended, at a step of a region that draws its order. -/
theorem step_append_PO {w : World} {ops : Array Oper} {o : Oper} {a : Act} {K : Act → World → Prop} {Q : Exit → Act → World → Prop} {E : Prop} (hgd : o.guard = none) (s x : Operand)
    (ho : o.op = .call { callee := .builtin .append, args := #[s, x], argTypes := #[25, 25] }) (base : Nat) (v : Value) (ts : List (Int × Int × Int)) (n : Nat) (hn : ts.length = n) (hs : a.eval s = v)
    (hown : w.ownsRow base 62 3 v n (cellsP ts)) (p q r : Int) (g : Nat) (hx : a.eval x = .slice (some ⟨g, 0, none⟩) 1 1)
    (h0 : w.cell? ⟨g, 0, none⟩ = some (.int .i64 p)) (h1 : w.cell? ⟨g, 1, none⟩ = some (.int .i64 q)) (h2 : w.cell? ⟨g, 2, none⟩ = some (.int .i64 r)) (hlen : n ≤ 4194304) (hbase : base ≤ w.heap.size)
    (h : ∀ A c w', w'.ownsRow base 62 3 (.slice A (n + 1) c) (n + 1) (cellsP (ts ++ [(p, q, r)])) → w.grownBy w' v.ownBlock → K (a.put o.dst (.slice A (n + 1) c)) w') :
    if Region.wanted o (yielded ops a.tmps) = true then Oper.wp Try.prog o a w K Q else E := by
  have hw : Region.wanted o (yielded ops a.tmps) = true := by simp [Region.wanted, hgd]
  rw [if_pos hw]
  subst hn
  obtain ⟨i0, hi, hz0, hz1, hz2⟩ := info_parts Try.info_P
  refine wp_append_own w s x 25 ho base 62 i0 _ 3 24 Try.underlying25 hi hz0 hz1 hz2 rfl (by decide) v ts.length (cellsP ts) hs hown ⟨g, 0, none⟩ 1 1 [.int .i64 p, .int .i64 q, .int .i64 r] hx rfl ?_ ?_ (by unfold maxLen; omega) (by omega) hbase ?_
  · intro j u hj
    match j, hj with
    | 0, hj => simp at hj; subst hj; simpa [Addr.add] using h0
    | 1, hj => simp at hj; subst hj; simpa [Addr.add] using h1
    | 2, hj => simp at hj; subst hj; simpa [Addr.add] using h2
  · intro u hu
    simp at hu
    rcases hu with rfl | rfl | rfl <;> rfl
  · intro v' w' h1 h2 _
    have h1' := h1
    obtain ⟨_, ⟨_, hn⟩ | ⟨g', cap, cur, rfl, _⟩⟩ := h1'
    · omega
    refine h _ _ w' ?_ h2
    rw [cellsP_append]
    exact h1

/-- A list of plays appended to a fresh row, at a step of a region that draws its order. -/
theorem step_append_PsO {w : World} {ops : Array Oper} {o : Oper} {a : Act} {K : Act → World → Prop} {Q : Exit → Act → World → Prop} {E : Prop} (hgd : o.guard = none) (s x : Operand)
    (ho : o.op = .call { callee := .builtin .append, args := #[s, x], argTypes := #[25, 25] }) (base g0 : Nat) (hs : a.eval s = .slice (some ⟨g0, 0, none⟩) 0 0)
    (hown : w.ownsRow base 62 3 (.slice (some ⟨g0, 0, none⟩) 0 0) 0 (cellsP [])) (A : Option Addr) (c n : Nat) (us : List (Int × Int × Int)) (hn : us.length = n) (hx : a.eval x = .slice A n c) (hr : RdP w A us)
    (hlen' : n ≤ 2097152) (hbase : base ≤ w.heap.size)
    (h : ∀ A c w', w'.ownsRow base 62 3 (.slice A n c) n (cellsP us) → w.grownBy w' (some g0) → K (a.put o.dst (.slice A n c)) w') :
    if Region.wanted o (yielded ops a.tmps) = true then Oper.wp Try.prog o a w K Q else E := by
  have hw : Region.wanted o (yielded ops a.tmps) = true := by simp [Region.wanted, hgd]
  rw [if_pos hw]
  subst hn
  obtain ⟨i0, hi, hz0, hz1, hz2⟩ := info_parts Try.info_P
  by_cases hu : us = []
  · subst hu
    cases A with
    | none =>
      have hrun : (Builtin.append_ #[25, 25] o.type #[.slice (some ⟨g0, 0, none⟩) 0 0, .slice none 0 c]).run Try.prog w = .ok (.slice (some ⟨g0, 0, none⟩) 0 0) w := by
        simp [Builtin.append_, run_underlying Try.underlying25, sizeOf, typeInfo, hi, Builtin.lenOf, Builtin.firstCells, storeCells]
      unfold Oper.wp
      simp only [List.length_nil] at hx
      simp [execOp, ho, resolve, invoke, builtin, hs, hx, hrun, Result.andThen]
      exact h _ _ w hown (World.grownBy.refl w _)
    | some ad =>
      refine wp_append_own w s x 25 ho base 62 i0 _ 3 24 Try.underlying25 hi hz0 hz1 hz2 rfl (by decide) _ 0 (cellsP []) hs hown ad 0 c [] hx rfl (by simp) (by simp) (by unfold maxLen; omega) (by omega) hbase ?_
      intro v' w' h1 h2 _
      obtain ⟨A2, c2, rfl⟩ : ∃ A2 c2, v' = .slice A2 0 c2 := by
        rcases h1.2 with ⟨hv, hn⟩ | ⟨g, cap, cur, rfl, _⟩
        · exact ⟨none, 0, hv⟩
        · exact ⟨_, cap, rfl⟩
      exact h A2 c2 w' h1 h2
  · have hpos : 0 < us.length := List.length_pos_iff.2 hu
    obtain ⟨b, off, rfl, _, hc⟩ := hr.at_ hpos
    refine wp_append_own w s x 25 ho base 62 i0 _ 3 24 Try.underlying25 hi hz0 hz1 hz2 rfl (by decide) _ 0 (cellsP []) hs hown ⟨b, off, none⟩ us.length c (cellsP us) hx (cellsP_length us) ?_ (cellsP_one us) (by unfold maxLen; omega) (by omega) hbase ?_
    · intro j u hj
      have hjl : j < us.length * 3 := by
        have := (List.getElem?_eq_some_iff.1 hj).1
        rw [cellsP_length] at this
        exact this
      have hk : j / 3 < us.length := by omega
      have hg := cellsP_get us (j / 3) hk
      have hcc := hc (j / 3) hk
      have hadd : (⟨b, off, none⟩ : Addr).add j = ⟨b, off + j, none⟩ := by
        unfold Addr.add
        split <;> simp_all
      rw [hadd]
      simp only [Nat.add_assoc] at hcc
      rcases (by omega : j % 3 = 0 ∨ j % 3 = 1 ∨ j % 3 = 2) with h0 | h0 | h0
      · have e : j / 3 * 3 = j := by omega
        have h1 := hg.1
        have h2 := hcc.1
        rw [e] at h1 h2
        rw [h2]
        rw [h1] at hj
        exact hj
      · have e : j / 3 * 3 + 1 = j := by omega
        have h1 := hg.2.1
        have h2 := hcc.2.1
        rw [e] at h1 h2
        rw [h2]
        rw [h1] at hj
        exact hj
      · have e : j / 3 * 3 + 2 = j := by omega
        have h1 := hg.2.2
        have h2 := hcc.2.2
        rw [e] at h1 h2
        rw [h2]
        rw [h1] at hj
        exact hj
    · intro v' w' h1 h2 _
      simp only [Nat.zero_add, cellsP_nil, List.nil_append] at h1
      obtain ⟨A2, c2, rfl⟩ : ∃ A2 c2, v' = .slice A2 us.length c2 := by
        rcases h1.2 with ⟨hv, hn⟩ | ⟨g, cap, cur, rfl, _⟩
        · omega
        · exact ⟨_, cap, rfl⟩
      exact h A2 c2 w' h1 h2

set_option maxRecDepth 100000 in
set_option maxHeartbeats 1000000 in
theorem c_specAdd (A : Option Addr) (c : Nat) (ps : List (Int × Int × Int)) (x y z : Int) (w : World) (hr : RdP w A ps) (hl : ps.length ≤ 1048576) :
    Calls Try.prog 51 #[.slice A ps.length c, .agg #[.int .i64 x, .int .i64 y, .int .i64 z]] w (RetP w (addHL ps (x, y, z)) (addB ps (x, y, z))) := by
  have con := Lib.hid (fun W (hb : Below w.heap.size w W) => c_lyRead A c ps W (hr.below hb) hl)
  have hb0 : Below w.heap.size w (w.alloc (.cells #[.int .i64 x, .int .i64 y, .int .i64 z] 62)) := by go_grown
  have a0 : (w.alloc (.cells #[.int .i64 x, .int .i64 y, .int .i64 z] 62)).cell? ⟨w.heap.size, 0, none⟩ = some (.int .i64 x) := by simp
  have a1 : (w.alloc (.cells #[.int .i64 x, .int .i64 y, .int .i64 z] 62)).cell? ⟨w.heap.size, 1, none⟩ = some (.int .i64 y) := by simp
  have a2 : (w.alloc (.cells #[.int .i64 x, .int .i64 y, .int .i64 z] 62)).cell? ⟨w.heap.size, 2, none⟩ = some (.int .i64 z) := by simp
  have hz0 := hb0.size
  cases hok : okL ps
  · have e1 : addB ps (x, y, z) = false := by unfold addB; rw [hok]; rfl
    have e2 : addHL ps (x, y, z) = [] := by unfold addHL; rw [e1]; rfl
    rw [e1, e2]
    rw [hok] at con
    clear e1 e2 hok hr
    go_enter Try.func51, Try.ntmps51
    go_wp2_with (go_at_call 56; refine (con.out _ hb0).mono ?_; rintro e w1 ⟨g, S, rfl, hs, hb1⟩; clear hs; have hbw := bstep hb0 hb1)
    go_ret2
    exact ⟨none, 0, rfl, World.ownsRow_nil _ _ _ _, hbw⟩
  · rw [hok] at con
    cases hf : fitsL (brdD ps) (x, y, z)
    · have e1 : addB ps (x, y, z) = false := by unfold addB; rw [hok, hf]; rfl
      have e2 : addHL ps (x, y, z) = [] := by unfold addHL; rw [e1]; rfl
      rw [e1, e2]
      have Hf := Lib.hid (fun S (h : Rel (brdD ps) S) => (rel_ok h (x, y, z)).trans hf)
      clear e1 e2 hok hf hr
      go_enter Try.func51, Try.ntmps51
      go_wp2_with (first | (go_at_call 56; refine (con.out _ hb0).mono ?_; rintro e w1 ⟨g, S, rfl, hs, hb1⟩; have hbw := bstep hb0 hb1; have u0 := keepc hb1 a0; have u1 := keepc hb1 a1; have u2 := keepc hb1 a2; have Hs := Lib.hid (hs rfl); clear hs) | (go_at_call 73; refine (c_add _ g S _ x y z _ Hs.out.1 Hs.out.2).mono ?_; rw [Hf.out S Hs.out.2]; rintro e w2 ⟨rfl, hs2, hb2⟩; clear hs2))
      go_ret2
      exact ⟨none, 0, rfl, World.ownsRow_nil _ _ _ _, hbw.trans (hb2.mono hz0)⟩
    · have e1 : addB ps (x, y, z) = true := by unfold addB; rw [hok, hf]; rfl
      have e2 : addHL ps (x, y, z) = ps ++ [(x, y, z)] := by unfold addHL; rw [e1]; rfl
      rw [e1, e2]
      have Hf := Lib.hid (fun S (h : Rel (brdD ps) S) => (rel_ok h (x, y, z)).trans hf)
      have hlt : w.heap.size < (w.alloc (.cells #[.int .i64 x, .int .i64 y, .int .i64 z] 62)).heap.size := block_lt a0
      have Hlen := Lib.hid (show (ps ++ [(x, y, z)]).length = ps.length + 1 by simp)
      have Hr0 := Lib.hid hr
      clear e1 e2 hok hf hr
      go_enter Try.func51, Try.ntmps51
      go_wp2_with (first | (go_at_call 56; refine (con.out _ hb0).mono ?_; rintro e w1 ⟨g, S, rfl, hs, hb1⟩; have hbw := bstep hb0 hb1; have u0 := keepc hb1 a0; have u1 := keepc hb1 a1; have u2 := keepc hb1 a2; have Hs := Lib.hid (hs rfl); clear hs) | (go_at_call 73; refine (c_add _ g S _ x y z _ Hs.out.1 Hs.out.2).mono ?_; rw [Hf.out S Hs.out.2]; rintro e w2 ⟨rfl, hs2, hb2⟩; clear hs2))
      have hbw2 := Lib.hid (hbw.trans (hb2.mono hz0))
      have u0 := (hb2.cell (p := ⟨w.heap.size, 0, none⟩) hlt).trans u0
      have u1 := (hb2.cell (p := ⟨w.heap.size, 1, none⟩) hlt).trans u1
      have u2 := (hb2.cell (p := ⟨w.heap.size, 2, none⟩) hlt).trans u2
      have Hr := Lib.hid (Hr0.out.below hbw2.out)
      have hlt2 : w.heap.size < w2.heap.size := block_lt u0
      clear con Hs Hf hbw hb1 hb2 hb0 a0 a1 a2 Hr0
      refine wp_region_held_drew (S := fun w' => w'.cell? ⟨w.heap.size, 0, none⟩ = some (.int .i64 x) ∧ w'.cell? ⟨w.heap.size, 1, none⟩ = some (.int .i64 y) ∧ w'.cell? ⟨w.heap.size, 2, none⟩ = some (.int .i64 z)) (by kernel_rfl) ⟨u0, u1, u2⟩ (fun hH0 => ?_)
      obtain ⟨v0, hv0⟩ : ∃ v0, v0 = w2.drew := ⟨_, rfl⟩
      have s0 : v0.cell? ⟨w.heap.size, 0, none⟩ = some (.int .i64 x) := by rw [hv0]; exact u0
      have s1 : v0.cell? ⟨w.heap.size, 1, none⟩ = some (.int .i64 y) := by rw [hv0]; exact u1
      have s2 : v0.cell? ⟨w.heap.size, 2, none⟩ = some (.int .i64 z) := by rw [hv0]; exact u2
      have bw : Below w2.heap.size w2 v0 := by rw [hv0]; exact (Below.refl _ _).drew
      rw [← hv0]
      clear hv0 u0 u1 u2 hH0
      refine reg_take 1 rfl (by kernel_rfl) (by kernel_rfl) (by kernel_rfl) (fun _ _ _ h => h) (by rfl) (fun w _ => by first | (go_simp; done) | (go_simp; with_reducible rfl)) ⟨s0, s1, s2⟩ ?_
      try simp only [Act.put, List.setIfInBounds_toArray, List.set_cons_zero, List.set_cons_succ, List.getElem_toArray, List.getElem_cons_zero, List.getElem_cons_succ]
      refine reg_take 3 rfl (by kernel_rfl) (by kernel_rfl) (by kernel_rfl) (fun _ _ _ h => h) (by rfl) (fun w hSw => by (try dsimp only at hSw); obtain ⟨r0, r1, r2⟩ := hSw; first | (go_simp; done) | (go_simp; with_reducible rfl)) ⟨s0, s1, s2⟩ ?_
      try simp only [Act.put, List.setIfInBounds_toArray, List.set_cons_zero, List.set_cons_succ, List.getElem_toArray, List.getElem_cons_zero, List.getElem_cons_succ]
      refine wpAnyH_ready (rs := [0, 4]) (by kernel_rfl) (by simp) ?_
      refine AllReadyH.cons (i := 0) rfl (fun K hK => ?_) (AllReadyH.cons (i := 4) rfl (fun K hK => ?_) AllReadyH.nil)
      · go_simp
        obtain ⟨v3, hv⟩ : ∃ v3, v3 = v0.alloc (.cells #[] 62) := ⟨_, rfl⟩
        rw [← hv]
        have s0 : v3.cell? ⟨w.heap.size, 0, none⟩ = some (.int .i64 x) := by rw [hv]; exact keepA s0
        have s1 : v3.cell? ⟨w.heap.size, 1, none⟩ = some (.int .i64 y) := by rw [hv]; exact keepA s1
        have s2 : v3.cell? ⟨w.heap.size, 2, none⟩ = some (.int .i64 z) := by rw [hv]; exact keepA s2
        have oE : v3.ownsRow w2.heap.size 62 3 (.slice (some ⟨v0.heap.size, 0, none⟩) 0 0) 0 (cellsP []) := by rw [hv]; exact World.ownsRow_lit v0 #[] 0 bw.size (by unfold maxLen; omega) rfl
        have bw := show Below w2.heap.size w2 v3 from by rw [hv]; exact bw.alloc bw.size _
        clear hv
        refine hK.out _ _ ⟨s0, s1, s2⟩ (fun hHx => ?_)
        clear hK K hHx
        try simp only [Act.put, List.setIfInBounds_toArray, List.set_cons_zero, List.set_cons_succ, List.getElem_toArray, List.getElem_cons_zero, List.getElem_cons_succ]
        refine wpAnyH_ready (rs := [2, 4]) (by kernel_rfl) (by simp) ?_
        refine AllReadyH.cons (i := 2) rfl (fun K hK => ?_) (AllReadyH.cons (i := 4) rfl (fun K hK => ?_) AllReadyH.nil)
        · refine step_append_PsO rfl (.tmp 21) (.tmp 22) rfl w2.heap.size (v0.heap.size) rfl oE _ _ ps.length ps rfl rfl (Hr.out.below bw) (by omega) bw.size ?_
          intro A1 c1 v4 oX hg
          have hEl : w2.heap.size ≤ v0.heap.size := (oE.lt _ rfl).1
          have s0 := World.grownBy.cell hg s0 (fun e => by injection e with e; simp only at e; omega)
          have s1 := World.grownBy.cell hg s1 (fun e => by injection e with e; simp only at e; omega)
          have s2 := World.grownBy.cell hg s2 (fun e => by injection e with e; simp only at e; omega)
          have bw := bw.trans (below_of_grown hg bw.size (fun g hg => by injection hg with hg; subst hg; exact hEl))
          refine hK.out _ _ ⟨s0, s1, s2⟩ (fun hHx => ?_)
          clear hK K hHx
          try simp only [Act.put, List.setIfInBounds_toArray, List.set_cons_zero, List.set_cons_succ, List.getElem_toArray, List.getElem_cons_zero, List.getElem_cons_succ]
          clear oE hg
          refine wpAnyH_ready (rs := [4]) (by kernel_rfl) (by simp) ?_
          refine AllReadyH.cons (i := 4) rfl (fun K hK => ?_) AllReadyH.nil
          go_simp
          obtain ⟨v5, hv⟩ : ∃ v5, v5 = v4.alloc (.cells #[.int .i64 x, .int .i64 y, .int .i64 z] 62) := ⟨_, rfl⟩
          rw [← hv]
          have s0 : v5.cell? ⟨w.heap.size, 0, none⟩ = some (.int .i64 x) := by rw [hv]; exact keepA s0
          have s1 : v5.cell? ⟨w.heap.size, 1, none⟩ = some (.int .i64 y) := by rw [hv]; exact keepA s1
          have s2 : v5.cell? ⟨w.heap.size, 2, none⟩ = some (.int .i64 z) := by rw [hv]; exact keepA s2
          have oX := show v5.ownsRow w2.heap.size 62 3 (.slice A1 ps.length c1) ps.length (cellsP ps) from by rw [hv]; exact oX.alloc _
          have t0 : v5.cell? ⟨v4.heap.size, 0, none⟩ = some (.int .i64 x) := by rw [hv]; simp
          have t1 : v5.cell? ⟨v4.heap.size, 1, none⟩ = some (.int .i64 y) := by rw [hv]; simp
          have t2 : v5.cell? ⟨v4.heap.size, 2, none⟩ = some (.int .i64 z) := by rw [hv]; simp
          have bw := show Below w2.heap.size w2 v5 from by rw [hv]; exact bw.alloc bw.size _
          clear hv
          refine hK.out _ _ ⟨s0, s1, s2⟩ (fun hHx => ?_)
          clear hK K hHx
          try simp only [Act.put, List.setIfInBounds_toArray, List.set_cons_zero, List.set_cons_succ, List.getElem_toArray, List.getElem_cons_zero, List.getElem_cons_succ]
          refine wpAnyH_ready (rs := [5]) (by kernel_rfl) (by simp) ?_
          refine AllReadyH.cons (i := 5) rfl (fun K hK => ?_) AllReadyH.nil
          refine step_append_PO rfl (.tmp 23) (.tmp 25) rfl w2.heap.size (.slice A1 ps.length c1) ps ps.length rfl rfl oX x y z (v4.heap.size) rfl t0 t1 t2 (by omega) bw.size ?_
          intro A2 c2 v6 oY hg
          have hXl := fun g h => (oX.lt g h).1
          have s0 := World.grownBy.cell hg s0 (fun e => by have := hXl _ e.symm; simp only at this; omega)
          have s1 := World.grownBy.cell hg s1 (fun e => by have := hXl _ e.symm; simp only at this; omega)
          have s2 := World.grownBy.cell hg s2 (fun e => by have := hXl _ e.symm; simp only at this; omega)
          have bw := bw.trans (below_of_grown hg bw.size hXl)
          refine hK.out _ _ ⟨s0, s1, s2⟩ (fun hHx => ?_)
          clear hK K hHx
          try simp only [Act.put, List.setIfInBounds_toArray, List.set_cons_zero, List.set_cons_succ, List.getElem_toArray, List.getElem_cons_zero, List.getElem_cons_succ]
          clear oX hg t0 t1 t2
          refine reg_take 6 rfl (by kernel_rfl) (by kernel_rfl) (by kernel_rfl) (fun _ _ _ h => h) (by rfl) (fun w _ => by first | (go_simp; done) | (go_simp; with_reducible rfl)) ⟨s0, s1, s2⟩ ?_
          try simp only [Act.put, List.setIfInBounds_toArray, List.set_cons_zero, List.set_cons_succ, List.getElem_toArray, List.getElem_cons_zero, List.getElem_cons_succ]
          refine reg_take 7 rfl (by kernel_rfl) (by kernel_rfl) (by kernel_rfl) (fun _ _ _ h => h) (by rfl) (fun w _ => by first | (go_simp; done) | (go_simp; with_reducible rfl)) ⟨s0, s1, s2⟩ ?_
          try simp only [Act.put, List.setIfInBounds_toArray, List.set_cons_zero, List.set_cons_succ, List.getElem_toArray, List.getElem_cons_zero, List.getElem_cons_succ]
          refine wpAnyH_done (by kernel_rfl) ?_ _
          go_wp2
          go_ret2
          exact ⟨A2, c2, by rw [Hlen.out]; rfl, by rw [Hlen.out]; exact own_base oY hbw2.out.size, bstep hbw2.out bw⟩
        · have oEk := oE
          go_simp
          obtain ⟨v7, hv⟩ : ∃ v7, v7 = v3.alloc (.cells #[.int .i64 x, .int .i64 y, .int .i64 z] 62) := ⟨_, rfl⟩
          rw [← hv]
          have s0 : v7.cell? ⟨w.heap.size, 0, none⟩ = some (.int .i64 x) := by rw [hv]; exact keepA s0
          have s1 : v7.cell? ⟨w.heap.size, 1, none⟩ = some (.int .i64 y) := by rw [hv]; exact keepA s1
          have s2 : v7.cell? ⟨w.heap.size, 2, none⟩ = some (.int .i64 z) := by rw [hv]; exact keepA s2
          have oE := show v7.ownsRow w2.heap.size 62 3 (.slice (some ⟨v0.heap.size, 0, none⟩) 0 0) 0 (cellsP []) from by rw [hv]; exact oE.alloc _
          have t0 : v7.cell? ⟨v3.heap.size, 0, none⟩ = some (.int .i64 x) := by rw [hv]; simp
          have t1 : v7.cell? ⟨v3.heap.size, 1, none⟩ = some (.int .i64 y) := by rw [hv]; simp
          have t2 : v7.cell? ⟨v3.heap.size, 2, none⟩ = some (.int .i64 z) := by rw [hv]; simp
          have hEt : v3.heap.size ≠ v0.heap.size := by have h : v0.heap.size < v3.heap.size := (oEk.lt _ rfl).2; omega
          have bw := show Below w2.heap.size w2 v7 from by rw [hv]; exact bw.alloc bw.size _
          clear hv
          refine hK.out _ _ ⟨s0, s1, s2⟩ (fun hHx => ?_)
          clear hK K hHx
          try simp only [Act.put, List.setIfInBounds_toArray, List.set_cons_zero, List.set_cons_succ, List.getElem_toArray, List.getElem_cons_zero, List.getElem_cons_succ]
          refine wpAnyH_ready (rs := [2]) (by kernel_rfl) (by simp) ?_
          refine AllReadyH.cons (i := 2) rfl (fun K hK => ?_) AllReadyH.nil
          refine step_append_PsO rfl (.tmp 21) (.tmp 22) rfl w2.heap.size (v0.heap.size) rfl oE _ _ ps.length ps rfl rfl (Hr.out.below bw) (by omega) bw.size ?_
          intro A1 c1 v8 oX hg
          have hEl : w2.heap.size ≤ v0.heap.size := (oE.lt _ rfl).1
          have s0 := World.grownBy.cell hg s0 (fun e => by injection e with e; simp only at e; omega)
          have s1 := World.grownBy.cell hg s1 (fun e => by injection e with e; simp only at e; omega)
          have s2 := World.grownBy.cell hg s2 (fun e => by injection e with e; simp only at e; omega)
          have t0 := World.grownBy.cell hg t0 (fun e => by injection e with e; exact hEt e)
          have t1 := World.grownBy.cell hg t1 (fun e => by injection e with e; exact hEt e)
          have t2 := World.grownBy.cell hg t2 (fun e => by injection e with e; exact hEt e)
          have bw := bw.trans (below_of_grown hg bw.size (fun g hg => by injection hg with hg; subst hg; exact hEl))
          refine hK.out _ _ ⟨s0, s1, s2⟩ (fun hHx => ?_)
          clear hK K hHx
          try simp only [Act.put, List.setIfInBounds_toArray, List.set_cons_zero, List.set_cons_succ, List.getElem_toArray, List.getElem_cons_zero, List.getElem_cons_succ]
          clear oE hg
          refine wpAnyH_ready (rs := [5]) (by kernel_rfl) (by simp) ?_
          refine AllReadyH.cons (i := 5) rfl (fun K hK => ?_) AllReadyH.nil
          refine step_append_PO rfl (.tmp 23) (.tmp 25) rfl w2.heap.size (.slice A1 ps.length c1) ps ps.length rfl rfl oX x y z (v3.heap.size) rfl t0 t1 t2 (by omega) bw.size ?_
          intro A2 c2 v9 oY hg
          have hXl := fun g h => (oX.lt g h).1
          have s0 := World.grownBy.cell hg s0 (fun e => by have := hXl _ e.symm; simp only at this; omega)
          have s1 := World.grownBy.cell hg s1 (fun e => by have := hXl _ e.symm; simp only at this; omega)
          have s2 := World.grownBy.cell hg s2 (fun e => by have := hXl _ e.symm; simp only at this; omega)
          have bw := bw.trans (below_of_grown hg bw.size hXl)
          refine hK.out _ _ ⟨s0, s1, s2⟩ (fun hHx => ?_)
          clear hK K hHx
          try simp only [Act.put, List.setIfInBounds_toArray, List.set_cons_zero, List.set_cons_succ, List.getElem_toArray, List.getElem_cons_zero, List.getElem_cons_succ]
          clear oX hg t0 t1 t2
          refine reg_take 6 rfl (by kernel_rfl) (by kernel_rfl) (by kernel_rfl) (fun _ _ _ h => h) (by rfl) (fun w _ => by first | (go_simp; done) | (go_simp; with_reducible rfl)) ⟨s0, s1, s2⟩ ?_
          try simp only [Act.put, List.setIfInBounds_toArray, List.set_cons_zero, List.set_cons_succ, List.getElem_toArray, List.getElem_cons_zero, List.getElem_cons_succ]
          refine reg_take 7 rfl (by kernel_rfl) (by kernel_rfl) (by kernel_rfl) (fun _ _ _ h => h) (by rfl) (fun w _ => by first | (go_simp; done) | (go_simp; with_reducible rfl)) ⟨s0, s1, s2⟩ ?_
          try simp only [Act.put, List.setIfInBounds_toArray, List.set_cons_zero, List.set_cons_succ, List.getElem_toArray, List.getElem_cons_zero, List.getElem_cons_succ]
          refine wpAnyH_done (by kernel_rfl) ?_ _
          go_wp2
          go_ret2
          exact ⟨A2, c2, by rw [Hlen.out]; rfl, by rw [Hlen.out]; exact own_base oY hbw2.out.size, bstep hbw2.out bw⟩
      · go_simp
        obtain ⟨v10, hv⟩ : ∃ v10, v10 = v0.alloc (.cells #[.int .i64 x, .int .i64 y, .int .i64 z] 62) := ⟨_, rfl⟩
        rw [← hv]
        have s0 : v10.cell? ⟨w.heap.size, 0, none⟩ = some (.int .i64 x) := by rw [hv]; exact keepA s0
        have s1 : v10.cell? ⟨w.heap.size, 1, none⟩ = some (.int .i64 y) := by rw [hv]; exact keepA s1
        have s2 : v10.cell? ⟨w.heap.size, 2, none⟩ = some (.int .i64 z) := by rw [hv]; exact keepA s2
        have t0 : v10.cell? ⟨v0.heap.size, 0, none⟩ = some (.int .i64 x) := by rw [hv]; simp
        have t1 : v10.cell? ⟨v0.heap.size, 1, none⟩ = some (.int .i64 y) := by rw [hv]; simp
        have t2 : v10.cell? ⟨v0.heap.size, 2, none⟩ = some (.int .i64 z) := by rw [hv]; simp
        have bw := show Below w2.heap.size w2 v10 from by rw [hv]; exact bw.alloc bw.size _
        clear hv
        refine hK.out _ _ ⟨s0, s1, s2⟩ (fun hHx => ?_)
        clear hK K hHx
        try simp only [Act.put, List.setIfInBounds_toArray, List.set_cons_zero, List.set_cons_succ, List.getElem_toArray, List.getElem_cons_zero, List.getElem_cons_succ]
        refine wpAnyH_ready (rs := [0]) (by kernel_rfl) (by simp) ?_
        refine AllReadyH.cons (i := 0) rfl (fun K hK => ?_) AllReadyH.nil
        have tkeep := t0
        go_simp
        obtain ⟨v11, hv⟩ : ∃ v11, v11 = v10.alloc (.cells #[] 62) := ⟨_, rfl⟩
        rw [← hv]
        have s0 : v11.cell? ⟨w.heap.size, 0, none⟩ = some (.int .i64 x) := by rw [hv]; exact keepA s0
        have s1 : v11.cell? ⟨w.heap.size, 1, none⟩ = some (.int .i64 y) := by rw [hv]; exact keepA s1
        have s2 : v11.cell? ⟨w.heap.size, 2, none⟩ = some (.int .i64 z) := by rw [hv]; exact keepA s2
        have t0 : v11.cell? ⟨v0.heap.size, 0, none⟩ = some (.int .i64 x) := by rw [hv]; exact keepA t0
        have t1 : v11.cell? ⟨v0.heap.size, 1, none⟩ = some (.int .i64 y) := by rw [hv]; exact keepA t1
        have t2 : v11.cell? ⟨v0.heap.size, 2, none⟩ = some (.int .i64 z) := by rw [hv]; exact keepA t2
        have oE : v11.ownsRow w2.heap.size 62 3 (.slice (some ⟨v10.heap.size, 0, none⟩) 0 0) 0 (cellsP []) := by rw [hv]; exact World.ownsRow_lit v10 #[] 0 bw.size (by unfold maxLen; omega) rfl
        have hEt : v0.heap.size ≠ v10.heap.size := by have h : v0.heap.size < v10.heap.size := block_lt tkeep; omega
        have bw := show Below w2.heap.size w2 v11 from by rw [hv]; exact bw.alloc bw.size _
        clear hv
        refine hK.out _ _ ⟨s0, s1, s2⟩ (fun hHx => ?_)
        clear hK K hHx
        try simp only [Act.put, List.setIfInBounds_toArray, List.set_cons_zero, List.set_cons_succ, List.getElem_toArray, List.getElem_cons_zero, List.getElem_cons_succ]
        refine wpAnyH_ready (rs := [2]) (by kernel_rfl) (by simp) ?_
        refine AllReadyH.cons (i := 2) rfl (fun K hK => ?_) AllReadyH.nil
        refine step_append_PsO rfl (.tmp 21) (.tmp 22) rfl w2.heap.size (v10.heap.size) rfl oE _ _ ps.length ps rfl rfl (Hr.out.below bw) (by omega) bw.size ?_
        intro A1 c1 v12 oX hg
        have hEl : w2.heap.size ≤ v10.heap.size := (oE.lt _ rfl).1
        have s0 := World.grownBy.cell hg s0 (fun e => by injection e with e; simp only at e; omega)
        have s1 := World.grownBy.cell hg s1 (fun e => by injection e with e; simp only at e; omega)
        have s2 := World.grownBy.cell hg s2 (fun e => by injection e with e; simp only at e; omega)
        have t0 := World.grownBy.cell hg t0 (fun e => by injection e with e; exact hEt e)
        have t1 := World.grownBy.cell hg t1 (fun e => by injection e with e; exact hEt e)
        have t2 := World.grownBy.cell hg t2 (fun e => by injection e with e; exact hEt e)
        have bw := bw.trans (below_of_grown hg bw.size (fun g hg => by injection hg with hg; subst hg; exact hEl))
        refine hK.out _ _ ⟨s0, s1, s2⟩ (fun hHx => ?_)
        clear hK K hHx
        try simp only [Act.put, List.setIfInBounds_toArray, List.set_cons_zero, List.set_cons_succ, List.getElem_toArray, List.getElem_cons_zero, List.getElem_cons_succ]
        clear oE hg
        refine wpAnyH_ready (rs := [5]) (by kernel_rfl) (by simp) ?_
        refine AllReadyH.cons (i := 5) rfl (fun K hK => ?_) AllReadyH.nil
        refine step_append_PO rfl (.tmp 23) (.tmp 25) rfl w2.heap.size (.slice A1 ps.length c1) ps ps.length rfl rfl oX x y z (v0.heap.size) rfl t0 t1 t2 (by omega) bw.size ?_
        intro A2 c2 v13 oY hg
        have hXl := fun g h => (oX.lt g h).1
        have s0 := World.grownBy.cell hg s0 (fun e => by have := hXl _ e.symm; simp only at this; omega)
        have s1 := World.grownBy.cell hg s1 (fun e => by have := hXl _ e.symm; simp only at this; omega)
        have s2 := World.grownBy.cell hg s2 (fun e => by have := hXl _ e.symm; simp only at this; omega)
        have bw := bw.trans (below_of_grown hg bw.size hXl)
        refine hK.out _ _ ⟨s0, s1, s2⟩ (fun hHx => ?_)
        clear hK K hHx
        try simp only [Act.put, List.setIfInBounds_toArray, List.set_cons_zero, List.set_cons_succ, List.getElem_toArray, List.getElem_cons_zero, List.getElem_cons_succ]
        clear oX hg t0 t1 t2
        refine reg_take 6 rfl (by kernel_rfl) (by kernel_rfl) (by kernel_rfl) (fun _ _ _ h => h) (by rfl) (fun w _ => by first | (go_simp; done) | (go_simp; with_reducible rfl)) ⟨s0, s1, s2⟩ ?_
        try simp only [Act.put, List.setIfInBounds_toArray, List.set_cons_zero, List.set_cons_succ, List.getElem_toArray, List.getElem_cons_zero, List.getElem_cons_succ]
        refine reg_take 7 rfl (by kernel_rfl) (by kernel_rfl) (by kernel_rfl) (fun _ _ _ h => h) (by rfl) (fun w _ => by first | (go_simp; done) | (go_simp; with_reducible rfl)) ⟨s0, s1, s2⟩ ?_
        try simp only [Act.put, List.setIfInBounds_toArray, List.set_cons_zero, List.set_cons_succ, List.getElem_toArray, List.getElem_cons_zero, List.getElem_cons_succ]
        refine wpAnyH_done (by kernel_rfl) ?_ _
        go_wp2
        go_ret2
        exact ⟨A2, c2, by rw [Hlen.out]; rfl, by rw [Hlen.out]; exact own_base oY hbw2.out.size, bstep hbw2.out bw⟩
end Go.Proofs.Ytllfjffcogpaiaa

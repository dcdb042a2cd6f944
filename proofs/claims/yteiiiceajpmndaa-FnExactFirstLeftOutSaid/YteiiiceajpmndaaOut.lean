/- The first tiles left out of a set: the walks. -/
import Derived.Test.YteiiiceajpmndaaOutT
import Derived.Test.YteiiiceajpmndaaReg
import Derived.Test.YteiiiceajpmndaaApp
namespace Go.Proofs.Yteiiiceajpmndaa
open Go.RowKit
set_option linter.unusedVariables false

theorem RdT.of_outs {w : World} {base c i : Nat} {A : Option Addr} (h : w.ownsRow base 58 2 (.slice A i c) i (cellsT (outs i))) : RdT w A (outs i) :=
  RdT.of_own (base := base) (c := c) (n := i) (e := 58) (by rw [outs_len]; exact h)

theorem keepA {w : World} {a : Addr} {v : Value} {o : Obj} (h : w.cell? a = some v) : (w.alloc o).cell? a = some v := keepc ((Below.refl _ _).alloc (Nat.le_refl _) _) h

/-- One tile appended, at a step of a region that draws its order. -/
theorem step_append_tileO {w : World} {ops : Array Oper} {o : Oper} {a : Act} {K : Act → World → Prop} {Q : Exit → Act → World → Prop} {E : Prop} (hgd : o.guard = none) (s x : Operand)
    (ho : o.op = .call { callee := .builtin .append, args := #[s, x], argTypes := #[27, 27] }) (base : Nat) (v : Value) (ts : List (Int × Int)) (hs : a.eval s = v)
    (hown : w.ownsRow base 58 2 v ts.length (cellsT ts)) (p q : Int) (g : Nat) (hx : a.eval x = .slice (some ⟨g, 0, none⟩) 1 1)
    (h0 : w.cell? ⟨g, 0, none⟩ = some (.int .i64 p)) (h1 : w.cell? ⟨g, 1, none⟩ = some (.int .i64 q)) (hlen : ts.length ≤ 4194304) (hbase : base ≤ w.heap.size)
    (h : ∀ A c w', w'.ownsRow base 58 2 (.slice A (ts.length + 1) c) (ts.length + 1) (cellsT (ts ++ [(p, q)])) → w.grownBy w' v.ownBlock → K (a.put o.dst (.slice A (ts.length + 1) c)) w') :
    if Region.wanted o (yielded ops a.tmps) = true then Oper.wp Try.prog o a w K Q else E := by
  have hw : Region.wanted o (yielded ops a.tmps) = true := by simp [Region.wanted, hgd]
  rw [if_pos hw]
  obtain ⟨i0, hi, hz0, hz1, hz2⟩ := info_parts Try.info_tile
  refine wp_append_own w s x 27 ho base 58 i0 _ 2 16 Try.underlying27 hi hz0 hz1 hz2 rfl (by decide) v ts.length (cellsT ts) hs hown ⟨g, 0, none⟩ 1 1 [.int .i64 p, .int .i64 q] hx rfl ?_ ?_ (by unfold maxLen; omega) (by omega) hbase ?_
  · intro j u hj
    match j, hj with
    | 0, hj => simp at hj; subst hj; simpa [Addr.add] using h0
    | 1, hj => simp at hj; subst hj; simpa [Addr.add] using h1
  · intro u hu
    simp at hu
    rcases hu with rfl | rfl <;> rfl
  · intro v' w' h1 h2 _
    have h1' := h1
    obtain ⟨_, ⟨_, hn⟩ | ⟨g', cap, cur, rfl, _⟩⟩ := h1'
    · omega
    refine h _ _ w' ?_ h2
    rw [cellsT_append]
    exact h1

/-- A list of tiles appended, at a step of a region that draws its order. -/
theorem step_append_tilesO {w : World} {ops : Array Oper} {o : Oper} {a : Act} {K : Act → World → Prop} {Q : Exit → Act → World → Prop} {E : Prop} (hgd : o.guard = none) (s x : Operand)
    (ho : o.op = .call { callee := .builtin .append, args := #[s, x], argTypes := #[27, 27] }) (base g0 : Nat) (hs : a.eval s = .slice (some ⟨g0, 0, none⟩) 0 0)
    (hown : w.ownsRow base 58 2 (.slice (some ⟨g0, 0, none⟩) 0 0) 0 (cellsT [])) (A : Option Addr) (c n : Nat) (us : List (Int × Int)) (hn : us.length = n) (hx : a.eval x = .slice A n c) (hr : RdT w A us)
    (hlen' : n ≤ 2097152) (hbase : base ≤ w.heap.size)
    (h : ∀ A c w', w'.ownsRow base 58 2 (.slice A n c) n (cellsT us) → w.grownBy w' (some g0) → K (a.put o.dst (.slice A n c)) w') :
    if Region.wanted o (yielded ops a.tmps) = true then Oper.wp Try.prog o a w K Q else E := by
  have hw : Region.wanted o (yielded ops a.tmps) = true := by simp [Region.wanted, hgd]
  rw [if_pos hw]
  subst hn
  obtain ⟨i0, hi, hz0, hz1, hz2⟩ := info_parts Try.info_tile
  by_cases hu : us = []
  · subst hu
    cases A with
    | none =>
      have hrun : (Builtin.append_ #[27, 27] o.type #[.slice (some ⟨g0, 0, none⟩) 0 0, .slice none 0 c]).run Try.prog w = .ok (.slice (some ⟨g0, 0, none⟩) 0 0) w := by
        simp [Builtin.append_, run_underlying Try.underlying27, sizeOf, typeInfo, hi, Builtin.lenOf, Builtin.firstCells, storeCells]
      unfold Oper.wp
      simp only [List.length_nil] at hx
      simp [execOp, ho, resolve, invoke, builtin, hs, hx, hrun, Result.andThen]
      exact h _ _ w hown (World.grownBy.refl w _)
    | some ad =>
      refine wp_append_own w s x 27 ho base 58 i0 _ 2 16 Try.underlying27 hi hz0 hz1 hz2 rfl (by decide) _ 0 (cellsT []) hs hown ad 0 c [] hx rfl (by simp) (by simp) (by unfold maxLen; omega) (by omega) hbase ?_
      intro v' w' h1 h2 _
      obtain ⟨A2, c2, rfl⟩ : ∃ A2 c2, v' = .slice A2 0 c2 := by
        rcases h1.2 with ⟨hv, hn⟩ | ⟨g, cap, cur, rfl, _⟩
        · exact ⟨none, 0, hv⟩
        · exact ⟨_, cap, rfl⟩
      exact h A2 c2 w' h1 h2
  · have hpos : 0 < us.length := List.length_pos_iff.2 hu
    obtain ⟨b, off, rfl, _, hc⟩ := hr.at_ hpos
    refine wp_append_own w s x 27 ho base 58 i0 _ 2 16 Try.underlying27 hi hz0 hz1 hz2 rfl (by decide) _ 0 (cellsT []) hs hown ⟨b, off, none⟩ us.length c (cellsT us) hx (cellsT_length us) ?_ (cellsT_one us) (by unfold maxLen; omega) (by omega) hbase ?_
    · intro j u hj
      have hjl : j < us.length * 2 := by
        have := (List.getElem?_eq_some_iff.1 hj).1
        rw [cellsT_length] at this
        exact this
      have hk : j / 2 < us.length := by omega
      have hg := cellsT_get us (j / 2) hk
      have hcc := hc (j / 2) hk
      have hadd : (⟨b, off, none⟩ : Addr).add j = ⟨b, off + j, none⟩ := by
        unfold Addr.add
        split <;> simp_all
      rw [hadd]
      rcases (by omega : j % 2 = 0 ∨ j % 2 = 1) with h0 | h0
      · have e : j / 2 * 2 = j := by omega
        rw [e] at hg hcc
        rw [hcc.1]
        rw [hg.1] at hj
        exact hj
      · have e : j / 2 * 2 + 1 = j := by omega
        rw [e] at hg
        rw [Nat.add_assoc, e] at hcc
        rw [hcc.2]
        rw [hg.2] at hj
        exact hj
    · intro v' w' h1 h2 _
      simp only [Nat.zero_add, cellsT_nil, List.nil_append] at h1
      obtain ⟨A2, c2, rfl⟩ : ∃ A2 c2, v' = .slice A2 us.length c2 := by
        rcases h1.2 with ⟨hv, hn⟩ | ⟨g, cap, cur, rfl, _⟩
        · omega
        · exact ⟨_, cap, rfl⟩
      exact h A2 c2 w' h1 h2

set_option maxRecDepth 100000 in
set_option maxHeartbeats 1000000 in
theorem c_whOut (n : Nat) (hn : n ≤ 9) : ∀ (d i : Nat), i + d = leftN n → ∀ (A : Option Addr) (c : Nat) (A' : Option Addr) (c' base : Nat) (w : World), RdT w A (setL n) → w.ownsRow base 58 2 (.slice A' i c') i (cellsT (outs i)) → base ≤ w.heap.size →
    Calls Try.prog 63 #[.slice A (setL n).length c, .slice A' i c', .int .i64 (d : Int)] w fun e w' => ∃ A2 c2, e = .returned (.tuple #[.slice A2 (leftN n) c2, .bool true]) ∧ w'.ownsRow base 58 2 (.slice A2 (leftN n) c2) (leftN n) (cellsT (outs (leftN n))) ∧ Below w.heap.size w w' := by
  intro d
  induction d with
  | zero =>
    intro i hi A c A' c' base w hr hown hbase
    have hlen := setL_len hn
    have hrc := rest_can hn
    have hrg := rest_good hn i
    have hil := leftN_le hn
    have hi' : leftN n = i := by omega
    rw [hi'] at hrc ⊢
    have conT := c_tiThose A c (setL n) A' c' (outs i) false w hr (by omega) (RdT.of_outs hown) (by rw [outs_len]; omega)
    rw [outs_len] at conT
    have hul := thoseL_len (setL n) (outs i) false
    obtain ⟨U, hU⟩ : ∃ U, U = thoseL (setL n) (outs i) false := ⟨_, rfl⟩
    obtain ⟨T, hT⟩ : ∃ T, T = setL n := ⟨_, rfl⟩
    rw [← hU] at conT hrc hrg hul
    rw [← hT] at conT hlen ⊢
    have conC := fun W A3 c3 (h3 : RdT W A3 U) => c_whCan A3 c3 U false W h3 (by omega) hrg
    rw [hrc] at conC
    have ConT := Lib.hid conT
    have ConC := Lib.hid conC
    have Ho := Lib.hid hown
    clear hrc hrg hU hT conT conC hown hr hi'
    go_enter Try.func63, Try.ntmps63
    go_wp2_with (first | (go_at_call 66; refine ConT.out.mono ?_; rintro e w1 ⟨A1, c1, rfl, ho1, hb1⟩) | (go_at_call 72; refine (ConC.out _ _ _ (RdT.of_own ho1)).mono ?_; rintro e w2 ⟨rfl, hb2⟩))
    go_ret2
    exact ⟨A', c', rfl, own_keep (own_keep Ho.out hb1) hb2, bstep hb1 hb2⟩
  | succ d ih =>
    intro i hi A c A' c' base w hr hown hbase
    have hlen := setL_len hn
    have hil := leftN_le hn
    have hpf := pos_facts ⟨n, by omega⟩ ⟨i, by omega⟩ (by simp only; omega)
    have hsf := skip_facts ⟨n, by omega⟩ ⟨i, by omega⟩ (by simp only; omega)
    have hof := odd_facts ⟨n, by omega⟩ ⟨i, by omega⟩ (by simp only; omega)
    have hss := set_small ⟨n, by omega⟩
    have hpl := fun k (hk : k < (setL n).length) => place_set (n := n) hn hk
    simp only at hpf hsf hof hss
    obtain ⟨p1, p2, p3⟩ := hpf
    have hmem := fun x => oddI_mem (n := n) (i := i) (x := x)
    have hol : (oddI n i).length ≤ 10 := by unfold oddI; rw [List.length_map]; exact Nat.le_trans (List.length_filter_le _ _) (by simp; omega)
    have hrg := rest_good hn i
    have hul := thoseL_len (setL n) (outs i) false
    have conT := fun W (hb : Below w.heap.size w W) => c_tiThose A c (setL n) A' c' (outs i) false W (hr.below hb) (by omega) ((RdT.of_outs hown).below hb) (by rw [outs_len]; omega)
    simp only [outs_len] at conT
    have hIH := fun A3 c3 base3 W (h1 : RdT W A (setL n)) (h2 : W.ownsRow base3 58 2 (.slice A3 (i + 1) c3) (i + 1) (cellsT (outs (i + 1)))) (h3 : base3 ≤ W.heap.size) => ih (i + 1) (by omega) A c A3 c3 base3 W h1 h2 h3
    obtain ⟨U, hU⟩ : ∃ U, U = thoseL (setL n) (outs i) false := ⟨_, rfl⟩
    rw [← hU] at hof hrg hul
    simp only [← hU] at conT
    have conO := fun W A3 c3 (h3 : RdT W A3 U) => c_whOdd A3 c3 U W h3 (by omega)
    simp only [hof] at conO
    obtain ⟨O, hO⟩ : ∃ O, O = oddI n i := ⟨_, rfl⟩
    simp only [← hO] at conO hmem hol
    obtain ⟨p, hp⟩ : ∃ p, p = posN n i := ⟨_, rfl⟩
    obtain ⟨q, hq⟩ : ∃ q, q = posN n (i - 1) := ⟨_, rfl⟩
    rw [← hp] at p1 p2 hsf
    rw [← hq] at hsf
    have hlast : 0 < i → placeI (setL n) (2 * ((i - 1 : Nat) : Int), 2 * ((i - 1 : Nat) : Int) + 1) = (q : Int) := fun h0 => by
      have h1 := pos_facts ⟨n, by omega⟩ ⟨i - 1, by omega⟩ (by simp only; omega)
      simp only at h1
      obtain ⟨h2, h3, _⟩ := h1
      rw [← hq] at h2 h3
      have h4 := hpl q h2
      have h5 : (setL n)[q] = (2 * ((i - 1 : Nat) : Int), 2 * ((i - 1 : Nat) : Int) + 1) := by rw [← h3]; simp [h2]
      rw [h5] at h4
      exact h4
    have hpq : 0 < i → q < p := fun h0 => by rw [hp, hq]; exact p3 h0
    have hskip : ∀ k (hk : k < (setL n).length), k < p → (0 < i ∧ k ≤ q) ∨ (setL n)[k].1 = (setL n)[k].2 ∨ (setL n)[k].1 < 2 * (i : Int) := fun k hk hkp => by
      have h55 : (setL n).length ≤ 55 := (handB_good (set_hand hn)).1
      have h1 := hsf ⟨k, by omega⟩ hkp
      simp only at h1
      have h2 : (setL n).getD k (0, 0) = (setL n)[k] := by simp [hk]
      rw [h2] at h1
      exact h1
    have hTp : ∀ (hk : p < (setL n).length), (setL n)[p] = (2 * (i : Int), 2 * (i : Int) + 1) := fun hk => by rw [← p2]; simp [hk]
    have hi9 : 2 * (i : Int) + 1 ≤ (n : Int) := by
      have h1 := hss _ (List.getElem_mem p1)
      rw [hTp p1] at h1
      exact h1.2.2
    clear ih p2 p3 hsf hof hss hrg hU
    generalize setL n = T at hr conT hpl hskip hTp hlast hIH hlen p1 hp hq ⊢
    have ConT := Lib.hid conT
    have ConO := Lib.hid conO
    have Hpl := Lib.hid hpl
    have Hskip := Lib.hid hskip
    have HTp := Lib.hid hTp
    have Hlast := Lib.hid hlast
    have HIH := Lib.hid hIH
    have Hmem := Lib.hid hmem
    have Hown := Lib.hid hown
    have hq0 : (((d : Int) + 1) == 0) = false := by rw [beq_eq_false_iff_ne]; omega
    rw [show ((d + 1 : Nat) : Int) = (d : Int) + 1 from by omega]
    clear hpl hmem conT conO hIH hskip hTp hlast hO hp hq hown
    go_enter Try.func63, Try.ntmps63
    go_wp2
    go_loopw [22] (fun iv wr => ∃ k : Nat, k ≤ p ∧ iv = .int .i64 k ∧ Below w.heap.size w wr) (fun iv _ => T.length - (intOf iv).toNat)
    case atStart => exact ⟨0, Nat.zero_le _, rfl, Below.refl _ _⟩
    case round =>
      obtain ⟨k, hk, rfl, hb⟩ := hrel
      have hlt : k < T.length := by omega
      obtain ⟨bk, off, rfl, hbk, hc⟩ := hr.at_ hlt
      have g1 := (hb.cell (p := ⟨bk, _, none⟩) hbk).trans (hc k hlt).1
      have g2 := (hb.cell (p := ⟨bk, _, none⟩) hbk).trans (hc k hlt).2
      have hskip := Hskip.out k hlt
      have hplk := Hpl.out k hlt
      have hTp := HTp.out
      obtain ⟨a, ha⟩ : ∃ a, a = T[k].1 := ⟨_, rfl⟩
      obtain ⟨b, hbb⟩ : ∃ b, b = T[k].2 := ⟨_, rfl⟩
      rw [show T[k] = (a, b) from Prod.ext ha.symm hbb.symm] at hplk
      rw [← ha, ← hbb] at hskip
      rw [← ha] at g1
      rw [← hbb] at g2
      have hab : k = p → a = 2 * (i : Int) ∧ b = 2 * (i : Int) + 1 := fun e => by
        subst e
        rw [ha, hbb, hTp hlt]
        exact ⟨rfl, rfl⟩
      have x0 : (wr.alloc (.cells #[.int .i64 a, .int .i64 b] 58)).cell? ⟨wr.heap.size, 0, none⟩ = some (.int .i64 a) := by simp
      have x1 : (wr.alloc (.cells #[.int .i64 a, .int .i64 b] 58)).cell? ⟨wr.heap.size, 1, none⟩ = some (.int .i64 b) := by simp
      have hz := hb.size
      have i0 : (0 : Int) ≤ (k : Int) := by omega
      have i1 : (k : Int) < (T.length : Int) := by omega
      have hba : Below w.heap.size w (wr.alloc (.cells #[.int .i64 a, .int .i64 b] 58)) := by go_grown
      have Hba := Lib.hid hba
      have Hrw := Lib.hid hr
      have Hab := Lib.hid hab
      have Hsk := Lib.hid hskip
      have Hb := Lib.hid hb
      clear hc hab hskip hba hb hr ha hbb hTp
      cases i with
      | zero =>
        by_cases he : a = b
        · have q1 : (a == b) = true := by simp [he]
          have hkp : k < p := by
            rcases Nat.lt_or_ge k p with h | h
            · exact h
            · have h2 := Hab.out (by omega); omega
          clear he
          go_wp2
          go_quiet (fail)
          go_wp2
          go_roundw
          case rel => exact ⟨k + 1, by omega, by go_num, belowN Hba.out _⟩
          case measure => simp [intOf]; omega
        · have q1 : (a == b) = false := by simp [he]
          have HE := Lib.hid (fun e => he e : a = b → False)
          clear he
          go_wp2
          go_quiet (fail)
          by_cases hkp : k < p
          · have hna : a ∉ O := fun hm => by
              have h1 := (Hmem.out a).1 hm
              rcases Hsk.out hkp with h2 | h2 | h2
              · omega
              · exact HE.out h2
              · omega
            have conHa := fun W A6 c6 (h6 : RdI W A6 O) => c_l1Has A6 c6 O a W h6 (by omega)
            have hda : decide (a ∈ O) = false := decide_eq_false hna
            simp only [hda] at conHa
            have ConHa := Lib.hid conHa
            clear hna hda conHa
            go_wp2_with (first | (go_at_call 66; refine (ConT.out _ (belowN Hba.out _)).mono ?_; rintro e w5 ⟨A5, c5, rfl, ho5, hb5⟩) | (go_at_call 55; refine (ConO.out _ _ _ (RdT.of_own ho5)).mono ?_; rintro e w6 ⟨A6, c6, rfl, ho6, hb6⟩; have y0 := keepc hb6 (keepc hb5 (show (World.drewN _ _).cell? _ = _ from x0)); have y1 := keepc hb6 (keepc hb5 (show (World.drewN _ _).cell? _ = _ from x1))) | (go_at_call 84; refine (ConHa.out _ _ _ (RdI.of_own ho6)).mono ?_; rintro e w7 ⟨rfl, hb7⟩))
            go_roundw
            case rel => exact ⟨k + 1, by omega, by go_num, bstep (bstep (bstep (belowN Hba.out _) hb5) hb6) hb7⟩
            case measure => simp [intOf]; omega
          · have hkp' : k = p := by omega
            obtain ⟨ea, eb⟩ := Hab.out hkp'
            have hma : a ∈ O := (Hmem.out a).2 (by omega)
            have hmb : b ∈ O := (Hmem.out b).2 (by omega)
            have conHa := fun W A6 c6 (h6 : RdI W A6 O) => c_l1Has A6 c6 O a W h6 (by omega)
            have conHb := fun W A6 c6 (h6 : RdI W A6 O) => c_l1Has A6 c6 O b W h6 (by omega)
            have hda : decide (a ∈ O) = true := decide_eq_true hma
            have hdb : decide (b ∈ O) = true := decide_eq_true hmb
            simp only [hda] at conHa
            simp only [hdb] at conHb
            have ConHa := Lib.hid conHa
            have ConHb := Lib.hid conHb
            have Eab := Lib.hid (And.intro ea eb)
            clear hma hmb hda hdb conHa conHb ea eb hkp hkp'
            go_wp2_with (first | (go_at_call 66; refine (ConT.out _ (belowN Hba.out _)).mono ?_; rintro e w5 ⟨A5, c5, rfl, ho5, hb5⟩) | (go_at_call 55; refine (ConO.out _ _ _ (RdT.of_own ho5)).mono ?_; rintro e w6 ⟨A6, c6, rfl, ho6, hb6⟩; have y0 := keepc hb6 (keepc hb5 (show (World.drewN _ _).cell? _ = _ from x0)); have y1 := keepc hb6 (keepc hb5 (show (World.drewN _ _).cell? _ = _ from x1))) | (go_at_call 84; have zz := z0; clear zz; refine (ConHb.out _ _ _ (RdI.of_own ho7)).mono ?_; rintro e w8 ⟨rfl, hb8⟩; have u0 := keepc hb8 z0; have u1 := keepc hb8 z1) | (go_at_call 84; refine (ConHa.out _ _ _ (RdI.of_own ho6)).mono ?_; rintro e w7 ⟨rfl, hb7⟩; have ho7 := own_keep ho6 hb7; have z0 := keepc hb7 y0; have z1 := keepc hb7 y1))
            have hbw8 := bstep (bstep (bstep (bstep (belowN Hba.out _) hb5) hb6) hb7) hb8
            have iw : IntKind.i64.wrap ((d : Int) + 1 - 1) = (d : Int) := by rw [IntWalk.i64_in _ (by omega)]; omega
            have iw' : IntKind.i64.wrap (d : Int) = (d : Int) := IntWalk.i64_in _ (by omega)
            have hwr8 : wr.heap.size < w8.heap.size := block_lt u0
            have HR8 := Lib.hid (Hrw.out.below hbw8)
            have HO8 := Lib.hid ((RdT.of_outs Hown.out).below hbw8)
            have HB8 := Lib.hid hbw8
            refine wp_region_held_drew (S := fun w' => w'.cell? ⟨wr.heap.size, 0, none⟩ = some (.int .i64 a) ∧ w'.cell? ⟨wr.heap.size, 1, none⟩ = some (.int .i64 b)) (by kernel_rfl) ⟨u0, u1⟩ (fun hH0 => ?_)
            obtain ⟨v0, hv0⟩ : ∃ v0, v0 = w8.drew := ⟨_, rfl⟩
            have s0 : v0.cell? ⟨wr.heap.size, 0, none⟩ = some (.int .i64 a) := by rw [hv0]; exact u0
            have s1 : v0.cell? ⟨wr.heap.size, 1, none⟩ = some (.int .i64 b) := by rw [hv0]; exact u1
            have bw : Below w8.heap.size w8 v0 := by rw [hv0]; exact (Below.refl _ _).drew
            rw [← hv0]
            clear hv0 u0 u1 z0 z1 y0 y1 x0 x1 ho5 ho6 ho7 hb5 hb6 hb7 hb8 hbw8 g1 g2 hH0
            refine reg_take 0 rfl (by kernel_rfl) (by kernel_rfl) (by kernel_rfl) (fun _ _ _ h => h) (by rfl) (fun w _ => by first | (go_simp; done) | (go_simp; with_reducible rfl)) ⟨s0, s1⟩ ?_
            try simp only [Act.put, List.setIfInBounds_toArray, List.set_cons_zero, List.set_cons_succ, List.getElem_toArray, List.getElem_cons_zero, List.getElem_cons_succ]
            refine reg_take 2 rfl (by kernel_rfl) (by kernel_rfl) (by kernel_rfl) (fun _ _ _ h => h) (by rfl) (fun w _ => by first | (go_simp; done) | (go_simp; with_reducible rfl)) ⟨s0, s1⟩ ?_
            try simp only [Act.put, List.setIfInBounds_toArray, List.set_cons_zero, List.set_cons_succ, List.getElem_toArray, List.getElem_cons_zero, List.getElem_cons_succ]
            refine reg_take 7 rfl (by kernel_rfl) (by kernel_rfl) (by kernel_rfl) (fun _ _ _ h => h) (by rfl) (fun w _ => by first | (go_simp; done) | (go_simp; with_reducible rfl)) ⟨s0, s1⟩ ?_
            try simp only [Act.put, List.setIfInBounds_toArray, List.set_cons_zero, List.set_cons_succ, List.getElem_toArray, List.getElem_cons_zero, List.getElem_cons_succ]
            refine reg_take 8 rfl (by kernel_rfl) (by kernel_rfl) (by kernel_rfl) (fun _ _ _ h => h) (by rfl) (fun w _ => by first | (go_simp; done) | (go_simp; with_reducible rfl)) ⟨s0, s1⟩ ?_
            try simp only [Act.put, List.setIfInBounds_toArray, List.set_cons_zero, List.set_cons_succ, List.getElem_toArray, List.getElem_cons_zero, List.getElem_cons_succ]
            refine reg_take 4 rfl (by kernel_rfl) (by kernel_rfl) (by kernel_rfl) (fun _ _ _ h => h) (by rfl) (fun w hSw => by (try dsimp only at hSw); obtain ⟨r0, r1⟩ := hSw; first | (go_simp; done) | (go_simp; with_reducible rfl)) ⟨s0, s1⟩ ?_
            try simp only [Act.put, List.setIfInBounds_toArray, List.set_cons_zero, List.set_cons_succ, List.getElem_toArray, List.getElem_cons_zero, List.getElem_cons_succ]
            refine wpAnyH_ready (rs := [1, 5]) (by kernel_rfl) (by simp) ?_
            refine AllReadyH.cons (i := 1) rfl (fun K hK => ?_) (AllReadyH.cons (i := 5) rfl (fun K hK => ?_) AllReadyH.nil)
            · go_simp
              refine hK.out _ _ ⟨keepA s0, keepA s1⟩ (fun hHx => ?_)
              clear hK K hHx
              try simp only [Act.put, List.setIfInBounds_toArray, List.set_cons_zero, List.set_cons_succ, List.getElem_toArray, List.getElem_cons_zero, List.getElem_cons_succ]
              obtain ⟨v1, hv⟩ : ∃ v1, v1 = v0.alloc (.cells #[] 58) := ⟨_, rfl⟩
              have s0 : v1.cell? ⟨wr.heap.size, 0, none⟩ = some (.int .i64 a) := by rw [hv]; exact keepA s0
              have s1 : v1.cell? ⟨wr.heap.size, 1, none⟩ = some (.int .i64 b) := by rw [hv]; exact keepA s1
              have oE : v1.ownsRow w8.heap.size 58 2 (.slice (some ⟨v0.heap.size, 0, none⟩) 0 0) 0 (cellsT []) := by rw [hv]; exact World.ownsRow_lit v0 #[] 0 bw.size (by unfold maxLen; omega) rfl
              have bw := show Below w8.heap.size w8 v1 from by rw [hv]; exact bw.alloc bw.size _
              rw [← hv]
              clear hv
              refine wpAnyH_ready (rs := [3, 5]) (by kernel_rfl) (by simp) ?_
              refine AllReadyH.cons (i := 3) rfl (fun K hK => ?_) (AllReadyH.cons (i := 5) rfl (fun K hK => ?_) AllReadyH.nil)
              · refine step_append_tilesO rfl (.tmp 68) (.tmp 69) rfl w8.heap.size (v0.heap.size) rfl oE _ _ 0 (outs 0) (outs_len 0) rfl (HO8.out.below bw) (by omega) bw.size ?_
                intro A1 c1 v2 oX hg
                have hEl : w8.heap.size ≤ v0.heap.size := (oE.lt _ rfl).1
                have s0 := World.grownBy.cell hg s0 (fun e => by injection e with e; simp only at e; omega)
                have s1 := World.grownBy.cell hg s1 (fun e => by injection e with e; simp only at e; omega)
                have bw := bw.trans (below_of_grown hg bw.size (fun g hg => by injection hg with hg; subst hg; exact hEl))
                refine hK.out _ _ ⟨s0, s1⟩ (fun hHx => ?_)
                clear hK K hHx
                try simp only [Act.put, List.setIfInBounds_toArray, List.set_cons_zero, List.set_cons_succ, List.getElem_toArray, List.getElem_cons_zero, List.getElem_cons_succ]
                clear oE hg
                refine wpAnyH_ready (rs := [5]) (by kernel_rfl) (by simp) ?_
                refine AllReadyH.cons (i := 5) rfl (fun K hK => ?_) AllReadyH.nil
                go_simp
                refine hK.out _ _ ⟨keepA s0, keepA s1⟩ (fun hHx => ?_)
                clear hK K hHx
                try simp only [Act.put, List.setIfInBounds_toArray, List.set_cons_zero, List.set_cons_succ, List.getElem_toArray, List.getElem_cons_zero, List.getElem_cons_succ]
                obtain ⟨v3, hv⟩ : ∃ v3, v3 = v2.alloc (.cells #[.int .i64 a, .int .i64 b] 58) := ⟨_, rfl⟩
                have s0 : v3.cell? ⟨wr.heap.size, 0, none⟩ = some (.int .i64 a) := by rw [hv]; exact keepA s0
                have s1 : v3.cell? ⟨wr.heap.size, 1, none⟩ = some (.int .i64 b) := by rw [hv]; exact keepA s1
                have oX := show v3.ownsRow w8.heap.size 58 2 (.slice A1 0 c1) 0 (cellsT (outs 0)) from by rw [hv]; exact oX.alloc _
                have t0 : v3.cell? ⟨v2.heap.size, 0, none⟩ = some (.int .i64 a) := by rw [hv]; simp
                have t1 : v3.cell? ⟨v2.heap.size, 1, none⟩ = some (.int .i64 b) := by rw [hv]; simp
                have bw := show Below w8.heap.size w8 v3 from by rw [hv]; exact bw.alloc bw.size _
                rw [← hv]
                clear hv
                refine wpAnyH_ready (rs := [6]) (by kernel_rfl) (by simp) ?_
                refine AllReadyH.cons (i := 6) rfl (fun K hK => ?_) AllReadyH.nil
                refine step_append_tileO rfl (.tmp 70) (.tmp 72) rfl w8.heap.size (.slice A1 0 c1) (outs 0) rfl (by rw [outs_len]; exact oX) a b (v2.heap.size) rfl t0 t1 (by rw [outs_len]; omega) bw.size ?_
                intro A2 c2 v4 oY hg
                have hXl := fun g h => (oX.lt g h).1
                have s0 := World.grownBy.cell hg s0 (fun e => by have := hXl _ e.symm; simp only at this; omega)
                have s1 := World.grownBy.cell hg s1 (fun e => by have := hXl _ e.symm; simp only at this; omega)
                have bw := bw.trans (below_of_grown hg bw.size hXl)
                have oZ : v4.ownsRow w8.heap.size 58 2 (.slice A2 (0 + 1) c2) (0 + 1) (cellsT (outs (0 + 1))) := by rw [outs_step, show ((2 * ((0 : Nat) : Int), 2 * ((0 : Nat) : Int) + 1) : Int × Int) = (a, b) from Prod.ext Eab.out.1.symm Eab.out.2.symm]; rw [outs_len] at oY; exact oY
                rw [outs_len]
                refine hK.out _ _ ⟨s0, s1⟩ (fun hHx => ?_)
                clear hK K hHx
                try simp only [Act.put, List.setIfInBounds_toArray, List.set_cons_zero, List.set_cons_succ, List.getElem_toArray, List.getElem_cons_zero, List.getElem_cons_succ]
                clear oX oY hg t0 t1
                refine wpAnyH_ready (rs := [9]) (by kernel_rfl) (by simp) ?_
                refine AllReadyH.cons (i := 9) rfl (fun K hK => ?_) AllReadyH.nil
                go_simp
                go_at_call 63
                refine (HIH.out A2 c2 w8.heap.size _ (HR8.out.below bw) oZ bw.size).mono ?_
                rintro e v5 ⟨A9, c9, rfl, o9, b9⟩
                have s0 := keepc b9 s0
                have s1 := keepc b9 s1
                refine hK.out _ _ ⟨s0, s1⟩ (fun hHx => ?_)
                clear hK K hHx
                try simp only [Act.put, List.setIfInBounds_toArray, List.set_cons_zero, List.set_cons_succ, List.getElem_toArray, List.getElem_cons_zero, List.getElem_cons_succ]
                refine reg_take 10 rfl (by kernel_rfl) (by kernel_rfl) (by kernel_rfl) (fun _ _ _ h => h) (by rfl) (fun w _ => by first | (go_simp; done) | (go_simp; with_reducible rfl)) ⟨s0, s1⟩ ?_
                try simp only [Act.put, List.setIfInBounds_toArray, List.set_cons_zero, List.set_cons_succ, List.getElem_toArray, List.getElem_cons_zero, List.getElem_cons_succ]
                refine reg_take 11 rfl (by kernel_rfl) (by kernel_rfl) (by kernel_rfl) (fun _ _ _ h => h) (by rfl) (fun w _ => by first | (go_simp; done) | (go_simp; with_reducible rfl)) ⟨s0, s1⟩ ?_
                try simp only [Act.put, List.setIfInBounds_toArray, List.set_cons_zero, List.set_cons_succ, List.getElem_toArray, List.getElem_cons_zero, List.getElem_cons_succ]
                refine reg_take 12 rfl (by kernel_rfl) (by kernel_rfl) (by kernel_rfl) (fun _ _ _ h => h) (by rfl) (fun w _ => by first | (go_simp; done) | (go_simp; with_reducible rfl)) ⟨s0, s1⟩ ?_
                try simp only [Act.put, List.setIfInBounds_toArray, List.set_cons_zero, List.set_cons_succ, List.getElem_toArray, List.getElem_cons_zero, List.getElem_cons_succ]
                refine reg_take 13 rfl (by kernel_rfl) (by kernel_rfl) (by kernel_rfl) (fun _ _ _ h => h) (by rfl) (fun w _ => by first | (go_simp; done) | (go_simp; with_reducible rfl)) ⟨s0, s1⟩ ?_
                try simp only [Act.put, List.setIfInBounds_toArray, List.set_cons_zero, List.set_cons_succ, List.getElem_toArray, List.getElem_cons_zero, List.getElem_cons_succ]
                refine reg_take 14 rfl (by kernel_rfl) (by kernel_rfl) (by kernel_rfl) (fun _ _ _ h => h) (by rfl) (fun w _ => by first | (go_simp; done) | (go_simp; with_reducible rfl)) ⟨s0, s1⟩ ?_
                try simp only [Act.put, List.setIfInBounds_toArray, List.set_cons_zero, List.set_cons_succ, List.getElem_toArray, List.getElem_cons_zero, List.getElem_cons_succ]
                refine wpAnyH_done (by kernel_rfl) ?_ _
                go_wp2
                go_ret2
                exact ⟨A9, c9, rfl, own_base o9 (Nat.le_trans hbase HB8.out.size), bstep HB8.out (bstep bw b9)⟩
              · have oEk := oE
                go_simp
                refine hK.out _ _ ⟨keepA s0, keepA s1⟩ (fun hHx => ?_)
                clear hK K hHx
                try simp only [Act.put, List.setIfInBounds_toArray, List.set_cons_zero, List.set_cons_succ, List.getElem_toArray, List.getElem_cons_zero, List.getElem_cons_succ]
                obtain ⟨v6, hv⟩ : ∃ v6, v6 = v1.alloc (.cells #[.int .i64 a, .int .i64 b] 58) := ⟨_, rfl⟩
                have s0 : v6.cell? ⟨wr.heap.size, 0, none⟩ = some (.int .i64 a) := by rw [hv]; exact keepA s0
                have s1 : v6.cell? ⟨wr.heap.size, 1, none⟩ = some (.int .i64 b) := by rw [hv]; exact keepA s1
                have oE := show v6.ownsRow w8.heap.size 58 2 (.slice (some ⟨v0.heap.size, 0, none⟩) 0 0) 0 (cellsT []) from by rw [hv]; exact oE.alloc _
                have t0 : v6.cell? ⟨v1.heap.size, 0, none⟩ = some (.int .i64 a) := by rw [hv]; simp
                have t1 : v6.cell? ⟨v1.heap.size, 1, none⟩ = some (.int .i64 b) := by rw [hv]; simp
                have hEt : v1.heap.size ≠ v0.heap.size := by have h : v0.heap.size < v1.heap.size := (oEk.lt _ rfl).2; omega
                have bw := show Below w8.heap.size w8 v6 from by rw [hv]; exact bw.alloc bw.size _
                rw [← hv]
                clear hv
                refine wpAnyH_ready (rs := [3]) (by kernel_rfl) (by simp) ?_
                refine AllReadyH.cons (i := 3) rfl (fun K hK => ?_) AllReadyH.nil
                refine step_append_tilesO rfl (.tmp 68) (.tmp 69) rfl w8.heap.size (v0.heap.size) rfl oE _ _ 0 (outs 0) (outs_len 0) rfl (HO8.out.below bw) (by omega) bw.size ?_
                intro A1 c1 v7 oX hg
                have hEl : w8.heap.size ≤ v0.heap.size := (oE.lt _ rfl).1
                have s0 := World.grownBy.cell hg s0 (fun e => by injection e with e; simp only at e; omega)
                have s1 := World.grownBy.cell hg s1 (fun e => by injection e with e; simp only at e; omega)
                have t0 := World.grownBy.cell hg t0 (fun e => by injection e with e; exact hEt e)
                have t1 := World.grownBy.cell hg t1 (fun e => by injection e with e; exact hEt e)
                have bw := bw.trans (below_of_grown hg bw.size (fun g hg => by injection hg with hg; subst hg; exact hEl))
                refine hK.out _ _ ⟨s0, s1⟩ (fun hHx => ?_)
                clear hK K hHx
                try simp only [Act.put, List.setIfInBounds_toArray, List.set_cons_zero, List.set_cons_succ, List.getElem_toArray, List.getElem_cons_zero, List.getElem_cons_succ]
                clear oE hg
                refine wpAnyH_ready (rs := [6]) (by kernel_rfl) (by simp) ?_
                refine AllReadyH.cons (i := 6) rfl (fun K hK => ?_) AllReadyH.nil
                refine step_append_tileO rfl (.tmp 70) (.tmp 72) rfl w8.heap.size (.slice A1 0 c1) (outs 0) rfl (by rw [outs_len]; exact oX) a b (v1.heap.size) rfl t0 t1 (by rw [outs_len]; omega) bw.size ?_
                intro A2 c2 v8 oY hg
                have hXl := fun g h => (oX.lt g h).1
                have s0 := World.grownBy.cell hg s0 (fun e => by have := hXl _ e.symm; simp only at this; omega)
                have s1 := World.grownBy.cell hg s1 (fun e => by have := hXl _ e.symm; simp only at this; omega)
                have bw := bw.trans (below_of_grown hg bw.size hXl)
                have oZ : v8.ownsRow w8.heap.size 58 2 (.slice A2 (0 + 1) c2) (0 + 1) (cellsT (outs (0 + 1))) := by rw [outs_step, show ((2 * ((0 : Nat) : Int), 2 * ((0 : Nat) : Int) + 1) : Int × Int) = (a, b) from Prod.ext Eab.out.1.symm Eab.out.2.symm]; rw [outs_len] at oY; exact oY
                rw [outs_len]
                refine hK.out _ _ ⟨s0, s1⟩ (fun hHx => ?_)
                clear hK K hHx
                try simp only [Act.put, List.setIfInBounds_toArray, List.set_cons_zero, List.set_cons_succ, List.getElem_toArray, List.getElem_cons_zero, List.getElem_cons_succ]
                clear oX oY hg t0 t1
                refine wpAnyH_ready (rs := [9]) (by kernel_rfl) (by simp) ?_
                refine AllReadyH.cons (i := 9) rfl (fun K hK => ?_) AllReadyH.nil
                go_simp
                go_at_call 63
                refine (HIH.out A2 c2 w8.heap.size _ (HR8.out.below bw) oZ bw.size).mono ?_
                rintro e v9 ⟨A9, c9, rfl, o9, b9⟩
                have s0 := keepc b9 s0
                have s1 := keepc b9 s1
                refine hK.out _ _ ⟨s0, s1⟩ (fun hHx => ?_)
                clear hK K hHx
                try simp only [Act.put, List.setIfInBounds_toArray, List.set_cons_zero, List.set_cons_succ, List.getElem_toArray, List.getElem_cons_zero, List.getElem_cons_succ]
                refine reg_take 10 rfl (by kernel_rfl) (by kernel_rfl) (by kernel_rfl) (fun _ _ _ h => h) (by rfl) (fun w _ => by first | (go_simp; done) | (go_simp; with_reducible rfl)) ⟨s0, s1⟩ ?_
                try simp only [Act.put, List.setIfInBounds_toArray, List.set_cons_zero, List.set_cons_succ, List.getElem_toArray, List.getElem_cons_zero, List.getElem_cons_succ]
                refine reg_take 11 rfl (by kernel_rfl) (by kernel_rfl) (by kernel_rfl) (fun _ _ _ h => h) (by rfl) (fun w _ => by first | (go_simp; done) | (go_simp; with_reducible rfl)) ⟨s0, s1⟩ ?_
                try simp only [Act.put, List.setIfInBounds_toArray, List.set_cons_zero, List.set_cons_succ, List.getElem_toArray, List.getElem_cons_zero, List.getElem_cons_succ]
                refine reg_take 12 rfl (by kernel_rfl) (by kernel_rfl) (by kernel_rfl) (fun _ _ _ h => h) (by rfl) (fun w _ => by first | (go_simp; done) | (go_simp; with_reducible rfl)) ⟨s0, s1⟩ ?_
                try simp only [Act.put, List.setIfInBounds_toArray, List.set_cons_zero, List.set_cons_succ, List.getElem_toArray, List.getElem_cons_zero, List.getElem_cons_succ]
                refine reg_take 13 rfl (by kernel_rfl) (by kernel_rfl) (by kernel_rfl) (fun _ _ _ h => h) (by rfl) (fun w _ => by first | (go_simp; done) | (go_simp; with_reducible rfl)) ⟨s0, s1⟩ ?_
                try simp only [Act.put, List.setIfInBounds_toArray, List.set_cons_zero, List.set_cons_succ, List.getElem_toArray, List.getElem_cons_zero, List.getElem_cons_succ]
                refine reg_take 14 rfl (by kernel_rfl) (by kernel_rfl) (by kernel_rfl) (fun _ _ _ h => h) (by rfl) (fun w _ => by first | (go_simp; done) | (go_simp; with_reducible rfl)) ⟨s0, s1⟩ ?_
                try simp only [Act.put, List.setIfInBounds_toArray, List.set_cons_zero, List.set_cons_succ, List.getElem_toArray, List.getElem_cons_zero, List.getElem_cons_succ]
                refine wpAnyH_done (by kernel_rfl) ?_ _
                go_wp2
                go_ret2
                exact ⟨A9, c9, rfl, own_base o9 (Nat.le_trans hbase HB8.out.size), bstep HB8.out (bstep bw b9)⟩
            · go_simp
              refine hK.out _ _ ⟨keepA s0, keepA s1⟩ (fun hHx => ?_)
              clear hK K hHx
              try simp only [Act.put, List.setIfInBounds_toArray, List.set_cons_zero, List.set_cons_succ, List.getElem_toArray, List.getElem_cons_zero, List.getElem_cons_succ]
              obtain ⟨v10, hv⟩ : ∃ v10, v10 = v0.alloc (.cells #[.int .i64 a, .int .i64 b] 58) := ⟨_, rfl⟩
              have s0 : v10.cell? ⟨wr.heap.size, 0, none⟩ = some (.int .i64 a) := by rw [hv]; exact keepA s0
              have s1 : v10.cell? ⟨wr.heap.size, 1, none⟩ = some (.int .i64 b) := by rw [hv]; exact keepA s1
              have t0 : v10.cell? ⟨v0.heap.size, 0, none⟩ = some (.int .i64 a) := by rw [hv]; simp
              have t1 : v10.cell? ⟨v0.heap.size, 1, none⟩ = some (.int .i64 b) := by rw [hv]; simp
              have bw := show Below w8.heap.size w8 v10 from by rw [hv]; exact bw.alloc bw.size _
              rw [← hv]
              clear hv
              refine wpAnyH_ready (rs := [1]) (by kernel_rfl) (by simp) ?_
              refine AllReadyH.cons (i := 1) rfl (fun K hK => ?_) AllReadyH.nil
              have tkeep := t0
              go_simp
              refine hK.out _ _ ⟨keepA s0, keepA s1⟩ (fun hHx => ?_)
              clear hK K hHx
              try simp only [Act.put, List.setIfInBounds_toArray, List.set_cons_zero, List.set_cons_succ, List.getElem_toArray, List.getElem_cons_zero, List.getElem_cons_succ]
              obtain ⟨v11, hv⟩ : ∃ v11, v11 = v10.alloc (.cells #[] 58) := ⟨_, rfl⟩
              have s0 : v11.cell? ⟨wr.heap.size, 0, none⟩ = some (.int .i64 a) := by rw [hv]; exact keepA s0
              have s1 : v11.cell? ⟨wr.heap.size, 1, none⟩ = some (.int .i64 b) := by rw [hv]; exact keepA s1
              have t0 : v11.cell? ⟨v0.heap.size, 0, none⟩ = some (.int .i64 a) := by rw [hv]; exact keepA t0
              have t1 : v11.cell? ⟨v0.heap.size, 1, none⟩ = some (.int .i64 b) := by rw [hv]; exact keepA t1
              have oE : v11.ownsRow w8.heap.size 58 2 (.slice (some ⟨v10.heap.size, 0, none⟩) 0 0) 0 (cellsT []) := by rw [hv]; exact World.ownsRow_lit v10 #[] 0 bw.size (by unfold maxLen; omega) rfl
              have hEt : v0.heap.size ≠ v10.heap.size := by have h : v0.heap.size < v10.heap.size := block_lt tkeep; omega
              have bw := show Below w8.heap.size w8 v11 from by rw [hv]; exact bw.alloc bw.size _
              rw [← hv]
              clear hv
              refine wpAnyH_ready (rs := [3]) (by kernel_rfl) (by simp) ?_
              refine AllReadyH.cons (i := 3) rfl (fun K hK => ?_) AllReadyH.nil
              refine step_append_tilesO rfl (.tmp 68) (.tmp 69) rfl w8.heap.size (v10.heap.size) rfl oE _ _ 0 (outs 0) (outs_len 0) rfl (HO8.out.below bw) (by omega) bw.size ?_
              intro A1 c1 v12 oX hg
              have hEl : w8.heap.size ≤ v10.heap.size := (oE.lt _ rfl).1
              have s0 := World.grownBy.cell hg s0 (fun e => by injection e with e; simp only at e; omega)
              have s1 := World.grownBy.cell hg s1 (fun e => by injection e with e; simp only at e; omega)
              have t0 := World.grownBy.cell hg t0 (fun e => by injection e with e; exact hEt e)
              have t1 := World.grownBy.cell hg t1 (fun e => by injection e with e; exact hEt e)
              have bw := bw.trans (below_of_grown hg bw.size (fun g hg => by injection hg with hg; subst hg; exact hEl))
              refine hK.out _ _ ⟨s0, s1⟩ (fun hHx => ?_)
              clear hK K hHx
              try simp only [Act.put, List.setIfInBounds_toArray, List.set_cons_zero, List.set_cons_succ, List.getElem_toArray, List.getElem_cons_zero, List.getElem_cons_succ]
              clear oE hg
              refine wpAnyH_ready (rs := [6]) (by kernel_rfl) (by simp) ?_
              refine AllReadyH.cons (i := 6) rfl (fun K hK => ?_) AllReadyH.nil
              refine step_append_tileO rfl (.tmp 70) (.tmp 72) rfl w8.heap.size (.slice A1 0 c1) (outs 0) rfl (by rw [outs_len]; exact oX) a b (v0.heap.size) rfl t0 t1 (by rw [outs_len]; omega) bw.size ?_
              intro A2 c2 v13 oY hg
              have hXl := fun g h => (oX.lt g h).1
              have s0 := World.grownBy.cell hg s0 (fun e => by have := hXl _ e.symm; simp only at this; omega)
              have s1 := World.grownBy.cell hg s1 (fun e => by have := hXl _ e.symm; simp only at this; omega)
              have bw := bw.trans (below_of_grown hg bw.size hXl)
              have oZ : v13.ownsRow w8.heap.size 58 2 (.slice A2 (0 + 1) c2) (0 + 1) (cellsT (outs (0 + 1))) := by rw [outs_step, show ((2 * ((0 : Nat) : Int), 2 * ((0 : Nat) : Int) + 1) : Int × Int) = (a, b) from Prod.ext Eab.out.1.symm Eab.out.2.symm]; rw [outs_len] at oY; exact oY
              rw [outs_len]
              refine hK.out _ _ ⟨s0, s1⟩ (fun hHx => ?_)
              clear hK K hHx
              try simp only [Act.put, List.setIfInBounds_toArray, List.set_cons_zero, List.set_cons_succ, List.getElem_toArray, List.getElem_cons_zero, List.getElem_cons_succ]
              clear oX oY hg t0 t1
              refine wpAnyH_ready (rs := [9]) (by kernel_rfl) (by simp) ?_
              refine AllReadyH.cons (i := 9) rfl (fun K hK => ?_) AllReadyH.nil
              go_simp
              go_at_call 63
              refine (HIH.out A2 c2 w8.heap.size _ (HR8.out.below bw) oZ bw.size).mono ?_
              rintro e v14 ⟨A9, c9, rfl, o9, b9⟩
              have s0 := keepc b9 s0
              have s1 := keepc b9 s1
              refine hK.out _ _ ⟨s0, s1⟩ (fun hHx => ?_)
              clear hK K hHx
              try simp only [Act.put, List.setIfInBounds_toArray, List.set_cons_zero, List.set_cons_succ, List.getElem_toArray, List.getElem_cons_zero, List.getElem_cons_succ]
              refine reg_take 10 rfl (by kernel_rfl) (by kernel_rfl) (by kernel_rfl) (fun _ _ _ h => h) (by rfl) (fun w _ => by first | (go_simp; done) | (go_simp; with_reducible rfl)) ⟨s0, s1⟩ ?_
              try simp only [Act.put, List.setIfInBounds_toArray, List.set_cons_zero, List.set_cons_succ, List.getElem_toArray, List.getElem_cons_zero, List.getElem_cons_succ]
              refine reg_take 11 rfl (by kernel_rfl) (by kernel_rfl) (by kernel_rfl) (fun _ _ _ h => h) (by rfl) (fun w _ => by first | (go_simp; done) | (go_simp; with_reducible rfl)) ⟨s0, s1⟩ ?_
              try simp only [Act.put, List.setIfInBounds_toArray, List.set_cons_zero, List.set_cons_succ, List.getElem_toArray, List.getElem_cons_zero, List.getElem_cons_succ]
              refine reg_take 12 rfl (by kernel_rfl) (by kernel_rfl) (by kernel_rfl) (fun _ _ _ h => h) (by rfl) (fun w _ => by first | (go_simp; done) | (go_simp; with_reducible rfl)) ⟨s0, s1⟩ ?_
              try simp only [Act.put, List.setIfInBounds_toArray, List.set_cons_zero, List.set_cons_succ, List.getElem_toArray, List.getElem_cons_zero, List.getElem_cons_succ]
              refine reg_take 13 rfl (by kernel_rfl) (by kernel_rfl) (by kernel_rfl) (fun _ _ _ h => h) (by rfl) (fun w _ => by first | (go_simp; done) | (go_simp; with_reducible rfl)) ⟨s0, s1⟩ ?_
              try simp only [Act.put, List.setIfInBounds_toArray, List.set_cons_zero, List.set_cons_succ, List.getElem_toArray, List.getElem_cons_zero, List.getElem_cons_succ]
              refine reg_take 14 rfl (by kernel_rfl) (by kernel_rfl) (by kernel_rfl) (fun _ _ _ h => h) (by rfl) (fun w _ => by first | (go_simp; done) | (go_simp; with_reducible rfl)) ⟨s0, s1⟩ ?_
              try simp only [Act.put, List.setIfInBounds_toArray, List.set_cons_zero, List.set_cons_succ, List.getElem_toArray, List.getElem_cons_zero, List.getElem_cons_succ]
              refine wpAnyH_done (by kernel_rfl) ?_ _
              go_wp2
              go_ret2
              exact ⟨A9, c9, rfl, own_base o9 (Nat.le_trans hbase HB8.out.size), bstep HB8.out (bstep bw b9)⟩
      | succ i' =>
        have hlast := Hlast.out (by omega)
        rw [Nat.add_sub_cancel] at hlast
        have hrl := ((RdT.of_outs Hown.out).below Hb.out)
        obtain ⟨bo, oo, rfl, hbo, hco⟩ := hrl.at_ (k := i') (by rw [outs_len]; omega)
        have hco2 := hco i' (by rw [outs_len]; omega)
        rw [outs_get] at hco2
        have gl0 : (wr.alloc (.cells #[.int .i64 a, .int .i64 b] 58)).cell? ⟨bo, oo + i' * 2, none⟩ = some (.int .i64 (2 * (i' : Int))) := keepA hco2.1
        have gl1 : (wr.alloc (.cells #[.int .i64 a, .int .i64 b] 58)).cell? ⟨bo, oo + i' * 2 + 1, none⟩ = some (.int .i64 (2 * (i' : Int) + 1)) := keepA hco2.2
        have iw3 : IntKind.i64.wrap ((i' : Int) + 1 - 1) = (i' : Int) := by rw [IntWalk.i64_in _ (by omega)]; omega
        have iw4 : IntKind.i64.wrap (i' : Int) = (i' : Int) := IntWalk.i64_in _ (by omega)
        have i5 : (0 : Int) ≤ (i' : Int) := by omega
        have i6 : (i' : Int) < (i' : Int) + 1 := by omega
        have hpos : (0 : Int) < (i' : Int) + 1 := by omega
        clear hco hco2 hrl hbo
        by_cases hkq : k ≤ q
        · have hkp : k < p := by have := hpq (by omega); omega
          have hd1 : decide ((k : Int) ≤ (q : Int)) = true := decide_eq_true (by omega)
          have hd2 : decide (k ≤ q) = true := decide_eq_true hkq
          clear hkq
          go_wp2
          refine wp_region_held_drew (S := fun w' => w'.cell? ⟨wr.heap.size, 0, none⟩ = some (.int .i64 a) ∧ w'.cell? ⟨wr.heap.size, 1, none⟩ = some (.int .i64 b) ∧ w'.cell? ⟨bo, oo + i' * 2, none⟩ = some (.int .i64 (2 * (i' : Int))) ∧ w'.cell? ⟨bo, oo + i' * 2 + 1, none⟩ = some (.int .i64 (2 * (i' : Int) + 1))) (by kernel_rfl) ⟨x0, x1, gl0, gl1⟩ (fun hH0 => ?_)
          refine reg_take 0 rfl (by kernel_rfl) (by kernel_rfl) (by kernel_rfl) (fun _ _ _ h => h) (by rfl) (fun w _ => by first | (go_simp; done) | (go_simp; with_reducible rfl)) (by assumption) ?_
          try simp only [Act.put, List.setIfInBounds_toArray, List.set_cons_zero, List.set_cons_succ, List.getElem_toArray, List.getElem_cons_zero, List.getElem_cons_succ]
          refine reg_take 1 rfl (by kernel_rfl) (by kernel_rfl) (by kernel_rfl) (fun _ _ _ h => h) (by rfl) (fun w _ => by first | (go_simp; done) | (go_simp; with_reducible rfl)) (by assumption) ?_
          try simp only [Act.put, List.setIfInBounds_toArray, List.set_cons_zero, List.set_cons_succ, List.getElem_toArray, List.getElem_cons_zero, List.getElem_cons_succ]
          refine reg_take 2 rfl (by kernel_rfl) (by kernel_rfl) (by kernel_rfl) (fun _ _ _ h => h) (by rfl) (fun w _ => by first | (go_simp; done) | (go_simp; with_reducible rfl)) (by assumption) ?_
          try simp only [Act.put, List.setIfInBounds_toArray, List.set_cons_zero, List.set_cons_succ, List.getElem_toArray, List.getElem_cons_zero, List.getElem_cons_succ]
          refine reg_take 3 rfl (by kernel_rfl) (by kernel_rfl) (by kernel_rfl) (fun _ _ _ h => h) (by rfl) (fun w _ => by first | (go_simp; done) | (go_simp; with_reducible rfl)) (by assumption) ?_
          try simp only [Act.put, List.setIfInBounds_toArray, List.set_cons_zero, List.set_cons_succ, List.getElem_toArray, List.getElem_cons_zero, List.getElem_cons_succ]
          refine reg_take 4 rfl (by kernel_rfl) (by kernel_rfl) (by kernel_rfl) (fun _ _ _ h => h) (by rfl) (fun w _ => by first | (go_simp; done) | (go_simp; with_reducible rfl)) (by assumption) ?_
          try simp only [Act.put, List.setIfInBounds_toArray, List.set_cons_zero, List.set_cons_succ, List.getElem_toArray, List.getElem_cons_zero, List.getElem_cons_succ]
          refine reg_take 5 rfl (by kernel_rfl) (by kernel_rfl) (by kernel_rfl) (fun _ _ _ h => h) (by rfl) (fun w hSw => by (try dsimp only at hSw); first | (go_simp; done) | (go_simp; with_reducible rfl)) (by assumption) ?_
          try simp only [Act.put, List.setIfInBounds_toArray, List.set_cons_zero, List.set_cons_succ, List.getElem_toArray, List.getElem_cons_zero, List.getElem_cons_succ]
          refine reg_take 7 rfl (by kernel_rfl) (by kernel_rfl) (by kernel_rfl) (fun _ _ _ h => h) (by rfl) (fun w _ => by first | (go_simp; done) | (go_simp; with_reducible rfl)) (by assumption) ?_
          try simp only [Act.put, List.setIfInBounds_toArray, List.set_cons_zero, List.set_cons_succ, List.getElem_toArray, List.getElem_cons_zero, List.getElem_cons_succ]
          refine reg_take 8 rfl (by kernel_rfl) (by kernel_rfl) (by kernel_rfl) (fun _ _ _ h => h) (by rfl) (fun w _ => by first | (go_simp; done) | (go_simp; with_reducible rfl)) (by assumption) ?_
          try simp only [Act.put, List.setIfInBounds_toArray, List.set_cons_zero, List.set_cons_succ, List.getElem_toArray, List.getElem_cons_zero, List.getElem_cons_succ]
          refine reg_take 9 rfl (by kernel_rfl) (by kernel_rfl) (by kernel_rfl) (fun _ _ _ h => h) (by rfl) (fun w _ => by first | (go_simp; done) | (go_simp; with_reducible rfl)) (by assumption) ?_
          try simp only [Act.put, List.setIfInBounds_toArray, List.set_cons_zero, List.set_cons_succ, List.getElem_toArray, List.getElem_cons_zero, List.getElem_cons_succ]
          refine reg_take 10 rfl (by kernel_rfl) (by kernel_rfl) (by kernel_rfl) (fun _ _ _ h => h) (by rfl) (fun w _ => by first | (go_simp; done) | (go_simp; with_reducible rfl)) (by assumption) ?_
          try simp only [Act.put, List.setIfInBounds_toArray, List.set_cons_zero, List.set_cons_succ, List.getElem_toArray, List.getElem_cons_zero, List.getElem_cons_succ]
          refine reg_take 11 rfl (by kernel_rfl) (by kernel_rfl) (by kernel_rfl) (fun _ _ _ h => h) (by rfl) (fun w _ => by first | (go_simp; done) | (go_simp; with_reducible rfl)) (by assumption) ?_
          try simp only [Act.put, List.setIfInBounds_toArray, List.set_cons_zero, List.set_cons_succ, List.getElem_toArray, List.getElem_cons_zero, List.getElem_cons_succ]
          refine reg_take 12 rfl (by kernel_rfl) (by kernel_rfl) (by kernel_rfl) (fun _ _ _ h => h) (by rfl) (fun w _ => by first | (go_simp; done) | (go_simp; with_reducible rfl)) (by assumption) ?_
          try simp only [Act.put, List.setIfInBounds_toArray, List.set_cons_zero, List.set_cons_succ, List.getElem_toArray, List.getElem_cons_zero, List.getElem_cons_succ]
          refine reg_take 13 rfl (by kernel_rfl) (by kernel_rfl) (by kernel_rfl) (fun _ _ _ h => h) (by rfl) (fun w hSw => by (try dsimp only at hSw); first | (go_simp; done) | (go_simp; with_reducible rfl)) (by assumption) ?_
          try simp only [Act.put, List.setIfInBounds_toArray, List.set_cons_zero, List.set_cons_succ, List.getElem_toArray, List.getElem_cons_zero, List.getElem_cons_succ]
          refine wpAnyH_ready (rs := [6]) (by kernel_rfl) (by simp) ?_
          refine AllReadyH.cons (i := 6) rfl (fun K hK => ?_) AllReadyH.nil
          go_simp
          go_at_call 80
          refine (c_tiPlace _ c T a b _ (Hrw.out.below Hba.out.drew) (by omega)).mono ?_
          rw [hplk]
          rintro e w2 ⟨rfl, hbm⟩
          have m0 := keepc hbm (g1d _ x0)
          have m1 := keepc hbm (g1d _ x1)
          have m2 := keepc hbm (g1d _ gl0)
          have m3 := keepc hbm (g1d _ gl1)
          refine hK.out _ _ ⟨m0, m1, m2, m3⟩ (fun hH6 => ?_)
          clear hK K
          try simp only [Act.put, List.setIfInBounds_toArray, List.set_cons_zero, List.set_cons_succ, List.getElem_toArray, List.getElem_cons_zero, List.getElem_cons_succ]
          refine wpAnyH_ready (rs := [14]) (by kernel_rfl) (by simp) ?_
          refine AllReadyH.cons (i := 14) rfl (fun K hK => ?_) AllReadyH.nil
          go_simp
          go_at_call 80
          refine (c_tiPlace _ c T (2 * (i' : Int)) (2 * (i' : Int) + 1) _ (Hrw.out.below (bstep Hba.out.drew hbm)) (by omega)).mono ?_
          rw [hlast]
          rintro e w3 ⟨rfl, hbn⟩
          have n0 := keepc hbn m0
          have n1 := keepc hbn m1
          have n2 := keepc hbn m2
          have n3 := keepc hbn m3
          refine hK.out _ _ ⟨n0, n1, n2, n3⟩ (fun hH14 => ?_)
          clear hK K
          try simp only [Act.put, List.setIfInBounds_toArray, List.set_cons_zero, List.set_cons_succ, List.getElem_toArray, List.getElem_cons_zero, List.getElem_cons_succ]
          refine reg_take 15 rfl (by kernel_rfl) (by kernel_rfl) (by kernel_rfl) (fun _ _ _ h => h) (by rfl) (fun w _ => by first | (go_simp; done) | (go_simp; with_reducible rfl)) (by assumption) ?_
          try simp only [Act.put, List.setIfInBounds_toArray, List.set_cons_zero, List.set_cons_succ, List.getElem_toArray, List.getElem_cons_zero, List.getElem_cons_succ]
          refine reg_take 16 rfl (by kernel_rfl) (by kernel_rfl) (by kernel_rfl) (fun _ _ _ h => h) (by rfl) (fun w _ => by first | (go_simp; done) | (go_simp; with_reducible rfl)) (by assumption) ?_
          try simp only [Act.put, List.setIfInBounds_toArray, List.set_cons_zero, List.set_cons_succ, List.getElem_toArray, List.getElem_cons_zero, List.getElem_cons_succ]
          refine reg_take 17 rfl (by kernel_rfl) (by kernel_rfl) (by kernel_rfl) (fun _ _ _ h => h) (by rfl) (fun w _ => by first | (go_simp; done) | (go_simp; with_reducible rfl)) (by assumption) ?_
          try simp only [Act.put, List.setIfInBounds_toArray, List.set_cons_zero, List.set_cons_succ, List.getElem_toArray, List.getElem_cons_zero, List.getElem_cons_succ]
          refine reg_skip 18 rfl (by kernel_rfl) (by kernel_rfl) (by kernel_rfl) (fun _ _ _ h => h) (by rfl) (by assumption) ?_
          try simp only [Act.put, List.setIfInBounds_toArray, List.set_cons_zero, List.set_cons_succ, List.getElem_toArray, List.getElem_cons_zero, List.getElem_cons_succ]
          refine reg_skip 19 rfl (by kernel_rfl) (by kernel_rfl) (by kernel_rfl) (fun _ _ _ h => h) (by rfl) (by assumption) ?_
          try simp only [Act.put, List.setIfInBounds_toArray, List.set_cons_zero, List.set_cons_succ, List.getElem_toArray, List.getElem_cons_zero, List.getElem_cons_succ]
          refine reg_skip 20 rfl (by kernel_rfl) (by kernel_rfl) (by kernel_rfl) (fun _ _ _ h => h) (by rfl) (by assumption) ?_
          try simp only [Act.put, List.setIfInBounds_toArray, List.set_cons_zero, List.set_cons_succ, List.getElem_toArray, List.getElem_cons_zero, List.getElem_cons_succ]
          refine reg_skip 21 rfl (by kernel_rfl) (by kernel_rfl) (by kernel_rfl) (fun _ _ _ h => h) (by rfl) (by assumption) ?_
          try simp only [Act.put, List.setIfInBounds_toArray, List.set_cons_zero, List.set_cons_succ, List.getElem_toArray, List.getElem_cons_zero, List.getElem_cons_succ]
          refine reg_skip 22 rfl (by kernel_rfl) (by kernel_rfl) (by kernel_rfl) (fun _ _ _ h => h) (by rfl) (by assumption) ?_
          try simp only [Act.put, List.setIfInBounds_toArray, List.set_cons_zero, List.set_cons_succ, List.getElem_toArray, List.getElem_cons_zero, List.getElem_cons_succ]
          refine reg_take 23 rfl (by kernel_rfl) (by kernel_rfl) (by kernel_rfl) (fun _ _ _ h => h) (by rfl) (fun w _ => by first | (go_simp; done) | (go_simp; with_reducible rfl)) (by assumption) ?_
          try simp only [Act.put, List.setIfInBounds_toArray, List.set_cons_zero, List.set_cons_succ, List.getElem_toArray, List.getElem_cons_zero, List.getElem_cons_succ]
          refine wpAnyH_done (by kernel_rfl) ?_ _
          go_wp2
          go_roundw
          case rel => exact ⟨k + 1, by omega, by go_num, bstep (bstep Hba.out.drew hbm) hbn⟩
          case measure => simp [intOf]; omega
        · have hd1 : decide ((k : Int) ≤ (q : Int)) = false := decide_eq_false (by omega)
          have hd2 : decide (k ≤ q) = false := decide_eq_false hkq
          by_cases he : a = b
          · have q1 : (a == b) = true := by simp [he]
            have hkp : k < p := by
              rcases Nat.lt_or_ge k p with h | h
              · exact h
              · have h2 := Hab.out (by omega); omega
            clear he
            go_wp2
            go_region_held3 (fun w' => w'.cell? ⟨wr.heap.size, 0, none⟩ = some (.int .i64 a) ∧ w'.cell? ⟨wr.heap.size, 1, none⟩ = some (.int .i64 b) ∧ w'.cell? ⟨bo, oo + i' * 2, none⟩ = some (.int .i64 (2 * (i' : Int))) ∧ w'.cell? ⟨bo, oo + i' * 2 + 1, none⟩ = some (.int .i64 (2 * (i' : Int) + 1))) (first | exact ⟨n0, n1, n2, n3⟩ | exact ⟨m0, m1, m2, m3⟩ | exact ⟨x0, x1, gl0, gl1⟩ | go_keep) (first | (go_at_call 80; have zz := m0; clear zz; refine (c_tiPlace _ c T (2 * (i' : Int)) (2 * (i' : Int) + 1) _ (Hrw.out.below (bstep Hba.out.drew hbm)) (by omega)).mono ?_; rw [hlast]; rintro e w3 ⟨rfl, hbn⟩; have n0 := keepc hbn m0; have n1 := keepc hbn m1; have n2 := keepc hbn m2; have n3 := keepc hbn m3) | (go_at_call 80; refine (c_tiPlace _ c T a b _ (Hrw.out.below Hba.out.drew) (by omega)).mono ?_; rw [hplk]; rintro e w2 ⟨rfl, hbm⟩; have m0 := keepc hbm (g1d _ x0); have m1 := keepc hbm (g1d _ x1); have m2 := keepc hbm (g1d _ gl0); have m3 := keepc hbm (g1d _ gl1)))
            go_wp2
            go_roundw
            case rel => exact ⟨k + 1, by omega, by go_num, bstep (bstep Hba.out.drew hbm) hbn⟩
            case measure => simp [intOf]; omega
          · have q1 : (a == b) = false := by simp [he]
            have HE := Lib.hid (fun e => he e : a = b → False)
            have Hkq := Lib.hid hkq
            clear he hkq
            go_wp2
            go_region_held3 (fun w' => w'.cell? ⟨wr.heap.size, 0, none⟩ = some (.int .i64 a) ∧ w'.cell? ⟨wr.heap.size, 1, none⟩ = some (.int .i64 b) ∧ w'.cell? ⟨bo, oo + i' * 2, none⟩ = some (.int .i64 (2 * (i' : Int))) ∧ w'.cell? ⟨bo, oo + i' * 2 + 1, none⟩ = some (.int .i64 (2 * (i' : Int) + 1))) (first | exact ⟨n0, n1, n2, n3⟩ | exact ⟨m0, m1, m2, m3⟩ | exact ⟨x0, x1, gl0, gl1⟩ | go_keep) (first | (go_at_call 80; have zz := m0; clear zz; refine (c_tiPlace _ c T (2 * (i' : Int)) (2 * (i' : Int) + 1) _ (Hrw.out.below (bstep Hba.out.drew hbm)) (by omega)).mono ?_; rw [hlast]; rintro e w3 ⟨rfl, hbn⟩; have n0 := keepc hbn m0; have n1 := keepc hbn m1; have n2 := keepc hbn m2; have n3 := keepc hbn m3) | (go_at_call 80; refine (c_tiPlace _ c T a b _ (Hrw.out.below Hba.out.drew) (by omega)).mono ?_; rw [hplk]; rintro e w2 ⟨rfl, hbm⟩; have m0 := keepc hbm (g1d _ x0); have m1 := keepc hbm (g1d _ x1); have m2 := keepc hbm (g1d _ gl0); have m3 := keepc hbm (g1d _ gl1)))
            by_cases hkp : k < p
            · have hna : a ∉ O := fun hm => by
                have h1 := (Hmem.out a).1 hm
                rcases Hsk.out hkp with h2 | h2 | h2
                · exact Hkq.out h2.2
                · exact HE.out h2
                · omega
              have conHa := fun W A6 c6 (h6 : RdI W A6 O) => c_l1Has A6 c6 O a W h6 (by omega)
              have hda : decide (a ∈ O) = false := decide_eq_false hna
              simp only [hda] at conHa
              have ConHa := Lib.hid conHa
              clear hna hda conHa
              go_wp2_with (first | (go_at_call 66; refine (ConT.out _ (bstep (bstep Hba.out.drew hbm) hbn)).mono ?_; rintro e w5 ⟨A5, c5, rfl, ho5, hb5⟩) | (go_at_call 55; refine (ConO.out _ _ _ (RdT.of_own ho5)).mono ?_; rintro e w6 ⟨A6, c6, rfl, ho6, hb6⟩; have y0 := keepc hb6 (keepc hb5 n0); have y1 := keepc hb6 (keepc hb5 n1)) | (go_at_call 84; refine (ConHa.out _ _ _ (RdI.of_own ho6)).mono ?_; rintro e w7 ⟨rfl, hb7⟩))
              go_roundw
              case rel => exact ⟨k + 1, by omega, by go_num, bstep (bstep (bstep (bstep (bstep Hba.out.drew hbm) hbn) hb5) hb6) hb7⟩
              case measure => simp [intOf]; omega
            · have hkp' : k = p := by omega
              obtain ⟨ea, eb⟩ := Hab.out hkp'
              have hma : a ∈ O := (Hmem.out a).2 (by omega)
              have hmb : b ∈ O := (Hmem.out b).2 (by omega)
              have conHa := fun W A6 c6 (h6 : RdI W A6 O) => c_l1Has A6 c6 O a W h6 (by omega)
              have conHb := fun W A6 c6 (h6 : RdI W A6 O) => c_l1Has A6 c6 O b W h6 (by omega)
              have hda : decide (a ∈ O) = true := decide_eq_true hma
              have hdb : decide (b ∈ O) = true := decide_eq_true hmb
              simp only [hda] at conHa
              simp only [hdb] at conHb
              have ConHa := Lib.hid conHa
              have ConHb := Lib.hid conHb
              have Eab := Lib.hid (And.intro ea eb)
              clear hma hmb hda hdb conHa conHb ea eb hkp hkp'
              go_wp2_with (first | (go_at_call 66; refine (ConT.out _ (bstep (bstep Hba.out.drew hbm) hbn)).mono ?_; rintro e w5 ⟨A5, c5, rfl, ho5, hb5⟩) | (go_at_call 55; refine (ConO.out _ _ _ (RdT.of_own ho5)).mono ?_; rintro e w6 ⟨A6, c6, rfl, ho6, hb6⟩; have y0 := keepc hb6 (keepc hb5 n0); have y1 := keepc hb6 (keepc hb5 n1)) | (go_at_call 84; have zz := z0; clear zz; refine (ConHb.out _ _ _ (RdI.of_own ho7)).mono ?_; rintro e w8 ⟨rfl, hb8⟩; have u0 := keepc hb8 z0; have u1 := keepc hb8 z1) | (go_at_call 84; refine (ConHa.out _ _ _ (RdI.of_own ho6)).mono ?_; rintro e w7 ⟨rfl, hb7⟩; have ho7 := own_keep ho6 hb7; have z0 := keepc hb7 y0; have z1 := keepc hb7 y1))
              have hbw8 := bstep (bstep (bstep (bstep (bstep (bstep Hba.out.drew hbm) hbn) hb5) hb6) hb7) hb8
              have iw : IntKind.i64.wrap ((d : Int) + 1 - 1) = (d : Int) := by rw [IntWalk.i64_in _ (by omega)]; omega
              have iw' : IntKind.i64.wrap (d : Int) = (d : Int) := IntWalk.i64_in _ (by omega)
              have hwr8 : wr.heap.size < w8.heap.size := block_lt u0
              have HR8 := Lib.hid (Hrw.out.below hbw8)
              have HO8 := Lib.hid ((RdT.of_outs Hown.out).below hbw8)
              have HB8 := Lib.hid hbw8
              refine wp_region_held_drew (S := fun w' => w'.cell? ⟨wr.heap.size, 0, none⟩ = some (.int .i64 a) ∧ w'.cell? ⟨wr.heap.size, 1, none⟩ = some (.int .i64 b)) (by kernel_rfl) ⟨u0, u1⟩ (fun hH0 => ?_)
              obtain ⟨v0, hv0⟩ : ∃ v0, v0 = w8.drew := ⟨_, rfl⟩
              have s0 : v0.cell? ⟨wr.heap.size, 0, none⟩ = some (.int .i64 a) := by rw [hv0]; exact u0
              have s1 : v0.cell? ⟨wr.heap.size, 1, none⟩ = some (.int .i64 b) := by rw [hv0]; exact u1
              have bw : Below w8.heap.size w8 v0 := by rw [hv0]; exact (Below.refl _ _).drew
              rw [← hv0]
              clear hv0 u0 u1 z0 z1 y0 y1 x0 x1 ho5 ho6 ho7 hb5 hb6 hb7 hb8 hbw8 g1 g2 hH0
              refine reg_take 0 rfl (by kernel_rfl) (by kernel_rfl) (by kernel_rfl) (fun _ _ _ h => h) (by rfl) (fun w _ => by first | (go_simp; done) | (go_simp; with_reducible rfl)) ⟨s0, s1⟩ ?_
              try simp only [Act.put, List.setIfInBounds_toArray, List.set_cons_zero, List.set_cons_succ, List.getElem_toArray, List.getElem_cons_zero, List.getElem_cons_succ]
              refine reg_take 2 rfl (by kernel_rfl) (by kernel_rfl) (by kernel_rfl) (fun _ _ _ h => h) (by rfl) (fun w _ => by first | (go_simp; done) | (go_simp; with_reducible rfl)) ⟨s0, s1⟩ ?_
              try simp only [Act.put, List.setIfInBounds_toArray, List.set_cons_zero, List.set_cons_succ, List.getElem_toArray, List.getElem_cons_zero, List.getElem_cons_succ]
              refine reg_take 7 rfl (by kernel_rfl) (by kernel_rfl) (by kernel_rfl) (fun _ _ _ h => h) (by rfl) (fun w _ => by first | (go_simp; done) | (go_simp; with_reducible rfl)) ⟨s0, s1⟩ ?_
              try simp only [Act.put, List.setIfInBounds_toArray, List.set_cons_zero, List.set_cons_succ, List.getElem_toArray, List.getElem_cons_zero, List.getElem_cons_succ]
              refine reg_take 8 rfl (by kernel_rfl) (by kernel_rfl) (by kernel_rfl) (fun _ _ _ h => h) (by rfl) (fun w _ => by first | (go_simp; done) | (go_simp; with_reducible rfl)) ⟨s0, s1⟩ ?_
              try simp only [Act.put, List.setIfInBounds_toArray, List.set_cons_zero, List.set_cons_succ, List.getElem_toArray, List.getElem_cons_zero, List.getElem_cons_succ]
              refine reg_take 4 rfl (by kernel_rfl) (by kernel_rfl) (by kernel_rfl) (fun _ _ _ h => h) (by rfl) (fun w hSw => by (try dsimp only at hSw); obtain ⟨r0, r1⟩ := hSw; first | (go_simp; done) | (go_simp; with_reducible rfl)) ⟨s0, s1⟩ ?_
              try simp only [Act.put, List.setIfInBounds_toArray, List.set_cons_zero, List.set_cons_succ, List.getElem_toArray, List.getElem_cons_zero, List.getElem_cons_succ]
              refine wpAnyH_ready (rs := [1, 5]) (by kernel_rfl) (by simp) ?_
              refine AllReadyH.cons (i := 1) rfl (fun K hK => ?_) (AllReadyH.cons (i := 5) rfl (fun K hK => ?_) AllReadyH.nil)
              · go_simp
                refine hK.out _ _ ⟨keepA s0, keepA s1⟩ (fun hHx => ?_)
                clear hK K hHx
                try simp only [Act.put, List.setIfInBounds_toArray, List.set_cons_zero, List.set_cons_succ, List.getElem_toArray, List.getElem_cons_zero, List.getElem_cons_succ]
                obtain ⟨v1, hv⟩ : ∃ v1, v1 = v0.alloc (.cells #[] 58) := ⟨_, rfl⟩
                have s0 : v1.cell? ⟨wr.heap.size, 0, none⟩ = some (.int .i64 a) := by rw [hv]; exact keepA s0
                have s1 : v1.cell? ⟨wr.heap.size, 1, none⟩ = some (.int .i64 b) := by rw [hv]; exact keepA s1
                have oE : v1.ownsRow w8.heap.size 58 2 (.slice (some ⟨v0.heap.size, 0, none⟩) 0 0) 0 (cellsT []) := by rw [hv]; exact World.ownsRow_lit v0 #[] 0 bw.size (by unfold maxLen; omega) rfl
                have bw := show Below w8.heap.size w8 v1 from by rw [hv]; exact bw.alloc bw.size _
                rw [← hv]
                clear hv
                refine wpAnyH_ready (rs := [3, 5]) (by kernel_rfl) (by simp) ?_
                refine AllReadyH.cons (i := 3) rfl (fun K hK => ?_) (AllReadyH.cons (i := 5) rfl (fun K hK => ?_) AllReadyH.nil)
                · refine step_append_tilesO rfl (.tmp 68) (.tmp 69) rfl w8.heap.size (v0.heap.size) rfl oE _ _ (i' + 1) (outs (i' + 1)) (outs_len (i' + 1)) rfl (HO8.out.below bw) (by omega) bw.size ?_
                  intro A1 c1 v2 oX hg
                  have hEl : w8.heap.size ≤ v0.heap.size := (oE.lt _ rfl).1
                  have s0 := World.grownBy.cell hg s0 (fun e => by injection e with e; simp only at e; omega)
                  have s1 := World.grownBy.cell hg s1 (fun e => by injection e with e; simp only at e; omega)
                  have bw := bw.trans (below_of_grown hg bw.size (fun g hg => by injection hg with hg; subst hg; exact hEl))
                  refine hK.out _ _ ⟨s0, s1⟩ (fun hHx => ?_)
                  clear hK K hHx
                  try simp only [Act.put, List.setIfInBounds_toArray, List.set_cons_zero, List.set_cons_succ, List.getElem_toArray, List.getElem_cons_zero, List.getElem_cons_succ]
                  clear oE hg
                  refine wpAnyH_ready (rs := [5]) (by kernel_rfl) (by simp) ?_
                  refine AllReadyH.cons (i := 5) rfl (fun K hK => ?_) AllReadyH.nil
                  go_simp
                  refine hK.out _ _ ⟨keepA s0, keepA s1⟩ (fun hHx => ?_)
                  clear hK K hHx
                  try simp only [Act.put, List.setIfInBounds_toArray, List.set_cons_zero, List.set_cons_succ, List.getElem_toArray, List.getElem_cons_zero, List.getElem_cons_succ]
                  obtain ⟨v3, hv⟩ : ∃ v3, v3 = v2.alloc (.cells #[.int .i64 a, .int .i64 b] 58) := ⟨_, rfl⟩
                  have s0 : v3.cell? ⟨wr.heap.size, 0, none⟩ = some (.int .i64 a) := by rw [hv]; exact keepA s0
                  have s1 : v3.cell? ⟨wr.heap.size, 1, none⟩ = some (.int .i64 b) := by rw [hv]; exact keepA s1
                  have oX := show v3.ownsRow w8.heap.size 58 2 (.slice A1 (i' + 1) c1) (i' + 1) (cellsT (outs (i' + 1))) from by rw [hv]; exact oX.alloc _
                  have t0 : v3.cell? ⟨v2.heap.size, 0, none⟩ = some (.int .i64 a) := by rw [hv]; simp
                  have t1 : v3.cell? ⟨v2.heap.size, 1, none⟩ = some (.int .i64 b) := by rw [hv]; simp
                  have bw := show Below w8.heap.size w8 v3 from by rw [hv]; exact bw.alloc bw.size _
                  rw [← hv]
                  clear hv
                  refine wpAnyH_ready (rs := [6]) (by kernel_rfl) (by simp) ?_
                  refine AllReadyH.cons (i := 6) rfl (fun K hK => ?_) AllReadyH.nil
                  refine step_append_tileO rfl (.tmp 70) (.tmp 72) rfl w8.heap.size (.slice A1 (i' + 1) c1) (outs (i' + 1)) rfl (by rw [outs_len]; exact oX) a b (v2.heap.size) rfl t0 t1 (by rw [outs_len]; omega) bw.size ?_
                  intro A2 c2 v4 oY hg
                  have hXl := fun g h => (oX.lt g h).1
                  have s0 := World.grownBy.cell hg s0 (fun e => by have := hXl _ e.symm; simp only at this; omega)
                  have s1 := World.grownBy.cell hg s1 (fun e => by have := hXl _ e.symm; simp only at this; omega)
                  have bw := bw.trans (below_of_grown hg bw.size hXl)
                  have oZ : v4.ownsRow w8.heap.size 58 2 (.slice A2 ((i' + 1) + 1) c2) ((i' + 1) + 1) (cellsT (outs ((i' + 1) + 1))) := by rw [outs_step, show ((2 * (((i' + 1) : Nat) : Int), 2 * (((i' + 1) : Nat) : Int) + 1) : Int × Int) = (a, b) from Prod.ext Eab.out.1.symm Eab.out.2.symm]; rw [outs_len] at oY; exact oY
                  rw [outs_len]
                  refine hK.out _ _ ⟨s0, s1⟩ (fun hHx => ?_)
                  clear hK K hHx
                  try simp only [Act.put, List.setIfInBounds_toArray, List.set_cons_zero, List.set_cons_succ, List.getElem_toArray, List.getElem_cons_zero, List.getElem_cons_succ]
                  clear oX oY hg t0 t1
                  refine wpAnyH_ready (rs := [9]) (by kernel_rfl) (by simp) ?_
                  refine AllReadyH.cons (i := 9) rfl (fun K hK => ?_) AllReadyH.nil
                  go_simp
                  go_at_call 63
                  refine (HIH.out A2 c2 w8.heap.size _ (HR8.out.below bw) oZ bw.size).mono ?_
                  rintro e v5 ⟨A9, c9, rfl, o9, b9⟩
                  have s0 := keepc b9 s0
                  have s1 := keepc b9 s1
                  refine hK.out _ _ ⟨s0, s1⟩ (fun hHx => ?_)
                  clear hK K hHx
                  try simp only [Act.put, List.setIfInBounds_toArray, List.set_cons_zero, List.set_cons_succ, List.getElem_toArray, List.getElem_cons_zero, List.getElem_cons_succ]
                  refine reg_take 10 rfl (by kernel_rfl) (by kernel_rfl) (by kernel_rfl) (fun _ _ _ h => h) (by rfl) (fun w _ => by first | (go_simp; done) | (go_simp; with_reducible rfl)) ⟨s0, s1⟩ ?_
                  try simp only [Act.put, List.setIfInBounds_toArray, List.set_cons_zero, List.set_cons_succ, List.getElem_toArray, List.getElem_cons_zero, List.getElem_cons_succ]
                  refine reg_take 11 rfl (by kernel_rfl) (by kernel_rfl) (by kernel_rfl) (fun _ _ _ h => h) (by rfl) (fun w _ => by first | (go_simp; done) | (go_simp; with_reducible rfl)) ⟨s0, s1⟩ ?_
                  try simp only [Act.put, List.setIfInBounds_toArray, List.set_cons_zero, List.set_cons_succ, List.getElem_toArray, List.getElem_cons_zero, List.getElem_cons_succ]
                  refine reg_take 12 rfl (by kernel_rfl) (by kernel_rfl) (by kernel_rfl) (fun _ _ _ h => h) (by rfl) (fun w _ => by first | (go_simp; done) | (go_simp; with_reducible rfl)) ⟨s0, s1⟩ ?_
                  try simp only [Act.put, List.setIfInBounds_toArray, List.set_cons_zero, List.set_cons_succ, List.getElem_toArray, List.getElem_cons_zero, List.getElem_cons_succ]
                  refine reg_take 13 rfl (by kernel_rfl) (by kernel_rfl) (by kernel_rfl) (fun _ _ _ h => h) (by rfl) (fun w _ => by first | (go_simp; done) | (go_simp; with_reducible rfl)) ⟨s0, s1⟩ ?_
                  try simp only [Act.put, List.setIfInBounds_toArray, List.set_cons_zero, List.set_cons_succ, List.getElem_toArray, List.getElem_cons_zero, List.getElem_cons_succ]
                  refine reg_take 14 rfl (by kernel_rfl) (by kernel_rfl) (by kernel_rfl) (fun _ _ _ h => h) (by rfl) (fun w _ => by first | (go_simp; done) | (go_simp; with_reducible rfl)) ⟨s0, s1⟩ ?_
                  try simp only [Act.put, List.setIfInBounds_toArray, List.set_cons_zero, List.set_cons_succ, List.getElem_toArray, List.getElem_cons_zero, List.getElem_cons_succ]
                  refine wpAnyH_done (by kernel_rfl) ?_ _
                  go_wp2
                  go_ret2
                  exact ⟨A9, c9, rfl, own_base o9 (Nat.le_trans hbase HB8.out.size), bstep HB8.out (bstep bw b9)⟩
                · have oEk := oE
                  go_simp
                  refine hK.out _ _ ⟨keepA s0, keepA s1⟩ (fun hHx => ?_)
                  clear hK K hHx
                  try simp only [Act.put, List.setIfInBounds_toArray, List.set_cons_zero, List.set_cons_succ, List.getElem_toArray, List.getElem_cons_zero, List.getElem_cons_succ]
                  obtain ⟨v6, hv⟩ : ∃ v6, v6 = v1.alloc (.cells #[.int .i64 a, .int .i64 b] 58) := ⟨_, rfl⟩
                  have s0 : v6.cell? ⟨wr.heap.size, 0, none⟩ = some (.int .i64 a) := by rw [hv]; exact keepA s0
                  have s1 : v6.cell? ⟨wr.heap.size, 1, none⟩ = some (.int .i64 b) := by rw [hv]; exact keepA s1
                  have oE := show v6.ownsRow w8.heap.size 58 2 (.slice (some ⟨v0.heap.size, 0, none⟩) 0 0) 0 (cellsT []) from by rw [hv]; exact oE.alloc _
                  have t0 : v6.cell? ⟨v1.heap.size, 0, none⟩ = some (.int .i64 a) := by rw [hv]; simp
                  have t1 : v6.cell? ⟨v1.heap.size, 1, none⟩ = some (.int .i64 b) := by rw [hv]; simp
                  have hEt : v1.heap.size ≠ v0.heap.size := by have h : v0.heap.size < v1.heap.size := (oEk.lt _ rfl).2; omega
                  have bw := show Below w8.heap.size w8 v6 from by rw [hv]; exact bw.alloc bw.size _
                  rw [← hv]
                  clear hv
                  refine wpAnyH_ready (rs := [3]) (by kernel_rfl) (by simp) ?_
                  refine AllReadyH.cons (i := 3) rfl (fun K hK => ?_) AllReadyH.nil
                  refine step_append_tilesO rfl (.tmp 68) (.tmp 69) rfl w8.heap.size (v0.heap.size) rfl oE _ _ (i' + 1) (outs (i' + 1)) (outs_len (i' + 1)) rfl (HO8.out.below bw) (by omega) bw.size ?_
                  intro A1 c1 v7 oX hg
                  have hEl : w8.heap.size ≤ v0.heap.size := (oE.lt _ rfl).1
                  have s0 := World.grownBy.cell hg s0 (fun e => by injection e with e; simp only at e; omega)
                  have s1 := World.grownBy.cell hg s1 (fun e => by injection e with e; simp only at e; omega)
                  have t0 := World.grownBy.cell hg t0 (fun e => by injection e with e; exact hEt e)
                  have t1 := World.grownBy.cell hg t1 (fun e => by injection e with e; exact hEt e)
                  have bw := bw.trans (below_of_grown hg bw.size (fun g hg => by injection hg with hg; subst hg; exact hEl))
                  refine hK.out _ _ ⟨s0, s1⟩ (fun hHx => ?_)
                  clear hK K hHx
                  try simp only [Act.put, List.setIfInBounds_toArray, List.set_cons_zero, List.set_cons_succ, List.getElem_toArray, List.getElem_cons_zero, List.getElem_cons_succ]
                  clear oE hg
                  refine wpAnyH_ready (rs := [6]) (by kernel_rfl) (by simp) ?_
                  refine AllReadyH.cons (i := 6) rfl (fun K hK => ?_) AllReadyH.nil
                  refine step_append_tileO rfl (.tmp 70) (.tmp 72) rfl w8.heap.size (.slice A1 (i' + 1) c1) (outs (i' + 1)) rfl (by rw [outs_len]; exact oX) a b (v1.heap.size) rfl t0 t1 (by rw [outs_len]; omega) bw.size ?_
                  intro A2 c2 v8 oY hg
                  have hXl := fun g h => (oX.lt g h).1
                  have s0 := World.grownBy.cell hg s0 (fun e => by have := hXl _ e.symm; simp only at this; omega)
                  have s1 := World.grownBy.cell hg s1 (fun e => by have := hXl _ e.symm; simp only at this; omega)
                  have bw := bw.trans (below_of_grown hg bw.size hXl)
                  have oZ : v8.ownsRow w8.heap.size 58 2 (.slice A2 ((i' + 1) + 1) c2) ((i' + 1) + 1) (cellsT (outs ((i' + 1) + 1))) := by rw [outs_step, show ((2 * (((i' + 1) : Nat) : Int), 2 * (((i' + 1) : Nat) : Int) + 1) : Int × Int) = (a, b) from Prod.ext Eab.out.1.symm Eab.out.2.symm]; rw [outs_len] at oY; exact oY
                  rw [outs_len]
                  refine hK.out _ _ ⟨s0, s1⟩ (fun hHx => ?_)
                  clear hK K hHx
                  try simp only [Act.put, List.setIfInBounds_toArray, List.set_cons_zero, List.set_cons_succ, List.getElem_toArray, List.getElem_cons_zero, List.getElem_cons_succ]
                  clear oX oY hg t0 t1
                  refine wpAnyH_ready (rs := [9]) (by kernel_rfl) (by simp) ?_
                  refine AllReadyH.cons (i := 9) rfl (fun K hK => ?_) AllReadyH.nil
                  go_simp
                  go_at_call 63
                  refine (HIH.out A2 c2 w8.heap.size _ (HR8.out.below bw) oZ bw.size).mono ?_
                  rintro e v9 ⟨A9, c9, rfl, o9, b9⟩
                  have s0 := keepc b9 s0
                  have s1 := keepc b9 s1
                  refine hK.out _ _ ⟨s0, s1⟩ (fun hHx => ?_)
                  clear hK K hHx
                  try simp only [Act.put, List.setIfInBounds_toArray, List.set_cons_zero, List.set_cons_succ, List.getElem_toArray, List.getElem_cons_zero, List.getElem_cons_succ]
                  refine reg_take 10 rfl (by kernel_rfl) (by kernel_rfl) (by kernel_rfl) (fun _ _ _ h => h) (by rfl) (fun w _ => by first | (go_simp; done) | (go_simp; with_reducible rfl)) ⟨s0, s1⟩ ?_
                  try simp only [Act.put, List.setIfInBounds_toArray, List.set_cons_zero, List.set_cons_succ, List.getElem_toArray, List.getElem_cons_zero, List.getElem_cons_succ]
                  refine reg_take 11 rfl (by kernel_rfl) (by kernel_rfl) (by kernel_rfl) (fun _ _ _ h => h) (by rfl) (fun w _ => by first | (go_simp; done) | (go_simp; with_reducible rfl)) ⟨s0, s1⟩ ?_
                  try simp only [Act.put, List.setIfInBounds_toArray, List.set_cons_zero, List.set_cons_succ, List.getElem_toArray, List.getElem_cons_zero, List.getElem_cons_succ]
                  refine reg_take 12 rfl (by kernel_rfl) (by kernel_rfl) (by kernel_rfl) (fun _ _ _ h => h) (by rfl) (fun w _ => by first | (go_simp; done) | (go_simp; with_reducible rfl)) ⟨s0, s1⟩ ?_
                  try simp only [Act.put, List.setIfInBounds_toArray, List.set_cons_zero, List.set_cons_succ, List.getElem_toArray, List.getElem_cons_zero, List.getElem_cons_succ]
                  refine reg_take 13 rfl (by kernel_rfl) (by kernel_rfl) (by kernel_rfl) (fun _ _ _ h => h) (by rfl) (fun w _ => by first | (go_simp; done) | (go_simp; with_reducible rfl)) ⟨s0, s1⟩ ?_
                  try simp only [Act.put, List.setIfInBounds_toArray, List.set_cons_zero, List.set_cons_succ, List.getElem_toArray, List.getElem_cons_zero, List.getElem_cons_succ]
                  refine reg_take 14 rfl (by kernel_rfl) (by kernel_rfl) (by kernel_rfl) (fun _ _ _ h => h) (by rfl) (fun w _ => by first | (go_simp; done) | (go_simp; with_reducible rfl)) ⟨s0, s1⟩ ?_
                  try simp only [Act.put, List.setIfInBounds_toArray, List.set_cons_zero, List.set_cons_succ, List.getElem_toArray, List.getElem_cons_zero, List.getElem_cons_succ]
                  refine wpAnyH_done (by kernel_rfl) ?_ _
                  go_wp2
                  go_ret2
                  exact ⟨A9, c9, rfl, own_base o9 (Nat.le_trans hbase HB8.out.size), bstep HB8.out (bstep bw b9)⟩
              · go_simp
                refine hK.out _ _ ⟨keepA s0, keepA s1⟩ (fun hHx => ?_)
                clear hK K hHx
                try simp only [Act.put, List.setIfInBounds_toArray, List.set_cons_zero, List.set_cons_succ, List.getElem_toArray, List.getElem_cons_zero, List.getElem_cons_succ]
                obtain ⟨v10, hv⟩ : ∃ v10, v10 = v0.alloc (.cells #[.int .i64 a, .int .i64 b] 58) := ⟨_, rfl⟩
                have s0 : v10.cell? ⟨wr.heap.size, 0, none⟩ = some (.int .i64 a) := by rw [hv]; exact keepA s0
                have s1 : v10.cell? ⟨wr.heap.size, 1, none⟩ = some (.int .i64 b) := by rw [hv]; exact keepA s1
                have t0 : v10.cell? ⟨v0.heap.size, 0, none⟩ = some (.int .i64 a) := by rw [hv]; simp
                have t1 : v10.cell? ⟨v0.heap.size, 1, none⟩ = some (.int .i64 b) := by rw [hv]; simp
                have bw := show Below w8.heap.size w8 v10 from by rw [hv]; exact bw.alloc bw.size _
                rw [← hv]
                clear hv
                refine wpAnyH_ready (rs := [1]) (by kernel_rfl) (by simp) ?_
                refine AllReadyH.cons (i := 1) rfl (fun K hK => ?_) AllReadyH.nil
                have tkeep := t0
                go_simp
                refine hK.out _ _ ⟨keepA s0, keepA s1⟩ (fun hHx => ?_)
                clear hK K hHx
                try simp only [Act.put, List.setIfInBounds_toArray, List.set_cons_zero, List.set_cons_succ, List.getElem_toArray, List.getElem_cons_zero, List.getElem_cons_succ]
                obtain ⟨v11, hv⟩ : ∃ v11, v11 = v10.alloc (.cells #[] 58) := ⟨_, rfl⟩
                have s0 : v11.cell? ⟨wr.heap.size, 0, none⟩ = some (.int .i64 a) := by rw [hv]; exact keepA s0
                have s1 : v11.cell? ⟨wr.heap.size, 1, none⟩ = some (.int .i64 b) := by rw [hv]; exact keepA s1
                have t0 : v11.cell? ⟨v0.heap.size, 0, none⟩ = some (.int .i64 a) := by rw [hv]; exact keepA t0
                have t1 : v11.cell? ⟨v0.heap.size, 1, none⟩ = some (.int .i64 b) := by rw [hv]; exact keepA t1
                have oE : v11.ownsRow w8.heap.size 58 2 (.slice (some ⟨v10.heap.size, 0, none⟩) 0 0) 0 (cellsT []) := by rw [hv]; exact World.ownsRow_lit v10 #[] 0 bw.size (by unfold maxLen; omega) rfl
                have hEt : v0.heap.size ≠ v10.heap.size := by have h : v0.heap.size < v10.heap.size := block_lt tkeep; omega
                have bw := show Below w8.heap.size w8 v11 from by rw [hv]; exact bw.alloc bw.size _
                rw [← hv]
                clear hv
                refine wpAnyH_ready (rs := [3]) (by kernel_rfl) (by simp) ?_
                refine AllReadyH.cons (i := 3) rfl (fun K hK => ?_) AllReadyH.nil
                refine step_append_tilesO rfl (.tmp 68) (.tmp 69) rfl w8.heap.size (v10.heap.size) rfl oE _ _ (i' + 1) (outs (i' + 1)) (outs_len (i' + 1)) rfl (HO8.out.below bw) (by omega) bw.size ?_
                intro A1 c1 v12 oX hg
                have hEl : w8.heap.size ≤ v10.heap.size := (oE.lt _ rfl).1
                have s0 := World.grownBy.cell hg s0 (fun e => by injection e with e; simp only at e; omega)
                have s1 := World.grownBy.cell hg s1 (fun e => by injection e with e; simp only at e; omega)
                have t0 := World.grownBy.cell hg t0 (fun e => by injection e with e; exact hEt e)
                have t1 := World.grownBy.cell hg t1 (fun e => by injection e with e; exact hEt e)
                have bw := bw.trans (below_of_grown hg bw.size (fun g hg => by injection hg with hg; subst hg; exact hEl))
                refine hK.out _ _ ⟨s0, s1⟩ (fun hHx => ?_)
                clear hK K hHx
                try simp only [Act.put, List.setIfInBounds_toArray, List.set_cons_zero, List.set_cons_succ, List.getElem_toArray, List.getElem_cons_zero, List.getElem_cons_succ]
                clear oE hg
                refine wpAnyH_ready (rs := [6]) (by kernel_rfl) (by simp) ?_
                refine AllReadyH.cons (i := 6) rfl (fun K hK => ?_) AllReadyH.nil
                refine step_append_tileO rfl (.tmp 70) (.tmp 72) rfl w8.heap.size (.slice A1 (i' + 1) c1) (outs (i' + 1)) rfl (by rw [outs_len]; exact oX) a b (v0.heap.size) rfl t0 t1 (by rw [outs_len]; omega) bw.size ?_
                intro A2 c2 v13 oY hg
                have hXl := fun g h => (oX.lt g h).1
                have s0 := World.grownBy.cell hg s0 (fun e => by have := hXl _ e.symm; simp only at this; omega)
                have s1 := World.grownBy.cell hg s1 (fun e => by have := hXl _ e.symm; simp only at this; omega)
                have bw := bw.trans (below_of_grown hg bw.size hXl)
                have oZ : v13.ownsRow w8.heap.size 58 2 (.slice A2 ((i' + 1) + 1) c2) ((i' + 1) + 1) (cellsT (outs ((i' + 1) + 1))) := by rw [outs_step, show ((2 * (((i' + 1) : Nat) : Int), 2 * (((i' + 1) : Nat) : Int) + 1) : Int × Int) = (a, b) from Prod.ext Eab.out.1.symm Eab.out.2.symm]; rw [outs_len] at oY; exact oY
                rw [outs_len]
                refine hK.out _ _ ⟨s0, s1⟩ (fun hHx => ?_)
                clear hK K hHx
                try simp only [Act.put, List.setIfInBounds_toArray, List.set_cons_zero, List.set_cons_succ, List.getElem_toArray, List.getElem_cons_zero, List.getElem_cons_succ]
                clear oX oY hg t0 t1
                refine wpAnyH_ready (rs := [9]) (by kernel_rfl) (by simp) ?_
                refine AllReadyH.cons (i := 9) rfl (fun K hK => ?_) AllReadyH.nil
                go_simp
                go_at_call 63
                refine (HIH.out A2 c2 w8.heap.size _ (HR8.out.below bw) oZ bw.size).mono ?_
                rintro e v14 ⟨A9, c9, rfl, o9, b9⟩
                have s0 := keepc b9 s0
                have s1 := keepc b9 s1
                refine hK.out _ _ ⟨s0, s1⟩ (fun hHx => ?_)
                clear hK K hHx
                try simp only [Act.put, List.setIfInBounds_toArray, List.set_cons_zero, List.set_cons_succ, List.getElem_toArray, List.getElem_cons_zero, List.getElem_cons_succ]
                refine reg_take 10 rfl (by kernel_rfl) (by kernel_rfl) (by kernel_rfl) (fun _ _ _ h => h) (by rfl) (fun w _ => by first | (go_simp; done) | (go_simp; with_reducible rfl)) ⟨s0, s1⟩ ?_
                try simp only [Act.put, List.setIfInBounds_toArray, List.set_cons_zero, List.set_cons_succ, List.getElem_toArray, List.getElem_cons_zero, List.getElem_cons_succ]
                refine reg_take 11 rfl (by kernel_rfl) (by kernel_rfl) (by kernel_rfl) (fun _ _ _ h => h) (by rfl) (fun w _ => by first | (go_simp; done) | (go_simp; with_reducible rfl)) ⟨s0, s1⟩ ?_
                try simp only [Act.put, List.setIfInBounds_toArray, List.set_cons_zero, List.set_cons_succ, List.getElem_toArray, List.getElem_cons_zero, List.getElem_cons_succ]
                refine reg_take 12 rfl (by kernel_rfl) (by kernel_rfl) (by kernel_rfl) (fun _ _ _ h => h) (by rfl) (fun w _ => by first | (go_simp; done) | (go_simp; with_reducible rfl)) ⟨s0, s1⟩ ?_
                try simp only [Act.put, List.setIfInBounds_toArray, List.set_cons_zero, List.set_cons_succ, List.getElem_toArray, List.getElem_cons_zero, List.getElem_cons_succ]
                refine reg_take 13 rfl (by kernel_rfl) (by kernel_rfl) (by kernel_rfl) (fun _ _ _ h => h) (by rfl) (fun w _ => by first | (go_simp; done) | (go_simp; with_reducible rfl)) ⟨s0, s1⟩ ?_
                try simp only [Act.put, List.setIfInBounds_toArray, List.set_cons_zero, List.set_cons_succ, List.getElem_toArray, List.getElem_cons_zero, List.getElem_cons_succ]
                refine reg_take 14 rfl (by kernel_rfl) (by kernel_rfl) (by kernel_rfl) (fun _ _ _ h => h) (by rfl) (fun w _ => by first | (go_simp; done) | (go_simp; with_reducible rfl)) ⟨s0, s1⟩ ?_
                try simp only [Act.put, List.setIfInBounds_toArray, List.set_cons_zero, List.set_cons_succ, List.getElem_toArray, List.getElem_cons_zero, List.getElem_cons_succ]
                refine wpAnyH_done (by kernel_rfl) ?_ _
                go_wp2
                go_ret2
                exact ⟨A9, c9, rfl, own_base o9 (Nat.le_trans hbase HB8.out.size), bstep HB8.out (bstep bw b9)⟩

end Go.Proofs.Yteiiiceajpmndaa

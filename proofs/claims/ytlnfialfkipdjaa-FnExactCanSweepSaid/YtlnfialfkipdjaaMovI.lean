/- Moves of games: the program's. -/
import Derived.Test.YtlnfialfkipdjaaMovA
import Derived.Test.YtlnfialfkipdjaaVal
import Derived.Test.YtlnfialfkipdjaaGameL
import Derived.Test.YtlnfialfkipdjaaChains
import Derived.Deep.Cut
import Derived.BigQuiet
namespace Go.Proofs.Ytlnfialfkipdjaa
open Go.RowKit
set_option linter.unusedVariables false

theorem hcI {w : World} {g : Nat} (m : Mv) (h0 : w.cell? ⟨g, 0, none⟩ = some (.int .i64 m.1)) (h1 : w.cell? ⟨g, 1, none⟩ = some (.int .i64 m.2.1)) (h2 : w.cell? ⟨g, 2, none⟩ = some (.string (endS m.2.2))) :
    ∀ j u, (encI m)[j]? = some u → w.cell? ⟨g, j, none⟩ = some u := fun j u hj => by
  match j, hj with
  | 0, hj => simp [encI] at hj; subst hj; exact h0
  | 1, hj => simp [encI] at hj; subst hj; exact h1
  | 2, hj => simp [encI] at hj; subst hj; exact h2

set_option maxRecDepth 100000 in
set_option maxHeartbeats 1000000 in
theorem c_hasNumber (a b q : Int) (w : World) : Calls Try.prog 206 #[.agg #[.int .i64 a, .int .i64 b], .int .i64 q] w fun e w' => e = .returned (.bool (hasB a b q)) ∧ Below w.heap.size w w' := by
  have hb0 : Below w.heap.size w (w.alloc (.cells #[.int .i64 a, .int .i64 b] 95)) := (Below.refl _ _).alloc (Nat.le_refl _) _
  rcases hasB_cases a b q with ⟨p1, z⟩ | ⟨p1, p2, z⟩ | ⟨p1, p2, z⟩ <;> rw [z] <;> clear z
  all_goals
    go_enter Try.func206, Try.ntmps206
    go_wp2
    go_ret
    exact ⟨rfl, hb0⟩

set_option maxRecDepth 100000 in
set_option maxHeartbeats 1000000 in
theorem c_gHand (AF : Option Addr) (cF : Nat) (F : List (Int × Int)) (AS : Option Addr) (cS : Nat) (S : List (Int × Int)) (AR : Option Addr) (cR : Nat) (R : List Int) (t u : Int) (w : World) (ht : t = 0 ∨ t = 1) :
    Calls Try.prog 100 #[.agg #[.slice AF F.length cF, .slice AS S.length cS, .slice AR R.length cR, .int .i64 t, .int .i64 u]] w fun e w' => e = .returned (if t = 1 then .slice AS S.length cS else .slice AF F.length cF) ∧ Below w.heap.size w w' := by
  rcases ht with ht | ht
  · rw [if_neg (by omega)]
    have et : (t == 0) = true := by simp [ht]
    clear ht
    go_enter Try.func100, Try.ntmps100
    go_wp2_with fail
    obtain ⟨w0, hw0⟩ : ∃ w0, w0 = w.alloc (.cells #[.slice AF F.length cF, .slice AS S.length cS, .slice AR R.length cR, .int .i64 t, .int .i64 u] 43) := ⟨_, rfl⟩
    rw [← hw0]
    have ba0 : BoxAt w0 w.heap.size (.slice AF F.length cF) (.slice AS S.length cS) (.slice AR R.length cR) (.int .i64 t) (.int .i64 u) := by rw [hw0]; exact BoxAt.fresh w _ _ _ _ _ _
    have hb0 : Below w.heap.size w w0 := by rw [hw0]; go_grown
    clear hw0
    have x0 := ba0.c0
    have x1 := ba0.c1
    have x2 := ba0.c2
    have x3 := ba0.c3
    have x4 := ba0.c4
    go_wp2
    go_ret
    exact ⟨rfl, hb0⟩
  · rw [if_pos ht]
    have et : (t == 0) = false := by simp [ht]
    clear ht
    go_enter Try.func100, Try.ntmps100
    go_wp2_with fail
    obtain ⟨w0, hw0⟩ : ∃ w0, w0 = w.alloc (.cells #[.slice AF F.length cF, .slice AS S.length cS, .slice AR R.length cR, .int .i64 t, .int .i64 u] 43) := ⟨_, rfl⟩
    rw [← hw0]
    have ba0 : BoxAt w0 w.heap.size (.slice AF F.length cF) (.slice AS S.length cS) (.slice AR R.length cR) (.int .i64 t) (.int .i64 u) := by rw [hw0]; exact BoxAt.fresh w _ _ _ _ _ _
    have hb0 : Below w.heap.size w w0 := by rw [hw0]; go_grown
    clear hw0
    have x0 := ba0.c0
    have x1 := ba0.c1
    have x2 := ba0.c2
    have x3 := ba0.c3
    have x4 := ba0.c4
    go_wp2
    go_ret
    exact ⟨rfl, hb0⟩

theorem Try.info_move : (Try.prog.info? 198).map (fun i => (i.zero, i.size, i.bytes)) = some (some (.agg #[.int .i64 0, .int .i64 0, .string ⟨#[]⟩]), 3, 32) := by kernel_rfl

abbrev RetMv (w : World) (ms : List Mv) : Ending → World → Prop := RetE encI 3 198 w ms

theorem wp_append_M {w : World} {ops : Array Oper} {rest : List Oper} {o : Oper} {a : Act} {Q : Exit → Act → World → Prop} (hgd : o.guard = none) (s x : Operand)
    (ho : o.op = .call { callee := .builtin .append, args := #[s, x], argTypes := #[194, 194] }) (base : Nat) (v : Value) (ts : List Mv) (hs : a.eval s = v)
    (hown : w.ownsRow base 198 3 v ts.length (cellsE encI ts)) (y : Mv) (g : Nat) (hx : a.eval x = .slice (some ⟨g, 0, none⟩) 1 1)
    (h0 : w.cell? ⟨g, 0, none⟩ = some (.int .i64 y.1)) (h1 : w.cell? ⟨g, 1, none⟩ = some (.int .i64 y.2.1)) (h2 : w.cell? ⟨g, 2, none⟩ = some (.string (endS y.2.2))) (hlen : ts.length ≤ 1048576) (hbase : base ≤ w.heap.size)
    (h : ∀ A c w', w'.ownsRow base 198 3 (.slice A (ts ++ [y]).length c) (ts ++ [y]).length (cellsE encI (ts ++ [y])) → w.grownBy w' v.ownBlock → ((Value.slice A (ts ++ [y]).length c).ownBlock = v.ownBlock ∨ (Value.slice A (ts ++ [y]).length c).ownBlock = some w.heap.size) → wpList Try.prog ops Q rest (a.put o.dst (.slice A (ts ++ [y]).length c)) w') :
    wpList Try.prog ops Q (o :: rest) a w := by
  obtain ⟨i0, hi, hz0, hz1, hz2⟩ := info_parts Try.info_move
  exact wp_append_E encI_len encI_one Try.underlying194 hi hz0 hz1 hz2 rfl (by decide) (by decide) hgd s x ho base v ts hs hown y g hx (hcI y h0 h1 h2) hlen hbase h

theorem SMov.keep {α : Type} {enc : α → List Value} {n gb tb e : Nat} {v0 v1 v2 v3 v4 : Value} {a b : Int} {w2 W W' : World} {A' : Option Addr} {c' : Nat} {ms : List α} (h : SMov gb tb v0 v1 v2 v3 v4 a b e n enc w2 A' c' ms W) (hb : Below W.heap.size W W') :
    SMov gb tb v0 v1 v2 v3 v4 a b e n enc w2 A' c' ms W' := ⟨h.ba.keep hb, keepc hb h.p0, keepc hb h.p1, own_keep h.own hb, h.off, bstep h.hb hb, h.glt⟩

set_option maxRecDepth 100000 in
set_option maxHeartbeats 4000000 in
theorem c_layings (AF : Option Addr) (cF : Nat) (F : List (Int × Int)) (AS : Option Addr) (cS : Nat) (S : List (Int × Int)) (AR : Option Addr) (cR : Nat) (R : List Int) (t u : Int) (w : World) (hF : RdT w AF F) (hS : RdT w AS S) (hR : RdI w AR R) (gF : handB F = true) (gS : handB S = true) (lR : R.length ≤ 1048576) (ht2 : t = 0 ∨ t = 1) :
    Calls Try.prog 163 #[.agg #[.slice AF F.length cF, .slice AS S.length cS, .slice AR R.length cR, .int .i64 t, .int .i64 u]] w (RetMv w (laysL R (handG F S t))) := by
  by_cases ht : t = 1
  · have eh : handG F S t = S := if_pos ht
    have ConS := fun W (hb : Below w.heap.size w W) => c_inOrder AS cS S W (hS.below hb) gS
    have hl : laysL R S = laysTo R (sortL S) (sortL S).length := rfl
    have hll := sortL_len S
    rw [eh, hl]
    have Ht := Lib.hid ht
    have Ht2 := Lib.hid ht2
    clear eh hl gF gS hF hS ht ht2
    generalize sortL S = L at *
    go_enter Try.func163, Try.ntmps163
    go_wp2_with fail
    obtain ⟨w0, hw0⟩ : ∃ w0, w0 = w.alloc (.cells #[.slice AF F.length cF, .slice AS S.length cS, .slice AR R.length cR, .int .i64 t, .int .i64 u] 43) := ⟨_, rfl⟩
    rw [← hw0]
    have ba0 : BoxAt w0 w.heap.size (.slice AF F.length cF) (.slice AS S.length cS) (.slice AR R.length cR) (.int .i64 t) (.int .i64 u) := by rw [hw0]; exact BoxAt.fresh w _ _ _ _ _ _
    have hb0 : Below w.heap.size w w0 := by rw [hw0]; go_grown
    clear hw0
    refine (c_gHand AF cF F AS cS S AR cR R t u w0 Ht2.out).mono ?_
    rintro e w1 ⟨rfl, h1⟩
    have hb1 := bstep hb0 h1
    have ba1 := ba0.keep h1
    clear ba0
    rw [if_pos Ht.out]
    go_wp2_with fail
    refine (ConS w1 hb1).mono ?_
    rintro e w2 ⟨A2, c2, rfl, o2, h2⟩
    have hb2 := bstep hb1 h2
    have ba2 := ba1.keep h2
    clear ba1 Ht Ht2
    have glt := ba2.lt
    have r2 := RdT.of_own o2
    have hrR2 := hR.below hb2
    clear hR o2 ConS
    go_wp2
    go_loopw [3, 10] (fun v i wr => ∃ (k : Nat) (A' : Option Addr) (c' : Nat), k ≤ L.length ∧ i = .int .i64 k ∧ v = .slice A' (laysTo R L k).length c' ∧ wr.ownsRow w2.heap.size 198 3 (.slice A' (laysTo R L k).length c') (laysTo R L k).length (cellsE encI (laysTo R L k)) ∧ BoxAt wr w.heap.size (.slice AF F.length cF) (.slice AS S.length cS) (.slice AR R.length cR) (.int .i64 t) (.int .i64 u) ∧ Below w2.heap.size w2 wr) (fun _ i _ => L.length - (intOf i).toNat)
    case atStart => exact ⟨0, none, 0, Nat.zero_le _, rfl, by rw [laysTo_zero]; rfl, by rw [laysTo_zero]; exact World.ownsRow_nil _ _ _ _, ba2, Below.refl _ _⟩
    case round =>
      obtain ⟨k, A', c', hk, rfl, rfl, hown, hba, hb⟩ := hrel
      clear ba2
      have hz := hb.size
      have hms := laysTo_len R L k
      by_cases hlt : k < L.length
      · obtain ⟨bl, ol, rfl, hbl, hcl⟩ := r2.at_ hlt
        have g0 := keepc hb (hcl k hlt).1
        have g1 := keepc hb (hcl k hlt).2
        have Hst := Lib.hid (laysTo_step (R := R) hlt)
        obtain ⟨a, hL0⟩ : ∃ a, L[k].1 = a := ⟨_, rfl⟩
        obtain ⟨b, hL1⟩ : ∃ b, L[k].2 = b := ⟨_, rfl⟩
        rw [hL0] at g0
        rw [hL1] at g1
        clear hcl r2
        go_upto_region 5 with (fail)
        obtain ⟨v1, hv1⟩ : ∃ v1, v1 = wr.alloc (.cells #[.int .i64 a, .int .i64 b] 95) := ⟨_, rfl⟩
        rw [← hv1]
        have b1 : Below wr.heap.size wr v1 := by rw [hv1]; exact (Below.refl _ _).alloc (Nat.le_refl _) _
        have R1 : SMov w.heap.size wr.heap.size (.slice AF F.length cF) (.slice AS S.length cS) (.slice AR R.length cR) (.int .i64 t) (.int .i64 u) a b 198 3 encI w2 A' c' (laysTo R L k) v1 := ⟨hba.keep b1, by rw [hv1]; simp, by rw [hv1]; simp, own_keep hown b1, fun g hg => by have := (hown.lt g hg).2; omega, hb.trans (b1.mono hz), glt⟩
        clear g0 g1 hv1 hown hba
        by_cases hR0 : R.length = 0
        · have e0 : ((R.length : Int) == 0) = true := by simp [hR0]
          have e1 : decide ((R.length : Int) > 0) = false := by simp [hR0]
          have e2 : decide ((0 : Int) < (R.length : Int)) = false := by simp [hR0]
          have e3 : ¬ 0 < R.length := by omega
          have e4 : decide (0 < R.length) = false := by simp [hR0]
          have hlay : layOf R L[k] = [(L[k].1, L[k].2, 1)] := by unfold layOf leftB rightB; simp [hR0]
          rw [hL0, hL1] at hlay
          clear hL0 hL1 hrR2 hR0
          have x2 := R1.ba.c2
          go_quiet (fail)
          obtain ⟨v2, hv2⟩ : ∃ v2, v2 = v1.drewN nq := ⟨_, rfl⟩
          rw [← hv2]
          have R2 := R1.drew nq
          rw [← hv2] at R2
          clear hv2 x2 R1
          have q02 := R2.p0
          have q12 := R2.p1
          go_upto_region 7 with (first | (at_builtin; refine wp_append_M rfl _ _ rfl w2.heap.size _ (laysTo R L k) rfl (own_keep R2.own ((Below.refl _ _).alloc (Nat.le_refl _) _)) (a, b, 1) v2.heap.size rfl (by simp) (by simp) (by simp [endS]) (by (try simp); omega) (by have := R2.hb.size; (try simp); omega) ?_; intro A5 c5 w5 o5 g5 h5; have R5 := R2.app o5 g5 h5; clear o5 g5 h5; obtain ⟨T5, hT5⟩ : ∃ T, T = laysTo R L k ++ [(a, b, 1)] := ⟨_, rfl⟩; have hl5 : T5.length ≤ 2 * L.length + 5 := (by rw [hT5]; (try simp); omega); rw [← hT5] at R5 ⊢; have HT5 := Lib.hid hT5; clear hT5; have q05 := R5.p0; have q15 := R5.p1))
          have x5 := R5.ba.c2
          go_quiet (fail)
          obtain ⟨v6, hv6⟩ : ∃ v6, v6 = w5.drewN nq := ⟨_, rfl⟩
          rw [← hv6]
          have R7 := R5.drew nq
          rw [← hv6] at R7
          clear hv6 x5 R5 e0 e1 e2 e3 e4
          go_wp2
          go_roundw
          case rel =>
            have hst : laysTo R L (k + 1) = T5 := by rw [HT5.out, Hst.out, hlay]; (try simp)
            exact ⟨k + 1, A5, c5, by omega, by go_num, by rw [hst], by rw [hst]; exact R7.own, R7.ba, R7.hb⟩
          case measure => first | omega | (simp [intOf]; done) | (simp [intOf]; omega)
        · have e0 : ((R.length : Int) == 0) = false := by rw [beq_eq_false_iff_ne]; omega
          have e1 : decide ((R.length : Int) > 0) = true := by rw [decide_eq_true_eq]; omega
          have e2 : decide ((0 : Int) < (R.length : Int)) = true := by rw [decide_eq_true_eq]; omega
          obtain ⟨br, orr, hAR, hbr, hcR⟩ := hrR2.at_ (k := 0) (by omega)
          subst hAR
          have y0w : w2.cell? ⟨br, orr, none⟩ = some (.int .i64 (fstI R)) := by
            have := hcR 0 (by omega)
            rw [Nat.add_zero] at this
            rw [this]; unfold fstI; rw [List.getD_eq_getElem?_getD, List.getElem?_eq_getElem (by omega)]; rfl
          have ylw : w2.cell? ⟨br, orr + (R.length - 1), none⟩ = some (.int .i64 (lstI R)) := by
            rw [hcR (R.length - 1) (by omega)]; unfold lstI; rw [List.getD_eq_getElem?_getD, List.getElem?_eq_getElem (by omega)]; rfl
          obtain ⟨n, hn⟩ : ∃ n, R.length = n + 1 := ⟨R.length - 1, by omega⟩
          have hL : layOf R L[k] = (if hasB a b (fstI R) then [(a, b, 1)] else []) ++ (if hasB a b (lstI R) then [(a, b, 2)] else []) := by
            unfold layOf leftB rightB; rw [decide_eq_false hR0, decide_eq_true (show 0 < R.length by omega), hL0, hL1]; simp
          rw [show R.length - 1 = n from by omega] at ylw
          generalize fstI R = q1 at *
          generalize lstI R = q2 at *
          have l0 : 0 < R.length := by omega
          have l1 : (0 : Int) < (R.length : Int) := by omega
          have iw : IntKind.i64.wrap ((R.length : Int) - 1) = (n : Int) := by rw [IntWalk.i64_in _ (by omega)]; omega
          have i0 : (0 : Int) ≤ (n : Int) := by omega
          have i1 : (n : Int) < (R.length : Int) := by omega
          clear hL0 hL1 hR0 hcR hrR2 hn
          have y3 := keepc R1.hb y0w
          clear y0w
          have x23 := R1.ba.c2
          have p03 := R1.p0
          have p13 := R1.p1
          refine wp_region_held_drew (S := fun w' => w'.cell? ⟨w.heap.size, 2, none⟩ = some (.slice (some ⟨br, orr, none⟩) R.length cR) ∧ w'.cell? ⟨wr.heap.size, 0, none⟩ = some (.int .i64 a) ∧ w'.cell? ⟨wr.heap.size, 1, none⟩ = some (.int .i64 b) ∧ w'.cell? ⟨br, orr, none⟩ = some (.int .i64 q1) ∧ Below v1.heap.size v1 w') (by kernel_rfl) ⟨g1d _ x23, g1d _ p03, g1d _ p13, g1d _ y3, (Below.refl _ _).drew⟩ (fun hH0 => ?_)
          refine reg_take 0 rfl (by kernel_rfl) (by kernel_rfl) (by kernel_rfl) (fun _ _ _ h => h) (by rfl) (fun w _ => by first | (go_simp; done) | (go_simp; with_reducible rfl)) (by assumption) ?_
          try simp only [Act.put, List.setIfInBounds_toArray, List.set_cons_zero, List.set_cons_succ, List.getElem_toArray, List.getElem_cons_zero]
          refine reg_take 1 rfl (by kernel_rfl) (by kernel_rfl) (by kernel_rfl) (fun _ _ _ h => h) (by rfl) (fun w hSw => by (try dsimp only at hSw); first | (go_simp; done) | (go_simp; with_reducible rfl)) (by assumption) ?_
          try simp only [Act.put, List.setIfInBounds_toArray, List.set_cons_zero, List.set_cons_succ, List.getElem_toArray, List.getElem_cons_zero, List.getElem_cons_succ]
          refine reg_take 2 rfl (by kernel_rfl) (by kernel_rfl) (by kernel_rfl) (fun _ _ _ h => h) (by rfl) (fun w _ => by first | (go_simp; done) | (go_simp; with_reducible rfl)) (by assumption) ?_
          try simp only [Act.put, List.setIfInBounds_toArray, List.set_cons_zero, List.set_cons_succ, List.getElem_toArray, List.getElem_cons_zero, List.getElem_cons_succ]
          refine reg_take 3 rfl (by kernel_rfl) (by kernel_rfl) (by kernel_rfl) (fun _ _ _ h => h) (by rfl) (fun w _ => by first | (go_simp; done) | (go_simp; with_reducible rfl)) (by assumption) ?_
          try simp only [Act.put, List.setIfInBounds_toArray, List.set_cons_zero, List.set_cons_succ, List.getElem_toArray, List.getElem_cons_zero, List.getElem_cons_succ]
          refine reg_take 4 rfl (by kernel_rfl) (by kernel_rfl) (by kernel_rfl) (fun _ _ _ h => h) (by rfl) (fun w _ => by first | (go_simp; done) | (go_simp; with_reducible rfl)) (by assumption) ?_
          try simp only [Act.put, List.setIfInBounds_toArray, List.set_cons_zero, List.set_cons_succ, List.getElem_toArray, List.getElem_cons_zero, List.getElem_cons_succ]
          refine reg_take 5 rfl (by kernel_rfl) (by kernel_rfl) (by kernel_rfl) (fun _ _ _ h => h) (by rfl) (fun w hSw => by (try dsimp only at hSw); first | (go_simp; done) | (go_simp; with_reducible rfl)) (by assumption) ?_
          try simp only [Act.put, List.setIfInBounds_toArray, List.set_cons_zero, List.set_cons_succ, List.getElem_toArray, List.getElem_cons_zero, List.getElem_cons_succ]
          refine reg_take 6 rfl (by kernel_rfl) (by kernel_rfl) (by kernel_rfl) (fun _ _ _ h => h) (by rfl) (fun w _ => by first | (go_simp; done) | (go_simp; with_reducible rfl)) (by assumption) ?_
          try simp only [Act.put, List.setIfInBounds_toArray, List.set_cons_zero, List.set_cons_succ, List.getElem_toArray, List.getElem_cons_zero, List.getElem_cons_succ]
          refine reg_take 7 rfl (by kernel_rfl) (by kernel_rfl) (by kernel_rfl) (fun _ _ _ h => h) (by rfl) (fun w hSw => by (try dsimp only at hSw); first | (go_simp; done) | (go_simp; with_reducible rfl)) (by assumption) ?_
          try simp only [Act.put, List.setIfInBounds_toArray, List.set_cons_zero, List.set_cons_succ, List.getElem_toArray, List.getElem_cons_zero, List.getElem_cons_succ]
          refine reg_take 8 rfl (by kernel_rfl) (by kernel_rfl) (by kernel_rfl) (fun _ _ _ h => h) (by rfl) (fun w _ => by first | (go_simp; done) | (go_simp; with_reducible rfl)) (by assumption) ?_
          try simp only [Act.put, List.setIfInBounds_toArray, List.set_cons_zero, List.set_cons_succ, List.getElem_toArray, List.getElem_cons_zero, List.getElem_cons_succ]
          refine reg_take 9 rfl (by kernel_rfl) (by kernel_rfl) (by kernel_rfl) (fun _ _ _ h => h) (by rfl) (fun w hSw => by (try dsimp only at hSw); first | (go_simp; done) | (go_simp; with_reducible rfl)) (by assumption) ?_
          try simp only [Act.put, List.setIfInBounds_toArray, List.set_cons_zero, List.set_cons_succ, List.getElem_toArray, List.getElem_cons_zero, List.getElem_cons_succ]
          refine wpAnyH_ready (rs := [10]) (by kernel_rfl) (by simp) ?_
          refine AllReadyH.cons (i := 10) rfl (fun K hK => ?_) AllReadyH.nil
          go_simp
          go_at_call 206
          refine (c_hasNumber a b q1 _).mono ?_
          rintro e w3 ⟨rfl, hb3⟩
          have f30 := keepc hb3 (g1d _ x23)
          have f31 := keepc hb3 (g1d _ p03)
          have f32 := keepc hb3 (g1d _ p13)
          have f33 := keepc hb3 (g1d _ y3)
          have f34 := bstep (Below.refl _ v1).drew hb3
          refine hK.out _ _ ⟨f30, f31, f32, f33, f34⟩ (fun hH10 => ?_)
          clear hK K
          try simp only [Act.put, List.setIfInBounds_toArray, List.set_cons_zero, List.set_cons_succ, List.getElem_toArray, List.getElem_cons_zero, List.getElem_cons_succ]
          refine reg_take 11 rfl (by kernel_rfl) (by kernel_rfl) (by kernel_rfl) (fun _ _ _ h => h) (by rfl) (fun w _ => by first | (go_simp; done) | (go_simp; with_reducible rfl)) (by assumption) ?_
          try simp only [Act.put, List.setIfInBounds_toArray, List.set_cons_zero, List.set_cons_succ, List.getElem_toArray, List.getElem_cons_zero, List.getElem_cons_succ]
          refine wpAnyH_done (by kernel_rfl) ?_ _
          have R3 := R1.keep f34
          clear hb3 f30 f31 f32 f33 f34 R1 x23 p03 p13 y3
          have q03 := R3.p0
          have q13 := R3.p1
          cases z1 : hasB a b q1
          · rw [z1] at hL
            go_upto_region 7 with (fail)
            have x24 := R3.ba.c2
            have p04 := R3.p0
            have p14 := R3.p1
            have y4 := keepc R3.hb ylw
            refine wp_region_held_drew (S := fun w' => w'.cell? ⟨w.heap.size, 2, none⟩ = some (.slice (some ⟨br, orr, none⟩) R.length cR) ∧ w'.cell? ⟨wr.heap.size, 0, none⟩ = some (.int .i64 a) ∧ w'.cell? ⟨wr.heap.size, 1, none⟩ = some (.int .i64 b) ∧ w'.cell? ⟨br, orr + n, none⟩ = some (.int .i64 q2) ∧ Below w3.heap.size w3 w') (by kernel_rfl) ⟨g1d _ x24, g1d _ p04, g1d _ p14, g1d _ y4, (Below.refl _ _).drew⟩ (fun hH0 => ?_)
            refine reg_take 0 rfl (by kernel_rfl) (by kernel_rfl) (by kernel_rfl) (fun _ _ _ h => h) (by rfl) (fun w _ => by first | (go_simp; done) | (go_simp; with_reducible rfl)) (by assumption) ?_
            try simp only [Act.put, List.setIfInBounds_toArray, List.set_cons_zero, List.set_cons_succ, List.getElem_toArray, List.getElem_cons_zero]
            refine reg_take 1 rfl (by kernel_rfl) (by kernel_rfl) (by kernel_rfl) (fun _ _ _ h => h) (by rfl) (fun w hSw => by (try dsimp only at hSw); first | (go_simp; done) | (go_simp; with_reducible rfl)) (by assumption) ?_
            try simp only [Act.put, List.setIfInBounds_toArray, List.set_cons_zero, List.set_cons_succ, List.getElem_toArray, List.getElem_cons_zero, List.getElem_cons_succ]
            refine reg_take 2 rfl (by kernel_rfl) (by kernel_rfl) (by kernel_rfl) (fun _ _ _ h => h) (by rfl) (fun w _ => by first | (go_simp; done) | (go_simp; with_reducible rfl)) (by assumption) ?_
            try simp only [Act.put, List.setIfInBounds_toArray, List.set_cons_zero, List.set_cons_succ, List.getElem_toArray, List.getElem_cons_zero, List.getElem_cons_succ]
            refine reg_take 3 rfl (by kernel_rfl) (by kernel_rfl) (by kernel_rfl) (fun _ _ _ h => h) (by rfl) (fun w _ => by first | (go_simp; done) | (go_simp; with_reducible rfl)) (by assumption) ?_
            try simp only [Act.put, List.setIfInBounds_toArray, List.set_cons_zero, List.set_cons_succ, List.getElem_toArray, List.getElem_cons_zero, List.getElem_cons_succ]
            refine reg_take 4 rfl (by kernel_rfl) (by kernel_rfl) (by kernel_rfl) (fun _ _ _ h => h) (by rfl) (fun w _ => by first | (go_simp; done) | (go_simp; with_reducible rfl)) (by assumption) ?_
            try simp only [Act.put, List.setIfInBounds_toArray, List.set_cons_zero, List.set_cons_succ, List.getElem_toArray, List.getElem_cons_zero, List.getElem_cons_succ]
            refine reg_take 5 rfl (by kernel_rfl) (by kernel_rfl) (by kernel_rfl) (fun _ _ _ h => h) (by rfl) (fun w hSw => by (try dsimp only at hSw); first | (go_simp; done) | (go_simp; with_reducible rfl)) (by assumption) ?_
            try simp only [Act.put, List.setIfInBounds_toArray, List.set_cons_zero, List.set_cons_succ, List.getElem_toArray, List.getElem_cons_zero, List.getElem_cons_succ]
            refine reg_take 6 rfl (by kernel_rfl) (by kernel_rfl) (by kernel_rfl) (fun _ _ _ h => h) (by rfl) (fun w _ => by first | (go_simp; done) | (go_simp; with_reducible rfl)) (by assumption) ?_
            try simp only [Act.put, List.setIfInBounds_toArray, List.set_cons_zero, List.set_cons_succ, List.getElem_toArray, List.getElem_cons_zero, List.getElem_cons_succ]
            refine reg_take 7 rfl (by kernel_rfl) (by kernel_rfl) (by kernel_rfl) (fun _ _ _ h => h) (by rfl) (fun w hSw => by (try dsimp only at hSw); first | (go_simp; done) | (go_simp; with_reducible rfl)) (by assumption) ?_
            try simp only [Act.put, List.setIfInBounds_toArray, List.set_cons_zero, List.set_cons_succ, List.getElem_toArray, List.getElem_cons_zero, List.getElem_cons_succ]
            refine reg_take 8 rfl (by kernel_rfl) (by kernel_rfl) (by kernel_rfl) (fun _ _ _ h => h) (by rfl) (fun w _ => by first | (go_simp; done) | (go_simp; with_reducible rfl)) (by assumption) ?_
            try simp only [Act.put, List.setIfInBounds_toArray, List.set_cons_zero, List.set_cons_succ, List.getElem_toArray, List.getElem_cons_zero, List.getElem_cons_succ]
            refine reg_take 9 rfl (by kernel_rfl) (by kernel_rfl) (by kernel_rfl) (fun _ _ _ h => h) (by rfl) (fun w hSw => by (try dsimp only at hSw); first | (go_simp; done) | (go_simp; with_reducible rfl)) (by assumption) ?_
            try simp only [Act.put, List.setIfInBounds_toArray, List.set_cons_zero, List.set_cons_succ, List.getElem_toArray, List.getElem_cons_zero, List.getElem_cons_succ]
            refine reg_take 10 rfl (by kernel_rfl) (by kernel_rfl) (by kernel_rfl) (fun _ _ _ h => h) (by rfl) (fun w _ => by first | (go_simp; done) | (go_simp; with_reducible rfl)) (by assumption) ?_
            try simp only [Act.put, List.setIfInBounds_toArray, List.set_cons_zero, List.set_cons_succ, List.getElem_toArray, List.getElem_cons_zero, List.getElem_cons_succ]
            refine reg_take 11 rfl (by kernel_rfl) (by kernel_rfl) (by kernel_rfl) (fun _ _ _ h => h) (by rfl) (fun w _ => by first | (go_simp; done) | (go_simp; with_reducible rfl)) (by assumption) ?_
            try simp only [Act.put, List.setIfInBounds_toArray, List.set_cons_zero, List.set_cons_succ, List.getElem_toArray, List.getElem_cons_zero, List.getElem_cons_succ]
            refine reg_take 12 rfl (by kernel_rfl) (by kernel_rfl) (by kernel_rfl) (fun _ _ _ h => h) (by rfl) (fun w _ => by first | (go_simp; done) | (go_simp; with_reducible rfl)) (by assumption) ?_
            try simp only [Act.put, List.setIfInBounds_toArray, List.set_cons_zero, List.set_cons_succ, List.getElem_toArray, List.getElem_cons_zero, List.getElem_cons_succ]
            refine reg_take 13 rfl (by kernel_rfl) (by kernel_rfl) (by kernel_rfl) (fun _ _ _ h => h) (by rfl) (fun w hSw => by (try dsimp only at hSw); first | (go_simp; done) | (go_simp; with_reducible rfl)) (by assumption) ?_
            try simp only [Act.put, List.setIfInBounds_toArray, List.set_cons_zero, List.set_cons_succ, List.getElem_toArray, List.getElem_cons_zero, List.getElem_cons_succ]
            refine wpAnyH_ready (rs := [14]) (by kernel_rfl) (by simp) ?_
            refine AllReadyH.cons (i := 14) rfl (fun K hK => ?_) AllReadyH.nil
            go_simp
            go_at_call 206
            refine (c_hasNumber a b q2 _).mono ?_
            rintro e w4 ⟨rfl, hb4⟩
            have f40 := keepc hb4 (g1d _ x24)
            have f41 := keepc hb4 (g1d _ p04)
            have f42 := keepc hb4 (g1d _ p14)
            have f43 := keepc hb4 (g1d _ y4)
            have f44 := bstep (Below.refl _ w3).drew hb4
            refine hK.out _ _ ⟨f40, f41, f42, f43, f44⟩ (fun hH14 => ?_)
            clear hK K
            try simp only [Act.put, List.setIfInBounds_toArray, List.set_cons_zero, List.set_cons_succ, List.getElem_toArray, List.getElem_cons_zero, List.getElem_cons_succ]
            refine reg_take 15 rfl (by kernel_rfl) (by kernel_rfl) (by kernel_rfl) (fun _ _ _ h => h) (by rfl) (fun w _ => by first | (go_simp; done) | (go_simp; with_reducible rfl)) (by assumption) ?_
            try simp only [Act.put, List.setIfInBounds_toArray, List.set_cons_zero, List.set_cons_succ, List.getElem_toArray, List.getElem_cons_zero, List.getElem_cons_succ]
            refine wpAnyH_done (by kernel_rfl) ?_ _
            have R4 := R3.keep f44
            clear hb4 f40 f41 f42 f43 f44 R3 x24 p04 p14 y4
            have q04 := R4.p0
            have q14 := R4.p1
            cases z2 : hasB a b q2
            · have hlay := hL
              rw [z2] at hlay
              clear hL z1 z2
              go_wp2
              go_roundw
              case rel =>
                have hst : laysTo R L (k + 1) = laysTo R L k := by rw [Hst.out, hlay]; simp
                exact ⟨k + 1, A', c', by omega, by go_num, by rw [hst], by rw [hst]; exact R4.own, R4.ba, R4.hb⟩
              case measure => first | omega | (simp [intOf]; done) | (simp [intOf]; omega)
            · have hlay := hL
              rw [z2] at hlay
              clear hL z1 z2
              go_wp2_with (first | (at_builtin; refine wp_append_M rfl _ _ rfl w2.heap.size _ (laysTo R L k) rfl (own_keep R4.own ((Below.refl _ _).alloc (Nat.le_refl _) _)) (a, b, 2) w4.heap.size rfl (by simp) (by simp) (by simp [endS]) (by (try simp); omega) (by have := R4.hb.size; (try simp); omega) ?_; intro A6 c6 w6 o6 g6 h6; have R6 := R4.app o6 g6 h6; clear o6 g6 h6; obtain ⟨T6, hT6⟩ : ∃ T, T = laysTo R L k ++ [(a, b, 2)] := ⟨_, rfl⟩; have hl6 : T6.length ≤ 2 * L.length + 6 := (by rw [hT6]; (try simp); omega); rw [← hT6] at R6 ⊢; have HT6 := Lib.hid hT6; clear hT6; have q06 := R6.p0; have q16 := R6.p1))
              go_roundw
              case rel =>
                have hst : laysTo R L (k + 1) = T6 := by rw [HT6.out, Hst.out, hlay]; (try simp)
                exact ⟨k + 1, A6, c6, by omega, by go_num, by rw [hst], by rw [hst]; exact R6.own, R6.ba, R6.hb⟩
              case measure => first | omega | (simp [intOf]; done) | (simp [intOf]; omega)
          · rw [z1] at hL
            go_upto_region 7 with (first | (at_builtin; refine wp_append_M rfl _ _ rfl w2.heap.size _ (laysTo R L k) rfl (own_keep R3.own ((Below.refl _ _).alloc (Nat.le_refl _) _)) (a, b, 1) w3.heap.size rfl (by simp) (by simp) (by simp [endS]) (by (try simp); omega) (by have := R3.hb.size; (try simp); omega) ?_; intro A5 c5 w5 o5 g5 h5; have R5 := R3.app o5 g5 h5; clear o5 g5 h5; obtain ⟨T5, hT5⟩ : ∃ T, T = laysTo R L k ++ [(a, b, 1)] := ⟨_, rfl⟩; have hl5 : T5.length ≤ 2 * L.length + 5 := (by rw [hT5]; (try simp); omega); rw [← hT5] at R5 ⊢; have HT5 := Lib.hid hT5; clear hT5; have q05 := R5.p0; have q15 := R5.p1))
            have x24 := R5.ba.c2
            have p04 := R5.p0
            have p14 := R5.p1
            have y4 := keepc R5.hb ylw
            refine wp_region_held_drew (S := fun w' => w'.cell? ⟨w.heap.size, 2, none⟩ = some (.slice (some ⟨br, orr, none⟩) R.length cR) ∧ w'.cell? ⟨wr.heap.size, 0, none⟩ = some (.int .i64 a) ∧ w'.cell? ⟨wr.heap.size, 1, none⟩ = some (.int .i64 b) ∧ w'.cell? ⟨br, orr + n, none⟩ = some (.int .i64 q2) ∧ Below w5.heap.size w5 w') (by kernel_rfl) ⟨g1d _ x24, g1d _ p04, g1d _ p14, g1d _ y4, (Below.refl _ _).drew⟩ (fun hH0 => ?_)
            refine reg_take 0 rfl (by kernel_rfl) (by kernel_rfl) (by kernel_rfl) (fun _ _ _ h => h) (by rfl) (fun w _ => by first | (go_simp; done) | (go_simp; with_reducible rfl)) (by assumption) ?_
            try simp only [Act.put, List.setIfInBounds_toArray, List.set_cons_zero, List.set_cons_succ, List.getElem_toArray, List.getElem_cons_zero]
            refine reg_take 1 rfl (by kernel_rfl) (by kernel_rfl) (by kernel_rfl) (fun _ _ _ h => h) (by rfl) (fun w hSw => by (try dsimp only at hSw); first | (go_simp; done) | (go_simp; with_reducible rfl)) (by assumption) ?_
            try simp only [Act.put, List.setIfInBounds_toArray, List.set_cons_zero, List.set_cons_succ, List.getElem_toArray, List.getElem_cons_zero, List.getElem_cons_succ]
            refine reg_take 2 rfl (by kernel_rfl) (by kernel_rfl) (by kernel_rfl) (fun _ _ _ h => h) (by rfl) (fun w _ => by first | (go_simp; done) | (go_simp; with_reducible rfl)) (by assumption) ?_
            try simp only [Act.put, List.setIfInBounds_toArray, List.set_cons_zero, List.set_cons_succ, List.getElem_toArray, List.getElem_cons_zero, List.getElem_cons_succ]
            refine reg_take 3 rfl (by kernel_rfl) (by kernel_rfl) (by kernel_rfl) (fun _ _ _ h => h) (by rfl) (fun w _ => by first | (go_simp; done) | (go_simp; with_reducible rfl)) (by assumption) ?_
            try simp only [Act.put, List.setIfInBounds_toArray, List.set_cons_zero, List.set_cons_succ, List.getElem_toArray, List.getElem_cons_zero, List.getElem_cons_succ]
            refine reg_take 4 rfl (by kernel_rfl) (by kernel_rfl) (by kernel_rfl) (fun _ _ _ h => h) (by rfl) (fun w _ => by first | (go_simp; done) | (go_simp; with_reducible rfl)) (by assumption) ?_
            try simp only [Act.put, List.setIfInBounds_toArray, List.set_cons_zero, List.set_cons_succ, List.getElem_toArray, List.getElem_cons_zero, List.getElem_cons_succ]
            refine reg_take 5 rfl (by kernel_rfl) (by kernel_rfl) (by kernel_rfl) (fun _ _ _ h => h) (by rfl) (fun w hSw => by (try dsimp only at hSw); first | (go_simp; done) | (go_simp; with_reducible rfl)) (by assumption) ?_
            try simp only [Act.put, List.setIfInBounds_toArray, List.set_cons_zero, List.set_cons_succ, List.getElem_toArray, List.getElem_cons_zero, List.getElem_cons_succ]
            refine reg_take 6 rfl (by kernel_rfl) (by kernel_rfl) (by kernel_rfl) (fun _ _ _ h => h) (by rfl) (fun w _ => by first | (go_simp; done) | (go_simp; with_reducible rfl)) (by assumption) ?_
            try simp only [Act.put, List.setIfInBounds_toArray, List.set_cons_zero, List.set_cons_succ, List.getElem_toArray, List.getElem_cons_zero, List.getElem_cons_succ]
            refine reg_take 7 rfl (by kernel_rfl) (by kernel_rfl) (by kernel_rfl) (fun _ _ _ h => h) (by rfl) (fun w hSw => by (try dsimp only at hSw); first | (go_simp; done) | (go_simp; with_reducible rfl)) (by assumption) ?_
            try simp only [Act.put, List.setIfInBounds_toArray, List.set_cons_zero, List.set_cons_succ, List.getElem_toArray, List.getElem_cons_zero, List.getElem_cons_succ]
            refine reg_take 8 rfl (by kernel_rfl) (by kernel_rfl) (by kernel_rfl) (fun _ _ _ h => h) (by rfl) (fun w _ => by first | (go_simp; done) | (go_simp; with_reducible rfl)) (by assumption) ?_
            try simp only [Act.put, List.setIfInBounds_toArray, List.set_cons_zero, List.set_cons_succ, List.getElem_toArray, List.getElem_cons_zero, List.getElem_cons_succ]
            refine reg_take 9 rfl (by kernel_rfl) (by kernel_rfl) (by kernel_rfl) (fun _ _ _ h => h) (by rfl) (fun w hSw => by (try dsimp only at hSw); first | (go_simp; done) | (go_simp; with_reducible rfl)) (by assumption) ?_
            try simp only [Act.put, List.setIfInBounds_toArray, List.set_cons_zero, List.set_cons_succ, List.getElem_toArray, List.getElem_cons_zero, List.getElem_cons_succ]
            refine reg_take 10 rfl (by kernel_rfl) (by kernel_rfl) (by kernel_rfl) (fun _ _ _ h => h) (by rfl) (fun w _ => by first | (go_simp; done) | (go_simp; with_reducible rfl)) (by assumption) ?_
            try simp only [Act.put, List.setIfInBounds_toArray, List.set_cons_zero, List.set_cons_succ, List.getElem_toArray, List.getElem_cons_zero, List.getElem_cons_succ]
            refine reg_take 11 rfl (by kernel_rfl) (by kernel_rfl) (by kernel_rfl) (fun _ _ _ h => h) (by rfl) (fun w _ => by first | (go_simp; done) | (go_simp; with_reducible rfl)) (by assumption) ?_
            try simp only [Act.put, List.setIfInBounds_toArray, List.set_cons_zero, List.set_cons_succ, List.getElem_toArray, List.getElem_cons_zero, List.getElem_cons_succ]
            refine reg_take 12 rfl (by kernel_rfl) (by kernel_rfl) (by kernel_rfl) (fun _ _ _ h => h) (by rfl) (fun w _ => by first | (go_simp; done) | (go_simp; with_reducible rfl)) (by assumption) ?_
            try simp only [Act.put, List.setIfInBounds_toArray, List.set_cons_zero, List.set_cons_succ, List.getElem_toArray, List.getElem_cons_zero, List.getElem_cons_succ]
            refine reg_take 13 rfl (by kernel_rfl) (by kernel_rfl) (by kernel_rfl) (fun _ _ _ h => h) (by rfl) (fun w hSw => by (try dsimp only at hSw); first | (go_simp; done) | (go_simp; with_reducible rfl)) (by assumption) ?_
            try simp only [Act.put, List.setIfInBounds_toArray, List.set_cons_zero, List.set_cons_succ, List.getElem_toArray, List.getElem_cons_zero, List.getElem_cons_succ]
            refine wpAnyH_ready (rs := [14]) (by kernel_rfl) (by simp) ?_
            refine AllReadyH.cons (i := 14) rfl (fun K hK => ?_) AllReadyH.nil
            go_simp
            go_at_call 206
            refine (c_hasNumber a b q2 _).mono ?_
            rintro e w4 ⟨rfl, hb4⟩
            have f40 := keepc hb4 (g1d _ x24)
            have f41 := keepc hb4 (g1d _ p04)
            have f42 := keepc hb4 (g1d _ p14)
            have f43 := keepc hb4 (g1d _ y4)
            have f44 := bstep (Below.refl _ w5).drew hb4
            refine hK.out _ _ ⟨f40, f41, f42, f43, f44⟩ (fun hH14 => ?_)
            clear hK K
            try simp only [Act.put, List.setIfInBounds_toArray, List.set_cons_zero, List.set_cons_succ, List.getElem_toArray, List.getElem_cons_zero, List.getElem_cons_succ]
            refine reg_take 15 rfl (by kernel_rfl) (by kernel_rfl) (by kernel_rfl) (fun _ _ _ h => h) (by rfl) (fun w _ => by first | (go_simp; done) | (go_simp; with_reducible rfl)) (by assumption) ?_
            try simp only [Act.put, List.setIfInBounds_toArray, List.set_cons_zero, List.set_cons_succ, List.getElem_toArray, List.getElem_cons_zero, List.getElem_cons_succ]
            refine wpAnyH_done (by kernel_rfl) ?_ _
            have R4 := R5.keep f44
            clear hb4 f40 f41 f42 f43 f44 R5 x24 p04 p14 y4
            have q04 := R4.p0
            have q14 := R4.p1
            cases z2 : hasB a b q2
            · have hlay := hL
              rw [z2] at hlay
              clear hL z1 z2
              go_wp2
              go_roundw
              case rel =>
                have hst : laysTo R L (k + 1) = T5 := by rw [HT5.out, Hst.out, hlay]; (try simp)
                exact ⟨k + 1, A5, c5, by omega, by go_num, by rw [hst], by rw [hst]; exact R4.own, R4.ba, R4.hb⟩
              case measure => first | omega | (simp [intOf]; done) | (simp [intOf]; omega)
            · have hlay := hL
              rw [z2] at hlay
              clear hL z1 z2
              go_wp2_with (first | (at_builtin; refine wp_append_M rfl _ _ rfl w2.heap.size _ (T5) rfl (own_keep R4.own ((Below.refl _ _).alloc (Nat.le_refl _) _)) (a, b, 2) w4.heap.size rfl (by simp) (by simp) (by simp [endS]) (by (try simp); omega) (by have := R4.hb.size; (try simp); omega) ?_; intro A6 c6 w6 o6 g6 h6; have R6 := R4.app o6 g6 h6; clear o6 g6 h6; obtain ⟨T6, hT6⟩ : ∃ T, T = T5 ++ [(a, b, 2)] := ⟨_, rfl⟩; have hl6 : T6.length ≤ 2 * L.length + 6 := (by rw [hT6]; (try simp); omega); rw [← hT6] at R6 ⊢; have HT6 := Lib.hid hT6; clear hT6; have q06 := R6.p0; have q16 := R6.p1))
              go_roundw
              case rel =>
                have hst : laysTo R L (k + 1) = T6 := by rw [HT6.out, HT5.out, Hst.out, hlay]; simp
                exact ⟨k + 1, A6, c6, by omega, by go_num, by rw [hst], by rw [hst]; exact R6.own, R6.ba, R6.hb⟩
              case measure => first | omega | (simp [intOf]; done) | (simp [intOf]; omega)
      · have : k = L.length := by omega
        subst this
        go_wp2
        go_ret
        exact ⟨A', c', rfl, own_base hown (by omega), bstep hb2 hb⟩
  · have eh : handG F S t = F := if_neg ht
    have ConS := fun W (hb : Below w.heap.size w W) => c_inOrder AF cF F W (hF.below hb) gF
    have hl : laysL R F = laysTo R (sortL F) (sortL F).length := rfl
    have hll := sortL_len F
    rw [eh, hl]
    have Ht := Lib.hid ht
    have Ht2 := Lib.hid ht2
    clear eh hl gF gS hF hS ht ht2
    generalize sortL F = L at *
    go_enter Try.func163, Try.ntmps163
    go_wp2_with fail
    obtain ⟨w0, hw0⟩ : ∃ w0, w0 = w.alloc (.cells #[.slice AF F.length cF, .slice AS S.length cS, .slice AR R.length cR, .int .i64 t, .int .i64 u] 43) := ⟨_, rfl⟩
    rw [← hw0]
    have ba0 : BoxAt w0 w.heap.size (.slice AF F.length cF) (.slice AS S.length cS) (.slice AR R.length cR) (.int .i64 t) (.int .i64 u) := by rw [hw0]; exact BoxAt.fresh w _ _ _ _ _ _
    have hb0 : Below w.heap.size w w0 := by rw [hw0]; go_grown
    clear hw0
    refine (c_gHand AF cF F AS cS S AR cR R t u w0 Ht2.out).mono ?_
    rintro e w1 ⟨rfl, h1⟩
    have hb1 := bstep hb0 h1
    have ba1 := ba0.keep h1
    clear ba0
    rw [if_neg Ht.out]
    go_wp2_with fail
    refine (ConS w1 hb1).mono ?_
    rintro e w2 ⟨A2, c2, rfl, o2, h2⟩
    have hb2 := bstep hb1 h2
    have ba2 := ba1.keep h2
    clear ba1 Ht Ht2
    have glt := ba2.lt
    have r2 := RdT.of_own o2
    have hrR2 := hR.below hb2
    clear hR o2 ConS
    go_wp2
    go_loopw [3, 10] (fun v i wr => ∃ (k : Nat) (A' : Option Addr) (c' : Nat), k ≤ L.length ∧ i = .int .i64 k ∧ v = .slice A' (laysTo R L k).length c' ∧ wr.ownsRow w2.heap.size 198 3 (.slice A' (laysTo R L k).length c') (laysTo R L k).length (cellsE encI (laysTo R L k)) ∧ BoxAt wr w.heap.size (.slice AF F.length cF) (.slice AS S.length cS) (.slice AR R.length cR) (.int .i64 t) (.int .i64 u) ∧ Below w2.heap.size w2 wr) (fun _ i _ => L.length - (intOf i).toNat)
    case atStart => exact ⟨0, none, 0, Nat.zero_le _, rfl, by rw [laysTo_zero]; rfl, by rw [laysTo_zero]; exact World.ownsRow_nil _ _ _ _, ba2, Below.refl _ _⟩
    case round =>
      obtain ⟨k, A', c', hk, rfl, rfl, hown, hba, hb⟩ := hrel
      clear ba2
      have hz := hb.size
      have hms := laysTo_len R L k
      by_cases hlt : k < L.length
      · obtain ⟨bl, ol, rfl, hbl, hcl⟩ := r2.at_ hlt
        have g0 := keepc hb (hcl k hlt).1
        have g1 := keepc hb (hcl k hlt).2
        have Hst := Lib.hid (laysTo_step (R := R) hlt)
        obtain ⟨a, hL0⟩ : ∃ a, L[k].1 = a := ⟨_, rfl⟩
        obtain ⟨b, hL1⟩ : ∃ b, L[k].2 = b := ⟨_, rfl⟩
        rw [hL0] at g0
        rw [hL1] at g1
        clear hcl r2
        go_upto_region 5 with (fail)
        obtain ⟨v1, hv1⟩ : ∃ v1, v1 = wr.alloc (.cells #[.int .i64 a, .int .i64 b] 95) := ⟨_, rfl⟩
        rw [← hv1]
        have b1 : Below wr.heap.size wr v1 := by rw [hv1]; exact (Below.refl _ _).alloc (Nat.le_refl _) _
        have R1 : SMov w.heap.size wr.heap.size (.slice AF F.length cF) (.slice AS S.length cS) (.slice AR R.length cR) (.int .i64 t) (.int .i64 u) a b 198 3 encI w2 A' c' (laysTo R L k) v1 := ⟨hba.keep b1, by rw [hv1]; simp, by rw [hv1]; simp, own_keep hown b1, fun g hg => by have := (hown.lt g hg).2; omega, hb.trans (b1.mono hz), glt⟩
        clear g0 g1 hv1 hown hba
        by_cases hR0 : R.length = 0
        · have e0 : ((R.length : Int) == 0) = true := by simp [hR0]
          have e1 : decide ((R.length : Int) > 0) = false := by simp [hR0]
          have e2 : decide ((0 : Int) < (R.length : Int)) = false := by simp [hR0]
          have e3 : ¬ 0 < R.length := by omega
          have e4 : decide (0 < R.length) = false := by simp [hR0]
          have hlay : layOf R L[k] = [(L[k].1, L[k].2, 1)] := by unfold layOf leftB rightB; simp [hR0]
          rw [hL0, hL1] at hlay
          clear hL0 hL1 hrR2 hR0
          have x2 := R1.ba.c2
          go_quiet (fail)
          obtain ⟨v2, hv2⟩ : ∃ v2, v2 = v1.drewN nq := ⟨_, rfl⟩
          rw [← hv2]
          have R2 := R1.drew nq
          rw [← hv2] at R2
          clear hv2 x2 R1
          have q02 := R2.p0
          have q12 := R2.p1
          go_upto_region 7 with (first | (at_builtin; refine wp_append_M rfl _ _ rfl w2.heap.size _ (laysTo R L k) rfl (own_keep R2.own ((Below.refl _ _).alloc (Nat.le_refl _) _)) (a, b, 1) v2.heap.size rfl (by simp) (by simp) (by simp [endS]) (by (try simp); omega) (by have := R2.hb.size; (try simp); omega) ?_; intro A5 c5 w5 o5 g5 h5; have R5 := R2.app o5 g5 h5; clear o5 g5 h5; obtain ⟨T5, hT5⟩ : ∃ T, T = laysTo R L k ++ [(a, b, 1)] := ⟨_, rfl⟩; have hl5 : T5.length ≤ 2 * L.length + 5 := (by rw [hT5]; (try simp); omega); rw [← hT5] at R5 ⊢; have HT5 := Lib.hid hT5; clear hT5; have q05 := R5.p0; have q15 := R5.p1))
          have x5 := R5.ba.c2
          go_quiet (fail)
          obtain ⟨v6, hv6⟩ : ∃ v6, v6 = w5.drewN nq := ⟨_, rfl⟩
          rw [← hv6]
          have R7 := R5.drew nq
          rw [← hv6] at R7
          clear hv6 x5 R5 e0 e1 e2 e3 e4
          go_wp2
          go_roundw
          case rel =>
            have hst : laysTo R L (k + 1) = T5 := by rw [HT5.out, Hst.out, hlay]; (try simp)
            exact ⟨k + 1, A5, c5, by omega, by go_num, by rw [hst], by rw [hst]; exact R7.own, R7.ba, R7.hb⟩
          case measure => first | omega | (simp [intOf]; done) | (simp [intOf]; omega)
        · have e0 : ((R.length : Int) == 0) = false := by rw [beq_eq_false_iff_ne]; omega
          have e1 : decide ((R.length : Int) > 0) = true := by rw [decide_eq_true_eq]; omega
          have e2 : decide ((0 : Int) < (R.length : Int)) = true := by rw [decide_eq_true_eq]; omega
          obtain ⟨br, orr, hAR, hbr, hcR⟩ := hrR2.at_ (k := 0) (by omega)
          subst hAR
          have y0w : w2.cell? ⟨br, orr, none⟩ = some (.int .i64 (fstI R)) := by
            have := hcR 0 (by omega)
            rw [Nat.add_zero] at this
            rw [this]; unfold fstI; rw [List.getD_eq_getElem?_getD, List.getElem?_eq_getElem (by omega)]; rfl
          have ylw : w2.cell? ⟨br, orr + (R.length - 1), none⟩ = some (.int .i64 (lstI R)) := by
            rw [hcR (R.length - 1) (by omega)]; unfold lstI; rw [List.getD_eq_getElem?_getD, List.getElem?_eq_getElem (by omega)]; rfl
          obtain ⟨n, hn⟩ : ∃ n, R.length = n + 1 := ⟨R.length - 1, by omega⟩
          have hL : layOf R L[k] = (if hasB a b (fstI R) then [(a, b, 1)] else []) ++ (if hasB a b (lstI R) then [(a, b, 2)] else []) := by
            unfold layOf leftB rightB; rw [decide_eq_false hR0, decide_eq_true (show 0 < R.length by omega), hL0, hL1]; simp
          rw [show R.length - 1 = n from by omega] at ylw
          generalize fstI R = q1 at *
          generalize lstI R = q2 at *
          have l0 : 0 < R.length := by omega
          have l1 : (0 : Int) < (R.length : Int) := by omega
          have iw : IntKind.i64.wrap ((R.length : Int) - 1) = (n : Int) := by rw [IntWalk.i64_in _ (by omega)]; omega
          have i0 : (0 : Int) ≤ (n : Int) := by omega
          have i1 : (n : Int) < (R.length : Int) := by omega
          clear hL0 hL1 hR0 hcR hrR2 hn
          have y3 := keepc R1.hb y0w
          clear y0w
          have x23 := R1.ba.c2
          have p03 := R1.p0
          have p13 := R1.p1
          refine wp_region_held_drew (S := fun w' => w'.cell? ⟨w.heap.size, 2, none⟩ = some (.slice (some ⟨br, orr, none⟩) R.length cR) ∧ w'.cell? ⟨wr.heap.size, 0, none⟩ = some (.int .i64 a) ∧ w'.cell? ⟨wr.heap.size, 1, none⟩ = some (.int .i64 b) ∧ w'.cell? ⟨br, orr, none⟩ = some (.int .i64 q1) ∧ Below v1.heap.size v1 w') (by kernel_rfl) ⟨g1d _ x23, g1d _ p03, g1d _ p13, g1d _ y3, (Below.refl _ _).drew⟩ (fun hH0 => ?_)
          refine reg_take 0 rfl (by kernel_rfl) (by kernel_rfl) (by kernel_rfl) (fun _ _ _ h => h) (by rfl) (fun w _ => by first | (go_simp; done) | (go_simp; with_reducible rfl)) (by assumption) ?_
          try simp only [Act.put, List.setIfInBounds_toArray, List.set_cons_zero, List.set_cons_succ, List.getElem_toArray, List.getElem_cons_zero]
          refine reg_take 1 rfl (by kernel_rfl) (by kernel_rfl) (by kernel_rfl) (fun _ _ _ h => h) (by rfl) (fun w hSw => by (try dsimp only at hSw); first | (go_simp; done) | (go_simp; with_reducible rfl)) (by assumption) ?_
          try simp only [Act.put, List.setIfInBounds_toArray, List.set_cons_zero, List.set_cons_succ, List.getElem_toArray, List.getElem_cons_zero, List.getElem_cons_succ]
          refine reg_take 2 rfl (by kernel_rfl) (by kernel_rfl) (by kernel_rfl) (fun _ _ _ h => h) (by rfl) (fun w _ => by first | (go_simp; done) | (go_simp; with_reducible rfl)) (by assumption) ?_
          try simp only [Act.put, List.setIfInBounds_toArray, List.set_cons_zero, List.set_cons_succ, List.getElem_toArray, List.getElem_cons_zero, List.getElem_cons_succ]
          refine reg_take 3 rfl (by kernel_rfl) (by kernel_rfl) (by kernel_rfl) (fun _ _ _ h => h) (by rfl) (fun w _ => by first | (go_simp; done) | (go_simp; with_reducible rfl)) (by assumption) ?_
          try simp only [Act.put, List.setIfInBounds_toArray, List.set_cons_zero, List.set_cons_succ, List.getElem_toArray, List.getElem_cons_zero, List.getElem_cons_succ]
          refine reg_take 4 rfl (by kernel_rfl) (by kernel_rfl) (by kernel_rfl) (fun _ _ _ h => h) (by rfl) (fun w _ => by first | (go_simp; done) | (go_simp; with_reducible rfl)) (by assumption) ?_
          try simp only [Act.put, List.setIfInBounds_toArray, List.set_cons_zero, List.set_cons_succ, List.getElem_toArray, List.getElem_cons_zero, List.getElem_cons_succ]
          refine reg_take 5 rfl (by kernel_rfl) (by kernel_rfl) (by kernel_rfl) (fun _ _ _ h => h) (by rfl) (fun w hSw => by (try dsimp only at hSw); first | (go_simp; done) | (go_simp; with_reducible rfl)) (by assumption) ?_
          try simp only [Act.put, List.setIfInBounds_toArray, List.set_cons_zero, List.set_cons_succ, List.getElem_toArray, List.getElem_cons_zero, List.getElem_cons_succ]
          refine reg_take 6 rfl (by kernel_rfl) (by kernel_rfl) (by kernel_rfl) (fun _ _ _ h => h) (by rfl) (fun w _ => by first | (go_simp; done) | (go_simp; with_reducible rfl)) (by assumption) ?_
          try simp only [Act.put, List.setIfInBounds_toArray, List.set_cons_zero, List.set_cons_succ, List.getElem_toArray, List.getElem_cons_zero, List.getElem_cons_succ]
          refine reg_take 7 rfl (by kernel_rfl) (by kernel_rfl) (by kernel_rfl) (fun _ _ _ h => h) (by rfl) (fun w hSw => by (try dsimp only at hSw); first | (go_simp; done) | (go_simp; with_reducible rfl)) (by assumption) ?_
          try simp only [Act.put, List.setIfInBounds_toArray, List.set_cons_zero, List.set_cons_succ, List.getElem_toArray, List.getElem_cons_zero, List.getElem_cons_succ]
          refine reg_take 8 rfl (by kernel_rfl) (by kernel_rfl) (by kernel_rfl) (fun _ _ _ h => h) (by rfl) (fun w _ => by first | (go_simp; done) | (go_simp; with_reducible rfl)) (by assumption) ?_
          try simp only [Act.put, List.setIfInBounds_toArray, List.set_cons_zero, List.set_cons_succ, List.getElem_toArray, List.getElem_cons_zero, List.getElem_cons_succ]
          refine reg_take 9 rfl (by kernel_rfl) (by kernel_rfl) (by kernel_rfl) (fun _ _ _ h => h) (by rfl) (fun w hSw => by (try dsimp only at hSw); first | (go_simp; done) | (go_simp; with_reducible rfl)) (by assumption) ?_
          try simp only [Act.put, List.setIfInBounds_toArray, List.set_cons_zero, List.set_cons_succ, List.getElem_toArray, List.getElem_cons_zero, List.getElem_cons_succ]
          refine wpAnyH_ready (rs := [10]) (by kernel_rfl) (by simp) ?_
          refine AllReadyH.cons (i := 10) rfl (fun K hK => ?_) AllReadyH.nil
          go_simp
          go_at_call 206
          refine (c_hasNumber a b q1 _).mono ?_
          rintro e w3 ⟨rfl, hb3⟩
          have f30 := keepc hb3 (g1d _ x23)
          have f31 := keepc hb3 (g1d _ p03)
          have f32 := keepc hb3 (g1d _ p13)
          have f33 := keepc hb3 (g1d _ y3)
          have f34 := bstep (Below.refl _ v1).drew hb3
          refine hK.out _ _ ⟨f30, f31, f32, f33, f34⟩ (fun hH10 => ?_)
          clear hK K
          try simp only [Act.put, List.setIfInBounds_toArray, List.set_cons_zero, List.set_cons_succ, List.getElem_toArray, List.getElem_cons_zero, List.getElem_cons_succ]
          refine reg_take 11 rfl (by kernel_rfl) (by kernel_rfl) (by kernel_rfl) (fun _ _ _ h => h) (by rfl) (fun w _ => by first | (go_simp; done) | (go_simp; with_reducible rfl)) (by assumption) ?_
          try simp only [Act.put, List.setIfInBounds_toArray, List.set_cons_zero, List.set_cons_succ, List.getElem_toArray, List.getElem_cons_zero, List.getElem_cons_succ]
          refine wpAnyH_done (by kernel_rfl) ?_ _
          have R3 := R1.keep f34
          clear hb3 f30 f31 f32 f33 f34 R1 x23 p03 p13 y3
          have q03 := R3.p0
          have q13 := R3.p1
          cases z1 : hasB a b q1
          · rw [z1] at hL
            go_upto_region 7 with (fail)
            have x24 := R3.ba.c2
            have p04 := R3.p0
            have p14 := R3.p1
            have y4 := keepc R3.hb ylw
            refine wp_region_held_drew (S := fun w' => w'.cell? ⟨w.heap.size, 2, none⟩ = some (.slice (some ⟨br, orr, none⟩) R.length cR) ∧ w'.cell? ⟨wr.heap.size, 0, none⟩ = some (.int .i64 a) ∧ w'.cell? ⟨wr.heap.size, 1, none⟩ = some (.int .i64 b) ∧ w'.cell? ⟨br, orr + n, none⟩ = some (.int .i64 q2) ∧ Below w3.heap.size w3 w') (by kernel_rfl) ⟨g1d _ x24, g1d _ p04, g1d _ p14, g1d _ y4, (Below.refl _ _).drew⟩ (fun hH0 => ?_)
            refine reg_take 0 rfl (by kernel_rfl) (by kernel_rfl) (by kernel_rfl) (fun _ _ _ h => h) (by rfl) (fun w _ => by first | (go_simp; done) | (go_simp; with_reducible rfl)) (by assumption) ?_
            try simp only [Act.put, List.setIfInBounds_toArray, List.set_cons_zero, List.set_cons_succ, List.getElem_toArray, List.getElem_cons_zero]
            refine reg_take 1 rfl (by kernel_rfl) (by kernel_rfl) (by kernel_rfl) (fun _ _ _ h => h) (by rfl) (fun w hSw => by (try dsimp only at hSw); first | (go_simp; done) | (go_simp; with_reducible rfl)) (by assumption) ?_
            try simp only [Act.put, List.setIfInBounds_toArray, List.set_cons_zero, List.set_cons_succ, List.getElem_toArray, List.getElem_cons_zero, List.getElem_cons_succ]
            refine reg_take 2 rfl (by kernel_rfl) (by kernel_rfl) (by kernel_rfl) (fun _ _ _ h => h) (by rfl) (fun w _ => by first | (go_simp; done) | (go_simp; with_reducible rfl)) (by assumption) ?_
            try simp only [Act.put, List.setIfInBounds_toArray, List.set_cons_zero, List.set_cons_succ, List.getElem_toArray, List.getElem_cons_zero, List.getElem_cons_succ]
            refine reg_take 3 rfl (by kernel_rfl) (by kernel_rfl) (by kernel_rfl) (fun _ _ _ h => h) (by rfl) (fun w _ => by first | (go_simp; done) | (go_simp; with_reducible rfl)) (by assumption) ?_
            try simp only [Act.put, List.setIfInBounds_toArray, List.set_cons_zero, List.set_cons_succ, List.getElem_toArray, List.getElem_cons_zero, List.getElem_cons_succ]
            refine reg_take 4 rfl (by kernel_rfl) (by kernel_rfl) (by kernel_rfl) (fun _ _ _ h => h) (by rfl) (fun w _ => by first | (go_simp; done) | (go_simp; with_reducible rfl)) (by assumption) ?_
            try simp only [Act.put, List.setIfInBounds_toArray, List.set_cons_zero, List.set_cons_succ, List.getElem_toArray, List.getElem_cons_zero, List.getElem_cons_succ]
            refine reg_take 5 rfl (by kernel_rfl) (by kernel_rfl) (by kernel_rfl) (fun _ _ _ h => h) (by rfl) (fun w hSw => by (try dsimp only at hSw); first | (go_simp; done) | (go_simp; with_reducible rfl)) (by assumption) ?_
            try simp only [Act.put, List.setIfInBounds_toArray, List.set_cons_zero, List.set_cons_succ, List.getElem_toArray, List.getElem_cons_zero, List.getElem_cons_succ]
            refine reg_take 6 rfl (by kernel_rfl) (by kernel_rfl) (by kernel_rfl) (fun _ _ _ h => h) (by rfl) (fun w _ => by first | (go_simp; done) | (go_simp; with_reducible rfl)) (by assumption) ?_
            try simp only [Act.put, List.setIfInBounds_toArray, List.set_cons_zero, List.set_cons_succ, List.getElem_toArray, List.getElem_cons_zero, List.getElem_cons_succ]
            refine reg_take 7 rfl (by kernel_rfl) (by kernel_rfl) (by kernel_rfl) (fun _ _ _ h => h) (by rfl) (fun w hSw => by (try dsimp only at hSw); first | (go_simp; done) | (go_simp; with_reducible rfl)) (by assumption) ?_
            try simp only [Act.put, List.setIfInBounds_toArray, List.set_cons_zero, List.set_cons_succ, List.getElem_toArray, List.getElem_cons_zero, List.getElem_cons_succ]
            refine reg_take 8 rfl (by kernel_rfl) (by kernel_rfl) (by kernel_rfl) (fun _ _ _ h => h) (by rfl) (fun w _ => by first | (go_simp; done) | (go_simp; with_reducible rfl)) (by assumption) ?_
            try simp only [Act.put, List.setIfInBounds_toArray, List.set_cons_zero, List.set_cons_succ, List.getElem_toArray, List.getElem_cons_zero, List.getElem_cons_succ]
            refine reg_take 9 rfl (by kernel_rfl) (by kernel_rfl) (by kernel_rfl) (fun _ _ _ h => h) (by rfl) (fun w hSw => by (try dsimp only at hSw); first | (go_simp; done) | (go_simp; with_reducible rfl)) (by assumption) ?_
            try simp only [Act.put, List.setIfInBounds_toArray, List.set_cons_zero, List.set_cons_succ, List.getElem_toArray, List.getElem_cons_zero, List.getElem_cons_succ]
            refine reg_take 10 rfl (by kernel_rfl) (by kernel_rfl) (by kernel_rfl) (fun _ _ _ h => h) (by rfl) (fun w _ => by first | (go_simp; done) | (go_simp; with_reducible rfl)) (by assumption) ?_
            try simp only [Act.put, List.setIfInBounds_toArray, List.set_cons_zero, List.set_cons_succ, List.getElem_toArray, List.getElem_cons_zero, List.getElem_cons_succ]
            refine reg_take 11 rfl (by kernel_rfl) (by kernel_rfl) (by kernel_rfl) (fun _ _ _ h => h) (by rfl) (fun w _ => by first | (go_simp; done) | (go_simp; with_reducible rfl)) (by assumption) ?_
            try simp only [Act.put, List.setIfInBounds_toArray, List.set_cons_zero, List.set_cons_succ, List.getElem_toArray, List.getElem_cons_zero, List.getElem_cons_succ]
            refine reg_take 12 rfl (by kernel_rfl) (by kernel_rfl) (by kernel_rfl) (fun _ _ _ h => h) (by rfl) (fun w _ => by first | (go_simp; done) | (go_simp; with_reducible rfl)) (by assumption) ?_
            try simp only [Act.put, List.setIfInBounds_toArray, List.set_cons_zero, List.set_cons_succ, List.getElem_toArray, List.getElem_cons_zero, List.getElem_cons_succ]
            refine reg_take 13 rfl (by kernel_rfl) (by kernel_rfl) (by kernel_rfl) (fun _ _ _ h => h) (by rfl) (fun w hSw => by (try dsimp only at hSw); first | (go_simp; done) | (go_simp; with_reducible rfl)) (by assumption) ?_
            try simp only [Act.put, List.setIfInBounds_toArray, List.set_cons_zero, List.set_cons_succ, List.getElem_toArray, List.getElem_cons_zero, List.getElem_cons_succ]
            refine wpAnyH_ready (rs := [14]) (by kernel_rfl) (by simp) ?_
            refine AllReadyH.cons (i := 14) rfl (fun K hK => ?_) AllReadyH.nil
            go_simp
            go_at_call 206
            refine (c_hasNumber a b q2 _).mono ?_
            rintro e w4 ⟨rfl, hb4⟩
            have f40 := keepc hb4 (g1d _ x24)
            have f41 := keepc hb4 (g1d _ p04)
            have f42 := keepc hb4 (g1d _ p14)
            have f43 := keepc hb4 (g1d _ y4)
            have f44 := bstep (Below.refl _ w3).drew hb4
            refine hK.out _ _ ⟨f40, f41, f42, f43, f44⟩ (fun hH14 => ?_)
            clear hK K
            try simp only [Act.put, List.setIfInBounds_toArray, List.set_cons_zero, List.set_cons_succ, List.getElem_toArray, List.getElem_cons_zero, List.getElem_cons_succ]
            refine reg_take 15 rfl (by kernel_rfl) (by kernel_rfl) (by kernel_rfl) (fun _ _ _ h => h) (by rfl) (fun w _ => by first | (go_simp; done) | (go_simp; with_reducible rfl)) (by assumption) ?_
            try simp only [Act.put, List.setIfInBounds_toArray, List.set_cons_zero, List.set_cons_succ, List.getElem_toArray, List.getElem_cons_zero, List.getElem_cons_succ]
            refine wpAnyH_done (by kernel_rfl) ?_ _
            have R4 := R3.keep f44
            clear hb4 f40 f41 f42 f43 f44 R3 x24 p04 p14 y4
            have q04 := R4.p0
            have q14 := R4.p1
            cases z2 : hasB a b q2
            · have hlay := hL
              rw [z2] at hlay
              clear hL z1 z2
              go_wp2
              go_roundw
              case rel =>
                have hst : laysTo R L (k + 1) = laysTo R L k := by rw [Hst.out, hlay]; simp
                exact ⟨k + 1, A', c', by omega, by go_num, by rw [hst], by rw [hst]; exact R4.own, R4.ba, R4.hb⟩
              case measure => first | omega | (simp [intOf]; done) | (simp [intOf]; omega)
            · have hlay := hL
              rw [z2] at hlay
              clear hL z1 z2
              go_wp2_with (first | (at_builtin; refine wp_append_M rfl _ _ rfl w2.heap.size _ (laysTo R L k) rfl (own_keep R4.own ((Below.refl _ _).alloc (Nat.le_refl _) _)) (a, b, 2) w4.heap.size rfl (by simp) (by simp) (by simp [endS]) (by (try simp); omega) (by have := R4.hb.size; (try simp); omega) ?_; intro A6 c6 w6 o6 g6 h6; have R6 := R4.app o6 g6 h6; clear o6 g6 h6; obtain ⟨T6, hT6⟩ : ∃ T, T = laysTo R L k ++ [(a, b, 2)] := ⟨_, rfl⟩; have hl6 : T6.length ≤ 2 * L.length + 6 := (by rw [hT6]; (try simp); omega); rw [← hT6] at R6 ⊢; have HT6 := Lib.hid hT6; clear hT6; have q06 := R6.p0; have q16 := R6.p1))
              go_roundw
              case rel =>
                have hst : laysTo R L (k + 1) = T6 := by rw [HT6.out, Hst.out, hlay]; (try simp)
                exact ⟨k + 1, A6, c6, by omega, by go_num, by rw [hst], by rw [hst]; exact R6.own, R6.ba, R6.hb⟩
              case measure => first | omega | (simp [intOf]; done) | (simp [intOf]; omega)
          · rw [z1] at hL
            go_upto_region 7 with (first | (at_builtin; refine wp_append_M rfl _ _ rfl w2.heap.size _ (laysTo R L k) rfl (own_keep R3.own ((Below.refl _ _).alloc (Nat.le_refl _) _)) (a, b, 1) w3.heap.size rfl (by simp) (by simp) (by simp [endS]) (by (try simp); omega) (by have := R3.hb.size; (try simp); omega) ?_; intro A5 c5 w5 o5 g5 h5; have R5 := R3.app o5 g5 h5; clear o5 g5 h5; obtain ⟨T5, hT5⟩ : ∃ T, T = laysTo R L k ++ [(a, b, 1)] := ⟨_, rfl⟩; have hl5 : T5.length ≤ 2 * L.length + 5 := (by rw [hT5]; (try simp); omega); rw [← hT5] at R5 ⊢; have HT5 := Lib.hid hT5; clear hT5; have q05 := R5.p0; have q15 := R5.p1))
            have x24 := R5.ba.c2
            have p04 := R5.p0
            have p14 := R5.p1
            have y4 := keepc R5.hb ylw
            refine wp_region_held_drew (S := fun w' => w'.cell? ⟨w.heap.size, 2, none⟩ = some (.slice (some ⟨br, orr, none⟩) R.length cR) ∧ w'.cell? ⟨wr.heap.size, 0, none⟩ = some (.int .i64 a) ∧ w'.cell? ⟨wr.heap.size, 1, none⟩ = some (.int .i64 b) ∧ w'.cell? ⟨br, orr + n, none⟩ = some (.int .i64 q2) ∧ Below w5.heap.size w5 w') (by kernel_rfl) ⟨g1d _ x24, g1d _ p04, g1d _ p14, g1d _ y4, (Below.refl _ _).drew⟩ (fun hH0 => ?_)
            refine reg_take 0 rfl (by kernel_rfl) (by kernel_rfl) (by kernel_rfl) (fun _ _ _ h => h) (by rfl) (fun w _ => by first | (go_simp; done) | (go_simp; with_reducible rfl)) (by assumption) ?_
            try simp only [Act.put, List.setIfInBounds_toArray, List.set_cons_zero, List.set_cons_succ, List.getElem_toArray, List.getElem_cons_zero]
            refine reg_take 1 rfl (by kernel_rfl) (by kernel_rfl) (by kernel_rfl) (fun _ _ _ h => h) (by rfl) (fun w hSw => by (try dsimp only at hSw); first | (go_simp; done) | (go_simp; with_reducible rfl)) (by assumption) ?_
            try simp only [Act.put, List.setIfInBounds_toArray, List.set_cons_zero, List.set_cons_succ, List.getElem_toArray, List.getElem_cons_zero, List.getElem_cons_succ]
            refine reg_take 2 rfl (by kernel_rfl) (by kernel_rfl) (by kernel_rfl) (fun _ _ _ h => h) (by rfl) (fun w _ => by first | (go_simp; done) | (go_simp; with_reducible rfl)) (by assumption) ?_
            try simp only [Act.put, List.setIfInBounds_toArray, List.set_cons_zero, List.set_cons_succ, List.getElem_toArray, List.getElem_cons_zero, List.getElem_cons_succ]
            refine reg_take 3 rfl (by kernel_rfl) (by kernel_rfl) (by kernel_rfl) (fun _ _ _ h => h) (by rfl) (fun w _ => by first | (go_simp; done) | (go_simp; with_reducible rfl)) (by assumption) ?_
            try simp only [Act.put, List.setIfInBounds_toArray, List.set_cons_zero, List.set_cons_succ, List.getElem_toArray, List.getElem_cons_zero, List.getElem_cons_succ]
            refine reg_take 4 rfl (by kernel_rfl) (by kernel_rfl) (by kernel_rfl) (fun _ _ _ h => h) (by rfl) (fun w _ => by first | (go_simp; done) | (go_simp; with_reducible rfl)) (by assumption) ?_
            try simp only [Act.put, List.setIfInBounds_toArray, List.set_cons_zero, List.set_cons_succ, List.getElem_toArray, List.getElem_cons_zero, List.getElem_cons_succ]
            refine reg_take 5 rfl (by kernel_rfl) (by kernel_rfl) (by kernel_rfl) (fun _ _ _ h => h) (by rfl) (fun w hSw => by (try dsimp only at hSw); first | (go_simp; done) | (go_simp; with_reducible rfl)) (by assumption) ?_
            try simp only [Act.put, List.setIfInBounds_toArray, List.set_cons_zero, List.set_cons_succ, List.getElem_toArray, List.getElem_cons_zero, List.getElem_cons_succ]
            refine reg_take 6 rfl (by kernel_rfl) (by kernel_rfl) (by kernel_rfl) (fun _ _ _ h => h) (by rfl) (fun w _ => by first | (go_simp; done) | (go_simp; with_reducible rfl)) (by assumption) ?_
            try simp only [Act.put, List.setIfInBounds_toArray, List.set_cons_zero, List.set_cons_succ, List.getElem_toArray, List.getElem_cons_zero, List.getElem_cons_succ]
            refine reg_take 7 rfl (by kernel_rfl) (by kernel_rfl) (by kernel_rfl) (fun _ _ _ h => h) (by rfl) (fun w hSw => by (try dsimp only at hSw); first | (go_simp; done) | (go_simp; with_reducible rfl)) (by assumption) ?_
            try simp only [Act.put, List.setIfInBounds_toArray, List.set_cons_zero, List.set_cons_succ, List.getElem_toArray, List.getElem_cons_zero, List.getElem_cons_succ]
            refine reg_take 8 rfl (by kernel_rfl) (by kernel_rfl) (by kernel_rfl) (fun _ _ _ h => h) (by rfl) (fun w _ => by first | (go_simp; done) | (go_simp; with_reducible rfl)) (by assumption) ?_
            try simp only [Act.put, List.setIfInBounds_toArray, List.set_cons_zero, List.set_cons_succ, List.getElem_toArray, List.getElem_cons_zero, List.getElem_cons_succ]
            refine reg_take 9 rfl (by kernel_rfl) (by kernel_rfl) (by kernel_rfl) (fun _ _ _ h => h) (by rfl) (fun w hSw => by (try dsimp only at hSw); first | (go_simp; done) | (go_simp; with_reducible rfl)) (by assumption) ?_
            try simp only [Act.put, List.setIfInBounds_toArray, List.set_cons_zero, List.set_cons_succ, List.getElem_toArray, List.getElem_cons_zero, List.getElem_cons_succ]
            refine reg_take 10 rfl (by kernel_rfl) (by kernel_rfl) (by kernel_rfl) (fun _ _ _ h => h) (by rfl) (fun w _ => by first | (go_simp; done) | (go_simp; with_reducible rfl)) (by assumption) ?_
            try simp only [Act.put, List.setIfInBounds_toArray, List.set_cons_zero, List.set_cons_succ, List.getElem_toArray, List.getElem_cons_zero, List.getElem_cons_succ]
            refine reg_take 11 rfl (by kernel_rfl) (by kernel_rfl) (by kernel_rfl) (fun _ _ _ h => h) (by rfl) (fun w _ => by first | (go_simp; done) | (go_simp; with_reducible rfl)) (by assumption) ?_
            try simp only [Act.put, List.setIfInBounds_toArray, List.set_cons_zero, List.set_cons_succ, List.getElem_toArray, List.getElem_cons_zero, List.getElem_cons_succ]
            refine reg_take 12 rfl (by kernel_rfl) (by kernel_rfl) (by kernel_rfl) (fun _ _ _ h => h) (by rfl) (fun w _ => by first | (go_simp; done) | (go_simp; with_reducible rfl)) (by assumption) ?_
            try simp only [Act.put, List.setIfInBounds_toArray, List.set_cons_zero, List.set_cons_succ, List.getElem_toArray, List.getElem_cons_zero, List.getElem_cons_succ]
            refine reg_take 13 rfl (by kernel_rfl) (by kernel_rfl) (by kernel_rfl) (fun _ _ _ h => h) (by rfl) (fun w hSw => by (try dsimp only at hSw); first | (go_simp; done) | (go_simp; with_reducible rfl)) (by assumption) ?_
            try simp only [Act.put, List.setIfInBounds_toArray, List.set_cons_zero, List.set_cons_succ, List.getElem_toArray, List.getElem_cons_zero, List.getElem_cons_succ]
            refine wpAnyH_ready (rs := [14]) (by kernel_rfl) (by simp) ?_
            refine AllReadyH.cons (i := 14) rfl (fun K hK => ?_) AllReadyH.nil
            go_simp
            go_at_call 206
            refine (c_hasNumber a b q2 _).mono ?_
            rintro e w4 ⟨rfl, hb4⟩
            have f40 := keepc hb4 (g1d _ x24)
            have f41 := keepc hb4 (g1d _ p04)
            have f42 := keepc hb4 (g1d _ p14)
            have f43 := keepc hb4 (g1d _ y4)
            have f44 := bstep (Below.refl _ w5).drew hb4
            refine hK.out _ _ ⟨f40, f41, f42, f43, f44⟩ (fun hH14 => ?_)
            clear hK K
            try simp only [Act.put, List.setIfInBounds_toArray, List.set_cons_zero, List.set_cons_succ, List.getElem_toArray, List.getElem_cons_zero, List.getElem_cons_succ]
            refine reg_take 15 rfl (by kernel_rfl) (by kernel_rfl) (by kernel_rfl) (fun _ _ _ h => h) (by rfl) (fun w _ => by first | (go_simp; done) | (go_simp; with_reducible rfl)) (by assumption) ?_
            try simp only [Act.put, List.setIfInBounds_toArray, List.set_cons_zero, List.set_cons_succ, List.getElem_toArray, List.getElem_cons_zero, List.getElem_cons_succ]
            refine wpAnyH_done (by kernel_rfl) ?_ _
            have R4 := R5.keep f44
            clear hb4 f40 f41 f42 f43 f44 R5 x24 p04 p14 y4
            have q04 := R4.p0
            have q14 := R4.p1
            cases z2 : hasB a b q2
            · have hlay := hL
              rw [z2] at hlay
              clear hL z1 z2
              go_wp2
              go_roundw
              case rel =>
                have hst : laysTo R L (k + 1) = T5 := by rw [HT5.out, Hst.out, hlay]; (try simp)
                exact ⟨k + 1, A5, c5, by omega, by go_num, by rw [hst], by rw [hst]; exact R4.own, R4.ba, R4.hb⟩
              case measure => first | omega | (simp [intOf]; done) | (simp [intOf]; omega)
            · have hlay := hL
              rw [z2] at hlay
              clear hL z1 z2
              go_wp2_with (first | (at_builtin; refine wp_append_M rfl _ _ rfl w2.heap.size _ (T5) rfl (own_keep R4.own ((Below.refl _ _).alloc (Nat.le_refl _) _)) (a, b, 2) w4.heap.size rfl (by simp) (by simp) (by simp [endS]) (by (try simp); omega) (by have := R4.hb.size; (try simp); omega) ?_; intro A6 c6 w6 o6 g6 h6; have R6 := R4.app o6 g6 h6; clear o6 g6 h6; obtain ⟨T6, hT6⟩ : ∃ T, T = T5 ++ [(a, b, 2)] := ⟨_, rfl⟩; have hl6 : T6.length ≤ 2 * L.length + 6 := (by rw [hT6]; (try simp); omega); rw [← hT6] at R6 ⊢; have HT6 := Lib.hid hT6; clear hT6; have q06 := R6.p0; have q16 := R6.p1))
              go_roundw
              case rel =>
                have hst : laysTo R L (k + 1) = T6 := by rw [HT6.out, HT5.out, Hst.out, hlay]; simp
                exact ⟨k + 1, A6, c6, by omega, by go_num, by rw [hst], by rw [hst]; exact R6.own, R6.ba, R6.hb⟩
              case measure => first | omega | (simp [intOf]; done) | (simp [intOf]; omega)
      · have : k = L.length := by omega
        subst this
        go_wp2
        go_ret
        exact ⟨A', c', rfl, own_base hown (by omega), bstep hb2 hb⟩

end Go.Proofs.Ytlnfialfkipdjaa

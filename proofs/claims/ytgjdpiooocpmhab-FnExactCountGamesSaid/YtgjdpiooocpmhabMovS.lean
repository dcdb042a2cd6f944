/- Moves of games: the specification's. -/
import Derived.Test.YtgjdpiooocpmhabMov
import Derived.Test.YtgjdpiooocpmhabCount
import Derived.Deep.Cut
import Derived.BigQuiet
namespace Go.Proofs.Ytgjdpiooocpmhab
open Go.RowKit
set_option linter.unusedVariables false

theorem hcS {w : World} {g : Nat} (m : Mv) (h0 : w.cell? ⟨g, 0, none⟩ = some (.int .i64 m.1)) (h1 : w.cell? ⟨g, 1, none⟩ = some (.int .i64 m.2.1)) (h2 : w.cell? ⟨g, 2, none⟩ = some (.bool (m.2.2 == 1))) (h3 : w.cell? ⟨g, 3, none⟩ = some (.bool (m.2.2 == 0))) :
    ∀ j u, (encS m)[j]? = some u → w.cell? ⟨g, j, none⟩ = some u := fun j u hj => by
  match j, hj with
  | 0, hj => simp [encS] at hj; subst hj; exact h0
  | 1, hj => simp [encS] at hj; subst hj; exact h1
  | 2, hj => simp [encS] at hj; subst hj; exact h2
  | 3, hj => simp [encS] at hj; subst hj; exact h3

theorem Try.info_plLay : (Try.prog.info? 124).map (fun i => (i.zero, i.size, i.bytes)) = some (some (.agg #[.int .i64 0, .int .i64 0, .bool false, .bool false]), 4, 24) := by kernel_rfl

abbrev RetS (w : World) (ms : List Mv) : Ending → World → Prop := RetE encS 4 124 w ms

theorem wp_append_S {w : World} {ops : Array Oper} {rest : List Oper} {o : Oper} {a : Act} {Q : Exit → Act → World → Prop} (hgd : o.guard = none) (s x : Operand)
    (ho : o.op = .call { callee := .builtin .append, args := #[s, x], argTypes := #[121, 121] }) (base : Nat) (v : Value) (ts : List Mv) (hs : a.eval s = v)
    (hown : w.ownsRow base 124 4 v ts.length (cellsE encS ts)) (y : Mv) (g : Nat) (hx : a.eval x = .slice (some ⟨g, 0, none⟩) 1 1)
    (h0 : w.cell? ⟨g, 0, none⟩ = some (.int .i64 y.1)) (h1 : w.cell? ⟨g, 1, none⟩ = some (.int .i64 y.2.1)) (h2 : w.cell? ⟨g, 2, none⟩ = some (.bool (y.2.2 == 1))) (h3 : w.cell? ⟨g, 3, none⟩ = some (.bool (y.2.2 == 0))) (hlen : ts.length ≤ 1048576) (hbase : base ≤ w.heap.size)
    (h : ∀ A c w', w'.ownsRow base 124 4 (.slice A (ts ++ [y]).length c) (ts ++ [y]).length (cellsE encS (ts ++ [y])) → w.grownBy w' v.ownBlock → ((Value.slice A (ts ++ [y]).length c).ownBlock = v.ownBlock ∨ (Value.slice A (ts ++ [y]).length c).ownBlock = some w.heap.size) → wpList Try.prog ops Q rest (a.put o.dst (.slice A (ts ++ [y]).length c)) w') :
    wpList Try.prog ops Q (o :: rest) a w := by
  obtain ⟨i0, hi, hz0, hz1, hz2⟩ := info_parts Try.info_plLay
  exact wp_append_E encS_len encS_one Try.underlying121 hi hz0 hz1 hz2 rfl (by decide) (by decide) hgd s x ho base v ts hs hown y g hx (hcS y h0 h1 h2 h3) hlen hbase h

theorem SMov.drew {α : Type} {enc : α → List Value} {n gb tb e : Nat} {v0 v1 v2 v3 v4 : Value} {a b : Int} {w2 W : World} {A' : Option Addr} {c' : Nat} {ms : List α} (h : SMov gb tb v0 v1 v2 v3 v4 a b e n enc w2 A' c' ms W) (q : Nat) :
    SMov gb tb v0 v1 v2 v3 v4 a b e n enc w2 A' c' ms (W.drewN q) := ⟨h.ba.keep (belowN (Below.refl _ _) q), h.p0, h.p1, h.own, h.off, belowN h.hb q, h.glt⟩
theorem hasB_cases (a b q : Int) : ((a == q) = true ∧ hasB a b q = true) ∨ ((a == q) = false ∧ (b == q) = true ∧ hasB a b q = true) ∨ ((a == q) = false ∧ (b == q) = false ∧ hasB a b q = false) := by
  unfold hasB
  cases a == q <;> cases b == q <;> simp
theorem hasB_eq {a b q : Int} {x y : Bool} (h1 : (a == q) = x) (h2 : (b == q) = y) : hasB a b q = (x || y) := by unfold hasB; rw [h1, h2]

set_option maxRecDepth 100000 in
set_option maxHeartbeats 4000000 in
theorem c_plMoves (AF : Option Addr) (cF : Nat) (F : List (Int × Int)) (AS : Option Addr) (cS : Nat) (S : List (Int × Int)) (AR : Option Addr) (cR : Nat) (R : List Int) (t u : Int) (w : World) (hF : RdT w AF F) (hS : RdT w AS S) (hR : RdI w AR R) (gF : handB F = true) (gS : handB S = true) (lR : R.length ≤ 1048576) :
    Calls Try.prog 76 #[.agg #[.slice AF F.length cF, .slice AS S.length cS, .slice AR R.length cR, .int .i64 t, .int .i64 u]] w (RetS w (movesL F S R t u)) := by
  have conO := fun W => c_plOver AF F.length cF AS S.length cS AR R.length cR t u W
  cases ho : overB F.length S.length u
  · simp only [ho] at conO
    have ConO := Lib.hid conO
    have em : movesL F S R t u = if (laysL R (handG F S t)).length = 0 then [(0, 0, 0)] else laysL R (handG F S t) := by unfold movesL; rw [ho]; rfl
    rw [em]
    clear conO em ho
    by_cases ht : t = 1
    · have eh : handG F S t = S := if_pos ht
      have ConS := Lib.hid (fun W (hb : Below w.heap.size w W) => c_tiSort AS cS S W (hS.below hb) (by have := (handB_good gS).1; omega))
      have et : (t == 1) = true := by simp [ht]
      have hl : laysL R S = laysTo R (sortL S) (sortL S).length := rfl
      have hll := sortL_len S
      rw [eh, hl]
      clear eh hl ht gF gS hF hS
      generalize sortL S = L at *
      obtain ⟨M, hM⟩ : ∃ M, M = (if (laysTo R L L.length).length = 0 then [(0, 0, 0)] else laysTo R L L.length) := ⟨_, rfl⟩
      rw [← hM]
      have HM := Lib.hid hM
      clear hM
      go_enter Try.func76, Try.ntmps76
      go_wp2_with fail
      obtain ⟨w0, hw0⟩ : ∃ w0, w0 = w.alloc (.cells #[.slice AF F.length cF, .slice AS S.length cS, .slice AR R.length cR, .int .i64 t, .int .i64 u] 31) := ⟨_, rfl⟩
      rw [← hw0]
      have ba0 : BoxAt w0 w.heap.size (.slice AF F.length cF) (.slice AS S.length cS) (.slice AR R.length cR) (.int .i64 t) (.int .i64 u) := by rw [hw0]; exact BoxAt.fresh w _ _ _ _ _ _
      have hb0 : Below w.heap.size w w0 := by rw [hw0]; go_grown
      clear hw0
      refine (ConO.out w0).mono ?_
      rintro e w1 ⟨rfl, h1⟩
      have hb1 := bstep hb0 h1
      have ba1 := ba0.keep h1
      clear ba0
      have x0 := ba1.c0
      have x1 := ba1.c1
      have x2 := ba1.c2
      have x3 := ba1.c3
      have x4 := ba1.c4
      go_wp2_with fail
      refine (ConS.out w1 hb1).mono ?_
      rintro e w2 ⟨A2, c2, rfl, o2, h2⟩
      have hb2 := bstep hb1 h2
      have ba2 := ba1.keep h2
      clear x0 x1 x2 x3 x4 ba1
      have glt := ba2.lt
      have r2 := RdT.of_own o2
      have hrR2 := hR.below hb2
      clear hR o2
      go_wp2
      go_loopw [4, 21] (fun v i wr => ∃ (k : Nat) (A' : Option Addr) (c' : Nat), k ≤ L.length ∧ i = .int .i64 k ∧ v = .slice A' (laysTo R L k).length c' ∧ wr.ownsRow w2.heap.size 124 4 (.slice A' (laysTo R L k).length c') (laysTo R L k).length (cellsE encS (laysTo R L k)) ∧ BoxAt wr w.heap.size (.slice AF F.length cF) (.slice AS S.length cS) (.slice AR R.length cR) (.int .i64 t) (.int .i64 u) ∧ Below w2.heap.size w2 wr) (fun _ i _ => L.length - (intOf i).toNat)
      case atStart => exact ⟨0, none, 0, Nat.zero_le _, rfl, by rw [laysTo_zero]; rfl, by rw [laysTo_zero]; exact World.ownsRow_nil _ _ _ _, ba2, Below.refl _ _⟩
      case round =>
        obtain ⟨k, A', c', hk, rfl, rfl, hown, hba, hb⟩ := hrel
        clear ba2
        have hz := hb.size
        have hms := laysTo_len R L k
        by_cases hlt : k < L.length
        · obtain ⟨bl, ol, rfl, hbl, hcl⟩ := r2.at_ hlt
          have g0 := keepc hb (hcl k hlt).1
          have g1 := keepc hb (hcl k hlt).2
          have Hst := Lib.hid (laysTo_step (R := R) hlt)
          obtain ⟨a, hL0⟩ : ∃ a, L[k].1 = a := ⟨_, rfl⟩
          obtain ⟨b, hL1⟩ : ∃ b, L[k].2 = b := ⟨_, rfl⟩
          rw [hL0] at g0
          rw [hL1] at g1
          have x0 := hba.c0
          have x2 := hba.c2
          clear hcl r2
          go_upto_region 10 with (fail)
          obtain ⟨v1, hv1⟩ : ∃ v1, v1 = wr.alloc (.cells #[.int .i64 a, .int .i64 b] 72) := ⟨_, rfl⟩
          rw [← hv1]
          have b1 : Below wr.heap.size wr v1 := by rw [hv1]; exact (Below.refl _ _).alloc (Nat.le_refl _) _
          have R1 : SMov w.heap.size wr.heap.size (.slice AF F.length cF) (.slice AS S.length cS) (.slice AR R.length cR) (.int .i64 t) (.int .i64 u) a b 124 4 encS w2 A' c' (laysTo R L k) v1 := ⟨hba.keep b1, by rw [hv1]; simp, by rw [hv1]; simp, own_keep hown b1, fun g hg => by have := (hown.lt g hg).2; omega, hb.trans (b1.mono hz), glt⟩
          clear x0 x2 g0 g1
          have x2 := R1.ba.c2
          have q01 := R1.p0
          have q11 := R1.p1
          have hrR := hrR2.below R1.hb
          clear hv1 hown hba
          by_cases hR0 : R.length = 0
          · have e0 : ((R.length : Int) == 0) = true := by simp [hR0]
            have hlay : layOf R L[k] = [(L[k].1, L[k].2, 1)] := by unfold layOf leftB rightB; simp [hR0]
            rw [hL0, hL1] at hlay
            clear hR0 hL0 hL1 hrR
            go_wp2_with (first | (at_builtin; refine wp_append_S rfl _ _ rfl w2.heap.size _ (laysTo R L k) rfl (own_keep R1.own ((Below.refl _ _).alloc (Nat.le_refl _) _)) (a, b, 1) v1.heap.size rfl (by simp) (by simp) (by simp) (by simp) (by (try simp); omega) (by have := R1.hb.size; (try simp); omega) ?_; intro A5 c5 w5 o5 g5 h5; have R5 := R1.app o5 g5 h5; clear o5 g5 h5; obtain ⟨T5, hT5⟩ : ∃ T, T = laysTo R L k ++ [(a, b, 1)] := ⟨_, rfl⟩; have hl5 : T5.length ≤ 2 * L.length + 5 := (by rw [hT5]; (try simp); omega); rw [← hT5] at R5 ⊢; have HT5 := Lib.hid hT5; clear hT5; have q05 := R5.p0; have q15 := R5.p1))
            go_roundw
            case rel =>
              have hst : laysTo R L (k + 1) = T5 := by rw [HT5.out, Hst.out, hlay]; (try simp)
              exact ⟨k + 1, A5, c5, by omega, by go_num, by rw [hst], by rw [hst]; exact R5.own, R5.ba, R5.hb⟩
            case measure => first | omega | (simp [intOf]; done) | (simp [intOf]; omega)
          · have e0 : ((R.length : Int) == 0) = false := by rw [beq_eq_false_iff_ne]; omega
            obtain ⟨br, orr, hAR, hbr, hcR⟩ := hrR.at_ (k := 0) (by omega)
            subst hAR
            have y0 : v1.cell? ⟨br, orr, none⟩ = some (.int .i64 (fstI R)) := by
              have := hcR 0 (by omega)
              rw [Nat.add_zero] at this
              rw [this]; unfold fstI; rw [List.getD_eq_getElem?_getD, List.getElem?_eq_getElem (by omega)]; rfl
            have y1 : v1.cell? ⟨br, orr + (R.length - 1), none⟩ = some (.int .i64 (lstI R)) := by
              rw [hcR (R.length - 1) (by omega)]; unfold lstI; rw [List.getD_eq_getElem?_getD, List.getElem?_eq_getElem (by omega)]; rfl
            obtain ⟨n, hn⟩ : ∃ n, R.length = n + 1 := ⟨R.length - 1, by omega⟩
            have hL : layOf R L[k] = (if hasB a b (fstI R) then [(a, b, 1)] else []) ++ (if hasB a b (lstI R) then [(a, b, 2)] else []) := by
              unfold layOf leftB rightB; rw [decide_eq_false hR0, decide_eq_true (show 0 < R.length by omega), hL0, hL1]; simp
            rw [show R.length - 1 = n from by omega] at y1
            generalize fstI R = q1 at *
            generalize lstI R = q2 at *
            have l1 : (0 : Int) < (R.length : Int) := by omega
            have iw : IntKind.i64.wrap ((R.length : Int) - 1) = (n : Int) := by rw [IntWalk.i64_in _ (by omega)]; omega
            have i0 : (0 : Int) ≤ (n : Int) := by omega
            have i1 : (n : Int) < (R.length : Int) := by omega
            clear hL0 hL1 hR0 hcR hrR
            go_upto_region 12 with (fail)
            go_quiet (fail)
            obtain ⟨v2, hv2⟩ : ∃ v2, v2 = v1.drewN nq := ⟨_, rfl⟩
            rw [← hv2]
            have R2 := R1.drew nq
            rw [← hv2] at R2
            clear hv2 x2 q01 q11 y0 y1 l1 iw i0 i1 hn
            have x2 := R2.ba.c2
            have q01 := R2.p0
            have q11 := R2.p1
            clear R1
            rcases hasB_cases a b q1 with ⟨p1, z1⟩ | ⟨p1, p2, z1⟩ | ⟨p1, p2, z1⟩
            · rcases hasB_cases a b q2 with ⟨p3, z2⟩ | ⟨p3, p4, z2⟩ | ⟨p3, p4, z2⟩
              · have hlay := hL
                rw [z1, z2] at hlay
                clear hL z1 z2
                go_wp2_with (first | (at_builtin; refine wp_append_S rfl _ _ rfl w2.heap.size _ (laysTo R L k) rfl (own_keep R2.own ((Below.refl _ _).alloc (Nat.le_refl _) _)) (a, b, 1) v2.heap.size rfl (by simp) (by simp) (by simp) (by simp) (by (try simp); omega) (by have := R2.hb.size; (try simp); omega) ?_; intro A5 c5 w5 o5 g5 h5; have R5 := R2.app o5 g5 h5; clear o5 g5 h5; obtain ⟨T5, hT5⟩ : ∃ T, T = laysTo R L k ++ [(a, b, 1)] := ⟨_, rfl⟩; have hl5 : T5.length ≤ 2 * L.length + 5 := (by rw [hT5]; (try simp); omega); rw [← hT5] at R5 ⊢; have HT5 := Lib.hid hT5; clear hT5; have q05 := R5.p0; have q15 := R5.p1) | (at_builtin; refine wp_append_S rfl _ _ rfl w2.heap.size _ (T5) rfl (own_keep R5.own ((Below.refl _ _).alloc (Nat.le_refl _) _)) (a, b, 2) w5.heap.size rfl (by simp) (by simp) (by simp) (by simp) (by (try simp); omega) (by have := R5.hb.size; (try simp); omega) ?_; intro A6 c6 w6 o6 g6 h6; have R6 := R5.app o6 g6 h6; clear o6 g6 h6; obtain ⟨T6, hT6⟩ : ∃ T, T = T5 ++ [(a, b, 2)] := ⟨_, rfl⟩; have hl6 : T6.length ≤ 2 * L.length + 6 := (by rw [hT6]; (try simp); omega); rw [← hT6] at R6 ⊢; have HT6 := Lib.hid hT6; clear hT6; have q06 := R6.p0; have q16 := R6.p1))
                go_roundw
                case rel =>
                  have hst : laysTo R L (k + 1) = T6 := by rw [HT6.out, HT5.out, Hst.out, hlay]; simp
                  exact ⟨k + 1, A6, c6, by omega, by go_num, by rw [hst], by rw [hst]; exact R6.own, R6.ba, R6.hb⟩
                case measure => first | omega | (simp [intOf]; done) | (simp [intOf]; omega)
              · have hlay := hL
                rw [z1, z2] at hlay
                clear hL z1 z2
                go_wp2_with (first | (at_builtin; refine wp_append_S rfl _ _ rfl w2.heap.size _ (laysTo R L k) rfl (own_keep R2.own ((Below.refl _ _).alloc (Nat.le_refl _) _)) (a, b, 1) v2.heap.size rfl (by simp) (by simp) (by simp) (by simp) (by (try simp); omega) (by have := R2.hb.size; (try simp); omega) ?_; intro A5 c5 w5 o5 g5 h5; have R5 := R2.app o5 g5 h5; clear o5 g5 h5; obtain ⟨T5, hT5⟩ : ∃ T, T = laysTo R L k ++ [(a, b, 1)] := ⟨_, rfl⟩; have hl5 : T5.length ≤ 2 * L.length + 5 := (by rw [hT5]; (try simp); omega); rw [← hT5] at R5 ⊢; have HT5 := Lib.hid hT5; clear hT5; have q05 := R5.p0; have q15 := R5.p1) | (at_builtin; refine wp_append_S rfl _ _ rfl w2.heap.size _ (T5) rfl (own_keep R5.own ((Below.refl _ _).alloc (Nat.le_refl _) _)) (a, b, 2) w5.heap.size rfl (by simp) (by simp) (by simp) (by simp) (by (try simp); omega) (by have := R5.hb.size; (try simp); omega) ?_; intro A6 c6 w6 o6 g6 h6; have R6 := R5.app o6 g6 h6; clear o6 g6 h6; obtain ⟨T6, hT6⟩ : ∃ T, T = T5 ++ [(a, b, 2)] := ⟨_, rfl⟩; have hl6 : T6.length ≤ 2 * L.length + 6 := (by rw [hT6]; (try simp); omega); rw [← hT6] at R6 ⊢; have HT6 := Lib.hid hT6; clear hT6; have q06 := R6.p0; have q16 := R6.p1))
                go_roundw
                case rel =>
                  have hst : laysTo R L (k + 1) = T6 := by rw [HT6.out, HT5.out, Hst.out, hlay]; simp
                  exact ⟨k + 1, A6, c6, by omega, by go_num, by rw [hst], by rw [hst]; exact R6.own, R6.ba, R6.hb⟩
                case measure => first | omega | (simp [intOf]; done) | (simp [intOf]; omega)
              · have hlay := hL
                rw [z1, z2] at hlay
                clear hL z1 z2
                go_wp2_with (first | (at_builtin; refine wp_append_S rfl _ _ rfl w2.heap.size _ (laysTo R L k) rfl (own_keep R2.own ((Below.refl _ _).alloc (Nat.le_refl _) _)) (a, b, 1) v2.heap.size rfl (by simp) (by simp) (by simp) (by simp) (by (try simp); omega) (by have := R2.hb.size; (try simp); omega) ?_; intro A5 c5 w5 o5 g5 h5; have R5 := R2.app o5 g5 h5; clear o5 g5 h5; obtain ⟨T5, hT5⟩ : ∃ T, T = laysTo R L k ++ [(a, b, 1)] := ⟨_, rfl⟩; have hl5 : T5.length ≤ 2 * L.length + 5 := (by rw [hT5]; (try simp); omega); rw [← hT5] at R5 ⊢; have HT5 := Lib.hid hT5; clear hT5; have q05 := R5.p0; have q15 := R5.p1))
                go_roundw
                case rel =>
                  have hst : laysTo R L (k + 1) = T5 := by rw [HT5.out, Hst.out, hlay]; (try simp)
                  exact ⟨k + 1, A5, c5, by omega, by go_num, by rw [hst], by rw [hst]; exact R5.own, R5.ba, R5.hb⟩
                case measure => first | omega | (simp [intOf]; done) | (simp [intOf]; omega)
            · rcases hasB_cases a b q2 with ⟨p3, z2⟩ | ⟨p3, p4, z2⟩ | ⟨p3, p4, z2⟩
              · have hlay := hL
                rw [z1, z2] at hlay
                clear hL z1 z2
                go_wp2_with (first | (at_builtin; refine wp_append_S rfl _ _ rfl w2.heap.size _ (laysTo R L k) rfl (own_keep R2.own ((Below.refl _ _).alloc (Nat.le_refl _) _)) (a, b, 1) v2.heap.size rfl (by simp) (by simp) (by simp) (by simp) (by (try simp); omega) (by have := R2.hb.size; (try simp); omega) ?_; intro A5 c5 w5 o5 g5 h5; have R5 := R2.app o5 g5 h5; clear o5 g5 h5; obtain ⟨T5, hT5⟩ : ∃ T, T = laysTo R L k ++ [(a, b, 1)] := ⟨_, rfl⟩; have hl5 : T5.length ≤ 2 * L.length + 5 := (by rw [hT5]; (try simp); omega); rw [← hT5] at R5 ⊢; have HT5 := Lib.hid hT5; clear hT5; have q05 := R5.p0; have q15 := R5.p1) | (at_builtin; refine wp_append_S rfl _ _ rfl w2.heap.size _ (T5) rfl (own_keep R5.own ((Below.refl _ _).alloc (Nat.le_refl _) _)) (a, b, 2) w5.heap.size rfl (by simp) (by simp) (by simp) (by simp) (by (try simp); omega) (by have := R5.hb.size; (try simp); omega) ?_; intro A6 c6 w6 o6 g6 h6; have R6 := R5.app o6 g6 h6; clear o6 g6 h6; obtain ⟨T6, hT6⟩ : ∃ T, T = T5 ++ [(a, b, 2)] := ⟨_, rfl⟩; have hl6 : T6.length ≤ 2 * L.length + 6 := (by rw [hT6]; (try simp); omega); rw [← hT6] at R6 ⊢; have HT6 := Lib.hid hT6; clear hT6; have q06 := R6.p0; have q16 := R6.p1))
                go_roundw
                case rel =>
                  have hst : laysTo R L (k + 1) = T6 := by rw [HT6.out, HT5.out, Hst.out, hlay]; simp
                  exact ⟨k + 1, A6, c6, by omega, by go_num, by rw [hst], by rw [hst]; exact R6.own, R6.ba, R6.hb⟩
                case measure => first | omega | (simp [intOf]; done) | (simp [intOf]; omega)
              · have hlay := hL
                rw [z1, z2] at hlay
                clear hL z1 z2
                go_wp2_with (first | (at_builtin; refine wp_append_S rfl _ _ rfl w2.heap.size _ (laysTo R L k) rfl (own_keep R2.own ((Below.refl _ _).alloc (Nat.le_refl _) _)) (a, b, 1) v2.heap.size rfl (by simp) (by simp) (by simp) (by simp) (by (try simp); omega) (by have := R2.hb.size; (try simp); omega) ?_; intro A5 c5 w5 o5 g5 h5; have R5 := R2.app o5 g5 h5; clear o5 g5 h5; obtain ⟨T5, hT5⟩ : ∃ T, T = laysTo R L k ++ [(a, b, 1)] := ⟨_, rfl⟩; have hl5 : T5.length ≤ 2 * L.length + 5 := (by rw [hT5]; (try simp); omega); rw [← hT5] at R5 ⊢; have HT5 := Lib.hid hT5; clear hT5; have q05 := R5.p0; have q15 := R5.p1) | (at_builtin; refine wp_append_S rfl _ _ rfl w2.heap.size _ (T5) rfl (own_keep R5.own ((Below.refl _ _).alloc (Nat.le_refl _) _)) (a, b, 2) w5.heap.size rfl (by simp) (by simp) (by simp) (by simp) (by (try simp); omega) (by have := R5.hb.size; (try simp); omega) ?_; intro A6 c6 w6 o6 g6 h6; have R6 := R5.app o6 g6 h6; clear o6 g6 h6; obtain ⟨T6, hT6⟩ : ∃ T, T = T5 ++ [(a, b, 2)] := ⟨_, rfl⟩; have hl6 : T6.length ≤ 2 * L.length + 6 := (by rw [hT6]; (try simp); omega); rw [← hT6] at R6 ⊢; have HT6 := Lib.hid hT6; clear hT6; have q06 := R6.p0; have q16 := R6.p1))
                go_roundw
                case rel =>
                  have hst : laysTo R L (k + 1) = T6 := by rw [HT6.out, HT5.out, Hst.out, hlay]; simp
                  exact ⟨k + 1, A6, c6, by omega, by go_num, by rw [hst], by rw [hst]; exact R6.own, R6.ba, R6.hb⟩
                case measure => first | omega | (simp [intOf]; done) | (simp [intOf]; omega)
              · have hlay := hL
                rw [z1, z2] at hlay
                clear hL z1 z2
                go_wp2_with (first | (at_builtin; refine wp_append_S rfl _ _ rfl w2.heap.size _ (laysTo R L k) rfl (own_keep R2.own ((Below.refl _ _).alloc (Nat.le_refl _) _)) (a, b, 1) v2.heap.size rfl (by simp) (by simp) (by simp) (by simp) (by (try simp); omega) (by have := R2.hb.size; (try simp); omega) ?_; intro A5 c5 w5 o5 g5 h5; have R5 := R2.app o5 g5 h5; clear o5 g5 h5; obtain ⟨T5, hT5⟩ : ∃ T, T = laysTo R L k ++ [(a, b, 1)] := ⟨_, rfl⟩; have hl5 : T5.length ≤ 2 * L.length + 5 := (by rw [hT5]; (try simp); omega); rw [← hT5] at R5 ⊢; have HT5 := Lib.hid hT5; clear hT5; have q05 := R5.p0; have q15 := R5.p1))
                go_roundw
                case rel =>
                  have hst : laysTo R L (k + 1) = T5 := by rw [HT5.out, Hst.out, hlay]; (try simp)
                  exact ⟨k + 1, A5, c5, by omega, by go_num, by rw [hst], by rw [hst]; exact R5.own, R5.ba, R5.hb⟩
                case measure => first | omega | (simp [intOf]; done) | (simp [intOf]; omega)
            · rcases hasB_cases a b q2 with ⟨p3, z2⟩ | ⟨p3, p4, z2⟩ | ⟨p3, p4, z2⟩
              · have hlay := hL
                rw [z1, z2] at hlay
                clear hL z1 z2
                go_wp2_with (first | (at_builtin; refine wp_append_S rfl _ _ rfl w2.heap.size _ (laysTo R L k) rfl (own_keep R2.own ((Below.refl _ _).alloc (Nat.le_refl _) _)) (a, b, 2) v2.heap.size rfl (by simp) (by simp) (by simp) (by simp) (by (try simp); omega) (by have := R2.hb.size; (try simp); omega) ?_; intro A6 c6 w6 o6 g6 h6; have R6 := R2.app o6 g6 h6; clear o6 g6 h6; obtain ⟨T6, hT6⟩ : ∃ T, T = laysTo R L k ++ [(a, b, 2)] := ⟨_, rfl⟩; have hl6 : T6.length ≤ 2 * L.length + 6 := (by rw [hT6]; (try simp); omega); rw [← hT6] at R6 ⊢; have HT6 := Lib.hid hT6; clear hT6; have q06 := R6.p0; have q16 := R6.p1))
                go_roundw
                case rel =>
                  have hst : laysTo R L (k + 1) = T6 := by rw [HT6.out, Hst.out, hlay]; (try simp)
                  exact ⟨k + 1, A6, c6, by omega, by go_num, by rw [hst], by rw [hst]; exact R6.own, R6.ba, R6.hb⟩
                case measure => first | omega | (simp [intOf]; done) | (simp [intOf]; omega)
              · have hlay := hL
                rw [z1, z2] at hlay
                clear hL z1 z2
                go_wp2_with (first | (at_builtin; refine wp_append_S rfl _ _ rfl w2.heap.size _ (laysTo R L k) rfl (own_keep R2.own ((Below.refl _ _).alloc (Nat.le_refl _) _)) (a, b, 2) v2.heap.size rfl (by simp) (by simp) (by simp) (by simp) (by (try simp); omega) (by have := R2.hb.size; (try simp); omega) ?_; intro A6 c6 w6 o6 g6 h6; have R6 := R2.app o6 g6 h6; clear o6 g6 h6; obtain ⟨T6, hT6⟩ : ∃ T, T = laysTo R L k ++ [(a, b, 2)] := ⟨_, rfl⟩; have hl6 : T6.length ≤ 2 * L.length + 6 := (by rw [hT6]; (try simp); omega); rw [← hT6] at R6 ⊢; have HT6 := Lib.hid hT6; clear hT6; have q06 := R6.p0; have q16 := R6.p1))
                go_roundw
                case rel =>
                  have hst : laysTo R L (k + 1) = T6 := by rw [HT6.out, Hst.out, hlay]; (try simp)
                  exact ⟨k + 1, A6, c6, by omega, by go_num, by rw [hst], by rw [hst]; exact R6.own, R6.ba, R6.hb⟩
                case measure => first | omega | (simp [intOf]; done) | (simp [intOf]; omega)
              · have hlay := hL
                rw [z1, z2] at hlay
                clear hL z1 z2
                go_wp2
                go_roundw
                case rel =>
                  have hst : laysTo R L (k + 1) = laysTo R L k := by rw [Hst.out, hlay]; simp
                  exact ⟨k + 1, A', c', by omega, by go_num, by rw [hst], by rw [hst]; exact R2.own, R2.ba, R2.hb⟩
                case measure => first | omega | (simp [intOf]; done) | (simp [intOf]; omega)
        · have : k = L.length := by omega
          subst this
          have glen := laysTo_len R L L.length
          by_cases hz0 : (laysTo R L L.length).length = 0
          · have ez : (((laysTo R L L.length).length : Int) == 0) = true := by rw [hz0]; rfl
            have HM2 := HM.out
            rw [if_pos hz0] at HM2
            clear HM hz0
            subst HM2
            go_wp2
            go_ret
            exact ⟨some ⟨wr.heap.size, 0, none⟩, 1, rfl, World.ownsRow_lit wr #[.int .i64 0, .int .i64 0, .bool false, .bool true] 1 (by omega) (by unfold maxLen; omega) rfl, (bstep hb2 hb).alloc (by omega) _⟩
          · have ez : (((laysTo R L L.length).length : Int) == 0) = false := by rw [beq_eq_false_iff_ne]; omega
            have HM2 := HM.out
            rw [if_neg hz0] at HM2
            clear HM hz0
            rw [← HM2] at hown glen ez ⊢
            clear HM2
            go_wp2
            go_ret
            exact ⟨A', c', rfl, own_base hown (by omega), bstep hb2 hb⟩
    · have eh : handG F S t = F := if_neg ht
      have ConS := Lib.hid (fun W (hb : Below w.heap.size w W) => c_tiSort AF cF F W (hF.below hb) (by have := (handB_good gF).1; omega))
      have et : (t == 1) = false := by simp [ht]
      have hl : laysL R F = laysTo R (sortL F) (sortL F).length := rfl
      have hll := sortL_len F
      rw [eh, hl]
      clear eh hl ht gF gS hF hS
      generalize sortL F = L at *
      obtain ⟨M, hM⟩ : ∃ M, M = (if (laysTo R L L.length).length = 0 then [(0, 0, 0)] else laysTo R L L.length) := ⟨_, rfl⟩
      rw [← hM]
      have HM := Lib.hid hM
      clear hM
      go_enter Try.func76, Try.ntmps76
      go_wp2_with fail
      obtain ⟨w0, hw0⟩ : ∃ w0, w0 = w.alloc (.cells #[.slice AF F.length cF, .slice AS S.length cS, .slice AR R.length cR, .int .i64 t, .int .i64 u] 31) := ⟨_, rfl⟩
      rw [← hw0]
      have ba0 : BoxAt w0 w.heap.size (.slice AF F.length cF) (.slice AS S.length cS) (.slice AR R.length cR) (.int .i64 t) (.int .i64 u) := by rw [hw0]; exact BoxAt.fresh w _ _ _ _ _ _
      have hb0 : Below w.heap.size w w0 := by rw [hw0]; go_grown
      clear hw0
      refine (ConO.out w0).mono ?_
      rintro e w1 ⟨rfl, h1⟩
      have hb1 := bstep hb0 h1
      have ba1 := ba0.keep h1
      clear ba0
      have x0 := ba1.c0
      have x1 := ba1.c1
      have x2 := ba1.c2
      have x3 := ba1.c3
      have x4 := ba1.c4
      go_wp2_with fail
      refine (ConS.out w1 hb1).mono ?_
      rintro e w2 ⟨A2, c2, rfl, o2, h2⟩
      have hb2 := bstep hb1 h2
      have ba2 := ba1.keep h2
      clear x0 x1 x2 x3 x4 ba1
      have glt := ba2.lt
      have r2 := RdT.of_own o2
      have hrR2 := hR.below hb2
      clear hR o2
      go_wp2
      go_loopw [4, 21] (fun v i wr => ∃ (k : Nat) (A' : Option Addr) (c' : Nat), k ≤ L.length ∧ i = .int .i64 k ∧ v = .slice A' (laysTo R L k).length c' ∧ wr.ownsRow w2.heap.size 124 4 (.slice A' (laysTo R L k).length c') (laysTo R L k).length (cellsE encS (laysTo R L k)) ∧ BoxAt wr w.heap.size (.slice AF F.length cF) (.slice AS S.length cS) (.slice AR R.length cR) (.int .i64 t) (.int .i64 u) ∧ Below w2.heap.size w2 wr) (fun _ i _ => L.length - (intOf i).toNat)
      case atStart => exact ⟨0, none, 0, Nat.zero_le _, rfl, by rw [laysTo_zero]; rfl, by rw [laysTo_zero]; exact World.ownsRow_nil _ _ _ _, ba2, Below.refl _ _⟩
      case round =>
        obtain ⟨k, A', c', hk, rfl, rfl, hown, hba, hb⟩ := hrel
        clear ba2
        have hz := hb.size
        have hms := laysTo_len R L k
        by_cases hlt : k < L.length
        · obtain ⟨bl, ol, rfl, hbl, hcl⟩ := r2.at_ hlt
          have g0 := keepc hb (hcl k hlt).1
          have g1 := keepc hb (hcl k hlt).2
          have Hst := Lib.hid (laysTo_step (R := R) hlt)
          obtain ⟨a, hL0⟩ : ∃ a, L[k].1 = a := ⟨_, rfl⟩
          obtain ⟨b, hL1⟩ : ∃ b, L[k].2 = b := ⟨_, rfl⟩
          rw [hL0] at g0
          rw [hL1] at g1
          have x0 := hba.c0
          have x2 := hba.c2
          clear hcl r2
          go_upto_region 10 with (fail)
          obtain ⟨v1, hv1⟩ : ∃ v1, v1 = wr.alloc (.cells #[.int .i64 a, .int .i64 b] 72) := ⟨_, rfl⟩
          rw [← hv1]
          have b1 : Below wr.heap.size wr v1 := by rw [hv1]; exact (Below.refl _ _).alloc (Nat.le_refl _) _
          have R1 : SMov w.heap.size wr.heap.size (.slice AF F.length cF) (.slice AS S.length cS) (.slice AR R.length cR) (.int .i64 t) (.int .i64 u) a b 124 4 encS w2 A' c' (laysTo R L k) v1 := ⟨hba.keep b1, by rw [hv1]; simp, by rw [hv1]; simp, own_keep hown b1, fun g hg => by have := (hown.lt g hg).2; omega, hb.trans (b1.mono hz), glt⟩
          clear x0 x2 g0 g1
          have x2 := R1.ba.c2
          have q01 := R1.p0
          have q11 := R1.p1
          have hrR := hrR2.below R1.hb
          clear hv1 hown hba
          by_cases hR0 : R.length = 0
          · have e0 : ((R.length : Int) == 0) = true := by simp [hR0]
            have hlay : layOf R L[k] = [(L[k].1, L[k].2, 1)] := by unfold layOf leftB rightB; simp [hR0]
            rw [hL0, hL1] at hlay
            clear hR0 hL0 hL1 hrR
            go_wp2_with (first | (at_builtin; refine wp_append_S rfl _ _ rfl w2.heap.size _ (laysTo R L k) rfl (own_keep R1.own ((Below.refl _ _).alloc (Nat.le_refl _) _)) (a, b, 1) v1.heap.size rfl (by simp) (by simp) (by simp) (by simp) (by (try simp); omega) (by have := R1.hb.size; (try simp); omega) ?_; intro A5 c5 w5 o5 g5 h5; have R5 := R1.app o5 g5 h5; clear o5 g5 h5; obtain ⟨T5, hT5⟩ : ∃ T, T = laysTo R L k ++ [(a, b, 1)] := ⟨_, rfl⟩; have hl5 : T5.length ≤ 2 * L.length + 5 := (by rw [hT5]; (try simp); omega); rw [← hT5] at R5 ⊢; have HT5 := Lib.hid hT5; clear hT5; have q05 := R5.p0; have q15 := R5.p1))
            go_roundw
            case rel =>
              have hst : laysTo R L (k + 1) = T5 := by rw [HT5.out, Hst.out, hlay]; (try simp)
              exact ⟨k + 1, A5, c5, by omega, by go_num, by rw [hst], by rw [hst]; exact R5.own, R5.ba, R5.hb⟩
            case measure => first | omega | (simp [intOf]; done) | (simp [intOf]; omega)
          · have e0 : ((R.length : Int) == 0) = false := by rw [beq_eq_false_iff_ne]; omega
            obtain ⟨br, orr, hAR, hbr, hcR⟩ := hrR.at_ (k := 0) (by omega)
            subst hAR
            have y0 : v1.cell? ⟨br, orr, none⟩ = some (.int .i64 (fstI R)) := by
              have := hcR 0 (by omega)
              rw [Nat.add_zero] at this
              rw [this]; unfold fstI; rw [List.getD_eq_getElem?_getD, List.getElem?_eq_getElem (by omega)]; rfl
            have y1 : v1.cell? ⟨br, orr + (R.length - 1), none⟩ = some (.int .i64 (lstI R)) := by
              rw [hcR (R.length - 1) (by omega)]; unfold lstI; rw [List.getD_eq_getElem?_getD, List.getElem?_eq_getElem (by omega)]; rfl
            obtain ⟨n, hn⟩ : ∃ n, R.length = n + 1 := ⟨R.length - 1, by omega⟩
            have hL : layOf R L[k] = (if hasB a b (fstI R) then [(a, b, 1)] else []) ++ (if hasB a b (lstI R) then [(a, b, 2)] else []) := by
              unfold layOf leftB rightB; rw [decide_eq_false hR0, decide_eq_true (show 0 < R.length by omega), hL0, hL1]; simp
            rw [show R.length - 1 = n from by omega] at y1
            generalize fstI R = q1 at *
            generalize lstI R = q2 at *
            have l1 : (0 : Int) < (R.length : Int) := by omega
            have iw : IntKind.i64.wrap ((R.length : Int) - 1) = (n : Int) := by rw [IntWalk.i64_in _ (by omega)]; omega
            have i0 : (0 : Int) ≤ (n : Int) := by omega
            have i1 : (n : Int) < (R.length : Int) := by omega
            clear hL0 hL1 hR0 hcR hrR
            go_upto_region 12 with (fail)
            go_quiet (fail)
            obtain ⟨v2, hv2⟩ : ∃ v2, v2 = v1.drewN nq := ⟨_, rfl⟩
            rw [← hv2]
            have R2 := R1.drew nq
            rw [← hv2] at R2
            clear hv2 x2 q01 q11 y0 y1 l1 iw i0 i1 hn
            have x2 := R2.ba.c2
            have q01 := R2.p0
            have q11 := R2.p1
            clear R1
            rcases hasB_cases a b q1 with ⟨p1, z1⟩ | ⟨p1, p2, z1⟩ | ⟨p1, p2, z1⟩
            · rcases hasB_cases a b q2 with ⟨p3, z2⟩ | ⟨p3, p4, z2⟩ | ⟨p3, p4, z2⟩
              · have hlay := hL
                rw [z1, z2] at hlay
                clear hL z1 z2
                go_wp2_with (first | (at_builtin; refine wp_append_S rfl _ _ rfl w2.heap.size _ (laysTo R L k) rfl (own_keep R2.own ((Below.refl _ _).alloc (Nat.le_refl _) _)) (a, b, 1) v2.heap.size rfl (by simp) (by simp) (by simp) (by simp) (by (try simp); omega) (by have := R2.hb.size; (try simp); omega) ?_; intro A5 c5 w5 o5 g5 h5; have R5 := R2.app o5 g5 h5; clear o5 g5 h5; obtain ⟨T5, hT5⟩ : ∃ T, T = laysTo R L k ++ [(a, b, 1)] := ⟨_, rfl⟩; have hl5 : T5.length ≤ 2 * L.length + 5 := (by rw [hT5]; (try simp); omega); rw [← hT5] at R5 ⊢; have HT5 := Lib.hid hT5; clear hT5; have q05 := R5.p0; have q15 := R5.p1) | (at_builtin; refine wp_append_S rfl _ _ rfl w2.heap.size _ (T5) rfl (own_keep R5.own ((Below.refl _ _).alloc (Nat.le_refl _) _)) (a, b, 2) w5.heap.size rfl (by simp) (by simp) (by simp) (by simp) (by (try simp); omega) (by have := R5.hb.size; (try simp); omega) ?_; intro A6 c6 w6 o6 g6 h6; have R6 := R5.app o6 g6 h6; clear o6 g6 h6; obtain ⟨T6, hT6⟩ : ∃ T, T = T5 ++ [(a, b, 2)] := ⟨_, rfl⟩; have hl6 : T6.length ≤ 2 * L.length + 6 := (by rw [hT6]; (try simp); omega); rw [← hT6] at R6 ⊢; have HT6 := Lib.hid hT6; clear hT6; have q06 := R6.p0; have q16 := R6.p1))
                go_roundw
                case rel =>
                  have hst : laysTo R L (k + 1) = T6 := by rw [HT6.out, HT5.out, Hst.out, hlay]; simp
                  exact ⟨k + 1, A6, c6, by omega, by go_num, by rw [hst], by rw [hst]; exact R6.own, R6.ba, R6.hb⟩
                case measure => first | omega | (simp [intOf]; done) | (simp [intOf]; omega)
              · have hlay := hL
                rw [z1, z2] at hlay
                clear hL z1 z2
                go_wp2_with (first | (at_builtin; refine wp_append_S rfl _ _ rfl w2.heap.size _ (laysTo R L k) rfl (own_keep R2.own ((Below.refl _ _).alloc (Nat.le_refl _) _)) (a, b, 1) v2.heap.size rfl (by simp) (by simp) (by simp) (by simp) (by (try simp); omega) (by have := R2.hb.size; (try simp); omega) ?_; intro A5 c5 w5 o5 g5 h5; have R5 := R2.app o5 g5 h5; clear o5 g5 h5; obtain ⟨T5, hT5⟩ : ∃ T, T = laysTo R L k ++ [(a, b, 1)] := ⟨_, rfl⟩; have hl5 : T5.length ≤ 2 * L.length + 5 := (by rw [hT5]; (try simp); omega); rw [← hT5] at R5 ⊢; have HT5 := Lib.hid hT5; clear hT5; have q05 := R5.p0; have q15 := R5.p1) | (at_builtin; refine wp_append_S rfl _ _ rfl w2.heap.size _ (T5) rfl (own_keep R5.own ((Below.refl _ _).alloc (Nat.le_refl _) _)) (a, b, 2) w5.heap.size rfl (by simp) (by simp) (by simp) (by simp) (by (try simp); omega) (by have := R5.hb.size; (try simp); omega) ?_; intro A6 c6 w6 o6 g6 h6; have R6 := R5.app o6 g6 h6; clear o6 g6 h6; obtain ⟨T6, hT6⟩ : ∃ T, T = T5 ++ [(a, b, 2)] := ⟨_, rfl⟩; have hl6 : T6.length ≤ 2 * L.length + 6 := (by rw [hT6]; (try simp); omega); rw [← hT6] at R6 ⊢; have HT6 := Lib.hid hT6; clear hT6; have q06 := R6.p0; have q16 := R6.p1))
                go_roundw
                case rel =>
                  have hst : laysTo R L (k + 1) = T6 := by rw [HT6.out, HT5.out, Hst.out, hlay]; simp
                  exact ⟨k + 1, A6, c6, by omega, by go_num, by rw [hst], by rw [hst]; exact R6.own, R6.ba, R6.hb⟩
                case measure => first | omega | (simp [intOf]; done) | (simp [intOf]; omega)
              · have hlay := hL
                rw [z1, z2] at hlay
                clear hL z1 z2
                go_wp2_with (first | (at_builtin; refine wp_append_S rfl _ _ rfl w2.heap.size _ (laysTo R L k) rfl (own_keep R2.own ((Below.refl _ _).alloc (Nat.le_refl _) _)) (a, b, 1) v2.heap.size rfl (by simp) (by simp) (by simp) (by simp) (by (try simp); omega) (by have := R2.hb.size; (try simp); omega) ?_; intro A5 c5 w5 o5 g5 h5; have R5 := R2.app o5 g5 h5; clear o5 g5 h5; obtain ⟨T5, hT5⟩ : ∃ T, T = laysTo R L k ++ [(a, b, 1)] := ⟨_, rfl⟩; have hl5 : T5.length ≤ 2 * L.length + 5 := (by rw [hT5]; (try simp); omega); rw [← hT5] at R5 ⊢; have HT5 := Lib.hid hT5; clear hT5; have q05 := R5.p0; have q15 := R5.p1))
                go_roundw
                case rel =>
                  have hst : laysTo R L (k + 1) = T5 := by rw [HT5.out, Hst.out, hlay]; (try simp)
                  exact ⟨k + 1, A5, c5, by omega, by go_num, by rw [hst], by rw [hst]; exact R5.own, R5.ba, R5.hb⟩
                case measure => first | omega | (simp [intOf]; done) | (simp [intOf]; omega)
            · rcases hasB_cases a b q2 with ⟨p3, z2⟩ | ⟨p3, p4, z2⟩ | ⟨p3, p4, z2⟩
              · have hlay := hL
                rw [z1, z2] at hlay
                clear hL z1 z2
                go_wp2_with (first | (at_builtin; refine wp_append_S rfl _ _ rfl w2.heap.size _ (laysTo R L k) rfl (own_keep R2.own ((Below.refl _ _).alloc (Nat.le_refl _) _)) (a, b, 1) v2.heap.size rfl (by simp) (by simp) (by simp) (by simp) (by (try simp); omega) (by have := R2.hb.size; (try simp); omega) ?_; intro A5 c5 w5 o5 g5 h5; have R5 := R2.app o5 g5 h5; clear o5 g5 h5; obtain ⟨T5, hT5⟩ : ∃ T, T = laysTo R L k ++ [(a, b, 1)] := ⟨_, rfl⟩; have hl5 : T5.length ≤ 2 * L.length + 5 := (by rw [hT5]; (try simp); omega); rw [← hT5] at R5 ⊢; have HT5 := Lib.hid hT5; clear hT5; have q05 := R5.p0; have q15 := R5.p1) | (at_builtin; refine wp_append_S rfl _ _ rfl w2.heap.size _ (T5) rfl (own_keep R5.own ((Below.refl _ _).alloc (Nat.le_refl _) _)) (a, b, 2) w5.heap.size rfl (by simp) (by simp) (by simp) (by simp) (by (try simp); omega) (by have := R5.hb.size; (try simp); omega) ?_; intro A6 c6 w6 o6 g6 h6; have R6 := R5.app o6 g6 h6; clear o6 g6 h6; obtain ⟨T6, hT6⟩ : ∃ T, T = T5 ++ [(a, b, 2)] := ⟨_, rfl⟩; have hl6 : T6.length ≤ 2 * L.length + 6 := (by rw [hT6]; (try simp); omega); rw [← hT6] at R6 ⊢; have HT6 := Lib.hid hT6; clear hT6; have q06 := R6.p0; have q16 := R6.p1))
                go_roundw
                case rel =>
                  have hst : laysTo R L (k + 1) = T6 := by rw [HT6.out, HT5.out, Hst.out, hlay]; simp
                  exact ⟨k + 1, A6, c6, by omega, by go_num, by rw [hst], by rw [hst]; exact R6.own, R6.ba, R6.hb⟩
                case measure => first | omega | (simp [intOf]; done) | (simp [intOf]; omega)
              · have hlay := hL
                rw [z1, z2] at hlay
                clear hL z1 z2
                go_wp2_with (first | (at_builtin; refine wp_append_S rfl _ _ rfl w2.heap.size _ (laysTo R L k) rfl (own_keep R2.own ((Below.refl _ _).alloc (Nat.le_refl _) _)) (a, b, 1) v2.heap.size rfl (by simp) (by simp) (by simp) (by simp) (by (try simp); omega) (by have := R2.hb.size; (try simp); omega) ?_; intro A5 c5 w5 o5 g5 h5; have R5 := R2.app o5 g5 h5; clear o5 g5 h5; obtain ⟨T5, hT5⟩ : ∃ T, T = laysTo R L k ++ [(a, b, 1)] := ⟨_, rfl⟩; have hl5 : T5.length ≤ 2 * L.length + 5 := (by rw [hT5]; (try simp); omega); rw [← hT5] at R5 ⊢; have HT5 := Lib.hid hT5; clear hT5; have q05 := R5.p0; have q15 := R5.p1) | (at_builtin; refine wp_append_S rfl _ _ rfl w2.heap.size _ (T5) rfl (own_keep R5.own ((Below.refl _ _).alloc (Nat.le_refl _) _)) (a, b, 2) w5.heap.size rfl (by simp) (by simp) (by simp) (by simp) (by (try simp); omega) (by have := R5.hb.size; (try simp); omega) ?_; intro A6 c6 w6 o6 g6 h6; have R6 := R5.app o6 g6 h6; clear o6 g6 h6; obtain ⟨T6, hT6⟩ : ∃ T, T = T5 ++ [(a, b, 2)] := ⟨_, rfl⟩; have hl6 : T6.length ≤ 2 * L.length + 6 := (by rw [hT6]; (try simp); omega); rw [← hT6] at R6 ⊢; have HT6 := Lib.hid hT6; clear hT6; have q06 := R6.p0; have q16 := R6.p1))
                go_roundw
                case rel =>
                  have hst : laysTo R L (k + 1) = T6 := by rw [HT6.out, HT5.out, Hst.out, hlay]; simp
                  exact ⟨k + 1, A6, c6, by omega, by go_num, by rw [hst], by rw [hst]; exact R6.own, R6.ba, R6.hb⟩
                case measure => first | omega | (simp [intOf]; done) | (simp [intOf]; omega)
              · have hlay := hL
                rw [z1, z2] at hlay
                clear hL z1 z2
                go_wp2_with (first | (at_builtin; refine wp_append_S rfl _ _ rfl w2.heap.size _ (laysTo R L k) rfl (own_keep R2.own ((Below.refl _ _).alloc (Nat.le_refl _) _)) (a, b, 1) v2.heap.size rfl (by simp) (by simp) (by simp) (by simp) (by (try simp); omega) (by have := R2.hb.size; (try simp); omega) ?_; intro A5 c5 w5 o5 g5 h5; have R5 := R2.app o5 g5 h5; clear o5 g5 h5; obtain ⟨T5, hT5⟩ : ∃ T, T = laysTo R L k ++ [(a, b, 1)] := ⟨_, rfl⟩; have hl5 : T5.length ≤ 2 * L.length + 5 := (by rw [hT5]; (try simp); omega); rw [← hT5] at R5 ⊢; have HT5 := Lib.hid hT5; clear hT5; have q05 := R5.p0; have q15 := R5.p1))
                go_roundw
                case rel =>
                  have hst : laysTo R L (k + 1) = T5 := by rw [HT5.out, Hst.out, hlay]; (try simp)
                  exact ⟨k + 1, A5, c5, by omega, by go_num, by rw [hst], by rw [hst]; exact R5.own, R5.ba, R5.hb⟩
                case measure => first | omega | (simp [intOf]; done) | (simp [intOf]; omega)
            · rcases hasB_cases a b q2 with ⟨p3, z2⟩ | ⟨p3, p4, z2⟩ | ⟨p3, p4, z2⟩
              · have hlay := hL
                rw [z1, z2] at hlay
                clear hL z1 z2
                go_wp2_with (first | (at_builtin; refine wp_append_S rfl _ _ rfl w2.heap.size _ (laysTo R L k) rfl (own_keep R2.own ((Below.refl _ _).alloc (Nat.le_refl _) _)) (a, b, 2) v2.heap.size rfl (by simp) (by simp) (by simp) (by simp) (by (try simp); omega) (by have := R2.hb.size; (try simp); omega) ?_; intro A6 c6 w6 o6 g6 h6; have R6 := R2.app o6 g6 h6; clear o6 g6 h6; obtain ⟨T6, hT6⟩ : ∃ T, T = laysTo R L k ++ [(a, b, 2)] := ⟨_, rfl⟩; have hl6 : T6.length ≤ 2 * L.length + 6 := (by rw [hT6]; (try simp); omega); rw [← hT6] at R6 ⊢; have HT6 := Lib.hid hT6; clear hT6; have q06 := R6.p0; have q16 := R6.p1))
                go_roundw
                case rel =>
                  have hst : laysTo R L (k + 1) = T6 := by rw [HT6.out, Hst.out, hlay]; (try simp)
                  exact ⟨k + 1, A6, c6, by omega, by go_num, by rw [hst], by rw [hst]; exact R6.own, R6.ba, R6.hb⟩
                case measure => first | omega | (simp [intOf]; done) | (simp [intOf]; omega)
              · have hlay := hL
                rw [z1, z2] at hlay
                clear hL z1 z2
                go_wp2_with (first | (at_builtin; refine wp_append_S rfl _ _ rfl w2.heap.size _ (laysTo R L k) rfl (own_keep R2.own ((Below.refl _ _).alloc (Nat.le_refl _) _)) (a, b, 2) v2.heap.size rfl (by simp) (by simp) (by simp) (by simp) (by (try simp); omega) (by have := R2.hb.size; (try simp); omega) ?_; intro A6 c6 w6 o6 g6 h6; have R6 := R2.app o6 g6 h6; clear o6 g6 h6; obtain ⟨T6, hT6⟩ : ∃ T, T = laysTo R L k ++ [(a, b, 2)] := ⟨_, rfl⟩; have hl6 : T6.length ≤ 2 * L.length + 6 := (by rw [hT6]; (try simp); omega); rw [← hT6] at R6 ⊢; have HT6 := Lib.hid hT6; clear hT6; have q06 := R6.p0; have q16 := R6.p1))
                go_roundw
                case rel =>
                  have hst : laysTo R L (k + 1) = T6 := by rw [HT6.out, Hst.out, hlay]; (try simp)
                  exact ⟨k + 1, A6, c6, by omega, by go_num, by rw [hst], by rw [hst]; exact R6.own, R6.ba, R6.hb⟩
                case measure => first | omega | (simp [intOf]; done) | (simp [intOf]; omega)
              · have hlay := hL
                rw [z1, z2] at hlay
                clear hL z1 z2
                go_wp2
                go_roundw
                case rel =>
                  have hst : laysTo R L (k + 1) = laysTo R L k := by rw [Hst.out, hlay]; simp
                  exact ⟨k + 1, A', c', by omega, by go_num, by rw [hst], by rw [hst]; exact R2.own, R2.ba, R2.hb⟩
                case measure => first | omega | (simp [intOf]; done) | (simp [intOf]; omega)
        · have : k = L.length := by omega
          subst this
          have glen := laysTo_len R L L.length
          by_cases hz0 : (laysTo R L L.length).length = 0
          · have ez : (((laysTo R L L.length).length : Int) == 0) = true := by rw [hz0]; rfl
            have HM2 := HM.out
            rw [if_pos hz0] at HM2
            clear HM hz0
            subst HM2
            go_wp2
            go_ret
            exact ⟨some ⟨wr.heap.size, 0, none⟩, 1, rfl, World.ownsRow_lit wr #[.int .i64 0, .int .i64 0, .bool false, .bool true] 1 (by omega) (by unfold maxLen; omega) rfl, (bstep hb2 hb).alloc (by omega) _⟩
          · have ez : (((laysTo R L L.length).length : Int) == 0) = false := by rw [beq_eq_false_iff_ne]; omega
            have HM2 := HM.out
            rw [if_neg hz0] at HM2
            clear HM hz0
            rw [← HM2] at hown glen ez ⊢
            clear HM2
            go_wp2
            go_ret
            exact ⟨A', c', rfl, own_base hown (by omega), bstep hb2 hb⟩
  · simp only [ho] at conO
    have em : movesL F S R t u = [] := by unfold movesL; rw [ho]; rfl
    rw [em]
    clear em ho hF hS hR gF gS
    go_enter Try.func76, Try.ntmps76
    go_wp2_with fail
    obtain ⟨w0, hw0⟩ : ∃ w0, w0 = w.alloc (.cells #[.slice AF F.length cF, .slice AS S.length cS, .slice AR R.length cR, .int .i64 t, .int .i64 u] 31) := ⟨_, rfl⟩
    rw [← hw0]
    have ba0 : BoxAt w0 w.heap.size (.slice AF F.length cF) (.slice AS S.length cS) (.slice AR R.length cR) (.int .i64 t) (.int .i64 u) := by rw [hw0]; exact BoxAt.fresh w _ _ _ _ _ _
    have hb0 : Below w.heap.size w w0 := by rw [hw0]; go_grown
    clear hw0
    refine (conO w0).mono ?_
    rintro e w1 ⟨rfl, h1⟩
    have hb1 := bstep hb0 h1
    have ba1 := ba0.keep h1
    clear ba0
    have x0 := ba1.c0
    have x1 := ba1.c1
    have x2 := ba1.c2
    have x3 := ba1.c3
    have x4 := ba1.c4
    go_wp2
    go_ret
    exact ⟨none, 0, rfl, World.ownsRow_nil _ _ _ _, hb1⟩

end Go.Proofs.Ytgjdpiooocpmhab

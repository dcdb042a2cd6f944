/- plSweep.look: probe of the inner loop. -/
import Derived.Test.YtlnfialfkipdjaaSwA
import Derived.Deep.Cut
import Derived.BigQuiet
import Derived.Deep.CutBlock
import Derived.Maps.AppendAt
namespace Go.Proofs.Ytlnfialfkipdjaa
open Go.RowKit
set_option linter.unusedVariables false

theorem g_below2 {a b c : World} {r : Option Nat} (h : a.grownBy b r) (hb : Below b.heap.size b c) : a.grownBy c r :=
  ⟨hb.os.trans h.os, hb.tape.trans h.tape, hb.output.trans h.output, Nat.le_trans h.size hb.size, fun k hk hne => (hb.block k (Nat.lt_of_lt_of_le hk h.size)).trans (h.block k hk hne)⟩

theorem cellG {w w' : World} {g0 b j : Nat} {v : Value} (h : w.grownBy w' (some g0)) (hc : w.cell? ⟨b, j, none⟩ = some v) (hne : b ≠ g0) : w'.cell? ⟨b, j, none⟩ = some v :=
  (World.cell?_of_block (a := ⟨b, j, none⟩) (h.block b (block_lt hc) (fun e => hne (Option.some.inj e)))).trans hc

/-- The numbers of a tile, this way round or that. -/
def eOf (p p2 : Int) (j : Nat) : Int := if j = 0 then p else p2
def oOf (p p2 : Int) (j : Nat) : Int := if j = 0 then p2 else p
theorem o_num {p p2 : Int} (h : 0 ≤ p ∧ p ≤ 9) (h2 : 0 ≤ p2 ∧ p2 ≤ 9) (j : Nat) : 0 ≤ oOf p p2 j ∧ oOf p p2 j ≤ 9 := by
  unfold oOf
  split <;> assumption
theorem o_wrap {p p2 : Int} (h : 0 ≤ p ∧ p ≤ 9) (h2 : 0 ≤ p2 ∧ p2 ≤ 9) (j : Nat) : IntKind.i64.wrap (p + p2 - eOf p p2 j) = oOf p p2 j := by
  unfold oOf eOf
  split
  all_goals
    rw [IntWalk.i64_in _ (by omega)]
    omega
/-- What can be laid with one number of a tile against an end. -/
def mst (c : Nat) (l r e o : Int) : List SwS := (if e = l then [(c, o, r)] else []) ++ (if e = r then [(c, l, o)] else [])
def mjS (c : Nat) (l r p p2 : Int) : Nat → List SwS
  | 0 => []
  | 1 => mst c l r p p2
  | _ => mst c l r p p2 ++ mst c l r p2 p
theorem two_cases {j : Nat} (h : j < 2) : j = 0 ∨ j = 1 := by omega
theorem mj_step (c : Nat) (l r p p2 : Int) {j : Nat} (h : j < 2) : mjS c l r p p2 (j + 1) = mjS c l r p p2 j ++ mst c l r (eOf p p2 j) (oOf p p2 j) := by
  rcases two_cases h with rfl | rfl <;> rfl
theorem sw_step {S D Z : List SwS} {c : Nat} {l r p p2 : Int} (hS : S = D ++ (mjS c l r p p2 2 ++ Z)) {j : Nat} (h : j < 2) : ∃ Z', S = (D ++ mjS c l r p p2 j) ++ (mst c l r (eOf p p2 j) (oOf p p2 j) ++ Z') := by
  rcases two_cases h with rfl | rfl
  · exact ⟨mst c l r p2 p ++ Z, by rw [hS]; simp [mjS, eOf, oOf]⟩
  · exact ⟨Z, by rw [hS]; simp [mjS, eOf, oOf]⟩
/-- The search's world inside the loop over a tile's two numbers. -/
structure InW (H : List (Int × Int)) (pb gs N : Nat) (AH : Option Addr) (cH gt gl : Nat) (p p2 : Int) (w0 w : World) (f : SwS → Bool) : Prop where
  k : LkW H pb gs N AH cH w f
  g : w0.grownBy w (some gs)
  t0 : w.cell? ⟨gt, 0, none⟩ = some (.int .i64 p)
  t1 : w.cell? ⟨gt, 1, none⟩ = some (.int .i64 p2)
  s0 : w.cell? ⟨gl, 0, none⟩ = some (.int .i64 p)
  s1 : w.cell? ⟨gl, 1, none⟩ = some (.int .i64 p2)
section
variable {H : List (Int × Int)} {pb gs N cH gt gl : Nat} {AH : Option Addr} {p p2 : Int} {w0 w w' : World} {f f' : SwS → Bool}
theorem InW.at_ (h : InW H pb gs N AH cH gt gl p p2 w0 w f) {j : Nat} (hj : j < 2) : w.cell? ⟨gl, j, none⟩ = some (.int .i64 (eOf p p2 j)) := by
  rcases two_cases hj with rfl | rfl
  · exact h.s0
  · exact h.s1
theorem InW.step (h : InW H pb gs N AH cH gt gl p p2 w0 w f) (hk : LkW H pb gs N AH cH w' f') (hg : w.grownBy w' (some gs)) (ht : gt ≠ gs) (hl : gl ≠ gs) : InW H pb gs N AH cH gt gl p p2 w0 w' f' :=
  ⟨hk, World.grownBy.trans h.g hg, cellG hg h.t0 ht, cellG hg h.t1 ht, cellG hg h.s0 hl, cellG hg h.s1 hl⟩
end

set_option maxRecDepth 100000 in
set_option maxHeartbeats 8000000 in
theorem c_look (H : List (Int × Int)) (pb gs N cH : Nat) (AH : Option Addr) (hN : N = 100 * 2 ^ H.length) (h8 : H.length ≤ 8) (hnum : ∀ t ∈ H, (0 ≤ t.1 ∧ t.1 ≤ 9) ∧ (0 ≤ t.2 ∧ t.2 ≤ 9)) :
    ∀ (n : Nat) (s : Nat) (l r : Int) (f : SwS → Bool) (w : World), szS H (s, l, r) < n → okS H (s, l, r) → LkW H pb gs N AH cH w f →
    Calls Try.prog 97 #[.pointer (some ⟨pb, 0, none⟩), .int .i64 s, .int .i64 l, .int .i64 r] w fun e w' => e = .returned (.bool (lkS (mvS H) (szS H) n (s, l, r) f).1) ∧ LkW H pb gs N AH cH w' (lkS (mvS H) (szS H) n (s, l, r) f).2 ∧ w.grownBy w' (some gs)
  | 0, s, l, r, f, w, hz, ho, hw => by omega
  | n + 1, s, l, r, f, w, hz, ho, hw => by
    have hsz := set_none (H := H) ho.1
    have hp8 : 2 ^ H.length ≤ 256 := Nat.le_trans (Nat.pow_le_pow_right (by omega) h8) (by decide)
    have hs256 : s < 256 := Nat.lt_of_lt_of_le ho.1 hp8
    by_cases h0 : s = 0
    · have e1 : lkS (mvS H) (szS H) (n + 1) (s, l, r) f = (true, f) := by
        unfold lkS
        rw [if_pos (show szS H (s, l, r) = 0 from hsz.2 h0)]
      rw [e1]
      have es : ((s : Int) == 0) = true := by rw [h0]; rfl
      have Hw := Lib.hid hw
      clear hw e1 hsz hz h0
      go_enter Try.func97, Try.ntmps97
      go_wp2
      go_ret
      exact ⟨rfl, Hw.out, World.grownBy.refl _ _⟩
    have hz0 : ¬ szS H (s, l, r) = 0 := fun e => h0 (hsz.1 e)
    have es : ((s : Int) == 0) = false := by rw [beq_eq_false_iff_ne]; omega
    have hl := ho.2.1
    have hr := ho.2.2
    simp only at hl hr
    have hix := ix_lt ho
    have hms := hw.ms _ ho
    obtain ⟨k, hk⟩ : ∃ k, k = ixS (s, l, r) := ⟨_, rfl⟩
    rw [← hk] at hix hms
    have hkv : (k : Int) = ((s : Int) * 10 + l) * 10 + r := by
      have : k = (s * 10 + l.toNat) * 10 + r.toNat := hk
      omega
    have e1 : IntKind.i64.wrap ((s : Int) * 10) = (s : Int) * 10 := IntWalk.i64_in _ (by omega)
    have e2 : IntKind.i64.wrap ((s : Int) * 10 + l) = (s : Int) * 10 + l := IntWalk.i64_in _ (by omega)
    have e3 : IntKind.i64.wrap (((s : Int) * 10 + l) * 10) = ((s : Int) * 10 + l) * 10 := IntWalk.i64_in _ (by omega)
    have e4 : IntKind.i64.wrap (((s : Int) * 10 + l) * 10 + r) = (k : Int) := by rw [IntWalk.i64_in _ (by omega), hkv]
    have i0 : (0 : Int) ≤ (k : Int) := by omega
    have i1 : (k : Int) < (N : Int) := by rw [hN]; omega
    have x0 := hw.bx.c0
    have x1 := hw.bx.c1
    obtain ⟨c0, fz0⟩ := hms
    cases hf : f (s, l, r)
    · have hlk : lkS (mvS H) (szS H) (n + 1) (s, l, r) f = anyS (lkS (mvS H) (szS H) n) (mvS H (s, l, r)) (setS f (s, l, r)) := by
        conv => lhs; unfold lkS
        rw [if_neg hz0, if_neg (by rw [hf]; decide)]
      rw [hlk]
      rw [hf] at c0
      have hw1 := hw.mark ho
      rw [← hk] at hw1
      have IH := Lib.hid (fun (s2 : Nat) (l2 r2 : Int) (f2 : SwS → Bool) (w2 : World) (h1 : szS H (s2, l2, r2) < szS H (s, l, r)) (h2 : okS H (s2, l2, r2)) (h3 : LkW H pb gs N AH cH w2 f2) => c_look H pb gs N cH AH hN h8 hnum n s2 l2 r2 f2 w2 (by omega) h2 h3)
      obtain ⟨f1, hf1⟩ : ∃ f1, f1 = setS f (s, l, r) := ⟨_, rfl⟩
      rw [← hf1] at hw1 ⊢
      obtain ⟨g, hg⟩ : ∃ g, g = lkS (mvS H) (szS H) n := ⟨_, rfl⟩
      rw [← hg] at IH ⊢
      have y0 := (hw1.bx).c0
      have Hw := Lib.hid hw
      have Hw1 := Lib.hid hw1
      have Ho := Lib.hid ho
      have G1 := Lib.hid (grown_set (World.grownBy.refl w (some gs)) k (.bool true))
      clear hw1 hw hlk hg hf1 hf hsz hz hz0 h0 hN hkv hk ho
      go_enter Try.func97, Try.ntmps97
      go_wp2
      go_loopw [43] (fun i wr => ∃ (q : Nat) (fk : SwS → Bool), q ≤ H.length ∧ i = .int .i64 q ∧ anyS g (preS H (s, l, r) q) f1 = (false, fk) ∧ LkW H pb gs N AH cH wr fk ∧ w.grownBy wr (some gs)) (fun i _ => H.length - (intOf i).toNat)
      case atStart => exact ⟨0, f1, Nat.zero_le _, rfl, rfl, Hw1.out, G1.out⟩
      case round =>
        clear x0 x1 y0 c0 fz0
        obtain ⟨q, fk, hq, rfl, hA, hw2, hgr⟩ := hrel
        by_cases hlt : q < H.length
        · obtain ⟨bk, off, rfl, hbk, g1, g2⟩ := hw2.hc q hlt
          have bf := bit_facts ⟨s, hs256⟩ ⟨q, by omega⟩
          simp only at bf
          rw [Nat.min_eq_left (show q ≤ 64 by omega)] at bf
          obtain ⟨b1, b2⟩ := bf
          have j0 : (0 : Int) ≤ (q : Int) := by omega
          have j1 : (q : Int) < (H.length : Int) := by omega
          cases hb : s.testBit q
          · rw [hb] at b1
            have hA2 := Lib.hid ((congrArg (fun L => anyS g L f1) (pre_no (H := H) (s := (s, l, r)) hb)).trans hA)
            have K2 := Lib.hid (hw2.keep ((Below.refl wr.heap.size wr).alloc (Nat.le_refl _) (.cells #[.int .i64 H[q].1, .int .i64 H[q].2] 95)))
            have G2 := Lib.hid (g_below2 hgr ((Below.refl wr.heap.size wr).alloc (Nat.le_refl _) (.cells #[.int .i64 H[q].1, .int .i64 H[q].2] 95)))
            generalize H[q] = t at *
            clear hA hw2 hgr b2
            simp only [Bool.not_false] at b1
            go_wp2
            go_roundw
            case rel => exact ⟨q + 1, fk, by omega, by go_num, hA2.out, K2.out, G2.out⟩
            case measure => simp [intOf]; omega
          · skip
            rw [hb] at b1
            have b3 := b2 hb
            simp only [Bool.not_true] at b1
            obtain ⟨Z, hZ⟩ := mv_split (s := (s, l, r)) hlt hb
            have hpre := pre_yes (H := H) (s := (s, l, r)) hb
            have hlen0 := sz_clr (mem_atS.2 ⟨hlt, hb⟩)
            have hcl := clr_lt Ho.out.1 hb
            have hn := hnum _ (List.getElem_mem hlt)
            have hgd : H.getD q (0, 0) = H[q] := getD_in hlt
            obtain ⟨p, p2, hpp⟩ : ∃ p p2, H[q] = (p, p2) := ⟨H[q].1, H[q].2, rfl⟩
            rw [hpp] at g1 g2 hn hgd
            obtain ⟨hnp, hnp2⟩ := hn
            simp only at g1 g2 hnp hnp2
            have hmo : mvOf H (s, l, r) q = mjS (clrS s q) l r p p2 2 := by
              unfold mvOf
              rw [hgd]
              rfl
            rw [hmo] at hZ hpre
            have hlen : ∀ l2 r2 : Int, szS H (clrS s q, l2, r2) < szS H (s, l, r) := fun l2 r2 => hlen0
            have hcl2 : clrS s q < 2 ^ H.length := hcl
            clear hmo hgd hlen0 hcl hpp b2 hb
            generalize clrS s q = c at *
            have hlen : ∀ {l2 r2 : Int}, szS H (c, l2, r2) < szS H (s, l, r) := hlen _ _
            have Hlen := Lib.hid (fun (l2 r2 : Int) => (hlen : szS H (c, l2, r2) < szS H (s, l, r)))
            have hcl : c < 2 ^ H.length := hcl2
            have hc256 : c < 256 := by omega
            obtain ⟨D, hD⟩ : ∃ D, D = preS H (s, l, r) q := ⟨_, rfl⟩
            rw [← hD] at hZ hpre hA
            have HZ := Lib.hid hZ
            have HPre := Lib.hid hpre
            have HA0 := Lib.hid hA
            have HK := Lib.hid hw2
            have HG := Lib.hid hgr
            have wz := hw2.bx.lt
            have wg : gs < wr.heap.size := block_lt (hw2.ms _ Ho.out).1
            have u1 : IntKind.i64.wrap (p + p2) = p + p2 := IntWalk.i64_in _ (by omega)
            clear hZ hpre hA hw2 hgr hcl2 hD hlen
            go_upto_block 2 with (fail)
            obtain ⟨w1, hw1⟩ : ∃ w1, w1 = (wr.alloc (.cells #[.int .i64 p, .int .i64 p2] 95)).alloc (.cells #[.int .i64 p, .int .i64 p2] 3) := ⟨_, rfl⟩
            have bb : Below wr.heap.size wr w1 := by rw [hw1]; go_grown
            obtain ⟨gl, hgl0⟩ : ∃ gl, gl = wr.heap.size + 1 := ⟨_, rfl⟩
            obtain ⟨gt, hgt0⟩ : ∃ gt, gt = wr.heap.size := ⟨_, rfl⟩
            rw [← hw1, ← hgl0, ← hgt0]
            have HI1 : Hid (InW H pb gs N (some ⟨bk, off, none⟩) cH gt gl p p2 w w1 fk) := Lib.hid ⟨HK.out.keep bb, g_below2 HG.out bb, by rw [hw1, hgt0]; simp, by rw [hw1, hgt0]; simp, by rw [hw1, hgl0]; simp, by rw [hw1, hgl0]; simp⟩
            have hgt : gt ≠ gs := by omega
            have hgl : gl ≠ gs := by omega
            clear hw1 bb hgl0 hgt0 HK HG wz wg g1 g2
            go_wp2
            go_loopw [63] (fun v wr => ∃ (j : Nat) (fj : SwS → Bool), j ≤ 2 ∧ v = .int .i64 j ∧ anyS g (D ++ mjS c l r p p2 j) f1 = (false, fj) ∧ InW H pb gs N (some ⟨bk, off, none⟩) cH gt gl p p2 w wr fj) (fun i _ => 2 - (intOf i).toNat)
            case atStart => exact ⟨0, fk, by omega, rfl, by rw [show mjS c l r p p2 0 = [] from rfl, List.append_nil]; exact HA0.out, HI1.out⟩
            case round =>
              clear HI1 HA0
              obtain ⟨j, fj, hj, rfl, hA, hI⟩ := hrel
              by_cases hj2 : j < 2
              · obtain ⟨Z', hS⟩ := sw_step HZ.out hj2
                have hMs := mj_step c l r p p2 hj2
                have se := hI.at_ hj2
                have hno := o_num hnp hnp2 j
                have hwo := o_wrap hnp hnp2 j
                generalize eOf p p2 j = e at *
                generalize oOf p p2 j = o at *
                have tt0 := hI.t0
                have tt1 := hI.t1
                have ng : gl < wr.heap.size := block_lt se
                have nt : gt < wr.heap.size := block_lt tt0
                have j0 : (0 : Int) ≤ (j : Int) := by omega
                have j1 : (j : Int) < 2 := by omega
                have HA := Lib.hid hA
                have HI := Lib.hid hI
                have HS := Lib.hid hS
                have HM := Lib.hid hMs
                clear hA hI hS hMs HZ HPre
                by_cases e1 : e = l
                · skip
                  have d1 : (e == l) = true := beq_iff_eq.2 e1
                  have E1 := Lib.hid e1
                  clear e1
                  have con5 := IH.out c o r fj wr (Hlen.out _ _) ⟨hcl, hno, hr⟩ HI.out.k
                  generalize hg5 : g (c, o, r) fj = res5 at con5
                  obtain ⟨bb5, f5⟩ := res5
                  simp only at con5
                  have Hg5 := Lib.hid hg5
                  have Con5 := Lib.hid con5
                  clear hg5 con5
                  go_wp2_with fail
                  refine Con5.out.mono ?_
                  rintro e' w5 ⟨rfl, k5, gr5⟩
                  have I5 := Lib.hid (HI.out.step k5 gr5 hgt hgl)
                  clear k5 gr5
                  clear tt0 tt1 se ng nt
                  cases bb5
                  · skip
                    by_cases e2 : e = r
                    · skip
                      have d2 : (e == r) = true := beq_iff_eq.2 e2
                      have E2 := Lib.hid e2
                      clear e2
                      have con6 := IH.out c l o f5 w5 (Hlen.out _ _) ⟨hcl, hl, hno⟩ I5.out.k
                      generalize hg6 : g (c, l, o) f5 = res6 at con6
                      obtain ⟨bb6, f6⟩ := res6
                      simp only at con6
                      have Hg6 := Lib.hid hg6
                      have Con6 := Lib.hid con6
                      clear hg6 con6
                      go_wp2_with fail
                      refine Con6.out.mono ?_
                      rintro e' w6 ⟨rfl, k6, gr6⟩
                      have I6 := Lib.hid (I5.out.step k6 gr6 hgt hgl)
                      clear k6 gr6
                      cases bb6
                      · skip
                        have NX := Lib.hid (show anyS g (D ++ mjS c l r p p2 (j + 1)) f1 = (false, f6) by rw [HM.out, ← List.append_assoc, any_app _ _ _ _ HA.out]; unfold mst; rw [if_pos E1.out, if_pos E2.out, List.cons_append, List.nil_append, any_no _ Hg5.out, any_no _ Hg6.out, anyS])
                        go_wp2
                        go_roundw
                        case rel => exact ⟨j + 1, f6, by omega, by go_num, NX.out, I6.out⟩
                        case measure => simp [intOf]; omega
                      · skip
                        have TT := Lib.hid (show anyS g (mvS H (s, l, r)) f1 = (true, f6) by rw [HS.out, any_app _ _ _ _ HA.out]; unfold mst; rw [if_pos E1.out, if_pos E2.out, List.cons_append, List.nil_append, List.cons_append, List.cons_append, any_no _ Hg5.out, any_yes _ Hg6.out])
                        go_wp2
                        go_ret
                        rw [TT.out]
                        exact ⟨rfl, I6.out.k, I6.out.g⟩
                    · skip
                      have d2 : (e == r) = false := beq_eq_false_iff_ne.2 e2
                      have E2 := Lib.hid e2
                      clear e2
                      have NX := Lib.hid (show anyS g (D ++ mjS c l r p p2 (j + 1)) f1 = (false, f5) by rw [HM.out, ← List.append_assoc, any_app _ _ _ _ HA.out]; unfold mst; rw [if_pos E1.out, if_neg E2.out, List.append_nil, any_no _ Hg5.out, anyS])
                      go_wp2
                      go_roundw
                      case rel => exact ⟨j + 1, f5, by omega, by go_num, NX.out, I5.out⟩
                      case measure => simp [intOf]; omega
                  · skip
                    have TT := Lib.hid (show anyS g (mvS H (s, l, r)) f1 = (true, f5) by rw [HS.out, any_app _ _ _ _ HA.out]; unfold mst; rw [if_pos E1.out, List.cons_append, List.cons_append, any_yes _ Hg5.out])
                    go_wp2
                    go_ret
                    rw [TT.out]
                    exact ⟨rfl, I5.out.k, I5.out.g⟩
                · skip
                  have d1 : (e == l) = false := beq_eq_false_iff_ne.2 e1
                  have E1 := Lib.hid e1
                  clear e1
                  by_cases e2 : e = r
                  · skip
                    have d2 : (e == r) = true := beq_iff_eq.2 e2
                    have E2 := Lib.hid e2
                    clear e2
                    have con6 := IH.out c l o fj wr (Hlen.out _ _) ⟨hcl, hl, hno⟩ HI.out.k
                    generalize hg6 : g (c, l, o) fj = res6 at con6
                    obtain ⟨bb6, f6⟩ := res6
                    simp only at con6
                    have Hg6 := Lib.hid hg6
                    have Con6 := Lib.hid con6
                    clear hg6 con6
                    go_wp2_with fail
                    refine Con6.out.mono ?_
                    rintro e' w6 ⟨rfl, k6, gr6⟩
                    have I6 := Lib.hid (HI.out.step k6 gr6 hgt hgl)
                    clear k6 gr6
                    clear tt0 tt1 se ng nt
                    cases bb6
                    · skip
                      have NX := Lib.hid (show anyS g (D ++ mjS c l r p p2 (j + 1)) f1 = (false, f6) by rw [HM.out, ← List.append_assoc, any_app _ _ _ _ HA.out]; unfold mst; rw [if_neg E1.out, if_pos E2.out, List.nil_append, any_no _ Hg6.out, anyS])
                      go_wp2
                      go_roundw
                      case rel => exact ⟨j + 1, f6, by omega, by go_num, NX.out, I6.out⟩
                      case measure => simp [intOf]; omega
                    · skip
                      have TT := Lib.hid (show anyS g (mvS H (s, l, r)) f1 = (true, f6) by rw [HS.out, any_app _ _ _ _ HA.out]; unfold mst; rw [if_neg E1.out, if_pos E2.out, List.nil_append, List.cons_append, any_yes _ Hg6.out])
                      go_wp2
                      go_ret
                      rw [TT.out]
                      exact ⟨rfl, I6.out.k, I6.out.g⟩
                  · skip
                    have d2 : (e == r) = false := beq_eq_false_iff_ne.2 e2
                    have E2 := Lib.hid e2
                    clear e2
                    have NX := Lib.hid (show anyS g (D ++ mjS c l r p p2 (j + 1)) f1 = (false, fj) by rw [HM.out, ← List.append_assoc, any_app _ _ _ _ HA.out]; unfold mst; rw [if_neg E1.out, if_neg E2.out, List.append_nil, anyS])
                    go_wp2
                    go_roundw
                    case rel => exact ⟨j + 1, fj, by omega, by go_num, NX.out, HI.out⟩
                    case measure => simp [intOf]; omega
              · have hj2' : j = 2 := by omega
                subst hj2'
                have HA := Lib.hid (show anyS g (preS H (s, l, r) (q + 1)) f1 = (false, fj) by rw [HPre.out]; exact hA)
                have HI := Lib.hid hI
                clear hA hI
                go_wp2
                go_roundw
                case rel => exact ⟨q + 1, fj, by omega, by go_num, HA.out, HI.out.k, HI.out.g⟩
                case measure => simp [intOf]; omega
        · skip
          have : q = H.length := by omega
          subst this
          rw [pre_all] at hA
          have HA := Lib.hid hA
          have K := Lib.hid hw2
          have G := Lib.hid hgr
          clear hA hw2 hgr
          go_wp2
          go_ret
          rw [HA.out]
          exact ⟨rfl, K.out, G.out⟩
    · have hlk : lkS (mvS H) (szS H) (n + 1) (s, l, r) f = (false, f) := by
        unfold lkS
        rw [if_neg hz0, if_pos hf]
      rw [hlk]
      rw [hf] at c0
      have Hw := Lib.hid hw
      clear hw hlk hf hsz hz hz0 h0 hN hkv hk ho
      go_enter Try.func97, Try.ntmps97
      go_wp2
      go_ret
      exact ⟨rfl, Hw.out, World.grownBy.refl _ _⟩

end Go.Proofs.Ytlnfialfkipdjaa

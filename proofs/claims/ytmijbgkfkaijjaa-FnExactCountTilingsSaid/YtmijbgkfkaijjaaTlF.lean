/- Layouts: the program's search, which calls itself and hands out each layout. -/
import Derived.Test.YtmijbgkfkaijjaaTlM
import Derived.Test.YtmijbgkfkaijjaaBx2
import Derived.LoopIn
import Derived.TacticsIn
import Derived.Maps.OwnIn
import Derived.Scope
import Derived.Deep.Cut
namespace Go.Proofs.Ytmijbgkfkaijjaa
open Go Go.RowKit
set_option linter.unusedVariables false

/-- What a call of the search leaves behind: all of out has been handed out, or it was stopped; its blocks stand but for the row's end. -/
def LayPost (n₀ : Nat) (J Jx : (Nat → Prop) → List (List (Int × Int)) → World → Prop) (xs : List (List (Int × Int))) (T : Nat → Prop) (out : List (List (Int × Int))) (A : Option Addr) (c : Nat) (ps : List (Int × Int)) (V : World) (e : Ending) (V' : World) : Prop :=
  V.heap.size ≤ V'.heap.size ∧ (∀ k, T k → k < V.heap.size → (Value.slice A ps.length c).ownBlock ≠ some k → V'.heap[k]? = V.heap[k]?) ∧
  ((e = .returned (.bool true) ∧ ∃ T', J T' out V' ∧ (∀ k, T k → T' k) ∧ (∀ k, T' k → n₀ ≤ k ∧ k < V'.heap.size) ∧ RowP V' T A c ps) ∨
   (e = .returned (.bool false) ∧ ∃ T' q, q <+: xs ∧ Jx T' q V' ∧ (∀ k, T' k → n₀ ≤ k ∧ k < V'.heap.size)))
/-- What a round of the caller's may do. -/
def YieldsP (l n₀ : Nat) (J Jx : (Nat → Prop) → List (List (Int × Int)) → World → Prop) (xs : List (List (Int × Int))) : Prop :=
  ∀ (T : Nat → Prop) (pre : List (List (Int × Int))) (x : List (Int × Int)) (v : Array Value) (A : World) (m : Nat), J T pre A → (pre ++ [x]) <+: xs → (∀ k, T k → n₀ ≤ k ∧ k < A.heap.size) → n₀ ≤ A.heap.size → EncP x v T A →
    YieldAt Fence.wide m Try.prog l v A fun e A' => (e = .returned (.bool true) ∧ J T (pre ++ [x]) A' ∧ Keep n₀ T A A') ∨ (e = .returned (.bool false) ∧ Jx T (pre ++ [x]) A' ∧ Keep n₀ T A A')

theorem EncP.mono {x : List (Int × Int)} {v : Array Value} {T U : Nat → Prop} {A : World} (h : EncP x v T A) (hU : ∀ k, T k → U k) : EncP x v U A := by
  obtain ⟨Ax, cx, e, hr, hb⟩ := h
  exact ⟨Ax, cx, e, hr, fun hx a ha => hU _ (hb hx a ha)⟩

theorem Bx2.blk {w w' : World} {b : Nat} {v0 v1 : Value} (h : Bx2 w b v0 v1) (hb : w'.heap[b]? = w.heap[b]?) : Bx2 w' b v0 v1 :=
  ⟨(World.cell?_of_block (a := ⟨b, 0, none⟩) hb).trans h.c0, (World.cell?_of_block (a := ⟨b, 1, none⟩) hb).trans h.c1, fun m => (World.frozen?_of_block (a := ⟨b, m, none⟩) hb).trans (h.fz m)⟩
/-- Between two rounds of the search's loop over the pairs of a cell. -/
structure LayI (n₀ : Nat) (J : (Nat → Prop) → List (List (Int × Int)) → World → Prop) (T2 T : Nat → Prop) (out : List (List (Int × Int))) (A : Option Addr) (c : Nat) (ps : List (Int × Int)) (w2 w : World) : Prop where
  ex : ∃ T3, J T3 out w ∧ (∀ k, T2 k → T3 k) ∧ (∀ k, T3 k → n₀ ≤ k ∧ k < w.heap.size)
  row : RowP w T A c ps
  blk : ∀ k, T2 k → k < w2.heap.size → (Value.slice A ps.length c).ownBlock ≠ some k → w.heap[k]? = w2.heap[k]?
  sz : w2.heap.size ≤ w.heap.size
/-- New memory. -/
theorem LayI.more {n₀ N : Nat} {J : (Nat → Prop) → List (List (Int × Int)) → World → Prop} {T2 T : Nat → Prop} {out : List (List (Int × Int))} {A : Option Addr} {c : Nat} {ps : List (Int × Int)} {w2 w w' : World} (h : LayI n₀ J T2 T out A c ps w2 w) (hJ : AbT n₀ J) (hn : n₀ ≤ N) (hb : Below w.heap.size w w')
    (hA : ∀ b, (Value.slice A ps.length c).ownBlock = some b → b < N) (hN : N ≤ w.heap.size) : LayI n₀ J T2 T out A c ps w2 w' := by
  obtain ⟨T3, hj, hs, hbd⟩ := h.ex
  have hz := hb.size
  refine ⟨⟨T3, hJ T3 T3 out w w' hj hbd (by omega) (Turn.of_below hb) (fun k hk => .inl hk), hs, fun k hk => by have := hbd k hk; omega⟩, h.row.blk (fun b hb' => hb.block b (by have := hA b hb'; omega)), fun k hk hl hne => (hb.block k (by have := h.sz; omega)).trans (h.blk k hk hl hne), by have := h.sz; omega⟩

set_option maxRecDepth 100000 in
set_option maxHeartbeats 8000000 in
theorem lay_from (H W n : Nat) (G : Option Addr) (cg l n₀ : Nat) (J Jx : (Nat → Prop) → List (List (Int × Int)) → World → Prop) (xs : List (List (Int × Int))) (hW : 0 < W) (hn : n = H * W) (hn30 : n ≤ 30) (hW30 : W ≤ 30)
    (hJ : AbT n₀ J) (hY : YieldsP l n₀ J Jx xs) : ∀ (d i : Nat) (F : Nat → Bool) (ps : List (Int × Int)) (A : Option Addr) (c : Nat) (T : Nat → Prop) (pre : List (List (Int × Int))) (V : World) (m : Nat),
    n - i < d → i ≤ n → J T pre V → (∀ k, T k → n₀ ≤ k ∧ k < V.heap.size) → n₀ ≤ V.heap.size → RowP V T A c ps → (pre ++ (layL W n i F).map (ps ++ ·)) <+: xs → ps.length ≤ i →
    CallsIn Fence.wide m Try.prog 13 #[.agg #[.slice G n cg, .int .i64 W], .int .i64 i, .agg (cvL F).toArray, .slice A ps.length c, .func (.yield l) #[] #[]] V (LayPost n₀ J Jx xs T (pre ++ (layL W n i F).map (ps ++ ·)) A c ps V) := by
  have HN := Lib.hid hn
  clear hn
  intro d
  induction d with
  | zero => intro i F ps A c T pre V m hd; omega
  | succ d ih =>
    intro i F ps A c T pre V m hd hi h0 hT hnV hrow hpre hps
    have IH := Lib.hid ih
    have HJ := Lib.hid hJ
    have HY := Lib.hid hY
    have HP := Lib.hid hpre
    refine callsIn_of_wp Try.func13 rfl trivial ?_
    simp only [Try.ntmps13, List.size_toArray, List.length_cons, List.length_nil, Nat.reduceAdd, Nat.reduceSub, Array.replicate_succ, Array.replicate_zero, List.push_toArray, List.append_toArray, List.nil_append, List.cons_append]
    obtain ⟨V1, hV1⟩ : ∃ V1, V1 = (V.alloc (.cells #[.slice G n cg, .int .i64 W] 39)).alloc (.cells (cvL F).toArray 47) := ⟨_, rfl⟩
    have z1 : V1.heap.size = V.heap.size + 2 := by rw [hV1]; simp
    have b0 : Below V.heap.size V (V.alloc (.cells #[.slice G n cg, .int .i64 W] 39)) := (Below.refl _ _).alloc (Nat.le_refl _) _
    have b1 : Below V.heap.size V V1 := by rw [hV1]; exact b0.alloc b0.size _
    have X1 : Bx2 V1 V.heap.size (.slice G n cg) (.int .i64 W) := by rw [hV1]; exact (Bx2.fresh V _ _ _).more _
    have C1 : Cov V1 (V.heap.size + 1) F := by
      have := Cov.fresh (V.alloc (.cells #[.slice G n cg, .int .i64 W] 39)) F 47
      rw [World.size_alloc] at this
      rw [hV1]; exact this
    have R1 : RowP V1 T A c ps := hrow.blk fun b hb => b1.block b (hrow.own.lt b hb).2
    obtain ⟨T1, hT1⟩ : ∃ T1 : Nat → Prop, T1 = fun k => T k ∨ k = V.heap.size ∨ k = V.heap.size + 1 := ⟨_, rfl⟩
    have J1 : J T1 pre V1 := hJ T T1 pre V V1 h0 hT hnV (Turn.of_below b1) (fun k hk => by
      rw [hT1] at hk
      rcases hk with h | h | h
      · exact .inl h
      · exact .inr (by omega)
      · exact .inr (by omega))
    have BD1 : ∀ k, T1 k → n₀ ≤ k ∧ k < V1.heap.size := fun k hk => by
      rw [hT1] at hk
      rcases hk with h | h | h
      · have := hT k h; omega
      · omega
      · omega
    have S1 : ∀ k, T k → T1 k := fun k hk => by rw [hT1]; exact .inl hk
    have tg0 : T1 V.heap.size := by rw [hT1]; exact .inr (.inl rfl)
    have tg1 : T1 (V.heap.size + 1) := by rw [hT1]; exact .inr (.inr rfl)
    have HX1 := Lib.hid X1
    have HC1 := Lib.hid C1
    have HR1 := Lib.hid R1
    have HJ1 := Lib.hid J1
    have HBD1 := Lib.hid BD1
    have HS1 := Lib.hid S1
    have HT := Lib.hid hT
    have HB1 := Lib.hid b1
    clear X1 C1 R1 J1 BD1 S1 hT b0 b1 h0 hrow hpre hJ hY ih hT1
    gi_wp2
    rw [← hV1]
    clear hV1
    gi_loopw [1] (fun v wr => ∃ i2 : Nat, v = .int .i64 i2 ∧ i2 ≤ n ∧ i ≤ i2 ∧ layL W n i2 F = layL W n i F ∧ wr = V1) (fun v _ => n - (intOf v).toNat)
    case atStart => exact ⟨i, rfl, hi, Nat.le_refl _, rfl, rfl⟩
    case round =>
      obtain ⟨i2, rfl, hi2, hii, hlay, rfl⟩ := hrel
      have HL := Lib.hid hlay
      clear hlay
      have x0 := HX1.out.c0
      have x1 := HX1.out.c1
      have xl := HX1.out.lt
      by_cases hlt : i2 < n
      · have c0 := HC1.out.c i2 (by omega)
        cases hF : F i2
        · rw [hF] at c0
          have HF := Lib.hid hF
          clear hF
          refine (wpIn_wide (n := m)).2 ?_
          go_wp2_with fail
          refine (wpIn_wide (n := m)).2 ?_
          go_wp2_with fail
          have hlq : ∀ j ∈ nearL W n i2, i2 < j ∧ j < n := fun j hj => nearL_bd hW HN.out hlt hj
          have eNP := nearP_map W n i2
          have con := c_pairsFrom W n i2 G cg wr hW hlt (by omega) (by omega)
          have hlay2 : layL W n i F = (nearL W n i2).flatMap (layJ W n i2 F) := by rw [← HL.out, layL_free hlt HF.out]
          obtain ⟨NL, hNL⟩ : ∃ NL, NL = nearL W n i2 := ⟨_, rfl⟩
          rw [← hNL] at hlq eNP hlay2
          obtain ⟨q, hq⟩ : ∃ q, q = nearP W n i2 := ⟨_, rfl⟩
          rw [← hq] at con eNP
          have hql : q.length = NL.length := by rw [eNP, List.length_map]
          have hqk : ∀ k (hk : k < NL.length), q[k]'(by rw [hql]; exact hk) = ((i2 : Int), (NL[k] : Int)) := fun k hk => by
            subst eNP
            rw [List.getElem_map]
          have HLQ := Lib.hid hlq
          have HQK := Lib.hid hqk
          have HLY := Lib.hid hlay2
          have hNL2 : NL.length ≤ 2 := by rw [hNL]; exact nearL_len _ _ _
          clear hNL hq eNP hlq hqk hlay2
          refine con.mono ?_
          rintro e w2 ⟨A2, c2, rfl, ho2, hb2⟩
          rw [hql]
          obtain ⟨T2, hT2⟩ : ∃ T2 : Nat → Prop, T2 = fun k => T1 k ∨ (Value.slice A2 q.length c2).ownBlock = some k := ⟨_, rfl⟩
          have S2 : ∀ k, T1 k → T2 k := fun k hk => by rw [hT2]; exact .inl hk
          have zz2 := hb2.size
          have J2 : J T2 pre w2 := HJ.out T1 T2 pre wr w2 HJ1.out HBD1.out (by omega) (Turn.of_below hb2) (fun k hk => by
            rw [hT2] at hk
            rcases hk with h | h
            · exact .inl h
            · exact .inr (ho2.lt k h).1)
          have BD2 : ∀ k, T2 k → n₀ ≤ k ∧ k < w2.heap.size := fun k hk => by
            rw [hT2] at hk
            rcases hk with h | h
            · have := HBD1.out k h; omega
            · have := ho2.lt k h; omega
          have tq : ∀ k, (Value.slice A2 q.length c2).ownBlock = some k → T2 k := fun k hk => by rw [hT2]; exact .inr hk
          have X2 := Lib.hid (HX1.out.keep hb2)
          have C2 := Lib.hid (HC1.out.keep hb2)
          have R2 := Lib.hid (HR1.out.blk fun b hb => hb2.block b (HR1.out.own.lt b hb).2)
          have Q2 := Lib.hid ho2
          have HJ2 := Lib.hid J2
          have HBD2 := Lib.hid BD2
          have HS2 := Lib.hid S2
          have HTQ := Lib.hid tq
          have B02 : ∀ k, k < V.heap.size → w2.heap[k]? = V.heap[k]? := fun k hk => (hb2.block k (by omega)).trans (HB1.out.block k hk)
          have HB02 := Lib.hid B02
          have xa : ∀ b, (Value.slice A ps.length c).ownBlock = some b → b < V.heap.size := fun b hb => (HT.out b (HR1.out.mine b hb)).2
          have HXA := Lib.hid xa
          clear ho2 hT2 S2 J2 BD2 tq hb2 B02 xa con x0 x1 xl c0
          go_wp2_with fail
          go_loopw [38] (fun v w3 => ∃ k : Nat, k ≤ NL.length ∧ v = .int .i64 k ∧ LayI n₀ J T2 T (pre ++ ((NL.take k).flatMap (layJ W n i2 F)).map (ps ++ ·)) A c ps w2 w3) (fun v _ => NL.length - (intOf v).toNat)
          case atStart => exact ⟨0, Nat.zero_le _, rfl, ⟨⟨T2, by simpa using HJ2.out, fun k hk => hk, HBD2.out⟩, R2.out, fun k _ _ _ => rfl, Nat.le_refl _⟩⟩
          case round =>
            clear R2 HJ2
            obtain ⟨k, hk, rfl, hli⟩ := hrel
            have z3 := hli.sz
            have ng0 : (Value.slice A ps.length c).ownBlock ≠ some V.heap.size := fun e => by have := HXA.out _ e; omega
            have ng1 : (Value.slice A ps.length c).ownBlock ≠ some (V.heap.size + 1) := fun e => by have := HXA.out _ e; omega
            have X3 := X2.out.blk (hli.blk _ (HS2.out _ tg0) (by omega) ng0)
            have C3 := C2.out.blk (hli.blk _ (HS2.out _ tg1) (by omega) ng1)
            have Q3 := own_blockP Q2.out (fun b hb => hli.blk b (HTQ.out b hb) (Q2.out.lt b hb).2 (fun e => by have := HXA.out _ e; have := (Q2.out.lt b hb).1; omega))
            have HLI := Lib.hid hli
            have HX3 := Lib.hid X3
            have HC3 := Lib.hid C3
            by_cases hlk : k < NL.length
            · obtain ⟨bk, off, rfl, hbk, hc⟩ := (RdT.of_own Q3).at_ (by rw [hql]; exact hlk)
              have g1 := (hc k (by rw [hql]; exact hlk)).1
              have g2 := (hc k (by rw [hql]; exact hlk)).2
              rw [HQK.out k hlk] at g1 g2
              have hj := HLQ.out NL[k] (List.getElem_mem hlk)
              have hlast : NL.take (k + 1) = NL.take k ++ [NL[k]] := List.take_succ_eq_append_getElem hlk
              generalize NL[k] = j at g1 g2 hj hlast
              have HLT := Lib.hid hlast
              have c3 := C3.c j (by omega)
              have x0 := X3.c0
              have x1 := X3.c1
              have lg : V.heap.size + 1 < wr.heap.size := C3.lt
              cases hFj : F j
              · rw [hFj] at c3
                have HFJ := Lib.hid hFj
                have b4 : Below wr.heap.size wr (wr.alloc (.cells #[.int .i64 i2, .int .i64 j] 56)) := (Below.refl _ _).alloc (Nat.le_refl _) _
                have P4 := Lib.hid (Bx2.fresh wr (.int .i64 i2) (.int .i64 j) 56)
                have HC4 := Lib.hid (C3.keep b4).range
                have HB4 := Lib.hid b4
                clear b4 hFj X3 C3 Q3 hli hc
                go_wp2_with (first | (refine wpList_load_mid rfl 47 _ rfl (V.heap.size + 1) 0 rfl _ _ HC4.out Try.underlying47 rfl (by rw [cvL_len]; exact Try.info_cv) ?_) | (refine wp_store_cv rfl _ _ rfl (wr.heap.size + 1) rfl F _ rfl (cov_z30 _ _ _ (by simp)) ?_; intro w5 hC5 hG5 hs5))
                have z5 : w5.heap.size = wr.heap.size + 2 := by rw [hs5]; simp
                have b5 : Below wr.heap.size wr w5 := (HB4.out.alloc (by simp) _).trans (below_of_grown hG5 (by simp; omega) (by intro b hb; cases hb; omega))
                have P5 : Bx2 w5 wr.heap.size (.int .i64 i2) (.int .i64 j) := (P4.out.more _).blk (hG5.block _ (by simp; omega) (by simp))
                have hij : ¬ i2 = j := by omega
                have hi30 : i2 < 30 := by omega
                have hj30 : j < 30 := by omega
                have p0 := P5.c0
                have p1 := P5.c1
                have e1 := hC5.c i2 hi30
                have e2 := hC5.c j hj30
                have f1 := hC5.fz i2
                have f2 := hC5.fz j
                have y1 : (w5.setCell ⟨wr.heap.size + 1, i2, none⟩ (.bool true)).cell? ⟨wr.heap.size + 1, j, none⟩ = some (.bool (F j)) := (World.cell?_setCell_other _ _ _ _ (by simp <;> omega)).trans e2
                have y2 : (w5.setCell ⟨wr.heap.size + 1, j, none⟩ (.bool true)).cell? ⟨wr.heap.size + 1, i2, none⟩ = some (.bool (F i2)) := (World.cell?_setCell_other _ _ _ _ (by simp <;> omega)).trans e1
                have HC5 := Lib.hid hC5
                have HB5 := Lib.hid b5
                have HP5 := Lib.hid P5
                clear hC5 hG5 hs5 b5 P5
                go_region
                obtain ⟨w6, hw6⟩ : ∃ w6, w6 = ((w5.setCell ⟨wr.heap.size + 1, i2, none⟩ (.bool true)).setCell ⟨wr.heap.size + 1, j, none⟩ (.bool true)).drew := ⟨_, rfl⟩
                rw [← hw6]
                have C6 : Cov w6 (wr.heap.size + 1) (mk2 F i2 j) := by
                  rw [hw6]
                  exact (((HC5.out.put hi30).put hj30).drew).eq fun k => by
                    unfold mk2
                    by_cases a1 : k = i2 <;> by_cases a2 : k = j <;> simp [a1, a2]
                have P6 : Bx2 w6 wr.heap.size (.int .i64 i2) (.int .i64 j) := by
                  rw [hw6]
                  exact ((HP5.out.blk (Below.heap_setCell _ _ _ _ (by simp))).blk (Below.heap_setCell _ _ _ _ (by simp))).drew
                have b6 : Below wr.heap.size wr w6 := by rw [hw6]; exact ((HB5.out.setCell (by simp) _).setCell (by simp) _).drew
                have z6 : w6.heap.size = wr.heap.size + 2 := by rw [hw6]; simp; omega
                have X6 : Bx2 w6 V.heap.size (.slice G n cg) (.int .i64 W) := HX3.out.keep b6
                have R6 : RowP w6 T A c ps := HLI.out.row.blk fun b hb => b6.block b (by have := HXA.out b hb; omega)
                clear hw6 p0 p1 e1 e2 f1 f2 y1 y2 HC5 HB5 HP5 P4 HC4 HB4 x0 x1 c3 g1 g2
                go_wp2_with fail
                have r0 : w6.drew.cell? ⟨V.heap.size, 0, none⟩ = some (.slice G n cg) := X6.c0
                have r1 : w6.drew.cell? ⟨V.heap.size, 1, none⟩ = some (.int .i64 W) := X6.c1
                have r2 : w6.drew.rangeAt (wr.heap.size + 1) 0 (cvL (mk2 F i2 j)) := C6.drew.range
                have r3 : w6.drew.cell? ⟨wr.heap.size, 0, none⟩ = some (.int .i64 i2) := P6.c0
                have r4 : w6.drew.cell? ⟨wr.heap.size, 1, none⟩ = some (.int .i64 j) := P6.c1
                have iw : IntKind.i64.wrap ((i2 : Int) + 1) = (i2 : Int) + 1 := IntWalk.i64_in _ (by omega)
                refine wp_region_held_drew (S := fun w' => w'.cell? ⟨V.heap.size, 0, none⟩ = some (.slice G n cg) ∧ w'.cell? ⟨V.heap.size, 1, none⟩ = some (.int .i64 W) ∧ w'.rangeAt (wr.heap.size + 1) 0 (cvL (mk2 F i2 j)) ∧ w'.cell? ⟨wr.heap.size, 0, none⟩ = some (.int .i64 i2) ∧ w'.cell? ⟨wr.heap.size, 1, none⟩ = some (.int .i64 j)) (by kernel_rfl) ⟨r0, r1, r2, r3, r4⟩ (fun hH0 => ?_)
                refine reg_take 0 rfl (by kernel_rfl) (by kernel_rfl) (by kernel_rfl) (fun _ _ _ h => h) (by rfl) (fun w hSw => by (try dsimp only at hSw); first | (go_simp; done) | (go_simp; with_reducible rfl)) (by assumption) ?_
                try simp only [Act.put, List.setIfInBounds_toArray, List.set_cons_zero, List.set_cons_succ, List.getElem_toArray, List.getElem_cons_zero]
                refine reg_take 1 rfl (by kernel_rfl) (by kernel_rfl) (by kernel_rfl) (fun _ _ _ h => h) (by rfl) (fun w _ => by first | (go_simp; done) | (go_simp; with_reducible rfl)) (by assumption) ?_
                try simp only [Act.put, List.setIfInBounds_toArray, List.set_cons_zero, List.set_cons_succ, List.getElem_toArray, List.getElem_cons_zero, List.getElem_cons_succ]
                refine reg_take 2 rfl (by kernel_rfl) (by kernel_rfl) (by kernel_rfl) (fun _ _ _ h => h) (by rfl) (fun w _ => by first | (go_simp; done) | (go_simp; with_reducible rfl)) (by assumption) ?_
                try simp only [Act.put, List.setIfInBounds_toArray, List.set_cons_zero, List.set_cons_succ, List.getElem_toArray, List.getElem_cons_zero, List.getElem_cons_succ]
                refine reg_take_cv 3 rfl (by kernel_rfl) (by kernel_rfl) (by kernel_rfl) (mk2 F i2 j) (wr.heap.size + 1) (fun _ _ _ h => h) (by rfl) _ rfl rfl (fun w' hw' => hw'.2.2.1) (by assumption) ?_
                try simp only [Act.put, List.setIfInBounds_toArray, List.set_cons_zero, List.set_cons_succ, List.getElem_toArray, List.getElem_cons_zero, List.getElem_cons_succ]
                refine reg_take 4 rfl (by kernel_rfl) (by kernel_rfl) (by kernel_rfl) (fun _ _ _ h => h) (by rfl) (fun w _ => by first | (go_simp; done) | (go_simp; with_reducible rfl)) (by assumption) ?_
                try simp only [Act.put, List.setIfInBounds_toArray, List.set_cons_zero, List.set_cons_succ, List.getElem_toArray, List.getElem_cons_zero, List.getElem_cons_succ]
                refine reg_take 5 rfl (by kernel_rfl) (by kernel_rfl) (by kernel_rfl) (fun _ _ _ h => h) (by rfl) (fun w hSw => by (try dsimp only at hSw); first | (go_simp; done) | (go_simp; with_reducible rfl)) (by assumption) ?_
                try simp only [Act.put, List.setIfInBounds_toArray, List.set_cons_zero, List.set_cons_succ, List.getElem_toArray, List.getElem_cons_zero, List.getElem_cons_succ]
                refine reg_take 8 rfl (by kernel_rfl) (by kernel_rfl) (by kernel_rfl) (fun _ _ _ h => h) (by rfl) (fun w _ => by first | (go_simp; done) | (go_simp; with_reducible rfl)) (by assumption) ?_
                try simp only [Act.put, List.setIfInBounds_toArray, List.set_cons_zero, List.set_cons_succ, List.getElem_toArray, List.getElem_cons_zero, List.getElem_cons_succ]
                refine wpAnyH_ready (rs := [6]) (by kernel_rfl) (by simp) ?_
                refine AllReadyH.cons (i := 6) rfl (fun K hK => ?_) AllReadyH.nil
                go_simp
                skip
                have b7 : Below w6.heap.size w6 (w6.alloc (.cells #[.int .i64 i2, .int .i64 j] 56)).drew := ((Below.refl w6.heap.size w6).alloc (Nat.le_refl _) _).drew
                have s0 := keepc b7 X6.c0
                have s1 := keepc b7 X6.c1
                have s2 := range_keep b7 C6.range C6.lt
                have s3 := keepc b7 P6.c0
                have s4 := keepc b7 P6.c1
                have R7 := R6.blk (w' := (w6.alloc (.cells #[.int .i64 i2, .int .i64 j] 56)).drew) (fun b hb => b7.block b (R6.own.lt b hb).2)
                have q0 : (w6.alloc (.cells #[.int .i64 i2, .int .i64 j] 56)).drew.cell? ⟨w6.heap.size, 0, none⟩ = some (.int .i64 i2) := (show (w6.alloc (.cells #[.int .i64 i2, .int .i64 j] 56)).cell? ⟨w6.heap.size, 0, none⟩ = _ by simp)
                have q1 : (w6.alloc (.cells #[.int .i64 i2, .int .i64 j] 56)).drew.cell? ⟨w6.heap.size, 1, none⟩ = some (.int .i64 j) := (show (w6.alloc (.cells #[.int .i64 i2, .int .i64 j] 56)).cell? ⟨w6.heap.size, 1, none⟩ = _ by simp)
                refine hK.out _ _ ⟨s0, s1, s2, s3, s4⟩ (fun hH6 => ?_)
                clear hK K
                try simp only [Act.put, List.setIfInBounds_toArray, List.set_cons_zero, List.set_cons_succ, List.getElem_toArray, List.getElem_cons_zero, List.getElem_cons_succ]
                obtain ⟨w7, hw7⟩ : ∃ w7, w7 = (w6.alloc (.cells #[.int .i64 i2, .int .i64 j] 56)).drew := ⟨_, rfl⟩
                rw [← hw7] at b7 s0 s1 s2 s3 s4 R7 q0 q1 ⊢
                rw [z6] at q0 q1
                have z7 : w7.heap.size = wr.heap.size + 3 := by rw [hw7]; simp; omega
                have b37 : Below wr.heap.size wr w7 := bstep b6 b7
                clear hw7 hH0 hH6 b7 R6 r0 r1 r2 r3 r4 X6 C6 P6 b6
                refine wpAnyH_ready (rs := [7]) (by kernel_rfl) (by simp) ?_
                refine AllReadyH.cons (i := 7) rfl (fun K hK => ?_) AllReadyH.nil
                refine step_append_pair_c rfl (.tmp 57) (.tmp 59) rfl A c ps rfl R7.own i2 j _ rfl q0 q1 (by omega) ?_
                intro B c7 w8 own8 hB
                have turn8 : Turn (fun k => (Value.slice A ps.length c).ownBlock = some k) w7 w8 := by
                  rcases hB with ⟨hA, _, hg⟩ | ⟨_, hg⟩
                  · exact Turn.of_grown hg (fun k e => by cases e; rw [hA]; rfl)
                  · exact Turn.of_grown hg (fun k e => by cases e)
                have z8 := turn8.size
                have mA : ∀ k, (Value.slice A ps.length c).ownBlock = some k → k < V.heap.size := HXA.out
                have lg2 : V.heap.size + 1 < w7.heap.size := by omega
                have n0 : ¬ (Value.slice A ps.length c).ownBlock = some V.heap.size := fun e => by have := mA _ e; omega
                have n2 : ¬ (Value.slice A ps.length c).ownBlock = some wr.heap.size := fun e => by have := mA _ e; omega
                have n3 : ¬ (Value.slice A ps.length c).ownBlock = some (wr.heap.size + 1) := fun e => by have := mA _ e; omega
                have t0 := turn8.cell (p := ⟨V.heap.size, 0, none⟩) n0 s0
                have t1 := turn8.cell (p := ⟨V.heap.size, 1, none⟩) n0 s1
                have t2 := range_blk (turn8.block (wr.heap.size + 1) (by omega) n3) s2
                have t3 := turn8.cell (p := ⟨wr.heap.size, 0, none⟩) n2 s3
                have t4 := turn8.cell (p := ⟨wr.heap.size, 1, none⟩) n2 s4
                refine hK.out _ _ ⟨t0, t1, t2, t3, t4⟩ (fun hH7 => ?_)
                clear hK K s0 s1 s2 s3 s4 q0 q1
                try simp only [Act.put, List.setIfInBounds_toArray, List.set_cons_zero, List.set_cons_succ, List.getElem_toArray, List.getElem_cons_zero, List.getElem_cons_succ]
                obtain ⟨T3, hj3, hs3, hbd3⟩ := HLI.out.ex
                obtain ⟨out3, hout3⟩ : ∃ out3, out3 = pre ++ ((NL.take k).flatMap (layJ W n i2 F)).map (ps ++ ·) := ⟨_, rfl⟩
                rw [← hout3] at hj3
                obtain ⟨T5, hT5⟩ : ∃ T5 : Nat → Prop, T5 = fun k => T3 k ∨ k = wr.heap.size ∨ k = wr.heap.size + 1 ∨ k = B := ⟨_, rfl⟩
                have hsT : ∀ k, T k → T3 k := fun k hk => hs3 k (HS2.out k (HS1.out k hk))
                have hBlt : B < w8.heap.size := by
                  have := (own8.lt B rfl).2
                  exact this
                have hBor : T3 B ∨ wr.heap.size ≤ B := by
                  rcases hB with ⟨hA, _, _⟩ | ⟨hb, _⟩
                  · exact .inl (hsT _ (R7.mine B (by rw [hA]; rfl)))
                  · exact .inr (by omega)
                have bd5 : ∀ k, T5 k → n₀ ≤ k ∧ k < w8.heap.size := fun k hk => by
                  rw [hT5] at hk
                  rcases hk with h | h | h | h
                  · have := hbd3 k h; omega
                  · omega
                  · omega
                  · subst h
                    rcases hBor with h | h
                    · have := hbd3 _ h; omega
                    · omega
                have J5 : J T5 out3 w8 := HJ.out T3 T5 out3 wr w8 hj3 hbd3 (by omega) ((Turn.of_below b37).trans turn8 (fun k _ hk => hsT k (R7.mine k hk))) (fun k hk => by
                  rw [hT5] at hk
                  rcases hk with h | h | h | h
                  · exact .inl h
                  · exact .inr (by omega)
                  · exact .inr (by omega)
                  · rw [h]; exact hBor)
                have row8 : RowP w8 T5 (some ⟨B, 0, none⟩) c7 (ps ++ [((i2 : Int), (j : Int))]) := ⟨by simpa using own8, fun b hb => by
                  have e : b = B := by simpa [Value.ownBlock] using hb.symm
                  rw [hT5, e]; exact .inr (.inr (.inr rfl))⟩
                have eJ : layJ W n i2 F j = (layL W n (i2 + 1) (mk2 F i2 j)).map (((i2 : Int), (j : Int)) :: ·) := by unfold layJ; rw [HFJ.out]; rfl
                have hout : pre ++ ((NL.take (k + 1)).flatMap (layJ W n i2 F)).map (ps ++ ·) = out3 ++ (layL W n (i2 + 1) (mk2 F i2 j)).map ((ps ++ [((i2 : Int), (j : Int))]) ++ ·) := by
                  rw [hout3]
                  exact out_step HLT.out eJ
                have hpre4 : (out3 ++ (layL W n (i2 + 1) (mk2 F i2 j)).map ((ps ++ [((i2 : Int), (j : Int))]) ++ ·)) <+: xs := by
                  rw [← hout]
                  refine List.IsPrefix.trans out_pre (?_ : (pre ++ (NL.flatMap (layJ W n i2 F)).map (ps ++ ·)) <+: xs)
                  rw [← HLY.out]
                  exact HP.out
                have con := IH.out (i2 + 1) (mk2 F i2 j) (ps ++ [((i2 : Int), (j : Int))]) (some ⟨B, 0, none⟩) c7 T5 out3 w8 m (by omega) (by omega) J5 bd5 (by omega) row8 hpre4 (by simp; omega)
                rw [show (ps ++ [((i2 : Int), (j : Int))]).length = ps.length + 1 by simp, show ((i2 + 1 : Nat) : Int) = (i2 : Int) + 1 from rfl] at con
                have Con := Lib.hid (callsIn_wide.1 con)
                have HB := Lib.hid hB
                have HR7 := Lib.hid R7
                have HT5 := Lib.hid hT5
                have HOUT := Lib.hid hout
                have HS3 := Lib.hid hs3
                have HB37 := Lib.hid b37
                have HTU := Lib.hid turn8
                have HSZ := Lib.hid HLI.out.sz
                clear con hB R7 hT5 hout hs3 b37 turn8 hout3 hpre4 eJ row8 J5 bd5 hBor hBlt hsT own8 hj3 hbd3
                refine wpAnyH_ready (rs := [9]) (by kernel_rfl) (by simp) ?_
                refine AllReadyH.cons (i := 9) rfl (fun K hK => ?_) AllReadyH.nil
                go_simp
                go_at_call 13
                refine Con.out.mono ?_
                rintro e w9 ⟨z9, fr9, hres⟩
                have nB : ∀ k, k < w7.heap.size → ¬ (Value.slice A ps.length c).ownBlock = some k → (Value.slice (some ⟨B, 0, none⟩) (ps ++ [((i2 : Int), (j : Int))]).length c7).ownBlock ≠ some k := fun k hk hne e => by
                  have e2 : B = k := by simpa [Value.ownBlock] using e
                  rcases HB.out with ⟨hA, _, _⟩ | ⟨hb, _⟩
                  · exact hne (by rw [hA, ← e2]; rfl)
                  · omega
                have m0 : T5 V.heap.size := by rw [HT5.out]; exact .inl (HS3.out _ (HS2.out _ tg0))
                have m2 : T5 wr.heap.size := by rw [HT5.out]; exact .inr (.inl rfl)
                have m3 : T5 (wr.heap.size + 1) := by rw [HT5.out]; exact .inr (.inr (.inl rfl))
                have h0 := fr9 V.heap.size m0 (by omega) (nB _ (by omega) n0)
                have h2 := fr9 wr.heap.size m2 (by omega) (nB _ (by omega) n2)
                have h3 := fr9 (wr.heap.size + 1) m3 (by omega) (nB _ (by omega) n3)
                have u0 := (World.cell?_of_block (a := ⟨V.heap.size, 0, none⟩) h0).trans t0
                have u1 := (World.cell?_of_block (a := ⟨V.heap.size, 1, none⟩) h0).trans t1
                have u2 := range_blk h3 t2
                have u3 := (World.cell?_of_block (a := ⟨wr.heap.size, 0, none⟩) h2).trans t3
                have u4 := (World.cell?_of_block (a := ⟨wr.heap.size, 1, none⟩) h2).trans t4
                have hch : ∀ k, T2 k → k < w2.heap.size → (Value.slice A ps.length c).ownBlock ≠ some k → w9.heap[k]? = w2.heap[k]? := fun k hk hl hne => by
                  have hzz := HSZ.out
                  refine (fr9 k (by rw [HT5.out]; exact .inl (HS3.out k hk)) (by omega) (nB k (by omega) hne)).trans ?_
                  exact (HTU.out.block k (by omega) hne).trans ((HB37.out.block k (by omega)).trans (HLI.out.blk k hk hl hne))
                have HCH := Lib.hid hch
                have FR9 := Lib.hid fr9
                have NB := Lib.hid nB
                clear hch fr9 nB h0 h2 h3 t0 t1 t2 t3 t4 m0 m2 m3
                have lat : ∀ {Q9 : Prop}, Q9 → Q9 := fun h => h
                rcases hres with ⟨rfl, T6, j6, s6, bd6, row6⟩ | ⟨rfl, T6, q6, hq6, jx6, bd6⟩
                · have row9 : RowP w9 T A c ps := by
                    rcases HB.out with ⟨hA, hc7, hg⟩ | ⟨hb, hg⟩
                    · subst hA
                      subst hc7
                      exact ⟨own_backP (by simpa using row6.own), HR7.out.mine⟩
                    · refine HR7.out.blk fun b hb' => ?_
                      have hbl := (HR7.out.own.lt b hb').2
                      have hne : (Value.slice (some ⟨B, 0, none⟩) (ps ++ [((i2 : Int), (j : Int))]).length c7).ownBlock ≠ some b := fun e => by
                        have e2 : B = b := by simpa [Value.ownBlock] using e
                        omega
                      exact (FR9.out b (by rw [HT5.out]; exact .inl (HS3.out b (HS2.out b (HS1.out b (HR7.out.mine b hb'))))) (by omega) hne).trans (hg.block b hbl (by simp))
                  have HJ6 := Lib.hid j6
                  have HS6 := Lib.hid s6
                  have HBD6 := Lib.hid bd6
                  have HR9 := Lib.hid row9
                  clear j6 s6 bd6 row6 row9
                  refine hK.out _ _ ⟨u0, u1, u2, u3, u4⟩ (fun hH9 => ?_)
                  clear hK K u0 u1 u2 u3 u4 hH7
                  try simp only [Act.put, List.setIfInBounds_toArray, List.set_cons_zero, List.set_cons_succ, List.getElem_toArray, List.getElem_cons_zero, List.getElem_cons_succ]
                  refine reg_take 10 rfl (by kernel_rfl) (by kernel_rfl) (by kernel_rfl) (fun _ _ _ h => h) (by rfl) (fun w _ => by first | (go_simp; done) | (go_simp; with_reducible rfl)) (by assumption) ?_
                  refine wpAnyH_done (by kernel_rfl) ?_ _
                  go_wp2
                  go_roundw
                  case rel =>
                    refine ⟨k + 1, by omega, by go_num, ⟨⟨T6, by rw [HOUT.out]; exact HJ6.out, fun k hk => HS6.out k (by rw [HT5.out]; exact .inl (HS3.out k hk)), HBD6.out⟩, HR9.out, HCH.out, by have := HSZ.out; omega⟩⟩
                  case measure => simp [intOf]; omega
                · have HJX := Lib.hid jx6
                  have HQ6 := Lib.hid hq6
                  have HBD6 := Lib.hid bd6
                  clear jx6 hq6 bd6
                  refine hK.out _ _ ⟨u0, u1, u2, u3, u4⟩ (fun hH9 => ?_)
                  clear hK K u0 u1 u2 u3 u4 hH7
                  try simp only [Act.put, List.setIfInBounds_toArray, List.set_cons_zero, List.set_cons_succ, List.getElem_toArray, List.getElem_cons_zero, List.getElem_cons_succ]
                  refine reg_take 10 rfl (by kernel_rfl) (by kernel_rfl) (by kernel_rfl) (fun _ _ _ h => h) (by rfl) (fun w _ => by first | (go_simp; done) | (go_simp; with_reducible rfl)) (by assumption) ?_
                  refine wpAnyH_done (by kernel_rfl) ?_ _
                  go_wp2
                  go_ret
                  exact ⟨by omega, fun k hk hl hne => (HCH.out k (HS2.out k (HS1.out k hk)) (by omega) hne).trans (HB02.out k hl), .inr ⟨rfl, T6, q6, HQ6.out, HJX.out, HBD6.out⟩⟩
              · rw [hFj] at c3
                have HFJ := Lib.hid hFj
                have hb3 : Below wr.heap.size wr (wr.alloc (.cells #[.int .i64 i2, .int .i64 j] 56)) := (Below.refl _ _).alloc (Nat.le_refl _) _
                have HB3 := Lib.hid hb3
                clear hFj hb3 X3 C3 Q3 hli hc
                go_wp2
                go_roundw
                case rel =>
                  refine ⟨k + 1, by omega, by go_num, ?_⟩
                  have e : ((NL.take (k + 1)).flatMap (layJ W n i2 F)) = (NL.take k).flatMap (layJ W n i2 F) := by
                    rw [HLT.out, List.flatMap_append]
                    simp [layJ, HFJ.out]
                  rw [e]
                  exact HLI.out.more HJ.out hnV HB3.out (fun b hb => HXA.out b hb) (by omega)
                case measure => simp [intOf]; omega
            · have ek : k = NL.length := by omega
              subst ek
              rw [List.take_length, ← HLY.out] at HLI
              clear hli X3 C3 Q3
              go_wp2
              go_ret
              obtain ⟨T3, hj3, hs3, hbd3⟩ := HLI.out.ex
              refine ⟨by have := HLI.out.sz; omega, fun k hk hl hne => (HLI.out.blk k (HS2.out k (HS1.out k hk)) (by omega) hne).trans (HB02.out k hl), .inl ⟨rfl, T3, hj3, fun k hk => hs3 k (HS2.out k (HS1.out k hk)), hbd3, HLI.out.row⟩⟩
        · rw [hF] at c0
          have HF := Lib.hid hF
          clear hF
          gi_wp2
          go_roundw
          case rel => exact ⟨i2 + 1, by go_num, by omega, by omega, by rw [← HL.out, layL_skip hlt HF.out], by first | trivial | rfl⟩
          case measure => simp [intOf]; omega
      · have e : n = i2 := by omega
        subst e
        have eo : (layL W n i F).map (ps ++ ·) = [ps] := by rw [← HL.out, layL_end]; simp
        have hp := HP.out
        rw [eo] at hp
        have EO := Lib.hid eo
        obtain ⟨fn, tmps, assign, body, hy, hR⟩ := HY.out T1 pre ps #[.slice A ps.length c] wr (m - 1) HJ1.out hp HBD1.out (by omega) (HR1.out.enc.mono HS1.out)
        have HP2 := Lib.hid hp
        clear eo hp
        gi_wp2
        refine ⟨fun h => by simp [Fence.wide] at h, hR.mono ?_⟩
        rintro e A' (⟨rfl, jt, kt⟩ | ⟨rfl, jf, kf⟩)
        · have HK := Lib.hid kt
          have HJT := Lib.hid jt
          clear hR hy kt jt
          gi_wp2
          go_ret
          rw [EO.out]
          have zk := HK.out.size
          have bk : ∀ k, T k → k < V.heap.size → A'.heap[k]? = V.heap[k]? := fun k hk hl => (HK.out.block k (by omega) (fun h => h.2 (HS1.out k hk))).trans (HB1.out.block k hl)
          refine ⟨by omega, fun k hk hl _ => bk k hk hl, .inl ⟨rfl, T1, HJT.out, HS1.out, fun k hk => by have := HBD1.out k hk; omega, ?_⟩⟩
          exact HR1.out.blk fun b hb => HK.out.block b (HR1.out.own.lt b hb).2 (fun h => h.2 (HS1.out b (HR1.out.mine b hb)))
        · have HK := Lib.hid kf
          have HJF := Lib.hid jf
          clear hR hy kf jf
          gi_wp2
          go_ret
          have zk := HK.out.size
          exact ⟨by omega, fun k hk hl _ => (HK.out.block k (by omega) (fun h => h.2 (HS1.out k hk))).trans (HB1.out.block k hl), .inr ⟨rfl, T1, _, HP2.out, HJF.out, fun k hk => by have := HBD1.out k hk; omega⟩⟩

end Go.Proofs.Ytmijbgkfkaijjaa

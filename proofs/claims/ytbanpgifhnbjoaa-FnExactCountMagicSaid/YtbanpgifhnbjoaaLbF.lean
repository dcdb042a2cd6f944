/- Layings: the program's search, which calls itself and hands out each list of numbers. -/
import Derived.Test.YtbanpgifhnbjoaaLbM
import Derived.LoopIn
import Derived.TacticsIn
import Derived.Maps.OwnIn
import Derived.Scope
import Derived.Deep.Cut
namespace Go.Proofs.Ytbanpgifhnbjoaa
open Go Go.RowKit
set_option linter.unusedVariables false

/-- What a call of the search leaves behind: all of out has been handed out, or it was stopped; its blocks stand but for the row's end. -/
def LbPost (n₀ : Nat) (J Jx : (Nat → Prop) → List (List Int) → World → Prop) (xs : List (List Int)) (T : Nat → Prop) (out : List (List Int)) (A : Option Addr) (c : Nat) (ps : List Int) (V : World) (e : Ending) (V' : World) : Prop :=
  V.heap.size ≤ V'.heap.size ∧ (∀ k, T k → k < V.heap.size → (Value.slice A ps.length c).ownBlock ≠ some k → V'.heap[k]? = V.heap[k]?) ∧
  ((e = .returned (.bool true) ∧ ∃ T', J T' out V' ∧ (∀ k, T k → T' k) ∧ (∀ k, T' k → n₀ ≤ k ∧ k < V'.heap.size) ∧ RowN V' T A c ps) ∨
   (e = .returned (.bool false) ∧ ∃ T' q, q <+: xs ∧ Jx T' q V' ∧ (∀ k, T' k → n₀ ≤ k ∧ k < V'.heap.size)))
/-- What a round of the caller's may do. -/
def YieldsN (l n₀ : Nat) (J Jx : (Nat → Prop) → List (List Int) → World → Prop) (xs : List (List Int)) : Prop :=
  ∀ (T : Nat → Prop) (pre : List (List Int)) (x : List Int) (v : Array Value) (A : World) (m : Nat), J T pre A → (pre ++ [x]) <+: xs → (∀ k, T k → n₀ ≤ k ∧ k < A.heap.size) → n₀ ≤ A.heap.size → EncN x v T A →
    YieldAt Fence.wide m Try.prog l v A fun e A' => (e = .returned (.bool true) ∧ J T (pre ++ [x]) A' ∧ Keep n₀ T A A') ∨ (e = .returned (.bool false) ∧ Jx T (pre ++ [x]) A' ∧ Keep n₀ T A A')
/-- Between two rounds of the search's loops. -/
structure LbI (n₀ : Nat) (J : (Nat → Prop) → List (List Int) → World → Prop) (T2 T : Nat → Prop) (out : List (List Int)) (A : Option Addr) (c : Nat) (ps : List Int) (w2 w : World) : Prop where
  ex : ∃ T3, J T3 out w ∧ (∀ k, T2 k → T3 k) ∧ (∀ k, T3 k → n₀ ≤ k ∧ k < w.heap.size)
  row : RowN w T A c ps
  blk : ∀ k, T2 k → k < w2.heap.size → (Value.slice A ps.length c).ownBlock ≠ some k → w.heap[k]? = w2.heap[k]?
  sz : w2.heap.size ≤ w.heap.size

set_option maxRecDepth 100000 in
set_option maxHeartbeats 8000000 in
theorem lay_behind (l n₀ : Nat) (J Jx : (Nat → Prop) → List (List Int) → World → Prop) (xs : List (List Int))
    (hJ : AbT n₀ J) (hY : YieldsN l n₀ J Jx xs) : ∀ (t : Nat) (M : Nat → Nat → Bool) (ps : List Int) (A : Option Addr) (c : Nat) (T : Nat → Prop) (pre : List (List Int)) (V : World) (m : Nat),
    J T pre V → (∀ k, T k → n₀ ≤ k ∧ k < V.heap.size) → n₀ ≤ V.heap.size → RowN V T A c ps → (pre ++ (wlL t M).map (ps ++ ·)) <+: xs → ps.length + 2 * t ≤ 1000 →
    CallsIn Fence.wide m Try.prog 75 #[.slice A ps.length c, .int .i64 t, .agg (mkL M).toArray, .func (.yield l) #[] #[]] V (LbPost n₀ J Jx xs T (pre ++ (wlL t M).map (ps ++ ·)) A c ps V) := by
  intro t
  induction t with
  | zero =>
    intro M ps A c T pre V m h0 hT hnV hrow hpre hps
    have HY := Lib.hid hY
    have HT := Lib.hid hT
    have HR := Lib.hid hrow
    have b0 : Below V.heap.size V (V.alloc (.cells (mkL M).toArray 102)) := (Below.refl _ _).alloc (Nat.le_refl _) _
    have eo : (wlL 0 M).map (ps ++ ·) = [ps] := by simp [wlL]
    rw [eo] at hpre ⊢
    obtain ⟨fn, tmps, assign, body, hy, hR⟩ := hY T pre ps #[.slice A ps.length c] (V.alloc (.cells (mkL M).toArray 102)) (m - 1) (hJ T T pre V _ h0 hT hnV (Turn.of_below b0) (fun k hk => .inl hk)) hpre
      (fun k hk => by have := hT k hk; simp; omega) (by simp; omega) (hrow.blk fun b hb => b0.block b (hrow.own.lt b hb).2).enc
    have HP2 := Lib.hid hpre
    have HB0 := Lib.hid b0
    clear hpre h0 hT hrow hJ hY b0 eo
    refine callsIn_of_wp Try.func75 rfl trivial ?_
    simp only [Try.ntmps75, List.size_toArray, List.length_cons, List.length_nil, Nat.reduceAdd, Nat.reduceSub, Array.replicate_succ, Array.replicate_zero, List.push_toArray, List.append_toArray, List.nil_append, List.cons_append]
    gi_wp2
    refine ⟨fun h => by simp [Fence.wide] at h, hR.mono ?_⟩
    rintro e A' (⟨rfl, jt, kt⟩ | ⟨rfl, jf, kf⟩)
    · have HK := Lib.hid kt
      have HJT := Lib.hid jt
      clear hR hy kt jt
      gi_wp2
      go_ret
      have zk := HK.out.size
      have z0 := HB0.out.size
      have bk : ∀ k, T k → k < V.heap.size → A'.heap[k]? = V.heap[k]? := fun k hk hl => (HK.out.block k (by omega) (fun h => h.2 hk)).trans (HB0.out.block k hl)
      exact ⟨by omega, fun k hk hl _ => bk k hk hl, .inl ⟨rfl, T, HJT.out, fun k hk => hk, fun k hk => by have := HT.out k hk; omega, HR.out.blk fun b hb => bk b (HR.out.mine b hb) (HR.out.own.lt b hb).2⟩⟩
    · have HK := Lib.hid kf
      have HJF := Lib.hid jf
      clear hR hy kf jf
      gi_wp2
      go_ret
      have zk := HK.out.size
      have z0 := HB0.out.size
      exact ⟨by omega, fun k hk hl _ => (HK.out.block k (by omega) (fun h => h.2 hk)).trans (HB0.out.block k hl), .inr ⟨rfl, T, _, HP2.out, HJF.out, fun k hk => by have := HT.out k hk; omega⟩⟩
  | succ t ih =>
    intro M ps A c T pre V m h0 hT hnV hrow hpre hps
    have IH := Lib.hid ih
    have HJ := Lib.hid hJ
    have HP := Lib.hid hpre
    refine callsIn_wide.2 ?_
    obtain ⟨V1, hV1⟩ : ∃ V1, V1 = V.alloc (.cells (mkL M).toArray 102) := ⟨_, rfl⟩
    have z1 : V1.heap.size = V.heap.size + 1 := by rw [hV1]; simp
    have b1 : Below V.heap.size V V1 := by rw [hV1]; exact (Below.refl _ _).alloc (Nat.le_refl _) _
    have C1 : Mk10 V1 V.heap.size M := by rw [hV1]; exact Mk10.fresh _ _ _
    have R1 : RowN V1 T A c ps := hrow.blk fun b hb => b1.block b (hrow.own.lt b hb).2
    obtain ⟨T1, hT1⟩ : ∃ T1 : Nat → Prop, T1 = fun k => T k ∨ k = V.heap.size := ⟨_, rfl⟩
    have J1 : J T1 pre V1 := hJ T T1 pre V V1 h0 hT hnV (Turn.of_below b1) (fun k hk => by
      rw [hT1] at hk
      rcases hk with h | h
      · exact .inl h
      · exact .inr (by omega))
    have BD1 : ∀ k, T1 k → n₀ ≤ k ∧ k < V1.heap.size := fun k hk => by
      rw [hT1] at hk
      rcases hk with h | h
      · have := hT k h; omega
      · omega
    have S1 : ∀ k, T k → T1 k := fun k hk => by rw [hT1]; exact .inl hk
    have tg0 : T1 V.heap.size := by rw [hT1]; exact .inr rfl
    have HC1 := Lib.hid C1
    have HR1 := Lib.hid R1
    have HJ1 := Lib.hid J1
    have HBD1 := Lib.hid BD1
    have HS1 := Lib.hid S1
    have HT := Lib.hid hT
    have HB1 := Lib.hid b1
    have HXA := Lib.hid (show ∀ b, (Value.slice A ps.length c).ownBlock = some b → b < V.heap.size from fun b hb => (hT b (hrow.mine b hb)).2)
    have q0 : (((t : Int) + 1) == 0) = false := by simp; omega
    have q1 : ((((t + 1 : Nat) : Int)) == 0) = false := by simp; omega
    have q2 : ¬ ((t : Int) + 1 = 0) := by omega
    clear C1 R1 J1 BD1 S1 hT b1 h0 hrow hpre hJ hY ih hT1
    go_enter Try.func75, Try.ntmps75
    go_wp2
    rw [← hV1]
    clear hV1
    go_loopw [17] (fun v wr => ∃ a : Nat, a ≤ 10 ∧ v = .int .i64 a ∧ LbI n₀ J T1 T (pre ++ ((List.range (10 * a)).flatMap (wlJ t M)).map (ps ++ ·)) A c ps V1 wr) (fun v _ => 10 - (intOf v).toNat)
    case atStart => exact ⟨0, by omega, rfl, ⟨⟨T1, by simpa using HJ1.out, fun k hk => hk, HBD1.out⟩, HR1.out, fun k _ _ _ => rfl, Nat.le_refl _⟩⟩
    case round =>
      clear HR1 HJ1
      obtain ⟨a, ha, rfl, hli⟩ := hrel
      have HLA := Lib.hid hli
      clear hli
      by_cases ha9 : a < 10
      · rename World => wo
        have i1 : (a : Int) < 10 := by omega
        go_wp2
        go_loopw [20] (fun v wr => ∃ b : Nat, b ≤ 10 ∧ v = .int .i64 b ∧ LbI n₀ J T1 T (pre ++ ((List.range (10 * a + b)).flatMap (wlJ t M)).map (ps ++ ·)) A c ps V1 wr) (fun v _ => 10 - (intOf v).toNat)
        case atStart => exact ⟨0, by omega, rfl, HLA.out⟩
        case round =>
          clear HLA
          obtain ⟨b, hb, rfl, hli⟩ := hrel
          have z3 := hli.sz
          have ng0 : (Value.slice A ps.length c).ownBlock ≠ some V.heap.size := fun e => by have := HXA.out _ e; omega
          have C3 := HC1.out.blk (hli.blk _ tg0 (by omega) ng0)
          have HLI := Lib.hid hli
          have HC3 := Lib.hid C3
          have pa : (10 * a + b) / 10 = a ∨ ¬ b < 10 := by omega
          by_cases hb9 : b < 10
          · have pa : (10 * a + b) / 10 = a := by omega
            have pb : (10 * a + b) % 10 = b := by omega
            have c3 := C3.c a b ha9 hb9
            have lg : V.heap.size < wr.heap.size := C3.lt
            have i0 : (0 : Int) ≤ (a : Int) := by omega
            have i2 : (0 : Int) ≤ (b : Int) := by omega
            have i3 : (b : Int) < 10 := by omega
            cases hM : M a b
            · rw [hM] at c3
              have eJ : wlJ t M (10 * a + b) = [] := by unfold wlJ; rw [pa, pb, hM]; rfl
              have HEJ := Lib.hid eJ
              clear hM eJ C3 hli
              go_wp2
              go_roundw
              case rel => exact ⟨b + 1, by omega, by go_num, by rw [show 10 * a + (b + 1) = (10 * a + b) + 1 from rfl, wl_none HEJ.out]; exact HLI.out⟩
              case measure => simp [intOf]; omega
            · rw [hM] at c3
              have eJ : wlJ t M (10 * a + b) = (wlL t (rmM M a b)).map fun l => ((a : Nat) : Int) :: ((b : Nat) : Int) :: l := by unfold wlJ; rw [pa, pb, hM]; rfl
              have HEJ := Lib.hid eJ
              have HC4 := Lib.hid C3.range
              clear hM eJ C3 hli
              go_wp2_with (first | (refine wpList_load_mid rfl 102 _ rfl V.heap.size 0 rfl _ _ HC4.out Try.underlying102 rfl (by rw [mkL_len]; exact Try.info_marksN) ?_) | (refine wp_store_mk rfl _ _ rfl wr.heap.size rfl M _ rfl (mk_fresh0 wr) ?_; intro w5 hC5 hG5 hs5; have z5 : w5.heap.size = wr.heap.size + 1 := by rw [hs5]; simp))
              have b5 : Below wr.heap.size wr w5 := ((Below.refl wr.heap.size wr).alloc (Nat.le_refl _) _).trans (below_of_grown hG5 (by simp) (by intro g hg; cases hg; exact Nat.le_refl _))
              go_wp2_with fail
              refine (c_marksSet wr.heap.size a b (by omega) (by omega) false _ _ w5 (hC5.c a b ha9 hb9) (hC5.c b a hb9 ha9) hC5.fz).mono ?_
              rintro e w' ⟨rfl, rfl⟩
              obtain ⟨w6, hw6⟩ : ∃ w6, w6 = ((w5.setCell ⟨wr.heap.size, a * 10 + b, none⟩ (.bool false)).setCell ⟨wr.heap.size, b * 10 + a, none⟩ (.bool false)).drew := ⟨_, rfl⟩
              rw [← hw6]
              have C6 : Mk10 w6 wr.heap.size (rmM M a b) := by rw [hw6]; exact hC5.lose ha9 hb9
              have b6 : Below wr.heap.size wr w6 := by rw [hw6]; exact ((b5.setCell (Nat.le_refl _) _).setCell (Nat.le_refl _) _).drew
              have z6 : w6.heap.size = wr.heap.size + 1 := by rw [hw6]; simp <;> omega
              have R6 : RowN w6 T A c ps := HLI.out.row.blk fun b hb => b6.block b (by have := HXA.out b hb; omega)
              clear hw6 hC5 hG5 hs5 b5 z5 c3 HC4 HC3
              have iw : IntKind.i64.wrap (((t : Int) + 1) - 1) = (t : Int) := by rw [show ((t : Int) + 1) - 1 = (t : Int) by omega]; exact IntWalk.i64_in _ (by omega)
              have iw2 : IntKind.i64.wrap (t : Int) = (t : Int) := IntWalk.i64_in _ (by omega)
              go_wp2_with fail
              have r2 : w6.drew.rangeAt wr.heap.size 0 (mkL (rmM M a b)) := C6.drew.range
              refine wp_region_held_drew (S := fun w' => w'.rangeAt wr.heap.size 0 (mkL (rmM M a b))) (by kernel_rfl) r2 (fun hH0 => ?_)
              refine reg_take 0 rfl (by kernel_rfl) (by kernel_rfl) (by kernel_rfl) (fun _ _ _ h => h) (by rfl) (fun w _ => by first | (go_simp; done) | (go_simp; with_reducible rfl)) (by assumption) ?_
              try simp only [Act.put, List.setIfInBounds_toArray, List.set_cons_zero, List.set_cons_succ, List.getElem_toArray, List.getElem_cons_zero]
              refine reg_take 1 rfl (by kernel_rfl) (by kernel_rfl) (by kernel_rfl) (fun _ _ _ h => h) (by rfl) (fun w _ => by first | (go_simp; done) | (go_simp; with_reducible rfl)) (by assumption) ?_
              try simp only [Act.put, List.setIfInBounds_toArray, List.set_cons_zero, List.set_cons_succ, List.getElem_toArray, List.getElem_cons_zero, List.getElem_cons_succ]
              refine reg_take 2 rfl (by kernel_rfl) (by kernel_rfl) (by kernel_rfl) (fun _ _ _ h => h) (by rfl) (fun w _ => by first | (go_simp; done) | (go_simp; with_reducible rfl)) (by assumption) ?_
              try simp only [Act.put, List.setIfInBounds_toArray, List.set_cons_zero, List.set_cons_succ, List.getElem_toArray, List.getElem_cons_zero, List.getElem_cons_succ]
              refine reg_take 5 rfl (by kernel_rfl) (by kernel_rfl) (by kernel_rfl) (fun _ _ _ h => h) (by rfl) (fun w _ => by first | (go_simp; done) | (go_simp; with_reducible rfl)) (by assumption) ?_
              try simp only [Act.put, List.setIfInBounds_toArray, List.set_cons_zero, List.set_cons_succ, List.getElem_toArray, List.getElem_cons_zero, List.getElem_cons_succ]
              refine reg_take 6 rfl (by kernel_rfl) (by kernel_rfl) (by kernel_rfl) (fun _ _ _ h => h) (by rfl) (fun w _ => by first | (go_simp; done) | (go_simp; with_reducible rfl)) (by assumption) ?_
              try simp only [Act.put, List.setIfInBounds_toArray, List.set_cons_zero, List.set_cons_succ, List.getElem_toArray, List.getElem_cons_zero, List.getElem_cons_succ]
              refine reg_take_mk 7 rfl (by kernel_rfl) (by kernel_rfl) (by kernel_rfl) (rmM M a b) wr.heap.size (fun _ _ _ h => h) (by rfl) _ rfl rfl (fun w' hw' => hw') (by assumption) ?_
              try simp only [Act.put, List.setIfInBounds_toArray, List.set_cons_zero, List.set_cons_succ, List.getElem_toArray, List.getElem_cons_zero, List.getElem_cons_succ]
              refine reg_take 8 rfl (by kernel_rfl) (by kernel_rfl) (by kernel_rfl) (fun _ _ _ h => h) (by rfl) (fun w _ => by first | (go_simp; done) | (go_simp; with_reducible rfl)) (by assumption) ?_
              try simp only [Act.put, List.setIfInBounds_toArray, List.set_cons_zero, List.set_cons_succ, List.getElem_toArray, List.getElem_cons_zero, List.getElem_cons_succ]
              refine wpAnyH_ready (rs := [3]) (by kernel_rfl) (by simp) ?_
              refine AllReadyH.cons (i := 3) rfl (fun K hK => ?_) AllReadyH.nil
              go_simp
              skip
              have b7 : Below w6.heap.size w6 (w6.alloc (.cells #[.int .i64 a, .int .i64 b] 3)).drew := ((Below.refl w6.heap.size w6).alloc (Nat.le_refl _) _).drew
              have s2 := range_keepN b7 C6.range C6.lt
              have R7 := R6.blk (w' := (w6.alloc (.cells #[.int .i64 a, .int .i64 b] 3)).drew) (fun b hb => b7.block b (R6.own.lt b hb).2)
              have q4 : (w6.alloc (.cells #[.int .i64 a, .int .i64 b] 3)).drew.cell? ⟨w6.heap.size, 0, none⟩ = some (.int .i64 a) := (show (w6.alloc (.cells #[.int .i64 a, .int .i64 b] 3)).cell? ⟨w6.heap.size, 0, none⟩ = _ by simp)
              have q5 : (w6.alloc (.cells #[.int .i64 a, .int .i64 b] 3)).drew.cell? ⟨w6.heap.size, 1, none⟩ = some (.int .i64 b) := (show (w6.alloc (.cells #[.int .i64 a, .int .i64 b] 3)).cell? ⟨w6.heap.size, 1, none⟩ = _ by simp)
              refine hK.out _ _ s2 (fun hH3 => ?_)
              clear hK K
              try simp only [Act.put, List.setIfInBounds_toArray, List.set_cons_zero, List.set_cons_succ, List.getElem_toArray, List.getElem_cons_zero, List.getElem_cons_succ]
              obtain ⟨w7, hw7⟩ : ∃ w7, w7 = (w6.alloc (.cells #[.int .i64 a, .int .i64 b] 3)).drew := ⟨_, rfl⟩
              rw [← hw7] at b7 s2 R7 q4 q5 ⊢
              rw [z6] at q4 q5
              have z7 : w7.heap.size = wr.heap.size + 2 := by rw [hw7]; simp; omega
              have b37 : Below wr.heap.size wr w7 := bstep b6 b7
              clear hw7 hH0 hH3 b7 R6 r2 C6 b6
              refine wpAnyH_ready (rs := [4]) (by kernel_rfl) (by simp) ?_
              refine AllReadyH.cons (i := 4) rfl (fun K hK => ?_) AllReadyH.nil
              refine step_append_two_c rfl (.tmp 33) (.tmp 36) rfl A c ps rfl R7.own a b _ rfl q4 q5 (by omega) ?_
              intro B c7 w8 own8 hB
              have turn8 : Turn (fun k => (Value.slice A ps.length c).ownBlock = some k) w7 w8 := by
                rcases hB with ⟨hA, _, hg⟩ | ⟨_, hg⟩
                · exact Turn.of_grown hg (fun k e => by cases e; rw [hA]; rfl)
                · exact Turn.of_grown hg (fun k e => by cases e)
              have z8 := turn8.size
              have mA : ∀ k, (Value.slice A ps.length c).ownBlock = some k → k < V.heap.size := HXA.out
              have n3 : ¬ (Value.slice A ps.length c).ownBlock = some wr.heap.size := fun e => by have := mA _ e; omega
              have t2 := range_blkN (turn8.block wr.heap.size (by omega) n3) s2
              refine hK.out _ _ t2 (fun hH4 => ?_)
              clear hK K s2 q4 q5
              try simp only [Act.put, List.setIfInBounds_toArray, List.set_cons_zero, List.set_cons_succ, List.getElem_toArray, List.getElem_cons_zero, List.getElem_cons_succ]
              obtain ⟨T3, hj3, hs3, hbd3⟩ := HLI.out.ex
              obtain ⟨out3, hout3⟩ : ∃ out3, out3 = pre ++ ((List.range (10 * a + b)).flatMap (wlJ t M)).map (ps ++ ·) := ⟨_, rfl⟩
              rw [← hout3] at hj3
              obtain ⟨T5, hT5⟩ : ∃ T5 : Nat → Prop, T5 = fun k => T3 k ∨ k = wr.heap.size ∨ k = B := ⟨_, rfl⟩
              have hsT : ∀ k, T k → T3 k := fun k hk => hs3 k (HS1.out k hk)
              have hBlt : B < w8.heap.size := (own8.lt B rfl).2
              have hBor : T3 B ∨ wr.heap.size ≤ B := by
                rcases hB with ⟨hA, _, _⟩ | ⟨hb, _⟩
                · exact .inl (hsT _ (R7.mine B (by rw [hA]; rfl)))
                · exact .inr (by omega)
              have bd5 : ∀ k, T5 k → n₀ ≤ k ∧ k < w8.heap.size := fun k hk => by
                rw [hT5] at hk
                rcases hk with h | h | h
                · have := hbd3 k h; omega
                · omega
                · subst h
                  rcases hBor with h | h
                  · have := hbd3 _ h; omega
                  · omega
              have J5 : J T5 out3 w8 := HJ.out T3 T5 out3 wr w8 hj3 hbd3 (by omega) ((Turn.of_below b37).trans turn8 (fun k _ hk => hsT k (R7.mine k hk))) (fun k hk => by
                rw [hT5] at hk
                rcases hk with h | h | h
                · exact .inl h
                · exact .inr (by omega)
                · rw [h]; exact hBor)
              have row8 : RowN w8 T5 (some ⟨B, 0, none⟩) c7 (ps ++ [(a : Int), (b : Int)]) := ⟨by simpa using own8, fun b hb => by
                have e : b = B := by simpa [Value.ownBlock] using hb.symm
                rw [hT5, e]; exact .inr (.inr rfl)⟩
              have hout : pre ++ ((List.range (10 * a + (b + 1))).flatMap (wlJ t M)).map (ps ++ ·) = out3 ++ (wlL t (rmM M a b)).map ((ps ++ [(a : Int), (b : Int)]) ++ ·) := by
                rw [hout3]
                exact wl_step HEJ.out
              have hpre4 : (out3 ++ (wlL t (rmM M a b)).map ((ps ++ [(a : Int), (b : Int)]) ++ ·)) <+: xs := by
                rw [← hout]
                refine List.IsPrefix.trans (wl_pre (by omega : 10 * a + (b + 1) ≤ 100)) ?_
                exact HP.out
              have con := IH.out (rmM M a b) (ps ++ [(a : Int), (b : Int)]) (some ⟨B, 0, none⟩) c7 T5 out3 w8 m J5 bd5 (by omega) row8 hpre4 (by simp; omega)
              rw [show (ps ++ [(a : Int), (b : Int)]).length = ps.length + 2 by simp] at con
              have Con := Lib.hid (callsIn_wide.1 con)
              have HB := Lib.hid hB
              have HR7 := Lib.hid R7
              have HT5 := Lib.hid hT5
              have HOUT := Lib.hid hout
              have HS3 := Lib.hid hs3
              have HB37 := Lib.hid b37
              have HTU := Lib.hid turn8
              have HSZ := Lib.hid HLI.out.sz
              clear con hB R7 hT5 hout hs3 b37 turn8 hout3 hpre4 row8 J5 bd5 hBor hBlt hsT own8 hj3 hbd3
              refine wpAnyH_ready (rs := [9]) (by kernel_rfl) (by simp) ?_
              refine AllReadyH.cons (i := 9) rfl (fun K hK => ?_) AllReadyH.nil
              go_simp
              go_at_call 75
              refine Con.out.mono ?_
              rintro e w9 ⟨z9, fr9, hres⟩
              have nB : ∀ k, k < w7.heap.size → ¬ (Value.slice A ps.length c).ownBlock = some k → (Value.slice (some ⟨B, 0, none⟩) (ps ++ [(a : Int), (b : Int)]).length c7).ownBlock ≠ some k := fun k hk hne e => by
                have e2 : B = k := by simpa [Value.ownBlock] using e
                rcases HB.out with ⟨hA, _, _⟩ | ⟨hb, _⟩
                · exact hne (by rw [hA, ← e2]; rfl)
                · omega
              have m3 : T5 wr.heap.size := by rw [HT5.out]; exact .inr (.inl rfl)
              have h3 := fr9 wr.heap.size m3 (by omega) (nB _ (by omega) n3)
              have u2 := range_blkN h3 t2
              have hch : ∀ k, T1 k → k < V1.heap.size → (Value.slice A ps.length c).ownBlock ≠ some k → w9.heap[k]? = V1.heap[k]? := fun k hk hl hne => by
                have hzz := HSZ.out
                refine (fr9 k (by rw [HT5.out]; exact .inl (HS3.out k hk)) (by omega) (nB k (by omega) hne)).trans ?_
                exact (HTU.out.block k (by omega) hne).trans ((HB37.out.block k (by omega)).trans (HLI.out.blk k hk hl hne))
              have HCH := Lib.hid hch
              have FR9 := Lib.hid fr9
              have NB := Lib.hid nB
              clear hch fr9 nB h3 t2 m3
              rcases hres with ⟨rfl, T6, j6, s6, bd6, row6⟩ | ⟨rfl, T6, q6, hq6, jx6, bd6⟩
              · have row9 : RowN w9 T A c ps := by
                  rcases HB.out with ⟨hA, hc7, hg⟩ | ⟨hb, hg⟩
                  · subst hA
                    subst hc7
                    exact ⟨own_backN (by simpa using row6.own), HR7.out.mine⟩
                  · refine HR7.out.blk fun b hb' => ?_
                    have hbl := (HR7.out.own.lt b hb').2
                    have hne : (Value.slice (some ⟨B, 0, none⟩) (ps ++ [(a : Int), (b : Int)]).length c7).ownBlock ≠ some b := fun e => by
                      have e2 : B = b := by simpa [Value.ownBlock] using e
                      omega
                    exact (FR9.out b (by rw [HT5.out]; exact .inl (HS3.out b (HS1.out b (HR7.out.mine b hb')))) (by omega) hne).trans (hg.block b hbl (by simp))
                have HJ6 := Lib.hid j6
                have HS6 := Lib.hid s6
                have HBD6 := Lib.hid bd6
                have HR9 := Lib.hid row9
                clear j6 s6 bd6 row6 row9
                refine hK.out _ _ u2 (fun hH9 => ?_)
                clear hK K u2 hH4
                try simp only [Act.put, List.setIfInBounds_toArray, List.set_cons_zero, List.set_cons_succ, List.getElem_toArray, List.getElem_cons_zero, List.getElem_cons_succ]
                refine reg_take 10 rfl (by kernel_rfl) (by kernel_rfl) (by kernel_rfl) (fun _ _ _ h => h) (by rfl) (fun w _ => by first | (go_simp; done) | (go_simp; with_reducible rfl)) (by assumption) ?_
                refine wpAnyH_done (by kernel_rfl) ?_ _
                go_wp2
                go_roundw
                case rel =>
                  refine ⟨b + 1, by omega, by go_num, ⟨⟨T6, by rw [HOUT.out]; exact HJ6.out, fun k hk => HS6.out k (by rw [HT5.out]; exact .inl (HS3.out k hk)), HBD6.out⟩, HR9.out, HCH.out, by have := HSZ.out; omega⟩⟩
                case measure => simp [intOf]; omega
              · have HJX := Lib.hid jx6
                have HQ6 := Lib.hid hq6
                have HBD6 := Lib.hid bd6
                clear jx6 hq6 bd6
                refine hK.out _ _ u2 (fun hH9 => ?_)
                clear hK K u2 hH4
                try simp only [Act.put, List.setIfInBounds_toArray, List.set_cons_zero, List.set_cons_succ, List.getElem_toArray, List.getElem_cons_zero, List.getElem_cons_succ]
                refine reg_take 10 rfl (by kernel_rfl) (by kernel_rfl) (by kernel_rfl) (fun _ _ _ h => h) (by rfl) (fun w _ => by first | (go_simp; done) | (go_simp; with_reducible rfl)) (by assumption) ?_
                refine wpAnyH_done (by kernel_rfl) ?_ _
                go_wp2
                go_ret
                exact ⟨by omega, fun k hk hl hne => (HCH.out k (HS1.out k hk) (by omega) hne).trans (HB1.out.block k hl), .inr ⟨rfl, T6, q6, HQ6.out, HJX.out, HBD6.out⟩⟩
          · have eb : b = 10 := by omega
            subst eb
            clear hli C3
            go_wp2
            go_roundw
            case rel => exact ⟨a + 1, by omega, by go_num, HLI.out⟩
            case measure => simp [intOf]; omega
      · have ea : a = 10 := by omega
        subst ea
        go_wp2
        go_ret
        obtain ⟨T3, hj3, hs3, hbd3⟩ := HLA.out.ex
        exact ⟨by have := HLA.out.sz; omega, fun k hk hl hne => (HLA.out.blk k (HS1.out k hk) (by omega) hne).trans (HB1.out.block k hl), .inl ⟨rfl, T3, hj3, fun k hk => hs3 k (HS1.out k hk), hbd3, HLA.out.row⟩⟩

end Go.Proofs.Ytbanpgifhnbjoaa

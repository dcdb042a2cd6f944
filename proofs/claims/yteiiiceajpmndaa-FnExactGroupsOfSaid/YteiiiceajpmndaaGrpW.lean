/- The groups of a hand: the walk of the specification. -/
import Derived.Test.YteiiiceajpmndaaGroups
namespace Go.Proofs.Yteiiiceajpmndaa
open Go.RowKit
set_option linter.unusedVariables false

def flagN : Value → Nat
  | .bool true => 1
  | _ => 0

set_option maxRecDepth 100000 in
set_option maxHeartbeats 8000000 in
theorem c_haGroups (A : Option Addr) (c : Nat) (ts : List (Int × Int)) (w : World) (hr : RdT w A ts) (hl : ts.length ≤ 1048576) (hg : ∀ t ∈ ts, goodB t.1 t.2 = true) :
    Calls Try.prog 75 #[.slice A ts.length c] w (RetIR w (specTo (lfn ts) ts 10)) := by
  obtain ⟨i0, hi, hz0, hz1, hz2⟩ := info_parts Try.info_int
  have Hg := Lib.hid hg
  have conT := fun W (q : Int) (hb : Below w.heap.size w W) => c_tiTimes A c ts q W (hr.below hb) hl
  have ConT := Lib.hid conT
  clear conT hg
  go_enter Try.func75, Try.ntmps75
  go_wp2_with (refine wpList_make_full _ rfl _ _ _ rfl w.heap.size 3 i0 _ 1 Try.underlying24 hi hz0 hz1 .i64 .i64 _ _ 10 rfl rfl rfl rfl (by rw [hz2]; omega) (by unfold maxLen; omega) (Nat.le_refl _) ?_; intro w1 hown1 hg1)
  have hT1 : Ten w1 w.heap.size (fun _ => 0) := by
    refine ⟨fun m hm => ?_, fun m => hown1.frozenAt m⟩
    have e0 : (madeCells (Value.int .i64 0).cells (10 * 1)).toList = List.replicate 10 (Value.int .i64 0) := toList_madeCells_one (.int .i64 0) 10
    rw [hown1.cellAt m (by omega), e0, List.getElem?_replicate]
    simp [hm]
  have hb1 : Below w.heap.size w w1 := below_of_grown hg1 (Nat.le_refl _) (by simp)
  clear hg1 hz0 hz1 hz2 hi hown1
  go_loopw [19] (fun i wr => ∃ k : Nat, k ≤ 10 ∧ i = .int .i64 k ∧ Ten wr w.heap.size (fun x => if x < k then x else 0) ∧ Below w.heap.size w wr) (fun i _ => 10 - (intOf i).toNat)
  case atStart =>
    refine ⟨0, by omega, rfl, hT1.congr fun m hm => ?_, hb1⟩
    have h2 : ¬ (m : Int) < ((0 : Nat) : Int) := by omega
    simp only [h2, if_false]
  case round =>
    clear hT1 hb1
    obtain ⟨k, hk, rfl, hT, hb⟩ := hrel
    by_cases hlt : k < 10
    · have i0 : (0 : Int) ≤ (k : Int) := by omega
      have i1 : (k : Int) < 10 := by omega
      have ck := hT.1 k hlt
      have fk := hT.2 k
      have HT := Lib.hid hT
      have Hb := Lib.hid hb
      clear hT hb
      go_wp2
      go_roundw
      case rel =>
        refine ⟨k + 1, by omega, by go_num, HT.out.set hlt k ?_ ?_, Hb.out.setCell (by simp) _⟩
        · have : (k : Int) < ((k + 1 : Nat) : Int) := by omega
          simp only [this, if_true]
        · intro m hm hne
          by_cases h1 : m < k
          · have h2 : (m : Int) < ((k + 1 : Nat) : Int) := by omega
            have h3 : (m : Int) < (k : Int) := by omega
            simp only [h2, h3, if_true]
          · have h2 : ¬ (m : Int) < ((k + 1 : Nat) : Int) := by omega
            have h3 : ¬ (m : Int) < (k : Int) := by omega
            simp only [h2, h3, if_false]
      case measure => simp [intOf]; omega
    · have : k = 10 := by omega
      subst this
      have hT' : Ten wr w.heap.size (fun x => x) := hT.congr fun m hm => by
        have h2 : (m : Int) < ((10 : Nat) : Int) := by omega
        simp only [h2, if_true]
      have hF' : Fix ts (fun x => x) := ⟨fun m _ => by omega, fun m _ => Int.le_refl _, fun h _ m _ => rfl⟩
      have HT := Lib.hid hT'
      have HF := Lib.hid hF'
      have Hb := Lib.hid hb
      clear hT hT' hF' hb
      rw [show ((10 : Nat) : Int) = 10 from rfl]
      go_wp2
      go_loopw [5] (fun c wr => ∃ (bb : Bool) (F : Int → Int), c = .bool bb ∧ Ten wr w.heap.size F ∧ Fix ts F ∧ (bb = false → ∀ t ∈ ts, F t.1 = F t.2) ∧ Below w.heap.size w wr) (fun c wr => 2 * sumW wr w.heap.size + flagN c)
      case atStart => exact ⟨true, fun x => x, rfl, HT.out, HF.out, fun h => (by cases h), Hb.out⟩
      case round =>
        obtain ⟨bb, F0, rfl, hT, hF, hcon, hb⟩ := hrel
        clear HT HF Hb
        obtain ⟨wo, rfl⟩ : ∃ wo, wo = wr := ⟨_, rfl⟩
        cases bb
        case true =>
          clear hcon
          have hsum := sumW_ten hT
          have HT := Lib.hid hT
          have HF := Lib.hid hF
          have Hb := Lib.hid hb
          have Hsum := Lib.hid hsum
          clear hT hF hb hsum
          go_wp2
          go_loopw [5, 30] (fun c i wr => ∃ (j : Nat) (bb : Bool) (F : Int → Int), j ≤ ts.length ∧ i = .int .i64 j ∧ c = .bool bb ∧ Ten wr w.heap.size F ∧ Pass ts F0 j bb F ∧ Below w.heap.size w wr) (fun _ i _ => ts.length - (intOf i).toNat)
          case atStart => exact ⟨0, false, F0, Nat.zero_le _, rfl, rfl, HT.out, Pass.start HF.out, Hb.out⟩
          case round =>
            obtain ⟨j, bb, F, hj, rfl, rfl, hT, hP, hb⟩ := hrel
            clear HT HF Hb
            by_cases hlt : j < ts.length
            · obtain ⟨bk, off, rfl, hbk, hc⟩ := hr.at_ hlt
              have g1 := (hb.cell (p := ⟨bk, _, none⟩) hbk).trans (hc j hlt).1
              have g2 := (hb.cell (p := ⟨bk, _, none⟩) hbk).trans (hc j hlt).2
              have hgb := good_bd (Hg.out _ (List.getElem_mem hlt))
              obtain ⟨a, ha⟩ : ∃ a : Nat, ts[j].1 = a := ⟨ts[j].1.toNat, by omega⟩
              obtain ⟨b, hbb⟩ : ∃ b : Nat, ts[j].2 = b := ⟨ts[j].2.toNat, by omega⟩
              have hab : ∀ h : Int → Int, (∀ t ∈ ts, h t.1 = h t.2) → h a = h b := fun h hh => by rw [← ha, ← hbb]; exact hh _ (List.getElem_mem hlt)
              have hkeep := hP.keep hlt
              rw [ha, hbb] at hkeep
              rw [ha] at g1 hgb
              rw [hbb] at g2 hgb
              have hturn1 := hP.turn (a := a) (b := b) (by omega) (by omega) hab
              have hturn2 := hP.turn (a := b) (b := a) (by omega) (by omega) (fun h hh => (hab h hh).symm)
              have hT2 := hT.alloc (.cells #[.int .i64 (a : Int), .int .i64 (b : Int)] 58)
              have x0 : (wr.alloc (.cells #[.int .i64 (a : Int), .int .i64 (b : Int)] 58)).cell? ⟨wr.heap.size, 0, none⟩ = some (.int .i64 a) := by simp
              have x1 : (wr.alloc (.cells #[.int .i64 (a : Int), .int .i64 (b : Int)] 58)).cell? ⟨wr.heap.size, 1, none⟩ = some (.int .i64 b) := by simp
              have ca := hT2.1 a (by omega)
              have cb := hT2.1 b (by omega)
              have fa := hT2.2 a
              have fb := hT2.2 b
              have i0 : (0 : Int) ≤ (a : Int) := by omega
              have i1 : (a : Int) < 10 := by omega
              have i2 : (0 : Int) ≤ (b : Int) := by omega
              have i3 : (b : Int) < 10 := by omega
              have hgl : w.heap.size < wr.heap.size := block_lt (hT.1 0 (by omega))
              have HT := Lib.hid hT
              have Hb := Lib.hid hb
              have Hkeep := Lib.hid hkeep
              have Hturn1 := Lib.hid hturn1
              have Hturn2 := Lib.hid hturn2
              clear hT hb hc hr ha hbb hab hP hkeep hturn1 hturn2 hT2
              rcases Int.lt_trichotomy (F a) (F b) with hlt' | hlt' | hlt'
              · have hmin : min (F a) (F b) = F a := Int.min_eq_left (Int.le_of_lt hlt')
                have HP := Lib.hid (Hturn2.out hlt')
                have hne : ¬ a = b := fun e => by subst e; exact absurd hlt' (Int.lt_irrefl _)
                have hne' : ¬ b = a := fun e => hne e.symm
                have n1 : ¬ F a < F a := Int.lt_irrefl _
                clear Hkeep Hturn1 Hturn2
                go_wp2
                go_region_held3 (fun w' => w'.cell? ⟨wr.heap.size, 0, none⟩ = some (.int .i64 a) ∧ w'.cell? ⟨wr.heap.size, 1, none⟩ = some (.int .i64 b) ∧ w'.cell? ⟨w.heap.size, a, none⟩ = some (.int .i64 (F a)) ∧ w'.cell? ⟨w.heap.size, b, none⟩ = some (.int .i64 (F b))) (first | exact ⟨x0, x1, ca, cb⟩ | go_keep) (first | (go_at_call 93; refine (c_l1Least _ _ _).mono ?_; rw [hmin]; rintro e w' ⟨rfl, rfl⟩))
                go_wp2
                go_rounds 3
                go_roundw
                case rel =>
                  refine ⟨j + 1, true, _, by omega, by go_num, rfl, ((HT.out.upd (a := b) (by omega) (F a)).alloc _).alloc _, HP.out, ?_⟩
                  have hb0 := Hb.out
                  have hz0 := hb0.size
                  have hbs := hb0.setCell (p := ⟨w.heap.size, b, none⟩) (Nat.le_refl _) (.int .i64 (F a))
                  exact ((hbs.alloc (by simp; omega) _).drew).alloc (by simp; omega) _
                case measure => simp [intOf]; omega
              · have hmin : min (F a) (F b) = F b := by rw [hlt']; exact Int.min_self _
                have HP := Lib.hid (Hkeep.out hlt')
                have n1 : ¬ F b < F b := Int.lt_irrefl _
                have n2 : ¬ F b < F a := by omega
                clear Hkeep Hturn1 Hturn2 hlt'
                go_wp2
                go_region_held3 (fun w' => w'.cell? ⟨wr.heap.size, 0, none⟩ = some (.int .i64 a) ∧ w'.cell? ⟨wr.heap.size, 1, none⟩ = some (.int .i64 b) ∧ w'.cell? ⟨w.heap.size, a, none⟩ = some (.int .i64 (F a)) ∧ w'.cell? ⟨w.heap.size, b, none⟩ = some (.int .i64 (F b))) (first | exact ⟨x0, x1, ca, cb⟩ | go_keep) (first | (go_at_call 93; refine (c_l1Least _ _ _).mono ?_; rw [hmin]; rintro e w' ⟨rfl, rfl⟩))
                go_wp2
                go_rounds 3
                go_roundw
                case rel =>
                  refine ⟨j + 1, _, _, by omega, by go_num, rfl, (HT.out.alloc _).alloc _, HP.out, ?_⟩
                  have hb0 := Hb.out
                  have hz0 := hb0.size
                  exact (((hb0.alloc hz0 _).drew).alloc (by simp; omega) _)
                case measure => simp [intOf]; omega
              · have hmin : min (F a) (F b) = F b := Int.min_eq_right (Int.le_of_lt hlt')
                have HP := Lib.hid (Hturn1.out hlt')
                have hne : ¬ a = b := fun e => by subst e; exact absurd hlt' (Int.lt_irrefl _)
                have hne' : ¬ b = a := fun e => hne e.symm
                have cb1 : (wr.setCell ⟨w.heap.size, a, none⟩ (.int .i64 (F b))).cell? ⟨w.heap.size, b, none⟩ = some (.int .i64 (F b)) := by
                  rw [World.cell?_setCell_other _ _ _ _ (by simp <;> omega)]; exact HT.out.1 b (by omega)
                have cb2 : (((wr.setCell ⟨w.heap.size, a, none⟩ (.int .i64 (F b))).alloc (.cells #[.int .i64 (a : Int), .int .i64 (b : Int)] 58)).alloc (.cells #[.int .i64 (a : Int), .int .i64 (b : Int)] 3)).cell? ⟨w.heap.size, b, none⟩ = some (.int .i64 (F b)) :=
                  keepc ((Below.refl _ _).alloc (Nat.le_refl _) _) (keepc ((Below.refl _ _).alloc (Nat.le_refl _) _) cb1)
                have n1 : ¬ F b < F b := Int.lt_irrefl _
                clear Hkeep Hturn1 Hturn2
                go_wp2
                go_region_held3 (fun w' => w'.cell? ⟨wr.heap.size, 0, none⟩ = some (.int .i64 a) ∧ w'.cell? ⟨wr.heap.size, 1, none⟩ = some (.int .i64 b) ∧ w'.cell? ⟨w.heap.size, a, none⟩ = some (.int .i64 (F a)) ∧ w'.cell? ⟨w.heap.size, b, none⟩ = some (.int .i64 (F b))) (first | exact ⟨x0, x1, ca, cb⟩ | go_keep) (first | (go_at_call 93; refine (c_l1Least _ _ _).mono ?_; rw [hmin]; rintro e w' ⟨rfl, rfl⟩))
                go_wp2
                go_rounds 3
                go_roundw
                case rel =>
                  refine ⟨j + 1, true, _, by omega, by go_num, rfl, ((HT.out.upd (a := a) (by omega) (F b)).alloc _).alloc _, HP.out, ?_⟩
                  have hb0 := Hb.out
                  have hz0 := hb0.size
                  have hbs := hb0.setCell (p := ⟨w.heap.size, a, none⟩) (Nat.le_refl _) (.int .i64 (F b))
                  exact ((hbs.alloc (by simp; omega) _).drew).alloc (by simp; omega) _
                case measure => simp [intOf]; omega
            · have : j = ts.length := by omega
              subst this
              have hm1 := sumW_ten hT
              have hmeas : 2 * sumW wr w.heap.size + flagN (.bool bb) < 2 * sumW wo w.heap.size + 1 := by
                rw [hm1, Hsum.out]
                cases bb
                · have := sumN_congr (hP.same rfl).1
                  simp only [flagN]; omega
                · obtain ⟨x, hx, hlx⟩ := hP.less rfl
                  have := sumN_lt hP.le0 hP.fix.lo hx hlx
                  simp only [flagN]; omega
              have hcon : bb = false → ∀ t ∈ ts, F t.1 = F t.2 := fun e => by
                have := (hP.same e).2
                rwa [List.take_length] at this
              have hF := hP.fix
              have Hmeas := Lib.hid hmeas
              have Hcon := Lib.hid hcon
              clear hm1 hmeas hcon hP Hsum
              go_wp2
              go_roundw
              case rel => exact ⟨bb, F, rfl, hT, hF, Hcon.out, hb⟩
              case measure => exact Hmeas.out
        case false =>
          have hlf := hF.done Hg.out (hcon rfl)
          obtain ⟨f, hf⟩ : ∃ f, f = lfn ts := ⟨_, rfl⟩
          rw [← hf] at hlf
          have hTf := hT.congr hlf
          have Hf := Lib.hid hf
          have Hb0 := Lib.hid hb
          have hz0 := hb.size
          have hgl : w.heap.size < wo.heap.size := block_lt (hT.1 0 (by omega))
          have conT := fun (W : World) (q : Int) (hW : Below wo.heap.size wo W) => ConT.out W q (bstep hb hW)
          have ConT2 := Lib.hid conT
          clear hcon hF hT hlf hf hb conT ConT Hg hr
          go_wp2
          go_loopw [11, 69] (fun v i wr => ∃ (k hi : Nat) (A' : Option Addr) (c' : Nat), k ≤ 10 ∧ i = .int .i64 k ∧ v = .slice A' (specTo f ts k).length c' ∧ OwnII wr wo.heap.size hi (.slice A' (specTo f ts k).length c') (specTo f ts k) ∧ hi ≤ wr.heap.size ∧ Below wo.heap.size wo wr) (fun _ i _ => 10 - (intOf i).toNat)
          case atStart => exact ⟨0, wo.heap.size, none, 0, by omega, rfl, rfl, OwnRR.nil _ _ _, Nat.le_refl _, Below.refl _ _⟩
          case round =>
            obtain ⟨k, hi, A', c', hk, rfl, rfl, hT, hhi, hb⟩ := hrel
            have hpsl := specTo_len f ts k
            obtain ⟨w6, rfl⟩ : ∃ w6, w6 = wr := ⟨_, rfl⟩
            have hz := hb.size
            by_cases hlt : k < 10
            · have i1 : (k : Int) < 10 := by omega
              have i0 : (0 : Int) ≤ (k : Int) := by omega
              have hyes := specTo_yes (f := f) (ts := ts) (k := k)
              have hno := specTo_no (f := f) (ts := ts) (k := k)
              have hTk := hTf.below hb (by omega)
              have ck := hTk.1 k hlt
              have conT := ConT2.out w6 k hb
              obtain ⟨ps, hps⟩ : ∃ ps, ps = specTo f ts k := ⟨_, rfl⟩
              rw [← hps] at hT hpsl hyes hno ⊢
              have HT := Lib.hid hT
              have Hb := Lib.hid hb
              have Hyes := Lib.hid hyes
              have Hno := Lib.hid hno
              have ConT := Lib.hid conT
              clear hT hb hyes hno hps hTf conT ConT2
              by_cases he : f k = (k : Int)
              · have q : (f k != (k : Int)) = false := by simp [he]
                by_cases ht0 : timesI ts (k : Int) = 0
                · have q2 : (timesI ts (k : Int) == 0) = true := by simp [ht0]
                  have hst := Lib.hid (Hno.out (by simp [headB, ht0]))
                  clear he ht0
                  go_wp2_with (go_at_call 81; refine ConT.out.mono ?_; rintro e w7 ⟨rfl, hb7⟩)
                  go_roundw
                  case rel => exact ⟨k + 1, hi, A', c', by omega, by go_num, by rw [hst.out], by rw [hst.out]; exact HT.out.below hb7 hhi, Nat.le_trans hhi hb7.size, bstep Hb.out hb7⟩
                  case measure => simp [intOf]; omega
                · have q2 : (timesI ts (k : Int) == 0) = false := by simp [ht0]
                  have hst := Lib.hid (Hyes.out (by simp [headB, he, ht0]))
                  clear he ht0 Hno Hyes
                  go_wp2_with (go_at_call 81; refine ConT.out.mono ?_; rintro e w7 ⟨rfl, hb7⟩)
                  have hT7 := hTk.below hb7 (by omega)
                  have hz7 := hb7.size
                  have HT7 := Lib.hid (HT.out.below hb7 hhi)
                  have Hb7 := Lib.hid (bstep Hb.out hb7)
                  clear hTk ck HT Hb hb7 ConT
                  go_loopw [13, 86] (fun v i wr => ∃ (j : Nat) (A2 : Option Addr) (c2 : Nat), j ≤ 10 ∧ i = .int .i64 j ∧ v = .slice A2 (grpS f k j).length c2 ∧ wr.ownsRow w7.heap.size 3 1 (.slice A2 (grpS f k j).length c2) (grpS f k j).length (cellsI (grpS f k j)) ∧ Below w7.heap.size w7 wr) (fun _ i _ => 10 - (intOf i).toNat)
                  case atStart => exact ⟨0, none, 0, Nat.zero_le _, rfl, rfl, World.ownsRow_nil _ _ _ _, Below.refl _ _⟩
                  case round =>
                    obtain ⟨j, A2, c2, hj, rfl, rfl, hown, hb⟩ := hrel
                    have hpl := grpS_len f k j
                    have hz2 := hb.size
                    by_cases hlj : j < 10
                    · have cj := (hT7.below hb (by omega)).1 j hlj
                      have i2 : (0 : Int) ≤ (j : Int) := by omega
                      have i3 : (j : Int) < 10 := by omega
                      have hpy := grpS_yes (f := f) (l := (k : Int)) (k := j)
                      have hpn := grpS_no (f := f) (l := (k : Int)) (k := j)
                      have Hb2 := Lib.hid hb
                      have Ho := Lib.hid hown
                      have Ho2 := Lib.hid (hown.alloc (.cells #[.int .i64 (j : Int)] 3))
                      clear hT7 hb hown
                      by_cases he : f j = (k : Int)
                      · have q3 : (f j == (k : Int)) = true := by simpa using he
                        have hst := Lib.hid (hpy he)
                        clear he hpy hpn
                        go_wp2_with (at_builtin; refine wp_append_int rfl _ _ rfl w7.heap.size _ (grpS f k j) rfl Ho2.out (j : Int) wr.heap.size rfl (by simp) (by omega) (by simp; omega) ?_; intro A5 c5 w5 hown5 hg5)
                        go_roundw
                        case rel =>
                          refine ⟨j + 1, A5, c5, by omega, by go_num, by rw [hst.out, List.length_append]; rfl, by rw [hst.out, List.length_append]; exact hown5, Below.grown (by have hb0 := Hb2.out; have hz0 := hb0.size; go_grown) hg5 (by simp; omega) (fun g hg => (Ho2.out.lt g hg).1)⟩
                        case measure => simp [intOf]; omega
                      · have q3 : (f j == (k : Int)) = false := by simpa using he
                        have hst := Lib.hid (hpn he)
                        clear he hpy hpn
                        go_wp2
                        go_roundw
                        case rel => exact ⟨j + 1, A2, c2, by omega, by go_num, by rw [hst.out], by rw [hst.out]; exact Ho.out, Hb2.out⟩
                        case measure => simp [intOf]; omega
                    · have : j = 10 := by omega
                      subst this
                      obtain ⟨pt, hpt⟩ : ∃ pt, pt = grpS f k 10 := ⟨_, rfl⟩
                      rw [← hpt] at hown hpl hst ⊢
                      have Hb2 := Lib.hid hb
                      have HT2 := Lib.hid ((HT7.out.below hb (by omega)).below (w' := wr.alloc (.cells #[.slice A2 pt.length c2] 24)) (N := wr.heap.size) (by go_grown) (by omega))
                      have Ho2 := Lib.hid (hown.alloc (.cells #[.slice A2 pt.length c2] 24))
                      have hlo : wo.heap.size ≤ w7.heap.size := by omega
                      have hhi2 : hi ≤ w7.heap.size := by omega
                      clear hpt hown hb hT7
                      go_wp2_with (at_builtin; refine wp_append_rowI rfl _ _ rfl wo.heap.size hi _ ps rfl HT2.out w7.heap.size A2 c2 pt Ho2.out hlo hhi2 wr.heap.size rfl (by simp) (by omega) (by simp; omega) ?_; intro A4 c4 w4 hT4 hg4 hrow4; have HT4 := Lib.hid hT4; have Hg4 := Lib.hid hg4; clear hrow4 hT4 hg4)
                      go_roundw
                      case rel =>
                        refine ⟨k + 1, w4.heap.size, A4, c4, by omega, by go_num, by rw [hst.out, List.length_append]; rfl, by rw [hst.out]; exact HT4.out, Nat.le_refl _, ?_⟩
                        have hb4 : Below wo.heap.size wo wr := Hb7.out.trans (Hb2.out.mono hlo)
                        have hz4 := hb4.size
                        exact Below.grown (by go_grown) Hg4.out (by simp; omega) (fun g hg => (OwnRR.lt HT2.out g hg).1)
                      case measure => simp [intOf]; omega
              · have q : (f k != (k : Int)) = true := by simp [he]
                have hst := Lib.hid (Hno.out (by simp [headB, he]))
                clear he
                go_wp2
                go_roundw
                case rel => exact ⟨k + 1, hi, A', c', by omega, by go_num, by rw [hst.out], by rw [hst.out]; exact HT.out, hhi, Hb.out⟩
                case measure => simp [intOf]; omega
            · have : k = 10 := by omega
              subst this
              have HT := Lib.hid hT
              clear hT
              go_wp2
              go_ret
              rw [← Hf.out]
              exact ⟨A', c', rfl, (HT.out.fit).base Hb0.out.size, Hb0.out.trans (hb.mono Hb0.out.size)⟩

set_option maxHeartbeats 1000000 in
theorem c_specGroups (A : Option Addr) (c : Nat) (ts : List (Int × Int)) (w : World) (hr : RdT w A ts) (hl : ts.length ≤ 1048576) (hcap : ts.length ≤ c) :
    Calls Try.prog 43 #[.slice A ts.length c] w (RetII w (groupsHL ts) (handB ts)) := by
  have conH := Lib.hid (c_tiHand A c ts w hr (by omega) hcap)
  by_cases h : handB ts = true
  · have e1 : groupsHL ts = specTo (lfn ts) ts 10 := by rw [groups_eq]; simp [groupsHL, h]
    rw [e1, h]
    have conP := fun W (hb : Below w.heap.size w W) => c_haGroups A c ts W (hr.below hb) hl (handB_good h).2
    have ConP := Lib.hid conP
    clear e1 conP hr
    go_enter Try.func43, Try.ntmps43
    go_wp2_with (first | (go_at_call 54; refine conH.out.mono ?_; rintro e w1 ⟨rfl, hb1⟩) | (go_at_call 75; refine (ConP.out _ hb1).mono ?_; rintro e w2 ⟨A2, c2, rfl, ho2, hb2⟩))
    go_ret2
    exact ⟨A2, c2, rfl, ho2.base hb1.size, bstep hb1 hb2⟩
  · have h' : handB ts = false := by simpa using h
    have e1 : groupsHL ts = [] := by simp [groupsHL, h']
    rw [e1, h']
    clear e1 h hr
    go_enter Try.func43, Try.ntmps43
    go_wp2_with (go_at_call 54; refine conH.out.mono ?_; rintro e w1 ⟨rfl, hb1⟩)
    go_ret2
    exact ⟨none, 0, rfl, OwnRR.nil _ _ _, hb1⟩

end Go.Proofs.Yteiiiceajpmndaa

/- The least numbers of all groups, in an array, by joining tile by tile. -/
import Derived.Test.YtcofambcicnonaaComp
namespace Go.Proofs.Ytcofambcicnonaa
open Go.RowKit
set_option linter.unusedVariables false

def arr10 (f : Int → Int) : Value := .agg #[.int .i64 (f 0), .int .i64 (f 1), .int .i64 (f 2), .int .i64 (f 3), .int .i64 (f 4), .int .i64 (f 5), .int .i64 (f 6), .int .i64 (f 7), .int .i64 (f 8), .int .i64 (f 9)]
/-- Ten numbers in a block, told by a function, to be written. -/
def Ten (w : World) (g : Nat) (f : Int → Int) : Prop := (∀ m : Nat, m < 10 → w.cell? ⟨g, m, none⟩ = some (.int .i64 (f m))) ∧ ∀ m, w.frozen? ⟨g, m, none⟩ = false
theorem Ten.below {w w' : World} {g N : Nat} {f : Int → Int} (h : Ten w g f) (hb : Below N w w') (hN : g < N) : Ten w' g f :=
  ⟨fun m hm => (hb.cell (p := ⟨g, m, none⟩) hN).trans (h.1 m hm), fun m => (hb.frozen (p := ⟨g, m, none⟩) hN).trans (h.2 m)⟩
theorem Ten.alloc {w : World} {g : Nat} {f : Int → Int} (h : Ten w g f) (o : Obj) : Ten (w.alloc o) g f :=
  h.below (N := g + 1) ((Below.refl (g + 1) w).alloc (block_lt (h.1 0 (by omega))) o) (Nat.lt_succ_self g)
theorem Ten.congr {w : World} {g : Nat} {f f' : Int → Int} (h : Ten w g f) (e : ∀ m : Nat, m < 10 → f m = f' m) : Ten w g f' := ⟨fun m hm => by rw [h.1 m hm, e m hm], h.2⟩
theorem Ten.set {w : World} {g k : Nat} {f f' : Int → Int} (h : Ten w g f) (hk : k < 10) (v : Int) (e1 : f' k = v) (e2 : ∀ m : Nat, m < 10 → m ≠ k → f' m = f m) : Ten (w.setCell ⟨g, k, none⟩ (.int .i64 v)) g f' := by
  refine ⟨fun m hm => ?_, fun m => by simp [h.2 m]⟩
  by_cases em : m = k
  · subst em
    rw [World.cell?_setCell_same _ _ _ (h.1 m hm), e1]
  · rw [World.cell?_setCell_other _ _ _ _ (by simp <;> omega), h.1 m hm, e2 m hm em]
theorem Ten.other {w : World} {g g' k : Nat} {f : Int → Int} (h : Ten w g f) (hne : g ≠ g') (v : Value) : Ten (w.setCell ⟨g', k, none⟩ v) g f :=
  ⟨fun m hm => by rw [World.cell?_setCell_other _ _ _ _ (by simp <;> omega)]; exact h.1 m hm, fun m => by simp [h.2 m]⟩
theorem ten_new (w : World) (t : TypeId) : Ten (w.alloc (.cells #[.int .i64 0, .int .i64 0, .int .i64 0, .int .i64 0, .int .i64 0, .int .i64 0, .int .i64 0, .int .i64 0, .int .i64 0, .int .i64 0] t)) w.heap.size (fun _ => 0) := by
  refine ⟨fun m hm => ?_, fun m => by unfold World.frozen? World.alloc; simp⟩
  match m, hm with
  | 0, _ => simp
  | 1, _ => simp
  | 2, _ => simp
  | 3, _ => simp
  | 4, _ => simp
  | 5, _ => simp
  | 6, _ => simp
  | 7, _ => simp
  | 8, _ => simp
  | 9, _ => simp

theorem Ten.setAll {w : World} {g : Nat} {f0 : Int → Int} (h : Ten w g f0) (f : Int → Int) : Ten ((((((((((w.setCell ⟨g, 0, none⟩ (.int .i64 (f 0))).setCell ⟨g, 1, none⟩ (.int .i64 (f 1))).setCell ⟨g, 2, none⟩ (.int .i64 (f 2))).setCell ⟨g, 3, none⟩ (.int .i64 (f 3))).setCell ⟨g, 4, none⟩ (.int .i64 (f 4))).setCell ⟨g, 5, none⟩ (.int .i64 (f 5))).setCell ⟨g, 6, none⟩ (.int .i64 (f 6))).setCell ⟨g, 7, none⟩ (.int .i64 (f 7))).setCell ⟨g, 8, none⟩ (.int .i64 (f 8))).setCell ⟨g, 9, none⟩ (.int .i64 (f 9))) g f := by
  refine Ten.congr (f := fun x => if x < 10 then f x else f0 x) ?_ (fun m hm => by have : (m : Int) < 10 := by omega
                                                                                   simp only [this, if_true])
  have step : ∀ (k : Nat) (W : World), k < 10 → Ten W g (fun x => if x < k then f x else f0 x) → Ten (W.setCell ⟨g, k, none⟩ (.int .i64 (f k))) g (fun x => if x < ((k + 1 : Nat) : Int) then f x else f0 x) := fun k W hk hW =>
    hW.set hk _ (by have : (k : Int) < ((k + 1 : Nat) : Int) := by omega
                    simp only [this, if_true]) (fun m hm hne => by
      by_cases h4 : m < k
      · have h2 : (m : Int) < ((k + 1 : Nat) : Int) := by omega
        have h3 : (m : Int) < (k : Int) := by omega
        simp only [h2, h3, if_true]
      · have h2 : ¬ (m : Int) < ((k + 1 : Nat) : Int) := by omega
        have h3 : ¬ (m : Int) < (k : Int) := by omega
        simp only [h2, h3, if_false])
  have h0 : Ten w g (fun x => if x < ((0 : Nat) : Int) then f x else f0 x) := h.congr fun m hm => by
    have : ¬ (m : Int) < ((0 : Nat) : Int) := by omega
    simp only [this, if_false]
  exact step 9 _ (by omega) (step 8 _ (by omega) (step 7 _ (by omega) (step 6 _ (by omega) (step 5 _ (by omega) (step 4 _ (by omega) (step 3 _ (by omega) (step 2 _ (by omega) (step 1 _ (by omega) (step 0 _ (by omega) h0)))))))))
theorem setAll_below {B : Nat} {a w : World} {g : Nat} (h : Below B a w) (hg : B ≤ g) (f : Int → Int) : Below B a ((((((((((w.setCell ⟨g, 0, none⟩ (.int .i64 (f 0))).setCell ⟨g, 1, none⟩ (.int .i64 (f 1))).setCell ⟨g, 2, none⟩ (.int .i64 (f 2))).setCell ⟨g, 3, none⟩ (.int .i64 (f 3))).setCell ⟨g, 4, none⟩ (.int .i64 (f 4))).setCell ⟨g, 5, none⟩ (.int .i64 (f 5))).setCell ⟨g, 6, none⟩ (.int .i64 (f 6))).setCell ⟨g, 7, none⟩ (.int .i64 (f 7))).setCell ⟨g, 8, none⟩ (.int .i64 (f 8))).setCell ⟨g, 9, none⟩ (.int .i64 (f 9))) :=
  ((((((((((h.setCell hg _).setCell hg _).setCell hg _).setCell hg _).setCell hg _).setCell hg _).setCell hg _).setCell hg _).setCell hg _).setCell hg _)

set_option maxRecDepth 100000 in
set_option maxHeartbeats 4000000 in
theorem c_leastOfGroups (A : Option Addr) (c : Nat) (ts : List (Int × Int)) (w : World) (hr : RdT w A ts) (hl : ts.length ≤ 1048576) (hg : ∀ t ∈ ts, goodB t.1 t.2 = true) :
    Calls Try.prog 50 #[.slice A ts.length c] w fun e w' => e = .returned (arr10 (lfn ts)) ∧ Below w.heap.size w w' := by
  go_enter Try.func50, Try.ntmps50
  go_wp2
  go_loopw [11] (fun i wr => ∃ k : Nat, k ≤ 10 ∧ i = .int .i64 k ∧ Ten wr (w.heap.size + 1) (fun x => if x < k then x else 0) ∧ Ten wr w.heap.size (fun _ => 0) ∧ Below w.heap.size w wr) (fun i _ => 10 - (intOf i).toNat)
  case atStart =>
    refine ⟨0, by omega, rfl, ?_, (ten_new w _).alloc _, by go_grown⟩
    have h := ten_new (w.alloc (.cells #[.int .i64 0, .int .i64 0, .int .i64 0, .int .i64 0, .int .i64 0, .int .i64 0, .int .i64 0, .int .i64 0, .int .i64 0, .int .i64 0] 74)) 74
    rw [World.size_alloc] at h
    exact h.congr fun m hm => by
      have h2 : ¬ (m : Int) < ((0 : Nat) : Int) := by omega
      simp only [h2, if_false]
  case round =>
    obtain ⟨k, hk, rfl, hT, hR, hb⟩ := hrel
    by_cases hlt : k < 10
    · have i0 : (0 : Int) ≤ (k : Int) := by omega
      have i1 : (k : Int) < 10 := by omega
      have ck := hT.1 k hlt
      have fk := hT.2 k
      have HT := Lib.hid hT
      have HR := Lib.hid hR
      have Hb := Lib.hid hb
      clear hT hR hb
      go_wp2
      go_roundw
      case rel =>
        refine ⟨k + 1, by omega, by go_num, HT.out.set hlt k ?_ ?_, HR.out.other (by omega) _, Hb.out.setCell (by simp) _⟩
        · have : (k : Int) < ((k + 1 : Nat) : Int) := by omega
          simp only [this, if_true]
        · intro m hm hne
          by_cases h1 : m < k
          · have h2 : (m : Int) < ((k + 1 : Nat) : Int) := by omega
            have h3 : (m : Int) < (k : Int) := by omega
            simp only [h2, h3, if_true]
          · have h2 : ¬ (m : Int) < ((k + 1 : Nat) : Int) := by omega
            have h3 : ¬ (m : Int) < (k : Int) := by omega
            simp only [h2, h3, if_false]
      case measure => simp [intOf]; omega
    · have : k = 10 := by omega
      subst this
      have hT' : Ten wr (w.heap.size + 1) (lfn (ts.take 0)) := hT.congr fun m hm => by
        have h2 : (m : Int) < ((10 : Nat) : Int) := by omega
        simp only [h2, if_true]
        rfl
      have HT := Lib.hid hT'
      have HR := Lib.hid hR
      have Hb := Lib.hid hb
      clear hT hT' hR hb
      go_wp2
      go_loopw [20] (fun i wr => ∃ k : Nat, k ≤ ts.length ∧ i = .int .i64 k ∧ Ten wr (w.heap.size + 1) (lfn (ts.take k)) ∧ Ten wr w.heap.size (fun _ => 0) ∧ Below w.heap.size w wr) (fun i _ => ts.length - (intOf i).toNat)
      case atStart => exact ⟨0, by omega, rfl, HT.out, HR.out, Hb.out⟩
      case round =>
        obtain ⟨k, hk, rfl, hT, hR, hb⟩ := hrel
        clear HT HR Hb
        by_cases hlt : k < ts.length
        · obtain ⟨bk, off, rfl, hbk, hc⟩ := hr.at_ hlt
          have g1 := (hb.cell (p := ⟨bk, _, none⟩) hbk).trans (hc k hlt).1
          have g2 := (hb.cell (p := ⟨bk, _, none⟩) hbk).trans (hc k hlt).2
          have hgb := good_bd (hg _ (List.getElem_mem hlt))
          have hstep := lfn_step hlt
          obtain ⟨a, ha⟩ : ∃ a : Nat, ts[k].1 = a := ⟨ts[k].1.toNat, by omega⟩
          obtain ⟨b, hbb⟩ : ∃ b : Nat, ts[k].2 = b := ⟨ts[k].2.toNat, by omega⟩
          rw [ha] at g1 hgb
          rw [hbb] at g2 hgb
          obtain ⟨f, hf⟩ : ∃ f, f = lfn (ts.take k) := ⟨_, rfl⟩
          rw [← hf] at hT hstep
          have hj : ∀ x, joinF ts[k] f x = if f x = max (f a) (f b) then min (f a) (f b) else f x := fun x => by unfold joinF; rw [ha, hbb]
          have hT2 := hT.alloc (.cells #[.int .i64 (a : Int), .int .i64 (b : Int)] 41)
          have x0 : (wr.alloc (.cells #[.int .i64 (a : Int), .int .i64 (b : Int)] 41)).cell? ⟨wr.heap.size, 0, none⟩ = some (.int .i64 a) := by simp
          have x1 : (wr.alloc (.cells #[.int .i64 (a : Int), .int .i64 (b : Int)] 41)).cell? ⟨wr.heap.size, 1, none⟩ = some (.int .i64 b) := by simp
          have ca := hT2.1 a (by omega)
          have cb := hT2.1 b (by omega)
          have i0 : (0 : Int) ≤ (a : Int) := by omega
          have i1 : (a : Int) < 10 := by omega
          have i2 : (0 : Int) ≤ (b : Int) := by omega
          have i3 : (b : Int) < 10 := by omega
          have d0 := hT2.1 0 (by omega)
          have d1 := hT2.1 1 (by omega)
          have d2 := hT2.1 2 (by omega)
          have d3 := hT2.1 3 (by omega)
          have d4 := hT2.1 4 (by omega)
          have d5 := hT2.1 5 (by omega)
          have d6 := hT2.1 6 (by omega)
          have d7 := hT2.1 7 (by omega)
          have d8 := hT2.1 8 (by omega)
          have d9 := hT2.1 9 (by omega)
          have HT := Lib.hid hT
          have HR := Lib.hid hR
          have Hb := Lib.hid hb
          have Hj := Lib.hid hj
          have Hst := Lib.hid hstep
          clear hT hT2 hR hb hj hstep hc hr ha hbb hf hg
          go_wp2
          go_quiet (fail)
          go_wp2
          go_loopw [33] (fun i wr => ∃ j : Nat, j ≤ 10 ∧ i = .int .i64 j ∧ Ten wr (w.heap.size + 1) (fun x => if x < j then joinF ts[k] f x else f x) ∧ Ten wr w.heap.size (fun _ => 0) ∧ Below w.heap.size w wr) (fun i _ => 10 - (intOf i).toNat)
          case atStart =>
            refine ⟨0, by omega, rfl, ?_, HR.out.alloc _, Below.trans (b := wr.alloc (.cells #[.int .i64 (a : Int), .int .i64 (b : Int)] 41)) (by have hb := Hb.out; have hz := hb.size; go_grown) ⟨rfl, rfl, rfl, Nat.le_refl _, fun _ _ => rfl⟩⟩
            exact (HT.out.alloc _).congr fun m hm => by
              have h2 : ¬ (m : Int) < ((0 : Nat) : Int) := by omega
              simp only []
          case round =>
            obtain ⟨j, hj, rfl, hT, hR, hb⟩ := hrel
            clear HT HR Hb x0 x1 ca cb d0 d1 d2 d3 d4 d5 d6 d7 d8 d9 g1 g2
            by_cases hlj : j < 10
            · have ck := hT.1 j hlj
              have fk := hT.2 j
              have HT := Lib.hid hT
              have HR := Lib.hid hR
              have Hb := Lib.hid hb
              clear hT hR hb
              have hno : f j ≠ max (f a) (f b) → Ten wr (w.heap.size + 1) (fun x => if x < ((j + 1 : Nat) : Int) then joinF ts[k] f x else f x) := fun hne => HT.out.congr fun m hm => by
                by_cases h1 : m = j
                · subst h1
                  have h2 : (m : Int) < ((m + 1 : Nat) : Int) := by omega
                  have h3 : ¬ (m : Int) < (m : Int) := by omega
                  simp only [h2, h3, if_true, if_false]
                  rw [Hj.out, if_neg hne]
                · by_cases h4 : m < j
                  · have h2 : (m : Int) < ((j + 1 : Nat) : Int) := by omega
                    have h3 : (m : Int) < (j : Int) := by omega
                    simp only [h2, h3, if_true]
                  · have h2 : ¬ (m : Int) < ((j + 1 : Nat) : Int) := by omega
                    have h3 : ¬ (m : Int) < (j : Int) := by omega
                    simp only [h2, h3, if_false]
              have hyes : f j = max (f a) (f b) → Ten (wr.setCell ⟨w.heap.size + 1, j, none⟩ (.int .i64 (min (f a) (f b)))) (w.heap.size + 1) (fun x => if x < ((j + 1 : Nat) : Int) then joinF ts[k] f x else f x) := fun he => HT.out.set hlj _ (by
                have h2 : (j : Int) < ((j + 1 : Nat) : Int) := by omega
                simp only [h2, if_true]
                rw [Hj.out, if_pos he]) (fun m hm hne => by
                by_cases h4 : m < j
                · have h2 : (m : Int) < ((j + 1 : Nat) : Int) := by omega
                  have h3 : (m : Int) < (j : Int) := by omega
                  simp only [h2, h3, if_true]
                · have h2 : ¬ (m : Int) < ((j + 1 : Nat) : Int) := by omega
                  have h3 : ¬ (m : Int) < (j : Int) := by omega
                  simp only [h2, h3, if_false])
              have Hno := Lib.hid hno
              have Hyes := Lib.hid hyes
              have h10 : j = 0 ∨ j = 1 ∨ j = 2 ∨ j = 3 ∨ j = 4 ∨ j = 5 ∨ j = 6 ∨ j = 7 ∨ j = 8 ∨ j = 9 := by omega
              clear hno hyes HT hj hlj
              rcases h10 with rfl | rfl | rfl | rfl | rfl | rfl | rfl | rfl | rfl | rfl
              · have ix : ∀ w, (Instr.index 74 (.agg #[.int .i64 (f 0), .int .i64 (f 1), .int .i64 (f 2), .int .i64 (f 3), .int .i64 (f 4), .int .i64 (f 5), .int .i64 (f 6), .int .i64 (f 7), .int .i64 (f 8), .int .i64 (f 9)]) (.int .i64 0)).run Try.prog w = .ok (.int .i64 (f 0)) w := fun _ => by kernel_rfl
                by_cases he : f 0 = max (f a) (f b)
                · have q : (f 0 == max (f a) (f b)) = true := by simpa using he
                  have H2 := Lib.hid (Hyes.out he)
                  clear he
                  go_wp2
                  go_roundw
                  case rel => exact ⟨0 + 1, by omega, by go_num, H2.out, HR.out.other (by omega) _, Hb.out.setCell (by simp) _⟩
                  case measure => simp [intOf]
                · have q : (f 0 == max (f a) (f b)) = false := by simpa using he
                  have H2 := Lib.hid (Hno.out he)
                  clear he
                  go_wp2
                  go_roundw
                  case rel => exact ⟨0 + 1, by omega, by go_num, H2.out, HR.out, Hb.out⟩
                  case measure => simp [intOf]
              · have ix : ∀ w, (Instr.index 74 (.agg #[.int .i64 (f 0), .int .i64 (f 1), .int .i64 (f 2), .int .i64 (f 3), .int .i64 (f 4), .int .i64 (f 5), .int .i64 (f 6), .int .i64 (f 7), .int .i64 (f 8), .int .i64 (f 9)]) (.int .i64 1)).run Try.prog w = .ok (.int .i64 (f 1)) w := fun _ => by kernel_rfl
                by_cases he : f 1 = max (f a) (f b)
                · have q : (f 1 == max (f a) (f b)) = true := by simpa using he
                  have H2 := Lib.hid (Hyes.out he)
                  clear he
                  go_wp2
                  go_roundw
                  case rel => exact ⟨1 + 1, by omega, by go_num, H2.out, HR.out.other (by omega) _, Hb.out.setCell (by simp) _⟩
                  case measure => simp [intOf]
                · have q : (f 1 == max (f a) (f b)) = false := by simpa using he
                  have H2 := Lib.hid (Hno.out he)
                  clear he
                  go_wp2
                  go_roundw
                  case rel => exact ⟨1 + 1, by omega, by go_num, H2.out, HR.out, Hb.out⟩
                  case measure => simp [intOf]
              · have ix : ∀ w, (Instr.index 74 (.agg #[.int .i64 (f 0), .int .i64 (f 1), .int .i64 (f 2), .int .i64 (f 3), .int .i64 (f 4), .int .i64 (f 5), .int .i64 (f 6), .int .i64 (f 7), .int .i64 (f 8), .int .i64 (f 9)]) (.int .i64 2)).run Try.prog w = .ok (.int .i64 (f 2)) w := fun _ => by kernel_rfl
                by_cases he : f 2 = max (f a) (f b)
                · have q : (f 2 == max (f a) (f b)) = true := by simpa using he
                  have H2 := Lib.hid (Hyes.out he)
                  clear he
                  go_wp2
                  go_roundw
                  case rel => exact ⟨2 + 1, by omega, by go_num, H2.out, HR.out.other (by omega) _, Hb.out.setCell (by simp) _⟩
                  case measure => simp [intOf]
                · have q : (f 2 == max (f a) (f b)) = false := by simpa using he
                  have H2 := Lib.hid (Hno.out he)
                  clear he
                  go_wp2
                  go_roundw
                  case rel => exact ⟨2 + 1, by omega, by go_num, H2.out, HR.out, Hb.out⟩
                  case measure => simp [intOf]
              · have ix : ∀ w, (Instr.index 74 (.agg #[.int .i64 (f 0), .int .i64 (f 1), .int .i64 (f 2), .int .i64 (f 3), .int .i64 (f 4), .int .i64 (f 5), .int .i64 (f 6), .int .i64 (f 7), .int .i64 (f 8), .int .i64 (f 9)]) (.int .i64 3)).run Try.prog w = .ok (.int .i64 (f 3)) w := fun _ => by kernel_rfl
                by_cases he : f 3 = max (f a) (f b)
                · have q : (f 3 == max (f a) (f b)) = true := by simpa using he
                  have H2 := Lib.hid (Hyes.out he)
                  clear he
                  go_wp2
                  go_roundw
                  case rel => exact ⟨3 + 1, by omega, by go_num, H2.out, HR.out.other (by omega) _, Hb.out.setCell (by simp) _⟩
                  case measure => simp [intOf]
                · have q : (f 3 == max (f a) (f b)) = false := by simpa using he
                  have H2 := Lib.hid (Hno.out he)
                  clear he
                  go_wp2
                  go_roundw
                  case rel => exact ⟨3 + 1, by omega, by go_num, H2.out, HR.out, Hb.out⟩
                  case measure => simp [intOf]
              · have ix : ∀ w, (Instr.index 74 (.agg #[.int .i64 (f 0), .int .i64 (f 1), .int .i64 (f 2), .int .i64 (f 3), .int .i64 (f 4), .int .i64 (f 5), .int .i64 (f 6), .int .i64 (f 7), .int .i64 (f 8), .int .i64 (f 9)]) (.int .i64 4)).run Try.prog w = .ok (.int .i64 (f 4)) w := fun _ => by kernel_rfl
                by_cases he : f 4 = max (f a) (f b)
                · have q : (f 4 == max (f a) (f b)) = true := by simpa using he
                  have H2 := Lib.hid (Hyes.out he)
                  clear he
                  go_wp2
                  go_roundw
                  case rel => exact ⟨4 + 1, by omega, by go_num, H2.out, HR.out.other (by omega) _, Hb.out.setCell (by simp) _⟩
                  case measure => simp [intOf]
                · have q : (f 4 == max (f a) (f b)) = false := by simpa using he
                  have H2 := Lib.hid (Hno.out he)
                  clear he
                  go_wp2
                  go_roundw
                  case rel => exact ⟨4 + 1, by omega, by go_num, H2.out, HR.out, Hb.out⟩
                  case measure => simp [intOf]
              · have ix : ∀ w, (Instr.index 74 (.agg #[.int .i64 (f 0), .int .i64 (f 1), .int .i64 (f 2), .int .i64 (f 3), .int .i64 (f 4), .int .i64 (f 5), .int .i64 (f 6), .int .i64 (f 7), .int .i64 (f 8), .int .i64 (f 9)]) (.int .i64 5)).run Try.prog w = .ok (.int .i64 (f 5)) w := fun _ => by kernel_rfl
                by_cases he : f 5 = max (f a) (f b)
                · have q : (f 5 == max (f a) (f b)) = true := by simpa using he
                  have H2 := Lib.hid (Hyes.out he)
                  clear he
                  go_wp2
                  go_roundw
                  case rel => exact ⟨5 + 1, by omega, by go_num, H2.out, HR.out.other (by omega) _, Hb.out.setCell (by simp) _⟩
                  case measure => simp [intOf]
                · have q : (f 5 == max (f a) (f b)) = false := by simpa using he
                  have H2 := Lib.hid (Hno.out he)
                  clear he
                  go_wp2
                  go_roundw
                  case rel => exact ⟨5 + 1, by omega, by go_num, H2.out, HR.out, Hb.out⟩
                  case measure => simp [intOf]
              · have ix : ∀ w, (Instr.index 74 (.agg #[.int .i64 (f 0), .int .i64 (f 1), .int .i64 (f 2), .int .i64 (f 3), .int .i64 (f 4), .int .i64 (f 5), .int .i64 (f 6), .int .i64 (f 7), .int .i64 (f 8), .int .i64 (f 9)]) (.int .i64 6)).run Try.prog w = .ok (.int .i64 (f 6)) w := fun _ => by kernel_rfl
                by_cases he : f 6 = max (f a) (f b)
                · have q : (f 6 == max (f a) (f b)) = true := by simpa using he
                  have H2 := Lib.hid (Hyes.out he)
                  clear he
                  go_wp2
                  go_roundw
                  case rel => exact ⟨6 + 1, by omega, by go_num, H2.out, HR.out.other (by omega) _, Hb.out.setCell (by simp) _⟩
                  case measure => simp [intOf]
                · have q : (f 6 == max (f a) (f b)) = false := by simpa using he
                  have H2 := Lib.hid (Hno.out he)
                  clear he
                  go_wp2
                  go_roundw
                  case rel => exact ⟨6 + 1, by omega, by go_num, H2.out, HR.out, Hb.out⟩
                  case measure => simp [intOf]
              · have ix : ∀ w, (Instr.index 74 (.agg #[.int .i64 (f 0), .int .i64 (f 1), .int .i64 (f 2), .int .i64 (f 3), .int .i64 (f 4), .int .i64 (f 5), .int .i64 (f 6), .int .i64 (f 7), .int .i64 (f 8), .int .i64 (f 9)]) (.int .i64 7)).run Try.prog w = .ok (.int .i64 (f 7)) w := fun _ => by kernel_rfl
                by_cases he : f 7 = max (f a) (f b)
                · have q : (f 7 == max (f a) (f b)) = true := by simpa using he
                  have H2 := Lib.hid (Hyes.out he)
                  clear he
                  go_wp2
                  go_roundw
                  case rel => exact ⟨7 + 1, by omega, by go_num, H2.out, HR.out.other (by omega) _, Hb.out.setCell (by simp) _⟩
                  case measure => simp [intOf]
                · have q : (f 7 == max (f a) (f b)) = false := by simpa using he
                  have H2 := Lib.hid (Hno.out he)
                  clear he
                  go_wp2
                  go_roundw
                  case rel => exact ⟨7 + 1, by omega, by go_num, H2.out, HR.out, Hb.out⟩
                  case measure => simp [intOf]
              · have ix : ∀ w, (Instr.index 74 (.agg #[.int .i64 (f 0), .int .i64 (f 1), .int .i64 (f 2), .int .i64 (f 3), .int .i64 (f 4), .int .i64 (f 5), .int .i64 (f 6), .int .i64 (f 7), .int .i64 (f 8), .int .i64 (f 9)]) (.int .i64 8)).run Try.prog w = .ok (.int .i64 (f 8)) w := fun _ => by kernel_rfl
                by_cases he : f 8 = max (f a) (f b)
                · have q : (f 8 == max (f a) (f b)) = true := by simpa using he
                  have H2 := Lib.hid (Hyes.out he)
                  clear he
                  go_wp2
                  go_roundw
                  case rel => exact ⟨8 + 1, by omega, by go_num, H2.out, HR.out.other (by omega) _, Hb.out.setCell (by simp) _⟩
                  case measure => simp [intOf]
                · have q : (f 8 == max (f a) (f b)) = false := by simpa using he
                  have H2 := Lib.hid (Hno.out he)
                  clear he
                  go_wp2
                  go_roundw
                  case rel => exact ⟨8 + 1, by omega, by go_num, H2.out, HR.out, Hb.out⟩
                  case measure => simp [intOf]
              · have ix : ∀ w, (Instr.index 74 (.agg #[.int .i64 (f 0), .int .i64 (f 1), .int .i64 (f 2), .int .i64 (f 3), .int .i64 (f 4), .int .i64 (f 5), .int .i64 (f 6), .int .i64 (f 7), .int .i64 (f 8), .int .i64 (f 9)]) (.int .i64 9)).run Try.prog w = .ok (.int .i64 (f 9)) w := fun _ => by kernel_rfl
                by_cases he : f 9 = max (f a) (f b)
                · have q : (f 9 == max (f a) (f b)) = true := by simpa using he
                  have H2 := Lib.hid (Hyes.out he)
                  clear he
                  go_wp2
                  go_roundw
                  case rel => exact ⟨9 + 1, by omega, by go_num, H2.out, HR.out.other (by omega) _, Hb.out.setCell (by simp) _⟩
                  case measure => simp [intOf]
                · have q : (f 9 == max (f a) (f b)) = false := by simpa using he
                  have H2 := Lib.hid (Hno.out he)
                  clear he
                  go_wp2
                  go_roundw
                  case rel => exact ⟨9 + 1, by omega, by go_num, H2.out, HR.out, Hb.out⟩
                  case measure => simp [intOf]
            · have : j = 10 := by omega
              subst this
              have HT := Lib.hid (hT.congr (f' := lfn (ts.take (k + 1))) fun m hm => by
                have h2 : (m : Int) < ((10 : Nat) : Int) := by omega
                simp only [h2, if_true]
                rw [Hst.out])
              have HR := Lib.hid hR
              have Hb := Lib.hid hb
              clear hT hR hb
              go_wp2
              go_roundw
              case rel => exact ⟨k + 1, by omega, by go_num, HT.out, HR.out, Hb.out⟩
              case measure => simp [intOf]; omega
        · have : k = ts.length := by omega
          subst this
          rw [List.take_length] at hT
          obtain ⟨f, hf⟩ : ∃ f, f = lfn ts := ⟨_, rfl⟩
          rw [← hf] at hT
          have Hf := Lib.hid hf
          have d0 := hT.1 0 (by omega)
          have d1 := hT.1 1 (by omega)
          have d2 := hT.1 2 (by omega)
          have d3 := hT.1 3 (by omega)
          have d4 := hT.1 4 (by omega)
          have d5 := hT.1 5 (by omega)
          have d6 := hT.1 6 (by omega)
          have d7 := hT.1 7 (by omega)
          have d8 := hT.1 8 (by omega)
          have d9 := hT.1 9 (by omega)
          have r0 := hR.1 0 (by omega)
          have r1 := hR.1 1 (by omega)
          have r2 := hR.1 2 (by omega)
          have r3 := hR.1 3 (by omega)
          have r4 := hR.1 4 (by omega)
          have r5 := hR.1 5 (by omega)
          have r6 := hR.1 6 (by omega)
          have r7 := hR.1 7 (by omega)
          have r8 := hR.1 8 (by omega)
          have r9 := hR.1 9 (by omega)
          have rf := hR.2
          have Hall := Lib.hid (hR.setAll f)
          have Hb := Lib.hid (setAll_below hb (Nat.le_refl w.heap.size) f)
          clear hT hR hb hf hr hg
          go_wp2
          have e0 := Hall.out.1 0 (by omega)
          have e1 := Hall.out.1 1 (by omega)
          have e2 := Hall.out.1 2 (by omega)
          have e3 := Hall.out.1 3 (by omega)
          have e4 := Hall.out.1 4 (by omega)
          have e5 := Hall.out.1 5 (by omega)
          have e6 := Hall.out.1 6 (by omega)
          have e7 := Hall.out.1 7 (by omega)
          have e8 := Hall.out.1 8 (by omega)
          have e9 := Hall.out.1 9 (by omega)
          have hb := Hb.out
          obtain ⟨W, hW⟩ : ∃ W, W = ((((((((((wr.setCell ⟨w.heap.size, 0, none⟩ (.int .i64 (f 0))).setCell ⟨w.heap.size, 1, none⟩ (.int .i64 (f 1))).setCell ⟨w.heap.size, 2, none⟩ (.int .i64 (f 2))).setCell ⟨w.heap.size, 3, none⟩ (.int .i64 (f 3))).setCell ⟨w.heap.size, 4, none⟩ (.int .i64 (f 4))).setCell ⟨w.heap.size, 5, none⟩ (.int .i64 (f 5))).setCell ⟨w.heap.size, 6, none⟩ (.int .i64 (f 6))).setCell ⟨w.heap.size, 7, none⟩ (.int .i64 (f 7))).setCell ⟨w.heap.size, 8, none⟩ (.int .i64 (f 8))).setCell ⟨w.heap.size, 9, none⟩ (.int .i64 (f 9))) := ⟨_, rfl⟩
          rw [← hW] at e0 e1 e2 e3 e4 e5 e6 e7 e8 e9 hb ⊢
          clear hW Hall Hb d0 d1 d2 d3 d4 d5 d6 d7 d8 d9 r0 r1 r2 r3 r4 r5 r6 r7 r8 r9 rf
          refine bodyPost_ret (v := arr10 f) (by simp [results, Try.results50, go_sem, e0, e1, e2, e3, e4, e5, e6, e7, e8, e9, arr10]) rfl ⟨?_, hb⟩
          rw [Hf.out]

end Go.Proofs.Ytcofambcicnonaa

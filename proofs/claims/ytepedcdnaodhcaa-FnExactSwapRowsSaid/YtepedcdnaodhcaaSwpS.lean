/- Two rows of a block exchanged: the specification's. -/
import Derived.Test.YtepedcdnaodhcaaBlkK
import Derived.Test.YtepedcdnaodhcaaCat
namespace Go.Proofs.Ytepedcdnaodhcaa
open Go.RowKit
set_option linter.unusedVariables false

def swpN (i j k : Nat) : Nat := if k = i then j else if k = j then i else k

theorem swpN_lt {i j k n : Nat} (hi : i < n) (hj : j < n) (hk : k < n) : swpN i j k < n := by
  unfold swpN
  split
  · exact hj
  · split
    · exact hi
    · exact hk

/-- The rows with two exchanged. -/
def swpL (rss : List (List Int)) (i j : Nat) : List (List Int) := (List.range rss.length).map fun k => rss.getD (swpN i j k) []

theorem swpL_len (rss : List (List Int)) (i j : Nat) : (swpL rss i j).length = rss.length := by simp [swpL]

theorem swpL_step {rss : List (List Int)} {i j k : Nat} (h : k < rss.length) : (swpL rss i j).take (k + 1) = (swpL rss i j).take k ++ [rss.getD (swpN i j k) []] := by
  rw [List.take_succ_eq_append_getElem (by rw [swpL_len]; exact h)]
  congr 1
  simp [swpL]

def inSw (rss : List (List Int)) (i : Int) : Bool := decide (0 ≤ i) && decide (i ≤ (rss.length : Int) - 1)

def swOk (rss : List (List Int)) (i j : Int) : Bool := blkB rss && (inSw rss i && inSw rss j)

def swR (rss : List (List Int)) (i j : Int) : List (List Int) := if swOk rss i j then swpL rss i.toNat j.toNat else []

theorem swR_no {rss : List (List Int)} {i j : Int} (h : swOk rss i j = false) : swR rss i j = [] := by
  unfold swR
  rw [h]
  rfl

theorem swR_yes {rss : List (List Int)} {i j : Int} (h : swOk rss i j = true) : swR rss i j = swpL rss i.toNat j.toNat := by
  unfold swR
  rw [h]
  rfl

theorem inSw_nat {rss : List (List Int)} {i : Int} (h : inSw rss i = true) : ∃ k : Nat, i = (k : Int) ∧ k < rss.length := by
  unfold inSw at h
  simp only [Bool.and_eq_true, decide_eq_true_eq] at h
  exact ⟨i.toNat, by omega, by omega⟩

set_option maxRecDepth 100000 in
set_option maxHeartbeats 4000000 in
theorem c_specSwap (A : Option Addr) (c : Nat) (rss : List (List Int)) (i j : Int) (w : World) (hr : RdII w A rss) (hl : rss.length ≤ 9223372036854775807) (hlr : ∀ k, k < rss.length → (rss.getD k []).length ≤ 9223372036854775807) :
    Calls Try.prog 37 #[.slice A rss.length c, .int .i64 i, .int .i64 j] w (RetII w (swR rss i j) (swOk rss i j)) := by
  have con := Lib.hid (c_wiBlock A c rss w hr hl hlr)
  cases hb : blkB rss
  · have e1 : swOk rss i j = false := by unfold swOk; rw [hb]; rfl
    rw [swR_no e1, e1]
    rw [hb] at con
    clear hb e1 hr hlr
    go_enter Try.func37, Try.ntmps37
    go_wp2_with (go_at_call 84; refine con.out.mono ?_; rintro e w1 ⟨rfl, hb1⟩; have Hb := Lib.hid hb1; clear hb1)
    go_ret2
    exact ⟨none, 0, rfl, OwnRR.nil _ _ _, Hb.out⟩
  · have hs := blk_shape hb
    have hn3 := hs.2.1
    have hn1 := hs.1
    rw [hb] at con
    have iw : IntKind.i64.wrap ((rss.length : Int) - 1) = (rss.length : Int) - 1 := IntWalk.i64_in _ (by omega)
    have conI := Lib.hid (fun x W0 => (show Calls Try.prog 76 #[.int .i64 x, .int .i64 0, .int .i64 ((rss.length : Int) - 1)] W0 fun e w' => e = .returned (.bool (inSw rss x)) ∧ W0 = w' from c_l1In x 0 _ W0))
    cases hi : inSw rss i
    · have e1 : swOk rss i j = false := by unfold swOk; rw [hb, hi]; rfl
      rw [swR_no e1, e1]
      clear hb e1 hr hlr hs
      go_enter Try.func37, Try.ntmps37
      go_wp2_with (first | (go_at_call 84; refine con.out.mono ?_; rintro e w1 ⟨rfl, hb1⟩; have Hb := Lib.hid hb1; clear hb1) | (go_at_call 76; refine (conI.out _ _).mono ?_; rintro e w2 ⟨rfl, rfl⟩))
      go_ret2
      exact ⟨none, 0, rfl, OwnRR.nil _ _ _, Hb.out⟩
    · cases hj : inSw rss j
      · have e1 : swOk rss i j = false := by unfold swOk; rw [hb, hi, hj]; rfl
        rw [swR_no e1, e1]
        clear hb e1 hr hlr hs
        go_enter Try.func37, Try.ntmps37
        go_wp2_with (first | (go_at_call 84; refine con.out.mono ?_; rintro e w1 ⟨rfl, hb1⟩; have Hb := Lib.hid hb1; clear hb1) | (go_at_call 76; refine (conI.out _ _).mono ?_; rintro e w2 ⟨rfl, rfl⟩))
        go_ret2
        exact ⟨none, 0, rfl, OwnRR.nil _ _ _, Hb.out⟩
      · have e1 : swOk rss i j = true := by unfold swOk; rw [hb, hi, hj]; rfl
        rw [swR_yes e1, e1]
        obtain ⟨p, rfl, hp⟩ := inSw_nat hi
        obtain ⟨q, rfl, hq⟩ := inSw_nat hj
        have hst := Lib.hid (fun k (h : k < rss.length) => swpL_step (i := p) (j := q) h)
        have hsl := Lib.hid (swpL_len rss p q)
        have hall := Lib.hid (show (swpL rss p q).take rss.length = swpL rss p q from by rw [← swpL_len rss p q, List.take_length])
        have hrow4 := Lib.hid (fun k (hk : k < rss.length) => (show (rss.getD k []).length ≤ 4 from by rcases hs.2.2.1 with h | h <;> rw [hs.2.2.2 k hk, h] <;> omega))
        have htn : (p : Int).toNat = p := Int.toNat_natCast p
        have htq : (q : Int).toNat = q := Int.toNat_natCast q
        rw [htn, htq]
        generalize swpL rss p q = M at *
        clear hb e1 hlr hs htn htq
        go_enter Try.func37, Try.ntmps37
        go_wp2_with (first | (go_at_call 84; refine con.out.mono ?_; rintro e w1 ⟨rfl, hb1⟩; have Hb := Lib.hid hb1; clear hb1) | (go_at_call 76; refine (conI.out _ _).mono ?_; rintro e w2 ⟨rfl, rfl⟩))
        clear con conI hi hj
        go_loopw [8, 32] (fun v i wr => ∃ (k : Nat) (A3 : Option Addr) (c3 : Nat), k ≤ rss.length ∧ i = .int .i64 k ∧ v = .slice A3 (M.take k).length c3 ∧ OwnII wr w1.heap.size wr.heap.size (.slice A3 (M.take k).length c3) (M.take k) ∧ Below w1.heap.size w1 wr) (fun _ i _ => rss.length - (intOf i).toNat)
        case atStart => exact ⟨0, none, 0, Nat.zero_le _, rfl, by rw [List.take_zero]; rfl, by rw [List.take_zero]; exact OwnRR.nil _ _ _, Below.refl _ _⟩
        case round =>
          obtain ⟨k, A3, c3, hk, rfl, rfl, ho, hb1⟩ := hrel
          by_cases hkl : k < rss.length
          · have hbb := bstep Hb.out hb1
            have Hst := Lib.hid (hst.out k hkl)
            have hTl : (M.take k).length ≤ 3 := by rw [List.length_take]; omega
            obtain ⟨b, off, B, d, ha, hc⟩ := hr
            obtain rfl := ha (by rintro rfl; simp at hkl)
            obtain ⟨f, hf⟩ : ∃ f, f = swpN p q k := ⟨_, rfl⟩
            have hfl : f < rss.length := by rw [hf]; exact swpN_lt hp hq hkl
            have g0 := keepc hbb (hc f hfl).1
            have hrk := (hc f hfl).2.below hbb
            have hx4 := hrow4.out f hfl
            unfold rowV at g0
            rw [← hf] at Hst
            generalize rss.getD f [] = xs at *
            have conO := Lib.hid (c_l1Own (B f) (d f) xs wr hrk (by omega))
            unfold RetN at conO
            have Ho := Lib.hid ho
            have Hb1 := Lib.hid hb1
            have jk : (k : Int) < (rss.length : Int) := by omega
            have jf : (f : Int) < (rss.length : Int) := by omega
            have jf0 : (0 : Int) ≤ (f : Int) := by omega
            generalize M.take k = T at *
            have hz1 := hb1.size
            clear hc ha hrk ho hb1 hbb hst hall hsl hrow4
            by_cases e1 : k = p
            · have e2 : f = q := by rw [hf]; unfold swpN; rw [if_pos e1]
              subst e1
              subst e2
              clear hf
              go_wp2_with (first | (go_at_call 85; refine conO.out.mono ?_; rintro e w4 ⟨A4, c4, rfl, ho4, hb4⟩; have hba : Below w4.heap.size w4 (w4.alloc (.cells #[.slice A4 xs.length c4] 23)) := (Below.refl _ w4).alloc (Nat.le_refl _) _; have hz4 := hb4.size; have HT := Lib.hid ((Ho.out.below hb4 (Nat.le_refl _)).below hba hz4); have Hrow := Lib.hid (ho4.alloc (.cells #[.slice A4 xs.length c4] 23)); have Hb4 := Lib.hid (bstep (bstep Hb1.out hb4) hba); clear ho4 hb4 hba) | (at_builtin; refine wp_append_rowI rfl (.tmp 45) (.tmp 51) rfl w1.heap.size wr.heap.size _ T rfl HT.out wr.heap.size A4 c4 xs Hrow.out hz1 (Nat.le_refl _) w4.heap.size rfl (by simp) (by omega) (by simp; omega) ?_; intro A5 c5 w5 hT5 hg5 hrow5; have HT5 := Lib.hid hT5; have Hb5 := Lib.hid (Below.grown Hb4.out hg5 (by simp; omega) (fun g hg => (HT.out.lt g hg).1)); clear hT5 hg5 hrow5))
              go_roundw
              case rel => exact ⟨k + 1, A5, c5, by omega, by go_num, by rw [Hst.out] <;> first | rfl | simp, by rw [Hst.out]; exact HT5.out, Hb5.out⟩
              case measure => simp [intOf]; omega
            · have k1 : ¬ (k : Int) = (p : Int) := by omega
              by_cases e2 : k = q
              · have e3 : f = p := by rw [hf]; unfold swpN; rw [if_neg e1, if_pos e2]
                subst e2
                subst e3
                clear hf
                go_wp2_with (first | (go_at_call 85; refine conO.out.mono ?_; rintro e w4 ⟨A4, c4, rfl, ho4, hb4⟩; have hba : Below w4.heap.size w4 (w4.alloc (.cells #[.slice A4 xs.length c4] 23)) := (Below.refl _ w4).alloc (Nat.le_refl _) _; have hz4 := hb4.size; have HT := Lib.hid ((Ho.out.below hb4 (Nat.le_refl _)).below hba hz4); have Hrow := Lib.hid (ho4.alloc (.cells #[.slice A4 xs.length c4] 23)); have Hb4 := Lib.hid (bstep (bstep Hb1.out hb4) hba); clear ho4 hb4 hba) | (at_builtin; refine wp_append_rowI rfl (.tmp 45) (.tmp 51) rfl w1.heap.size wr.heap.size _ T rfl HT.out wr.heap.size A4 c4 xs Hrow.out hz1 (Nat.le_refl _) w4.heap.size rfl (by simp) (by omega) (by simp; omega) ?_; intro A5 c5 w5 hT5 hg5 hrow5; have HT5 := Lib.hid hT5; have Hb5 := Lib.hid (Below.grown Hb4.out hg5 (by simp; omega) (fun g hg => (HT.out.lt g hg).1)); clear hT5 hg5 hrow5))
                go_roundw
                case rel => exact ⟨k + 1, A5, c5, by omega, by go_num, by rw [Hst.out] <;> first | rfl | simp, by rw [Hst.out]; exact HT5.out, Hb5.out⟩
                case measure => simp [intOf]; omega
              · have k2 : ¬ (k : Int) = (q : Int) := by omega
                have e3 : k = f := by rw [hf]; unfold swpN; rw [if_neg e1, if_neg e2]
                subst e3
                clear hf
                go_wp2_with (first | (go_at_call 85; refine conO.out.mono ?_; rintro e w4 ⟨A4, c4, rfl, ho4, hb4⟩; have hba : Below w4.heap.size w4 (w4.alloc (.cells #[.slice A4 xs.length c4] 23)) := (Below.refl _ w4).alloc (Nat.le_refl _) _; have hz4 := hb4.size; have HT := Lib.hid ((Ho.out.below hb4 (Nat.le_refl _)).below hba hz4); have Hrow := Lib.hid (ho4.alloc (.cells #[.slice A4 xs.length c4] 23)); have Hb4 := Lib.hid (bstep (bstep Hb1.out hb4) hba); clear ho4 hb4 hba) | (at_builtin; refine wp_append_rowI rfl (.tmp 45) (.tmp 51) rfl w1.heap.size wr.heap.size _ T rfl HT.out wr.heap.size A4 c4 xs Hrow.out hz1 (Nat.le_refl _) w4.heap.size rfl (by simp) (by omega) (by simp; omega) ?_; intro A5 c5 w5 hT5 hg5 hrow5; have HT5 := Lib.hid hT5; have Hb5 := Lib.hid (Below.grown Hb4.out hg5 (by simp; omega) (fun g hg => (HT.out.lt g hg).1)); clear hT5 hg5 hrow5))
                go_roundw
                case rel => exact ⟨k + 1, A5, c5, by omega, by go_num, by rw [Hst.out] <;> first | rfl | simp, by rw [Hst.out]; exact HT5.out, Hb5.out⟩
                case measure => simp [intOf]; omega
          · obtain rfl : k = rss.length := by omega
            rw [hall.out] at ho
            have Ho := Lib.hid ho
            have Hb1 := Lib.hid hb1
            clear ho hb1
            go_wp2
            go_ret2
            exact ⟨A3, c3, by rw [hall.out]; rfl, Ho.out.base Hb.out.size, bstep Hb.out Hb1.out⟩

end Go.Proofs.Ytepedcdnaodhcaa

/- Hands: lists of at most 55 tiles, no two the same. -/
import Derived.Test.YtbanpgifhnbjoaaHelp
namespace Go.Proofs.Ytbanpgifhnbjoaa
open Go.RowKit
set_option linter.unusedVariables false

def handP (ts : List (Int × Int)) : Prop := ts.length ≤ 55 ∧ (∀ t ∈ ts, goodB t.1 t.2 = true) ∧ ts.Nodup
instance (ts : List (Int × Int)) : Decidable (handP ts) := by unfold handP; infer_instance
def handB (ts : List (Int × Int)) : Bool := decide (handP ts)

/-- The first k tiles are tiles, no two the same. -/
def goodTo (ts : List (Int × Int)) (k : Nat) : Prop := (∀ t ∈ ts.take k, goodB t.1 t.2 = true) ∧ (ts.take k).Nodup
theorem goodTo_zero (ts : List (Int × Int)) : goodTo ts 0 := by simp [goodTo]
theorem goodTo_step {ts : List (Int × Int)} {k : Nat} (h : k < ts.length) (hg : goodTo ts k) (h1 : goodB ts[k].1 ts[k].2 = true) (h2 : ts[k] ∉ ts.take k) : goodTo ts (k + 1) := by
  unfold goodTo at *
  rw [List.take_succ_eq_append_getElem h]
  refine ⟨fun t ht => ?_, ?_⟩
  · rcases List.mem_append.1 ht with ht | ht
    · exact hg.1 t ht
    · rw [List.mem_singleton.1 ht]; exact h1
  · rw [List.nodup_append]
    refine ⟨hg.2, by simp, fun a ha b hb => ?_⟩
    rw [List.mem_singleton.1 hb]
    rintro rfl
    exact h2 ha
theorem goodTo_all {ts : List (Int × Int)} (h : ts.length ≤ 55) (hg : goodTo ts ts.length) : handB ts = true := by
  unfold goodTo at hg
  rw [List.take_length] at hg
  exact decide_eq_true ⟨h, hg.1, hg.2⟩
theorem handB_long {ts : List (Int × Int)} (h : 55 < ts.length) : handB ts = false := decide_eq_false fun hp => by have := hp.1; omega
theorem handB_bad {ts : List (Int × Int)} {k : Nat} (h : k < ts.length) (h1 : goodB ts[k].1 ts[k].2 = false) : handB ts = false :=
  decide_eq_false fun hp => by have := hp.2.1 _ (List.getElem_mem h); rw [h1] at this; cases this
theorem handB_twice {ts : List (Int × Int)} {k : Nat} (h : k < ts.length) (h1 : ts[k] ∈ ts.take k) : handB ts = false :=
  decide_eq_false fun hp => by
    have hn := hp.2.2
    rw [← List.take_append_drop k ts, List.nodup_append] at hn
    exact hn.2.2 _ h1 _ (List.drop_eq_getElem_cons h ▸ List.mem_cons_self) rfl
theorem RdT.take {w : World} {A : Option Addr} {ts : List (Int × Int)} (h : RdT w A ts) (k : Nat) : RdT w A (ts.take k) := by
  obtain ⟨b, off, h1, h2⟩ := h
  refine ⟨b, off, fun hne => h1 (by rintro rfl; simp at hne), fun j hj => ?_⟩
  rw [List.getElem_take]
  exact h2 j (by simp at hj; omega)

set_option maxRecDepth 100000 in
set_option maxHeartbeats 1000000 in
theorem c_tiHand (A : Option Addr) (c : Nat) (ts : List (Int × Int)) (w : World) (hr : RdT w A ts) (hl : ts.length ≤ 9223372036854775807) (hcap : ts.length ≤ c) :
    Calls Try.prog 43 #[.slice A ts.length c] w fun e w' => e = .returned (.bool (handB ts)) ∧ Below w.heap.size w w' := by
  by_cases hl55 : 55 < ts.length
  · go_enter Try.func43, Try.ntmps43
    go_wp2
    go_ret
    exact ⟨ret_b (handB_long hl55).symm, Below.refl _ _⟩
  · go_enter Try.func43, Try.ntmps43
    go_wp2
    go_loopw [10] (fun i wr => ∃ k : Nat, k ≤ ts.length ∧ i = .int .i64 k ∧ goodTo ts k ∧ Below w.heap.size w wr) (fun i _ => ts.length - (intOf i).toNat)
    case atStart => exact ⟨0, Nat.zero_le _, rfl, goodTo_zero _, Below.refl _ _⟩
    case round =>
      obtain ⟨k, hk, rfl, hgt, hb⟩ := hrel
      by_cases hlt : k < ts.length
      · have hrk := (hr.below hb).take k
        obtain ⟨bk, off, rfl, hbk, hc⟩ := hr.at_ hlt
        have g1 := (hb.cell (p := ⟨bk, _, none⟩) hbk).trans (hc k hlt).1
        have g2 := (hb.cell (p := ⟨bk, _, none⟩) hbk).trans (hc k hlt).2
        have Hgt := Lib.hid hgt
        have Hb := Lib.hid hb
        have Hrk := Lib.hid hrk
        have hz := hb.size
        clear hc hr hgt hb hrk
        by_cases hgood : goodB ts[k].1 ts[k].2 = true
        · have hgn : (!goodB ts[k].1 ts[k].2) = false := by simp [hgood]
          have conP : ∀ W, RdT W (some ⟨bk, off, none⟩) (ts.take k) → Calls Try.prog 64 #[.slice (some ⟨bk, off, none⟩) k c, .agg #[.int .i64 ts[k].1, .int .i64 ts[k].2]] W fun e w' => e = .returned (.int .i64 (placeI (ts.take k) (ts[k].1, ts[k].2))) ∧ Below W.heap.size W w' := fun W h => by
            have h1 := c_tiPlace (some ⟨bk, off, none⟩) c (ts.take k) ts[k].1 ts[k].2 W h (by simp; omega)
            rw [List.length_take, Nat.min_eq_left hk] at h1
            exact h1
          have i0 : (0 : Int) ≤ (k : Int) := by omega
          have i1 : (k : Int) ≤ (ts.length : Int) := by omega
          have i2 : (k : Int) ≤ (c : Int) := by omega
          have x0 : (wr.alloc (.cells #[.int .i64 ts[k].1, .int .i64 ts[k].2] 50)).cell? ⟨wr.heap.size, 0, none⟩ = some (.int .i64 ts[k].1) := by simp
          have x1 : (wr.alloc (.cells #[.int .i64 ts[k].1, .int .i64 ts[k].2] 50)).cell? ⟨wr.heap.size, 1, none⟩ = some (.int .i64 ts[k].2) := by simp
          go_wp2
          go_region_held3 (fun w' => w'.cell? ⟨wr.heap.size, 0, none⟩ = some (.int .i64 ts[k].1) ∧ w'.cell? ⟨wr.heap.size, 1, none⟩ = some (.int .i64 ts[k].2)) (first | exact ⟨keepc hb'' y0, keepc hb'' y1⟩ | exact ⟨y0, y1⟩ | go_keep) (first | (go_at_call 63; refine (c_tiGood _ _ _).mono ?_; rintro e w' ⟨rfl, hb'⟩; have y0 := keepc hb' x0; have y1 := keepc hb' x1) | (go_at_call 64; refine (conP _ ((Hrk.out.below (by go_grown)).below hb')).mono ?_; rintro e w'' ⟨rfl, hb''⟩))
          go_wp2
          · have h0 : 0 ≤ placeI (ts.take k) (ts[k].1, ts[k].2) := by assumption
            go_ret
            exact ⟨ret_b (handB_twice hlt (placeI_nonneg.1 h0)).symm, bstep (bstep (by have hb0 := Hb.out; have hz0 := hb0.size; go_grown) hb') hb''⟩
          · have h0 : ¬ 0 ≤ placeI (ts.take k) (ts[k].1, ts[k].2) := by first | assumption | omega
            go_roundw
            case rel => exact ⟨k + 1, by omega, by go_num, goodTo_step hlt Hgt.out hgood (fun h => h0 (placeI_nonneg.2 h)), bstep (bstep (by have hb0 := Hb.out; have hz0 := hb0.size; go_grown) hb') hb''⟩
            case measure => simp [intOf]; omega
        · have hgf : goodB ts[k].1 ts[k].2 = false := by simpa using hgood
          have con := fun W => (c_tiGood ts[k].1 ts[k].2 W).mono (R' := fun e w' => e = .returned (.bool false) ∧ Below W.heap.size W w') (fun e w' h => by rw [hgf] at h; exact h)
          clear hgood
          go_wp2
          first
            | (go_region_with (first | (go_at_call 63; refine (con _).mono ?_; rintro e w' ⟨rfl, hb'⟩)))
            | fail
          all_goals
            go_wp2
            go_ret
            exact ⟨ret_b (handB_bad hlt hgf).symm, bstep (by have hb0 := Hb.out; have hz0 := hb0.size; go_grown) hb'⟩
      · have : k = ts.length := by omega
        subst this
        go_wp2
        go_ret
        exact ⟨ret_b (goodTo_all (by omega) hgt).symm, hb⟩
end Go.Proofs.Ytbanpgifhnbjoaa

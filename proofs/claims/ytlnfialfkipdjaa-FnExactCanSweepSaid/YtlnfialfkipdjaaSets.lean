/- Hands: lists of at most 55 tiles, no two the same. Maps keyed by tiles, used as sets. Whole sets, tile by tile. Tiles picked out of the whole set: sorted hands by the specification. Counts over hands: pips, how often a number is in one, the numbers in one. -/
import Derived.Test.YtlnfialfkipdjaaBase
import Derived.Test.YtlnfialfkipdjaaLawA
import Derived.DeepKeys4
import Derived.Maps.RangeWalk
import Derived.Maps.OwnSet
import Derived.Maps.Ext
namespace Go.Proofs.Ytlnfialfkipdjaa
open Go.RowKit
set_option linter.unusedVariables false

def handP (ts : List (Int × Int)) : Prop := ts.length ≤ 55 ∧ (∀ t ∈ ts, goodB t.1 t.2 = true) ∧ ts.Nodup
instance (ts : List (Int × Int)) : Decidable (handP ts) := by unfold handP; infer_instance
def handB (ts : List (Int × Int)) : Bool := decide (handP ts)

/-- The first k tiles are tiles, no two the same. -/
def goodTo (ts : List (Int × Int)) (k : Nat) : Prop := (∀ t ∈ ts.take k, goodB t.1 t.2 = true) ∧ (ts.take k).Nodup
theorem goodTo_zero (ts : List (Int × Int)) : goodTo ts 0 := by simp [goodTo]
theorem goodTo_step {ts : List (Int × Int)} {k : Nat} (h : k < ts.length) (hg : goodTo ts k) (h1 : goodB ts[k].1 ts[k].2 = true) (h2 : ts[k] ∉ ts.take k) : goodTo ts (k + 1) := by
  unfold goodTo at *
  rw [List.take_succ_eq_append_getElem h]
  refine ⟨fun t ht => ?_, ?_⟩
  · rcases List.mem_append.1 ht with ht | ht
    · exact hg.1 t ht
    · rw [List.mem_singleton.1 ht]; exact h1
  · rw [List.nodup_append]
    refine ⟨hg.2, by simp, fun a ha b hb => ?_⟩
    rw [List.mem_singleton.1 hb]
    rintro rfl
    exact h2 ha
theorem goodTo_all {ts : List (Int × Int)} (h : ts.length ≤ 55) (hg : goodTo ts ts.length) : handB ts = true := by
  unfold goodTo at hg
  rw [List.take_length] at hg
  exact decide_eq_true ⟨h, hg.1, hg.2⟩
theorem handB_long {ts : List (Int × Int)} (h : 55 < ts.length) : handB ts = false := decide_eq_false fun hp => by have := hp.1; omega
theorem handB_bad {ts : List (Int × Int)} {k : Nat} (h : k < ts.length) (h1 : goodB ts[k].1 ts[k].2 = false) : handB ts = false :=
  decide_eq_false fun hp => by have := hp.2.1 _ (List.getElem_mem h); rw [h1] at this; cases this
theorem handB_twice {ts : List (Int × Int)} {k : Nat} (h : k < ts.length) (h1 : ts[k] ∈ ts.take k) : handB ts = false :=
  decide_eq_false fun hp => by
    have hn := hp.2.2
    rw [← List.take_append_drop k ts, List.nodup_append] at hn
    exact hn.2.2 _ h1 _ (List.drop_eq_getElem_cons h ▸ List.mem_cons_self) rfl
theorem RdT.take {w : World} {A : Option Addr} {ts : List (Int × Int)} (h : RdT w A ts) (k : Nat) : RdT w A (ts.take k) := by
  obtain ⟨b, off, h1, h2⟩ := h
  refine ⟨b, off, fun hne => h1 (by rintro rfl; simp at hne), fun j hj => ?_⟩
  rw [List.getElem_take]
  exact h2 j (by simp at hj; omega)

set_option maxRecDepth 100000 in
set_option maxHeartbeats 1000000 in
theorem c_tiHand (A : Option Addr) (c : Nat) (ts : List (Int × Int)) (w : World) (hr : RdT w A ts) (hl : ts.length ≤ 9223372036854775807) (hcap : ts.length ≤ c) :
    Calls Try.prog 129 #[.slice A ts.length c] w fun e w' => e = .returned (.bool (handB ts)) ∧ Below w.heap.size w w' := by
  by_cases hl55 : 55 < ts.length
  · go_enter Try.func129, Try.ntmps129
    go_wp2
    go_ret
    exact ⟨ret_b (handB_long hl55).symm, Below.refl _ _⟩
  · go_enter Try.func129, Try.ntmps129
    go_wp2
    go_loopw [10] (fun i wr => ∃ k : Nat, k ≤ ts.length ∧ i = .int .i64 k ∧ goodTo ts k ∧ Below w.heap.size w wr) (fun i _ => ts.length - (intOf i).toNat)
    case atStart => exact ⟨0, Nat.zero_le _, rfl, goodTo_zero _, Below.refl _ _⟩
    case round =>
      obtain ⟨k, hk, rfl, hgt, hb⟩ := hrel
      by_cases hlt : k < ts.length
      · have hrk := (hr.below hb).take k
        obtain ⟨bk, off, rfl, hbk, hc⟩ := hr.at_ hlt
        have g1 := (hb.cell (p := ⟨bk, _, none⟩) hbk).trans (hc k hlt).1
        have g2 := (hb.cell (p := ⟨bk, _, none⟩) hbk).trans (hc k hlt).2
        have Hgt := Lib.hid hgt
        have Hb := Lib.hid hb
        have Hrk := Lib.hid hrk
        have hz := hb.size
        clear hc hr hgt hb hrk
        by_cases hgood : goodB ts[k].1 ts[k].2 = true
        · have hgn : (!goodB ts[k].1 ts[k].2) = false := by simp [hgood]
          have conP : ∀ W, RdT W (some ⟨bk, off, none⟩) (ts.take k) → Calls Try.prog 190 #[.slice (some ⟨bk, off, none⟩) k c, .agg #[.int .i64 ts[k].1, .int .i64 ts[k].2]] W fun e w' => e = .returned (.int .i64 (placeI (ts.take k) (ts[k].1, ts[k].2))) ∧ Below W.heap.size W w' := fun W h => by
            have h1 := c_tiPlace (some ⟨bk, off, none⟩) c (ts.take k) ts[k].1 ts[k].2 W h (by simp; omega)
            rw [List.length_take, Nat.min_eq_left hk] at h1
            exact h1
          have i0 : (0 : Int) ≤ (k : Int) := by omega
          have i1 : (k : Int) ≤ (ts.length : Int) := by omega
          have i2 : (k : Int) ≤ (c : Int) := by omega
          have x0 : (wr.alloc (.cells #[.int .i64 ts[k].1, .int .i64 ts[k].2] 95)).cell? ⟨wr.heap.size, 0, none⟩ = some (.int .i64 ts[k].1) := by simp
          have x1 : (wr.alloc (.cells #[.int .i64 ts[k].1, .int .i64 ts[k].2] 95)).cell? ⟨wr.heap.size, 1, none⟩ = some (.int .i64 ts[k].2) := by simp
          go_wp2
          go_region_held3 (fun w' => w'.cell? ⟨wr.heap.size, 0, none⟩ = some (.int .i64 ts[k].1) ∧ w'.cell? ⟨wr.heap.size, 1, none⟩ = some (.int .i64 ts[k].2)) (first | exact ⟨keepc hb'' y0, keepc hb'' y1⟩ | exact ⟨y0, y1⟩ | go_keep) (first | (go_at_call 189; refine (c_tiGood _ _ _).mono ?_; rintro e w' ⟨rfl, hb'⟩; have y0 := keepc hb' x0; have y1 := keepc hb' x1) | (go_at_call 190; refine (conP _ ((Hrk.out.below (by go_grown)).below hb')).mono ?_; rintro e w'' ⟨rfl, hb''⟩))
          go_wp2
          · have h0 : 0 ≤ placeI (ts.take k) (ts[k].1, ts[k].2) := by assumption
            go_ret
            exact ⟨ret_b (handB_twice hlt (placeI_nonneg.1 h0)).symm, bstep (bstep (by have hb0 := Hb.out; have hz0 := hb0.size; go_grown) hb') hb''⟩
          · have h0 : ¬ 0 ≤ placeI (ts.take k) (ts[k].1, ts[k].2) := by first | assumption | omega
            go_roundw
            case rel => exact ⟨k + 1, by omega, by go_num, goodTo_step hlt Hgt.out hgood (fun h => h0 (placeI_nonneg.2 h)), bstep (bstep (by have hb0 := Hb.out; have hz0 := hb0.size; go_grown) hb') hb''⟩
            case measure => simp [intOf]; omega
        · have hgf : goodB ts[k].1 ts[k].2 = false := by simpa using hgood
          have con := fun W => (c_tiGood ts[k].1 ts[k].2 W).mono (R' := fun e w' => e = .returned (.bool false) ∧ Below W.heap.size W w') (fun e w' h => by rw [hgf] at h; exact h)
          clear hgood
          go_wp2
          first
            | (go_region_with (first | (go_at_call 189; refine (con _).mono ?_; rintro e w' ⟨rfl, hb'⟩)))
            | fail
          all_goals
            go_wp2
            go_ret
            exact ⟨ret_b (handB_bad hlt hgf).symm, bstep (by have hb0 := Hb.out; have hz0 := hb0.size; go_grown) hb'⟩
      · have : k = ts.length := by omega
        subst this
        go_wp2
        go_ret
        exact ⟨ret_b (goodTo_all (by omega) hgt).symm, hb⟩
end Go.Proofs.Ytlnfialfkipdjaa

namespace Go.Proofs.Ytlnfialfkipdjaa
open Go.RowKit Go.Maps Go.ChangeMaps
set_option linter.unusedVariables false

theorem lawT : Keyed Try.prog 95 := Keyed.of_law (deep_law_laid Try.laidOut_ (m := 2) (by decide) (of_decide_eq_true (by kernel_rfl)) (by kernel_rfl) (by kernel_rfl))

/-- How a tile reads as a key. -/
def kl (t : Int × Int) : Lit := .string (keyBytes [.int .i64 t.1, .int .i64 t.2])
def wfT (t : Int × Int) : Prop := (Lit.int .i64 t.1).wf = true ∧ (Lit.int .i64 t.2).wf = true
def tv (t : Int × Int) : Value := .agg #[.int .i64 t.1, .int .i64 t.2]

set_option maxRecDepth 100000 in
theorem keyOf_tile {t : Int × Int} (h : wfT t) : keyOf Try.prog 95 (tv t) = some (kl t) := by
  have h1 : Try.prog.keyType 95 = true := by kernel_rfl
  have h2 : (tv t).formed Try.prog 95 = true := by kernel_rfl
  have h3 : Try.prog.cellsOf 95 = 2 := by kernel_rfl
  have hs : Try.prog.types.size + 1 = (Try.prog.types.size - 1) + 1 + 1 := by
    have : 0 < Try.prog.types.size := of_decide_eq_true (by kernel_rfl)
    omega
  unfold keyOf
  rw [Try.underlying95]
  simp only [h1, h2, Bool.and_self, if_true]
  rw [hs]
  simp only [Program.keyLits, Try.underlying95]
  simp [tv, kl, Value.cells, h3, Try.underlying3, Try.cells_int, h.1, h.2]

set_option maxRecDepth 100000 in
theorem keyOf_tile_inv {v : Value} {l : Lit} (h : keyOf Try.prog 95 v = some l) : ∃ t, v = tv t ∧ l = kl t ∧ wfT t := by
  have h3 : Try.prog.cellsOf 95 = 2 := by kernel_rfl
  obtain ⟨m, hm⟩ : ∃ m, Try.prog.types.size = m := ⟨_, rfl⟩
  unfold keyOf at h
  rw [Try.underlying95, hm] at h
  simp only [] at h
  split at h
  case isFalse => cases h
  case isTrue hf =>
    unfold Program.keyLits at h
    rw [Try.underlying95] at h
    simp only [Option.map_eq_some_iff] at h
    obtain ⟨ls, h, rfl⟩ := h
    split at h
    case isFalse => cases h
    case isTrue hl =>
      have hlen := hl.1
      rw [h3] at hlen
      simp only [Option.map_eq_some_iff] at h
      obtain ⟨lss, h, rfl⟩ := h
      cases v <;> simp [Value.cells] at hlen
      rename_i cells
      obtain ⟨cl⟩ := cells
      match cl, hlen with
      | [a, b], _ =>
        simp only [Value.cells, List.mapM_cons, List.mapM_nil, Try.cells_int, List.drop_zero, List.take_succ_cons, List.take_zero, List.drop_succ_cons, Option.bind_eq_bind, Option.bind_eq_some_iff, Option.pure_def, Option.some.injEq] at h
        obtain ⟨x, hx, ys, ⟨y, hy, _, rfl, rfl⟩, rfl⟩ := h
        obtain ⟨n, h1, rfl⟩ := keyLits_int' Try.underlying3 hx
        obtain ⟨m, h2, rfl⟩ := keyLits_int' Try.underlying3 hy
        simp only [List.cons.injEq, and_true] at h1 h2
        subst h1
        subst h2
        have w1 := keyLits_wf hx _ (by simp : Lit.int .i64 n ∈ [Lit.int .i64 n])
        have w2 := keyLits_wf hy _ (by simp : Lit.int .i64 m ∈ [Lit.int .i64 m])
        exact ⟨(n, m), rfl, rfl, w1, w2⟩

theorem kl_inj {s t : Int × Int} (hs : wfT s) (ht : wfT t) (h : kl s = kl t) : s = t := by
  have h1 := keyOf_tile hs
  rw [h] at h1
  have h2 := lawT.inj h1 (keyOf_tile ht)
  simp only [tv, Value.agg.injEq] at h2
  simp at h2
  exact Prod.ext h2.1 h2.2

theorem wfT_good {t : Int × Int} (h : goodB t.1 t.2 = true) : wfT t := by
  simp only [goodB, numB, Bool.and_eq_true, decide_eq_true_eq] at h
  exact ⟨WalkArith.wf_i64 (by omega), WalkArith.wf_i64 (by omega)⟩

theorem kl_same {s t : Int × Int} (hs : wfT s) (ht : wfT t) : (kl s).sameKey (kl t) = decide (s = t) := by
  by_cases h : s = t
  · subst h
    simp [WideAt.sameKey_self (lawT.key (keyOf_tile hs))]
  · rw [decide_eq_false h, Maps.sameKey_ne (fun e => h (kl_inj hs ht e))]

abbrev yesD {H : Type} : DataW H := .lit (.bool true)
/-- The set of a list of tiles, as a map. -/
def setD {H : Type} (ts : List (Int × Int)) : DataW H := setOf yesD (ts.map kl)
theorem setD_snoc {H : Type} (ts : List (Int × Int)) (t : Int × Int) : (setD (ts ++ [t]) : DataW H) = (setD ts).put (kl t) yesD := by
  unfold setD
  rw [List.map_append, List.map_cons, List.map_nil, setOf_snoc]
theorem isKeyLit_kl {t : Int × Int} (h : wfT t) : WideAt.IsKeyLit (kl t) := lawT.key (keyOf_tile h)
theorem has_setD {H : Type} {ts : List (Int × Int)} (hts : ∀ t ∈ ts, wfT t) {t : Int × Int} (ht : wfT t) : has (setD ts : DataW H) (kl t) = decide (t ∈ ts) := by
  unfold setD
  rw [has_setOf _ _ _ (fun x hx => by obtain ⟨s, hs, rfl⟩ := List.mem_map.1 hx; exact isKeyLit_kl (hts s hs))]
  rw [List.any_map]
  rw [Bool.eq_iff_iff, List.any_eq_true, decide_eq_true_eq]
  constructor
  · rintro ⟨x, hx, h⟩
    simp only [Function.comp] at h
    rw [kl_same (hts x hx) ht, decide_eq_true_eq] at h
    exact h ▸ hx
  · intro h
    exact ⟨t, h, by simp [kl_same ht ht]⟩
theorem foldl_addKey {ts : List (Int × Int)} : ∀ (acc : List (Int × Int)), (∀ t ∈ acc, wfT t) → (∀ t ∈ ts, wfT t) →
    ∃ us : List (Int × Int), ((ts.map kl).foldl addKey (acc.map kl)) = us.map kl ∧ us.length ≤ acc.length + ts.length ∧ ((acc ++ ts).Nodup → us.length = acc.length + ts.length) ∧ (us.length = acc.length + ts.length → acc.Nodup → (acc ++ ts).Nodup) ∧ acc.length ≤ us.length := by
  induction ts with
  | nil => intro acc _ _; exact ⟨acc, rfl, by simp, by simp, by simp, by simp⟩
  | cons t ts ih =>
    intro acc ha hts
    have ht := hts t (by simp)
    have hr : ∀ t ∈ ts, wfT t := fun s hs => hts s (by simp [hs])
    simp only [List.map_cons, List.foldl_cons]
    by_cases hin : t ∈ acc
    · have h1 : addKey (acc.map kl) (kl t) = acc.map kl := by
        unfold addKey
        rw [if_pos]
        rw [List.any_map, List.any_eq_true]
        exact ⟨t, hin, by simp [kl_same ht ht]⟩
      rw [h1]
      obtain ⟨us, h2, h3, h4, h5, h6⟩ := ih acc ha hr
      refine ⟨us, h2, by simp; omega, fun hn => ?_, fun hl => ?_, h6⟩
      · rw [List.nodup_append] at hn
        exact absurd rfl (hn.2.2 t hin t (by simp))
      · simp at hl; omega
    · have h1 : addKey (acc.map kl) (kl t) = (acc ++ [t]).map kl := by
        unfold addKey
        rw [if_neg]
        · simp
        · rw [List.any_map, List.any_eq_true]
          rintro ⟨s, hs, h⟩
          simp only [Function.comp] at h
          rw [kl_same (ha s hs) ht, decide_eq_true_eq] at h
          exact hin (h ▸ hs)
      rw [h1]
      obtain ⟨us, h2, h3, h4, h5, h6⟩ := ih (acc ++ [t]) (fun s hs => by rcases List.mem_append.1 hs with hs | hs; exact ha s hs; rw [List.mem_singleton.1 hs]; exact ht) hr
      simp only [List.append_assoc, List.cons_append, List.nil_append, List.length_append, List.length_cons, List.length_nil] at *
      refine ⟨us, h2, by omega, fun hn => by rw [h4 hn]; omega, fun hl hacc => h5 (by omega) ?_, by omega⟩
      rw [List.nodup_append]
      exact ⟨hacc, by simp, fun a ha b hb => by rw [List.mem_singleton.1 hb]; rintro rfl; exact hin ha⟩
theorem size_setD {H : Type} {ts : List (Int × Int)} (hts : ∀ t ∈ ts, wfT t) : size (setD ts : DataW H) ≤ ts.length ∧ (size (setD ts : DataW H) = ts.length ↔ ts.Nodup) := by
  unfold setD
  rw [size_setOf _ _ (fun x hx => by obtain ⟨s, hs, rfl⟩ := List.mem_map.1 hx; exact isKeyLit_kl (hts s hs))]
  obtain ⟨us, h2, h3, h4, h5, _⟩ := foldl_addKey (ts := ts) [] (by simp) hts
  simp only [List.map_nil, List.nil_append, List.length_nil, Nat.zero_add] at *
  rw [h2, List.length_map]
  exact ⟨h3, fun h => h5 h (by simp), h4⟩

theorem Try.zero_bool (w : World) : (zeroValue 4).run Try.prog w = .ok (.bool false) w := by kernel_rfl

/-- Block b is a map that holds just the tiles of a list. -/
abbrev setM (w : World) (b n : Nat) (ts : List (Int × Int)) : Prop := w.ownsMap (H := Unit) Try.prog 95 (plainElem Try.prog 4) b n (setD ts)

theorem run_makeMap_some {t k e : TypeId} (kd : IntKind) (n : Int) (ht : Try.prog.underlying t = some (.map k e)) (w : World) : (Instr.makeMap t (some (.int kd n))).run Try.prog w = .ok (.map (some w.heap.size)) (w.alloc (.map #[] 0)) := by
  simp [Instr.makeMap, run_underlying ht]; rfl

def RetM (w : World) (ts : List (Int × Int)) (e : Ending) (w' : World) : Prop :=
  ∃ b, e = .returned (.map (some b)) ∧ w.heap.size ≤ b ∧ setM w' b ts.length ts ∧ Below w.heap.size w w'

set_option maxHeartbeats 400000 in
theorem c_tilesIn (A : Option Addr) (c : Nat) (ts : List (Int × Int)) (w : World) (hr : RdT w A ts) (hl : ts.length ≤ 1048576) (hwf : ∀ t ∈ ts, wfT t) :
    Calls Try.prog 143 #[.slice A ts.length c] w (RetM w ts) := by
  have hmm := fun W => run_makeMap_some .i64 (ts.length : Int) Try.underlying180 W
  go_enter Try.func143, Try.ntmps143
  go_wp2
  clear hmm
  go_loopw [11] (fun i wr => ∃ k : Nat, k ≤ ts.length ∧ i = .int .i64 k ∧ setM wr w.heap.size k (ts.take k) ∧ Below w.heap.size w wr) (fun i _ => ts.length - (intOf i).toNat)
  case atStart => exact ⟨0, Nat.zero_le _, rfl, by simpa [setM, setD, setOf] using World.ownsMap_made w _ _ _, by go_grown⟩
  case round =>
    obtain ⟨k, hk, rfl, hm, hb⟩ := hrel
    by_cases hlt : k < ts.length
    · obtain ⟨bk, off, rfl, hbk, hc⟩ := hr.at_ hlt
      have g1 := (hb.cell (p := ⟨bk, _, none⟩) hbk).trans (hc k hlt).1
      have g2 := (hb.cell (p := ⟨bk, _, none⟩) hbk).trans (hc k hlt).2
      have hkey := keyOf_tile (hwf _ (List.getElem_mem hlt))
      have Hb := Lib.hid hb
      have Hk := Lib.hid hkey
      have Hm := Lib.hid (hm.alloc (.cells #[.int .i64 ts[k].1, .int .i64 ts[k].2] 95))
      have hz := hm.lt
      clear hc hb hkey hm hr hwf
      go_wp2_with (at_mapUpdate; refine wpList_mapUpdate_own _ rfl _ _ _ 180 rfl 95 4 lawT Try.underlying180 _ w.heap.size k _ rfl Hm.out (by unfold maxLen; omega) _ _ _ rfl rfl Hk.out _ [] (plainElem_bool Try.underlying4 true) ?_; intro w1 hown1 hgrow1)
      go_roundw
      case rel =>
        refine ⟨k + 1, by omega, by go_num, ?_, ?_⟩
        · rw [List.take_succ_eq_append_getElem hlt, setM, setD_snoc]
          exact hown1
        · exact Below.grown (by have hb0 := Hb.out; have hz0 := hb0.size; go_grown) hgrow1 (by have h := Hb.out.size; simp; omega) (fun g hg => by cases hg; exact Nat.le_refl _)
      case measure => simp [intOf]; omega
    · have : k = ts.length := by omega
      subst this
      rw [List.take_length] at hm
      go_wp2
      go_ret
      exact ⟨_, rfl, Nat.le_refl _, hm, hb⟩

set_option maxHeartbeats 400000 in
theorem c_implIsHand (A : Option Addr) (c : Nat) (ts : List (Int × Int)) (w : World) (hr : RdT w A ts) (hl : ts.length ≤ 9223372036854775807) :
    Calls Try.prog 74 #[.slice A ts.length c] w fun e w' => e = .returned (.bool (handB ts)) ∧ Below w.heap.size w w' := by
  by_cases hl55 : 55 < ts.length
  · go_enter Try.func74, Try.ntmps74
    go_wp2
    go_ret
    exact ⟨ret_b (handB_long hl55).symm, Below.refl _ _⟩
  · go_enter Try.func74, Try.ntmps74
    go_wp2
    go_loopw [10] (fun i wr => ∃ k : Nat, k ≤ ts.length ∧ i = .int .i64 k ∧ (∀ j (hj : j < ts.length), j < k → goodB ts[j].1 ts[j].2 = true) ∧ Below w.heap.size w wr) (fun i _ => ts.length - (intOf i).toNat)
    case atStart => exact ⟨0, Nat.zero_le _, rfl, by omega, Below.refl _ _⟩
    case round =>
      obtain ⟨k, hk, rfl, hg, hb⟩ := hrel
      by_cases hlt : k < ts.length
      · obtain ⟨bk, off, rfl, hbk, hc⟩ := hr.at_ hlt
        have g1 := (hb.cell (p := ⟨bk, _, none⟩) hbk).trans (hc k hlt).1
        have g2 := (hb.cell (p := ⟨bk, _, none⟩) hbk).trans (hc k hlt).2
        have Hg := Lib.hid hg
        have Hb := Lib.hid hb
        clear hc hr hg hb
        by_cases hgood : goodB ts[k].1 ts[k].2 = true
        all_goals
          go_wp2_with (go_at_call 142; refine (c_implIsTile _ _ _).mono ?_; rintro e w1 ⟨rfl, hb1⟩)
        · go_roundw
          case rel =>
            refine ⟨k + 1, by omega, by go_num, fun j hj hjk => ?_, bstep (by have hb0 := Hb.out; have hz0 := hb0.size; go_grown) hb1⟩
            rcases Nat.lt_succ_iff_lt_or_eq.1 hjk with h | rfl
            · exact Hg.out j hj h
            · exact hgood
          case measure => simp [intOf]; omega
        · go_ret
          exact ⟨ret_b (handB_bad hlt (by simpa using hgood)).symm, bstep (by have hb0 := Hb.out; have hz0 := hb0.size; go_grown) hb1⟩
      · have hall : ∀ t ∈ ts, goodB t.1 t.2 = true := fun t ht => by
          obtain ⟨j, hj, rfl⟩ := List.getElem_of_mem ht
          exact hg j hj (by omega)
        have Hall := Lib.hid hall
        have con := c_tilesIn A c ts wr (hr.below hb) (by omega) (fun t ht => wfT_good (hall t ht))
        have hsz := size_setD (H := Unit) (ts := ts) (fun t ht => wfT_good (hall t ht))
        have Hsz := Lib.hid hsz
        have Con := Lib.hid con
        clear hall con hg hr hsz
        by_cases hn : ((size (setD ts : DataW Unit) : Int) == (ts.length : Int)) = true
        all_goals
          go_wp2_with (first | (go_at_call 143; refine (Con.out).mono ?_; rintro e w1 ⟨b, rfl, hbb, hm, hb1⟩) | (at_len; refine wpList_len_own _ rfl _ 180 rfl 95 4 Try.underlying180 _ b ts.length _ rfl hm ?_))
          go_ret
        · refine ⟨ret_b ?_, bstep hb hb1⟩
          symm
          exact decide_eq_true ⟨by omega, Hall.out, (Hsz.out.2).1 (by have := beq_iff_eq.1 hn; omega)⟩
        · refine ⟨ret_b ?_, bstep hb hb1⟩
          symm
          exact decide_eq_false fun hp => hn (by rw [beq_iff_eq]; have := (Hsz.out.2).2 hp.2.2; omega)
end Go.Proofs.Ytlnfialfkipdjaa

namespace Go.Proofs.Ytlnfialfkipdjaa
open Go.RowKit
set_option linter.unusedVariables false

/-- The tiles with low number lo and high numbers from lo up to before hi. -/
def rowL (lo hi : Nat) : List (Int × Int) := (List.range (hi - lo)).map fun i => ((lo : Int), ((lo + i : Nat) : Int))
/-- The first k rows of the set of n. -/
def setP (n k : Nat) : List (Int × Int) := (List.range k).flatMap fun lo => rowL lo (n + 1)
def setL (n : Nat) : List (Int × Int) := setP n (n + 1)
theorem rowL_self (lo : Nat) : rowL lo lo = [] := by simp [rowL]
theorem rowL_step {lo hi : Nat} (h : lo ≤ hi) : rowL lo (hi + 1) = rowL lo hi ++ [((lo : Int), (hi : Int))] := by
  unfold rowL
  rw [show hi + 1 - lo = (hi - lo) + 1 from by omega, List.range_succ, List.map_append]
  simp
  omega
theorem setP_step (n k : Nat) : setP n (k + 1) = setP n k ++ rowL k (n + 1) := by
  unfold setP
  rw [List.range_succ, List.flatMap_append]
  simp
theorem rowL_len (lo hi : Nat) : (rowL lo hi).length = hi - lo := by simp [rowL]
theorem setP_len {n : Nat} (hn : n ≤ 9) : ∀ k, k ≤ n + 1 → (setP n k ++ rowL k (n + 1)).length ≤ 10 * (k + 1)
  | 0, _ => by simp [setP, rowL_len]; omega
  | k + 1, h => by
    have := setP_len hn k (by omega)
    rw [setP_step, List.length_append, rowL_len]
    omega
/-- k rows, and the next one up to before h. -/
def setQ (n k h : Nat) : List (Int × Int) := setP n k ++ rowL k h
theorem setQ_self (n k : Nat) : setQ n k k = setP n k := by simp [setQ, rowL_self]
theorem setQ_step {n k h : Nat} (hk : k ≤ h) : setQ n k (h + 1) = setQ n k h ++ [((k : Int), (h : Int))] := by simp [setQ, rowL_step hk]
theorem setQ_all (n k : Nat) : setQ n k (n + 1) = setP n (k + 1) := (setP_step n k).symm
theorem setQ_len {n k h : Nat} (hn : n ≤ 9) (hk : k ≤ n) (hh : h ≤ n + 1) : (setQ n k h).length ≤ 110 := by
  have := setP_len hn k (by omega)
  unfold setQ
  simp only [List.length_append, rowL_len] at *
  omega
theorem setL_len {n : Nat} (hn : n ≤ 9) : (setL n).length ≤ 110 := by
  have := setP_len hn (n + 1) (Nat.le_refl _)
  unfold setL
  rw [List.length_append] at this
  omega

set_option maxHeartbeats 1000000 in
theorem c_tiSet (n : Nat) (hn : n ≤ 9) (w : World) : Calls Try.prog 87 #[.int .i64 n] w (RetL w (setL n)) := by
  go_enter Try.func87, Try.ntmps87
  go_wp2
  go_loopw [3, 4] (fun v i wr => ∃ (k : Nat) (A : Option Addr) (c : Nat), k ≤ n + 1 ∧ i = .int .i64 k ∧ v = .slice A (setP n k).length c ∧ wr.ownsRow w.heap.size 95 2 (.slice A (setP n k).length c) (setP n k).length (cellsT (setP n k)) ∧ Below w.heap.size w wr) (fun _ i _ => n + 1 - (intOf i).toNat)
  case atStart => exact ⟨0, none, 0, Nat.zero_le _, rfl, rfl, World.ownsRow_nil _ _ _ _, Below.refl _ _⟩
  case round =>
    obtain ⟨k, A, c, hk, rfl, rfl, hown, hb⟩ := hrel
    by_cases hlt : k ≤ n
    · obtain ⟨wo, rfl⟩ : ∃ wo : World, wo = wr := ⟨_, rfl⟩
      go_wp2
      go_loopw [3, 5] (fun v j wr => ∃ (h : Nat) (A : Option Addr) (c : Nat), k ≤ h ∧ h ≤ n + 1 ∧ j = .int .i64 h ∧ v = .slice A (setQ n k h).length c ∧ wr.ownsRow w.heap.size 95 2 (.slice A (setQ n k h).length c) (setQ n k h).length (cellsT (setQ n k h)) ∧ Below w.heap.size w wr) (fun _ j _ => n + 1 - (intOf j).toNat)
      case atStart => exact ⟨k, A, c, Nat.le_refl _, by omega, rfl, by rw [setQ_self], by rw [setQ_self]; exact hown, hb⟩
      case round =>
        clear hown hb
        obtain ⟨h, A', c', hkh, hh, rfl, rfl, hown, hb⟩ := hrel
        have hlen := setQ_len hn hlt hh
        have Ho := Lib.hid (hown.alloc (.cells #[.int .i64 k, .int .i64 h] 95))
        have Ho' := Lib.hid hown
        have Hb := Lib.hid hb
        have hsz := hb.size
        clear hown hb
        by_cases hlt2 : h ≤ n
        · go_wp2_with (at_builtin; refine wp_append_tile rfl _ _ rfl w.heap.size _ _ rfl Ho.out k h wr.heap.size rfl (by simp) (by simp) (by omega) (by simp; omega) ?_; intro A2 c2 w2 hown2 hg2)
          go_roundw
          case rel =>
            refine ⟨h + 1, A2, c2, by omega, by omega, by go_num, by rw [setQ_step hkh, List.length_append]; rfl, ?_, ?_⟩
            · rw [setQ_step hkh, List.length_append]; exact hown2
            · exact Below.grown (by have hb0 := Hb.out; go_grown) hg2 (by simp; omega) (fun g hg => (Ho'.out.lt g hg).1)
          case measure => simp [intOf]; omega
        · have : h = n + 1 := by omega
          subst this
          go_wp2
          go_roundw
          case rel => exact ⟨k + 1, A', c', by omega, by go_num, by rw [setQ_all], by rw [← setQ_all]; exact Ho'.out, Hb.out⟩
          case measure => simp [intOf]; omega
    · have : k = n + 1 := by omega
      subst this
      go_wp2
      go_ret
      exact ⟨A, c, rfl, hown, hb⟩

theorem numB_nat {n : Int} (h : numB n = true) : ∃ m : Nat, m ≤ 9 ∧ n = m := by
  simp only [numB, Bool.and_eq_true, decide_eq_true_eq] at h
  exact ⟨n.toNat, by omega, by omega⟩
def setOfL (n : Int) : List (Int × Int) := if numB n then setL n.toNat else []
theorem setOfL_len (n : Int) : (setOfL n).length ≤ 110 := by
  unfold setOfL
  split
  · rename_i h
    obtain ⟨m, hm, rfl⟩ := numB_nat h
    exact setL_len hm
  · simp

set_option maxHeartbeats 1000000 in
theorem c_implSetOf (n : Int) (w : World) : Calls Try.prog 175 #[.int .i64 n] w (RetT w (setOfL n) (numB n)) := by
  by_cases h : numB n = true
  · have e1 : setOfL n = setL n.toNat := by simp [setOfL, h]
    rw [e1, h]
    obtain ⟨n, hn, rfl⟩ := numB_nat h
    obtain ⟨i0, hi, hz0, hz1, hz2⟩ := info_parts Try.info_tile
    rw [Int.toNat_natCast]
    clear e1
    go_enter Try.func175, Try.ntmps175
    go_wp2_with (first | (go_at_call 90; refine (c_isNumber _ _).mono ?_; rintro e w' ⟨rfl, rfl⟩) | (refine wpList_make_own _ rfl _ _ _ rfl w.heap.size 95 i0 _ 2 Try.underlying22 hi hz0 hz1 .i64 .i64 _ 55 rfl rfl rfl (by rw [hz2]; omega) (by unfold maxLen; omega) (Nat.le_refl _) ?_; intro w1 hown1 hg1))
    have hb1 : Below w.heap.size w w1 := below_of_grown hg1 (Nat.le_refl _) (by simp)
    clear hg1 hz0 hz1 hz2 hi h
    go_loopw [4, 5] (fun v i wr => ∃ (k : Nat) (A : Option Addr) (c : Nat), k ≤ n + 1 ∧ i = .int .i64 k ∧ v = .slice A (setP n k).length c ∧ wr.ownsRow w.heap.size 95 2 (.slice A (setP n k).length c) (setP n k).length (cellsT (setP n k)) ∧ Below w.heap.size w wr) (fun _ i _ => n + 1 - (intOf i).toNat)
    case atStart => exact ⟨0, _, _, Nat.zero_le _, rfl, rfl, hown1, hb1⟩
    case round =>
      clear hown1 hb1
      obtain ⟨k, A, c, hk, rfl, rfl, hown, hb⟩ := hrel
      by_cases hlt : k ≤ n
      · obtain ⟨wo, rfl⟩ : ∃ wo : World, wo = wr := ⟨_, rfl⟩
        go_wp2
        go_loopw [4, 6] (fun v j wr => ∃ (h : Nat) (A : Option Addr) (c : Nat), k ≤ h ∧ h ≤ n + 1 ∧ j = .int .i64 h ∧ v = .slice A (setQ n k h).length c ∧ wr.ownsRow w.heap.size 95 2 (.slice A (setQ n k h).length c) (setQ n k h).length (cellsT (setQ n k h)) ∧ Below w.heap.size w wr) (fun _ j _ => n + 1 - (intOf j).toNat)
        case atStart => exact ⟨k, A, c, Nat.le_refl _, by omega, rfl, by rw [setQ_self], by rw [setQ_self]; exact hown, hb⟩
        case round =>
          clear hown hb
          obtain ⟨h, A', c', hkh, hh, rfl, rfl, hown, hb⟩ := hrel
          have hlen := setQ_len hn hlt hh
          have Ho := Lib.hid (hown.alloc (.cells #[.int .i64 k, .int .i64 h] 95))
          have Ho' := Lib.hid hown
          have Hb := Lib.hid hb
          have hsz := hb.size
          clear hown hb
          by_cases hlt2 : h ≤ n
          · go_wp2_with (at_builtin; refine wp_append_tile rfl _ _ rfl w.heap.size _ _ rfl Ho.out k h wr.heap.size rfl (by simp) (by simp) (by omega) (by simp; omega) ?_; intro A2 c2 w2 hown2 hg2)
            go_roundw
            case rel =>
              refine ⟨h + 1, A2, c2, by omega, by omega, by go_num, by rw [setQ_step hkh, List.length_append]; rfl, ?_, ?_⟩
              · rw [setQ_step hkh, List.length_append]; exact hown2
              · exact Below.grown (by have hb0 := Hb.out; go_grown) hg2 (by simp; omega) (fun g hg => (Ho'.out.lt g hg).1)
            case measure => simp [intOf]; omega
          · have : h = n + 1 := by omega
            subst this
            go_wp2
            go_roundw
            case rel => exact ⟨k + 1, A', c', by omega, by go_num, by rw [setQ_all], by rw [← setQ_all]; exact Ho'.out, Hb.out⟩
            case measure => simp [intOf]; omega
      · have : k = n + 1 := by omega
        subst this
        go_wp2
        go_ret2
        exact ⟨A, c, rfl, hown, hb⟩
  · have h' : numB n = false := by simpa using h
    have e1 : setOfL n = [] := by simp [setOfL, h']
    rw [e1, h']
    clear h e1
    go_enter Try.func175, Try.ntmps175
    go_wp2_with (go_at_call 90; refine (c_isNumber _ _).mono ?_; rintro e w' ⟨rfl, rfl⟩)
    go_ret2
    exact ⟨none, 0, rfl, World.ownsRow_nil _ _ _ _, Below.refl _ _⟩
end Go.Proofs.Ytlnfialfkipdjaa

namespace Go.Proofs.Ytlnfialfkipdjaa
open Go.RowKit
set_option linter.unusedVariables false

def pickB (ts : List (Int × Int)) (b : Bool) (t : Int × Int) : Bool := decide (t ∈ ts) == b
/-- Those of the first k tiles of a set that are in a list, or are not. -/
def pickTo (us ts : List (Int × Int)) (b : Bool) (k : Nat) : List (Int × Int) := (us.take k).filter (pickB ts b)
theorem pickTo_yes {us ts : List (Int × Int)} {b : Bool} {k : Nat} (hk : k < us.length) (h : pickB ts b us[k] = true) : pickTo us ts b (k + 1) = pickTo us ts b k ++ [us[k]] := by
  unfold pickTo
  rw [List.take_succ_eq_append_getElem hk, List.filter_append]
  simp [h]
theorem pickTo_no {us ts : List (Int × Int)} {b : Bool} {k : Nat} (hk : k < us.length) (h : pickB ts b us[k] = false) : pickTo us ts b (k + 1) = pickTo us ts b k := by
  unfold pickTo
  rw [List.take_succ_eq_append_getElem hk, List.filter_append]
  simp [h]
theorem pickTo_len (us ts : List (Int × Int)) (b : Bool) (k : Nat) : (pickTo us ts b k).length ≤ us.length := by
  unfold pickTo
  exact Nat.le_trans (List.length_filter_le _ _) (by simp; omega)
def pickL (n : Nat) (ts : List (Int × Int)) (b : Bool) : List (Int × Int) := (setL n).filter (pickB ts b)
theorem pickTo_all (n : Nat) (ts : List (Int × Int)) (b : Bool) : pickTo (setL n) ts b (setL n).length = pickL n ts b := by simp [pickTo, pickL]
theorem pickL_len {n : Nat} (hn : n ≤ 9) (ts : List (Int × Int)) (b : Bool) : (pickL n ts b).length ≤ 110 := by
  have h1 := pickTo_len (setL n) ts b (setL n).length
  rw [pickTo_all] at h1
  have := setL_len hn
  omega
def sortL (ts : List (Int × Int)) : List (Int × Int) := pickL 9 ts true
theorem sortL_len (ts : List (Int × Int)) : (sortL ts).length ≤ 110 := pickL_len (by omega) ts true

set_option maxHeartbeats 2000000 in
theorem c_tiPick (n : Nat) (hn : n ≤ 9) (A : Option Addr) (c : Nat) (ts : List (Int × Int)) (b : Bool) (w : World) (hr : RdT w A ts) (hl : ts.length ≤ 1048576) :
    Calls Try.prog 201 #[.int .i64 n, .slice A ts.length c, .bool b] w (RetL w (pickL n ts b)) := by
  have hlen := setL_len hn
  obtain ⟨us, hus⟩ : ∃ us, us = setL n := ⟨_, rfl⟩
  have conS := Lib.hid (c_tiSet n hn w)
  rw [← pickTo_all]
  rw [← hus] at hlen conS ⊢
  clear hus
  go_enter Try.func201, Try.ntmps201
  go_wp2_with (go_at_call 87; refine conS.out.mono ?_; rintro e w1 ⟨U, cU, rfl, ho1, hb1⟩)
  have hru := RdT.of_own ho1
  clear conS
  go_loopw [7, 13] (fun v i wr => ∃ (k : Nat) (A' : Option Addr) (c' : Nat), k ≤ us.length ∧ i = .int .i64 k ∧ v = .slice A' (pickTo us ts b k).length c' ∧ wr.ownsRow w1.heap.size 95 2 (.slice A' (pickTo us ts b k).length c') (pickTo us ts b k).length (cellsT (pickTo us ts b k)) ∧ Below w1.heap.size w1 wr) (fun _ i _ => us.length - (intOf i).toNat)
  case atStart => exact ⟨0, none, 0, Nat.zero_le _, rfl, rfl, World.ownsRow_nil _ _ _ _, Below.refl _ _⟩
  case round =>
    clear ho1
    obtain ⟨k, A', c', hk, rfl, rfl, hown, hb⟩ := hrel
    have hpl := pickTo_len us ts b k
    by_cases hlt : k < us.length
    · obtain ⟨bk, off, rfl, hbk, hc⟩ := hru.at_ hlt
      have g1 := (hb.cell (p := ⟨bk, _, none⟩) hbk).trans (hc k hlt).1
      have g2 := (hb.cell (p := ⟨bk, _, none⟩) hbk).trans (hc k hlt).2
      have hr' := Lib.hid ((hr.below hb1).below hb)
      have Hb := Lib.hid hb
      have Ho := Lib.hid hown
      have hsz := hb.size
      have x0 : (wr.alloc (.cells #[.int .i64 us[k].1, .int .i64 us[k].2] 95)).cell? ⟨wr.heap.size, 0, none⟩ = some (.int .i64 us[k].1) := by simp
      have x1 : (wr.alloc (.cells #[.int .i64 us[k].1, .int .i64 us[k].2] 95)).cell? ⟨wr.heap.size, 1, none⟩ = some (.int .i64 us[k].2) := by simp
      clear hc hr hb hown hru
      by_cases hin : us[k] ∈ ts
      · have hge : decide (0 ≤ placeI ts (us[k].1, us[k].2)) = true := decide_eq_true (placeI_nonneg.2 hin)
        cases b
        · have hst := Lib.hid (pickTo_no (ts := ts) (b := false) hlt (by simp [pickB, hin]))
          clear hin
          go_wp2_with (first | (go_at_call 190; refine (c_tiPlace _ _ ts _ _ _ (hr'.out.below (by go_grown)) (by omega)).mono ?_; rintro e w2 ⟨rfl, hb2⟩; have y0 := keepc hb2 x0; have y1 := keepc hb2 x1; have hz2 := hb2.size; simp only [World.size_alloc] at hz2; have Ho2 := Lib.hid ((own_keep (Ho.out.alloc (.cells #[.int .i64 us[k].1, .int .i64 us[k].2] 95)) hb2).alloc (.cells #[.int .i64 us[k].1, .int .i64 us[k].2] 95))) | (at_builtin; refine wp_append_tile rfl _ _ rfl w1.heap.size _ _ rfl Ho2.out us[k].1 us[k].2 w2.heap.size rfl (by simp) (by simp) (by omega) (by simp; omega) ?_; intro A2 c2 w3 hown3 hg3))
          go_roundw
          case rel => exact ⟨k + 1, A', c', by omega, by go_num, by rw [hst.out], by rw [hst.out]; exact own_keep (Ho.out.alloc _) hb2, bstep (by have hb0 := Hb.out; have hz0 := hb0.size; go_grown) hb2⟩
          case measure => simp [intOf]; omega
        · have hst := Lib.hid (pickTo_yes (ts := ts) (b := true) hlt (by simp [pickB, hin]))
          clear hin
          go_wp2_with (first | (go_at_call 190; refine (c_tiPlace _ _ ts _ _ _ (hr'.out.below (by go_grown)) (by omega)).mono ?_; rintro e w2 ⟨rfl, hb2⟩; have y0 := keepc hb2 x0; have y1 := keepc hb2 x1; have hz2 := hb2.size; simp only [World.size_alloc] at hz2; have Ho2 := Lib.hid ((own_keep (Ho.out.alloc (.cells #[.int .i64 us[k].1, .int .i64 us[k].2] 95)) hb2).alloc (.cells #[.int .i64 us[k].1, .int .i64 us[k].2] 95))) | (at_builtin; refine wp_append_tile rfl _ _ rfl w1.heap.size _ _ rfl Ho2.out us[k].1 us[k].2 w2.heap.size rfl (by simp) (by simp) (by omega) (by simp; omega) ?_; intro A2 c2 w3 hown3 hg3))
          go_roundw
          case rel =>
            refine ⟨k + 1, A2, c2, by omega, by go_num, by rw [hst.out, List.length_append]; rfl, ?_, ?_⟩
            · rw [hst.out, List.length_append]; exact hown3
            · have hb3 : Below w1.heap.size w1 w2 := bstep (by have hb0 := Hb.out; have hz0 := hb0.size; go_grown) hb2
              have hz3 := hb3.size
              exact Below.grown (by go_grown) hg3 (by simp; omega) (fun g hg => (Ho2.out.lt g hg).1)
          case measure => simp [intOf]; omega
      · have hge : decide (0 ≤ placeI ts (us[k].1, us[k].2)) = false := decide_eq_false fun h => hin (placeI_nonneg.1 h)
        cases b
        · have hst := Lib.hid (pickTo_yes (ts := ts) (b := false) hlt (by simp [pickB, hin]))
          clear hin
          go_wp2_with (first | (go_at_call 190; refine (c_tiPlace _ _ ts _ _ _ (hr'.out.below (by go_grown)) (by omega)).mono ?_; rintro e w2 ⟨rfl, hb2⟩; have y0 := keepc hb2 x0; have y1 := keepc hb2 x1; have hz2 := hb2.size; simp only [World.size_alloc] at hz2; have Ho2 := Lib.hid ((own_keep (Ho.out.alloc (.cells #[.int .i64 us[k].1, .int .i64 us[k].2] 95)) hb2).alloc (.cells #[.int .i64 us[k].1, .int .i64 us[k].2] 95))) | (at_builtin; refine wp_append_tile rfl _ _ rfl w1.heap.size _ _ rfl Ho2.out us[k].1 us[k].2 w2.heap.size rfl (by simp) (by simp) (by omega) (by simp; omega) ?_; intro A2 c2 w3 hown3 hg3))
          go_roundw
          case rel =>
            refine ⟨k + 1, A2, c2, by omega, by go_num, by rw [hst.out, List.length_append]; rfl, ?_, ?_⟩
            · rw [hst.out, List.length_append]; exact hown3
            · have hb3 : Below w1.heap.size w1 w2 := bstep (by have hb0 := Hb.out; have hz0 := hb0.size; go_grown) hb2
              have hz3 := hb3.size
              exact Below.grown (by go_grown) hg3 (by simp; omega) (fun g hg => (Ho2.out.lt g hg).1)
          case measure => simp [intOf]; omega
        · have hst := Lib.hid (pickTo_no (ts := ts) (b := true) hlt (by simp [pickB, hin]))
          clear hin
          go_wp2_with (first | (go_at_call 190; refine (c_tiPlace _ _ ts _ _ _ (hr'.out.below (by go_grown)) (by omega)).mono ?_; rintro e w2 ⟨rfl, hb2⟩; have y0 := keepc hb2 x0; have y1 := keepc hb2 x1; have hz2 := hb2.size; simp only [World.size_alloc] at hz2; have Ho2 := Lib.hid ((own_keep (Ho.out.alloc (.cells #[.int .i64 us[k].1, .int .i64 us[k].2] 95)) hb2).alloc (.cells #[.int .i64 us[k].1, .int .i64 us[k].2] 95))) | (at_builtin; refine wp_append_tile rfl _ _ rfl w1.heap.size _ _ rfl Ho2.out us[k].1 us[k].2 w2.heap.size rfl (by simp) (by simp) (by omega) (by simp; omega) ?_; intro A2 c2 w3 hown3 hg3))
          go_roundw
          case rel => exact ⟨k + 1, A', c', by omega, by go_num, by rw [hst.out], by rw [hst.out]; exact own_keep (Ho.out.alloc _) hb2, bstep (by have hb0 := Hb.out; have hz0 := hb0.size; go_grown) hb2⟩
          case measure => simp [intOf]; omega
    · have : k = us.length := by omega
      subst this
      go_wp2
      go_ret
      exact ⟨A', c', rfl, own_base hown hb1.size, bstep hb1 hb⟩

set_option maxHeartbeats 400000 in
theorem c_tiSort (A : Option Addr) (c : Nat) (ts : List (Int × Int)) (w : World) (hr : RdT w A ts) (hl : ts.length ≤ 1048576) :
    Calls Try.prog 156 #[.slice A ts.length c] w (RetL w (sortL ts)) := by
  have con := Lib.hid (c_tiPick 9 (by omega) A c ts true w hr hl)
  go_enter Try.func156, Try.ntmps156
  go_wp2_with (go_at_call 201; refine con.out.mono ?_; rintro e w1 ⟨A', c', rfl, ho, hb⟩)
  go_ret
  exact ⟨A', c', rfl, ho, hb⟩

def sortHL (ts : List (Int × Int)) : List (Int × Int) := if handB ts then sortL ts else []
theorem sortHL_len (ts : List (Int × Int)) : (sortHL ts).length ≤ 110 := by
  unfold sortHL
  split
  · exact sortL_len ts
  · simp
end Go.Proofs.Ytlnfialfkipdjaa

namespace Go.Proofs.Ytlnfialfkipdjaa
open Go.RowKit
set_option linter.unusedVariables false

def countV (n : Int) : Int := if numB n then (n + 1) * (n + 2) / 2 else 0
def pipsI (ts : List (Int × Int)) : Int := (ts.map fun t => t.1 + t.2).sum
theorem pipsI_step {ts : List (Int × Int)} {k : Nat} (h : k < ts.length) : pipsI (ts.take (k + 1)) = pipsI (ts.take k) + (ts[k].1 + ts[k].2) := by
  unfold pipsI
  rw [List.take_succ_eq_append_getElem h, List.map_append, List.sum_append]
  simp
theorem good_bd {a b : Int} (h : goodB a b = true) : 0 ≤ a ∧ a ≤ b ∧ b ≤ 9 := by
  simp only [goodB, numB, Bool.and_eq_true, decide_eq_true_eq] at h
  omega
theorem pipsI_bd {ts : List (Int × Int)} (hg : ∀ t ∈ ts, goodB t.1 t.2 = true) : ∀ k, k ≤ ts.length → 0 ≤ pipsI (ts.take k) ∧ pipsI (ts.take k) ≤ 18 * k
  | 0, _ => by simp [pipsI]
  | k + 1, h => by
    have h1 := pipsI_bd hg k (by omega)
    have h2 := good_bd (hg _ (List.getElem_mem (show k < ts.length by omega)))
    rw [pipsI_step (by omega)]
    omega
def okHN (ts : List (Int × Int)) (q : Int) : Bool := handB ts && numB q
def hitI (t : Int × Int) (q : Int) : Int := (if t.1 = q then 1 else 0) + (if t.2 = q then 1 else 0)
def timesI (ts : List (Int × Int)) (q : Int) : Int := (ts.map fun t => hitI t q).sum
theorem timesI_step {ts : List (Int × Int)} {k : Nat} {q : Int} (h : k < ts.length) : timesI (ts.take (k + 1)) q = timesI (ts.take k) q + hitI ts[k] q := by
  unfold timesI
  rw [List.take_succ_eq_append_getElem h, List.map_append, List.sum_append]
  simp
theorem hitI_bd (t : Int × Int) (q : Int) : 0 ≤ hitI t q ∧ hitI t q ≤ 2 := by
  unfold hitI
  split <;> split <;> omega
theorem timesI_bd (ts : List (Int × Int)) (q : Int) : ∀ k, k ≤ ts.length → 0 ≤ timesI (ts.take k) q ∧ timesI (ts.take k) q ≤ 2 * k
  | 0, _ => by simp [timesI]
  | k + 1, h => by
    have h1 := timesI_bd ts q k (by omega)
    have h2 := hitI_bd ts[k] q
    rw [timesI_step (by omega)]
    omega
def timesV (ts : List (Int × Int)) (q : Int) : Int := if handB ts && numB q then timesI ts q else 0
/-- The numbers below k that are in a hand. -/
def numsTo (ts : List (Int × Int)) (k : Nat) : List Int := ((List.range k).filter fun i : Nat => decide (0 < timesI ts (i : Int))).map fun i : Nat => (i : Int)
theorem numsTo_yes {ts : List (Int × Int)} {k : Nat} (h : 0 < timesI ts k) : numsTo ts (k + 1) = numsTo ts k ++ [(k : Int)] := by
  unfold numsTo
  rw [List.range_succ, List.filter_append, List.map_append]
  simp [h]
theorem numsTo_no {ts : List (Int × Int)} {k : Nat} (h : ¬ 0 < timesI ts k) : numsTo ts (k + 1) = numsTo ts k := by
  unfold numsTo
  rw [List.range_succ, List.filter_append]
  simp [h]
theorem numsTo_len (ts : List (Int × Int)) (k : Nat) : (numsTo ts k).length ≤ k := by
  unfold numsTo
  rw [List.length_map]
  exact Nat.le_trans (List.length_filter_le _ _) (by simp)
def numbersL (ts : List (Int × Int)) : List Int := if handB ts then numsTo ts 10 else []
theorem numbersL_len (ts : List (Int × Int)) : (numbersL ts).length ≤ 10 := by
  unfold numbersL
  split
  · exact numsTo_len ts 10
  · simp
theorem handB_good {ts : List (Int × Int)} (h : handB ts = true) : ts.length ≤ 55 ∧ ∀ t ∈ ts, goodB t.1 t.2 = true := ⟨(of_decide_eq_true h).1, (of_decide_eq_true h).2.1⟩

set_option maxHeartbeats 1000000 in
theorem c_tiTimes (A : Option Addr) (c : Nat) (ts : List (Int × Int)) (q : Int) (w : World) (hr : RdT w A ts) (hl : ts.length ≤ 1048576) :
    Calls Try.prog 182 #[.slice A ts.length c, .int .i64 q] w fun e w' => e = .returned (.int .i64 (timesI ts q)) ∧ Below w.heap.size w w' := by
  go_enter Try.func182, Try.ntmps182
  go_wp2
  go_loopw [5, 10] (fun p i wr => ∃ k : Nat, k ≤ ts.length ∧ i = .int .i64 k ∧ p = .int .i64 (timesI (ts.take k) q) ∧ Below w.heap.size w wr) (fun _ i _ => ts.length - (intOf i).toNat)
  case atStart => exact ⟨0, Nat.zero_le _, rfl, by simp [timesI], Below.refl _ _⟩
  case round =>
    obtain ⟨k, hk, rfl, rfl, hb⟩ := hrel
    have hbd := timesI_bd ts q k hk
    by_cases hlt : k < ts.length
    · obtain ⟨bk, off, rfl, hbk, hc⟩ := hr.at_ hlt
      have g1 := (hb.cell (p := ⟨bk, _, none⟩) hbk).trans (hc k hlt).1
      have g2 := (hb.cell (p := ⟨bk, _, none⟩) hbk).trans (hc k hlt).2
      have Hb := Lib.hid hb
      have hst := Lib.hid (timesI_step (q := q) hlt)
      clear hc hr hb
      by_cases h1 : ts[k].1 = q <;> by_cases h2 : ts[k].2 = q
      all_goals
        have e1 := Lib.hid h1
        have e2 := Lib.hid h2
        first | (have f1 : (ts[k].1 == q) = true := by simp [h1]) | (have f1 : (ts[k].1 == q) = false := by simp [h1])
        first | (have f2 : (ts[k].2 == q) = true := by simp [h2]) | (have f2 : (ts[k].2 == q) = false := by simp [h2])
        clear h1 h2
        go_wp2
        go_roundw
        case rel => exact ⟨k + 1, by omega, by go_num, by rw [hst.out]; have e1 := e1.out; have e2 := e2.out; simp only [hitI, e1, e2, if_true, if_false]; go_num, (by have hb0 := Hb.out; have hz0 := hb0.size; go_grown)⟩
        case measure => simp [intOf]; omega
    · have : k = ts.length := by omega
      subst this
      rw [List.take_length] at hbd
      rw [List.take_length]
      go_wp2
      go_ret
      exact ⟨rfl, hb⟩

set_option maxHeartbeats 1000000 in
theorem c_timesIn (A : Option Addr) (c : Nat) (ts : List (Int × Int)) (q : Int) (w : World) (hr : RdT w A ts) (hl : ts.length ≤ 1048576) :
    Calls Try.prog 247 #[.slice A ts.length c, .int .i64 q] w fun e w' => e = .returned (.int .i64 (timesI ts q)) ∧ Below w.heap.size w w' := by
  go_enter Try.func247, Try.ntmps247
  go_wp2
  go_loopw [5, 10] (fun p i wr => ∃ k : Nat, k ≤ ts.length ∧ i = .int .i64 k ∧ p = .int .i64 (timesI (ts.take k) q) ∧ Below w.heap.size w wr) (fun _ i _ => ts.length - (intOf i).toNat)
  case atStart => exact ⟨0, Nat.zero_le _, rfl, by simp [timesI], Below.refl _ _⟩
  case round =>
    obtain ⟨k, hk, rfl, rfl, hb⟩ := hrel
    have hbd := timesI_bd ts q k hk
    by_cases hlt : k < ts.length
    · obtain ⟨bk, off, rfl, hbk, hc⟩ := hr.at_ hlt
      have g1 := (hb.cell (p := ⟨bk, _, none⟩) hbk).trans (hc k hlt).1
      have g2 := (hb.cell (p := ⟨bk, _, none⟩) hbk).trans (hc k hlt).2
      have Hb := Lib.hid hb
      have hst := Lib.hid (timesI_step (q := q) hlt)
      clear hc hr hb
      by_cases h1 : ts[k].1 = q <;> by_cases h2 : ts[k].2 = q
      all_goals
        have e1 := Lib.hid h1
        have e2 := Lib.hid h2
        first | (have f1 : (ts[k].1 == q) = true := by simp [h1]) | (have f1 : (ts[k].1 == q) = false := by simp [h1])
        first | (have f2 : (ts[k].2 == q) = true := by simp [h2]) | (have f2 : (ts[k].2 == q) = false := by simp [h2])
        clear h1 h2
        go_wp2
        go_roundw
        case rel => exact ⟨k + 1, by omega, by go_num, by rw [hst.out]; have e1 := e1.out; have e2 := e2.out; simp only [hitI, e1, e2, if_true, if_false]; go_num, (by have hb0 := Hb.out; have hz0 := hb0.size; go_grown)⟩
        case measure => simp [intOf]; omega
    · have : k = ts.length := by omega
      subst this
      rw [List.take_length] at hbd
      rw [List.take_length]
      go_wp2
      go_ret
      exact ⟨rfl, hb⟩

def pipsV (ts : List (Int × Int)) : Int := if handB ts then pipsI ts else 0

set_option maxHeartbeats 1000000 in
theorem c_implNumbersOf (A : Option Addr) (c : Nat) (ts : List (Int × Int)) (w : World) (hr : RdT w A ts) (hl : ts.length ≤ 1048576) :
    Calls Try.prog 246 #[.slice A ts.length c] w (RetI w (numbersL ts) (handB ts)) := by
  have conH := Lib.hid (c_implIsHand A c ts w hr (by omega))
  by_cases h : handB ts = true
  · have e1 : numbersL ts = numsTo ts 10 := by simp [numbersL, h]
    rw [e1, h]
    clear e1
    have conP := fun W (q : Int) (hb : Below w.heap.size w W) => c_timesIn A c ts q W (hr.below hb) hl
    have ConP := Lib.hid conP
    clear conP hr
    go_enter Try.func246, Try.ntmps246
    go_wp2_with (go_at_call 74; refine conH.out.mono ?_; rintro e w1 ⟨rfl, hb1⟩)
    go_loopw [4, 9] (fun v i wr => ∃ (k : Nat) (A' : Option Addr) (c' : Nat), k ≤ 10 ∧ i = .int .i64 k ∧ v = .slice A' (numsTo ts k).length c' ∧ wr.ownsRow w.heap.size 3 1 (.slice A' (numsTo ts k).length c') (numsTo ts k).length (cellsI (numsTo ts k)) ∧ Below w.heap.size w wr) (fun _ i _ => 10 - (intOf i).toNat)
    case atStart => exact ⟨0, none, 0, Nat.zero_le _, rfl, rfl, World.ownsRow_nil _ _ _ _, hb1⟩
    case round =>
      clear conH hb1
      obtain ⟨k, A', c', hk, rfl, rfl, hown, hb⟩ := hrel
      have hlen := numsTo_len ts k
      by_cases hlt : k < 10
      · have con := Lib.hid (ConP.out wr k hb)
        have Hb := Lib.hid hb
        have Ho := Lib.hid hown
        have hsz := hb.size
        clear ConP hb hown
        by_cases hpos : 0 < timesI ts k
        · have hst := Lib.hid (numsTo_yes hpos)
          go_wp2_with (first | (go_at_call 247; refine con.out.mono ?_; rintro e w2 ⟨rfl, hb2⟩; have hz2 := hb2.size; have Ho2 := Lib.hid ((own_keep Ho.out hb2).alloc (.cells #[.int .i64 k] 3))) | (at_builtin; refine wp_append_int rfl _ _ rfl w.heap.size _ _ rfl Ho2.out k w2.heap.size rfl (by simp) (by omega) (by simp; omega) ?_; intro A2 c2 w3 hown3 hg3))
          go_roundw
          case rel =>
            refine ⟨k + 1, A2, c2, by omega, by go_num, by rw [hst.out, List.length_append]; rfl, ?_, ?_⟩
            · rw [hst.out, List.length_append]; exact hown3
            · have hb3 := bstep Hb.out hb2
              have hz3 := hb3.size
              exact Below.grown (by go_grown) hg3 (by simp; omega) (fun g hg => (Ho2.out.lt g hg).1)
          case measure => simp [intOf]; omega
        · have hst := Lib.hid (numsTo_no hpos)
          go_wp2_with (go_at_call 247; refine con.out.mono ?_; rintro e w2 ⟨rfl, hb2⟩)
          go_roundw
          case rel => exact ⟨k + 1, A', c', by omega, by go_num, by rw [hst.out], by rw [hst.out]; exact own_keep Ho.out hb2, bstep Hb.out hb2⟩
          case measure => simp [intOf]; omega
      · have : k = 10 := by omega
        subst this
        go_wp2
        go_ret2
        exact ⟨A', c', rfl, hown, hb⟩
  · have h' : handB ts = false := by simpa using h
    have e1 : numbersL ts = [] := by simp [numbersL, h']
    rw [e1, h']
    clear e1 h hr
    go_enter Try.func246, Try.ntmps246
    go_wp2_with (go_at_call 74; refine conH.out.mono ?_; rintro e w1 ⟨rfl, hb1⟩)
    go_ret2
    exact ⟨none, 0, rfl, World.ownsRow_nil _ _ _ _, hb1⟩

end Go.Proofs.Ytlnfialfkipdjaa

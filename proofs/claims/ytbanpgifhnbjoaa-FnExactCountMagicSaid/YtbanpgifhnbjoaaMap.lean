/- Maps keyed by tiles, used as sets. -/
import Derived.Test.YtbanpgifhnbjoaaLaw
import Derived.Test.YtbanpgifhnbjoaaHand
import Derived.DeepKeys4
import Derived.Maps.RangeWalk
import Derived.Maps.OwnSet
import Derived.Maps.Ext
namespace Go.Proofs.Ytbanpgifhnbjoaa
open Go.RowKit Go.Maps Go.ChangeMaps
set_option linter.unusedVariables false

theorem lawT : Keyed Try.prog 50 := Keyed.of_law (deep_law_laid Try.laidOut_ (m := 2) (by decide) (of_decide_eq_true (by kernel_rfl)) (by kernel_rfl) (by kernel_rfl))

/-- How a tile reads as a key. -/
def kl (t : Int × Int) : Lit := .string (keyBytes [.int .i64 t.1, .int .i64 t.2])
def wfT (t : Int × Int) : Prop := (Lit.int .i64 t.1).wf = true ∧ (Lit.int .i64 t.2).wf = true
def tv (t : Int × Int) : Value := .agg #[.int .i64 t.1, .int .i64 t.2]

set_option maxRecDepth 100000 in
theorem keyOf_tile {t : Int × Int} (h : wfT t) : keyOf Try.prog 50 (tv t) = some (kl t) := by
  have h1 : Try.prog.keyType 50 = true := by kernel_rfl
  have h2 : (tv t).formed Try.prog 50 = true := by kernel_rfl
  have h3 : Try.prog.cellsOf 50 = 2 := by kernel_rfl
  have hs : Try.prog.types.size + 1 = (Try.prog.types.size - 1) + 1 + 1 := by
    have : 0 < Try.prog.types.size := of_decide_eq_true (by kernel_rfl)
    omega
  unfold keyOf
  rw [Try.underlying50]
  simp only [h1, h2, Bool.and_self, if_true]
  rw [hs]
  simp only [Program.keyLits, Try.underlying50]
  simp [tv, kl, Value.cells, h3, Try.underlying3, Try.cells_int, h.1, h.2]

set_option maxRecDepth 100000 in
theorem keyOf_tile_inv {v : Value} {l : Lit} (h : keyOf Try.prog 50 v = some l) : ∃ t, v = tv t ∧ l = kl t ∧ wfT t := by
  have h3 : Try.prog.cellsOf 50 = 2 := by kernel_rfl
  obtain ⟨m, hm⟩ : ∃ m, Try.prog.types.size = m := ⟨_, rfl⟩
  unfold keyOf at h
  rw [Try.underlying50, hm] at h
  simp only [] at h
  split at h
  case isFalse => cases h
  case isTrue hf =>
    unfold Program.keyLits at h
    rw [Try.underlying50] at h
    simp only [Option.map_eq_some_iff] at h
    obtain ⟨ls, h, rfl⟩ := h
    split at h
    case isFalse => cases h
    case isTrue hl =>
      have hlen := hl.1
      rw [h3] at hlen
      simp only [Option.map_eq_some_iff] at h
      obtain ⟨lss, h, rfl⟩ := h
      cases v <;> simp [Value.cells] at hlen
      rename_i cells
      obtain ⟨cl⟩ := cells
      match cl, hlen with
      | [a, b], _ =>
        simp only [Value.cells, List.mapM_cons, List.mapM_nil, Try.cells_int, List.drop_zero, List.take_succ_cons, List.take_zero, List.drop_succ_cons, Option.bind_eq_bind, Option.bind_eq_some_iff, Option.pure_def, Option.some.injEq] at h
        obtain ⟨x, hx, ys, ⟨y, hy, _, rfl, rfl⟩, rfl⟩ := h
        obtain ⟨n, h1, rfl⟩ := keyLits_int' Try.underlying3 hx
        obtain ⟨m, h2, rfl⟩ := keyLits_int' Try.underlying3 hy
        simp only [List.cons.injEq, and_true] at h1 h2
        subst h1
        subst h2
        have w1 := keyLits_wf hx _ (by simp : Lit.int .i64 n ∈ [Lit.int .i64 n])
        have w2 := keyLits_wf hy _ (by simp : Lit.int .i64 m ∈ [Lit.int .i64 m])
        exact ⟨(n, m), rfl, rfl, w1, w2⟩

theorem kl_inj {s t : Int × Int} (hs : wfT s) (ht : wfT t) (h : kl s = kl t) : s = t := by
  have h1 := keyOf_tile hs
  rw [h] at h1
  have h2 := lawT.inj h1 (keyOf_tile ht)
  simp only [tv, Value.agg.injEq] at h2
  simp at h2
  exact Prod.ext h2.1 h2.2

theorem wfT_good {t : Int × Int} (h : goodB t.1 t.2 = true) : wfT t := by
  simp only [goodB, numB, Bool.and_eq_true, decide_eq_true_eq] at h
  exact ⟨WalkArith.wf_i64 (by omega), WalkArith.wf_i64 (by omega)⟩

theorem kl_same {s t : Int × Int} (hs : wfT s) (ht : wfT t) : (kl s).sameKey (kl t) = decide (s = t) := by
  by_cases h : s = t
  · subst h
    simp [WideAt.sameKey_self (lawT.key (keyOf_tile hs))]
  · rw [decide_eq_false h, Maps.sameKey_ne (fun e => h (kl_inj hs ht e))]

abbrev yesD {H : Type} : DataW H := .lit (.bool true)
/-- The set of a list of tiles, as a map. -/
def setD {H : Type} (ts : List (Int × Int)) : DataW H := setOf yesD (ts.map kl)
theorem setD_snoc {H : Type} (ts : List (Int × Int)) (t : Int × Int) : (setD (ts ++ [t]) : DataW H) = (setD ts).put (kl t) yesD := by
  unfold setD
  rw [List.map_append, List.map_cons, List.map_nil, setOf_snoc]
theorem isKeyLit_kl {t : Int × Int} (h : wfT t) : WideAt.IsKeyLit (kl t) := lawT.key (keyOf_tile h)
theorem has_setD {H : Type} {ts : List (Int × Int)} (hts : ∀ t ∈ ts, wfT t) {t : Int × Int} (ht : wfT t) : has (setD ts : DataW H) (kl t) = decide (t ∈ ts) := by
  unfold setD
  rw [has_setOf _ _ _ (fun x hx => by obtain ⟨s, hs, rfl⟩ := List.mem_map.1 hx; exact isKeyLit_kl (hts s hs))]
  rw [List.any_map]
  rw [Bool.eq_iff_iff, List.any_eq_true, decide_eq_true_eq]
  constructor
  · rintro ⟨x, hx, h⟩
    simp only [Function.comp] at h
    rw [kl_same (hts x hx) ht, decide_eq_true_eq] at h
    exact h ▸ hx
  · intro h
    exact ⟨t, h, by simp [kl_same ht ht]⟩
theorem foldl_addKey {ts : List (Int × Int)} : ∀ (acc : List (Int × Int)), (∀ t ∈ acc, wfT t) → (∀ t ∈ ts, wfT t) →
    ∃ us : List (Int × Int), ((ts.map kl).foldl addKey (acc.map kl)) = us.map kl ∧ us.length ≤ acc.length + ts.length ∧ ((acc ++ ts).Nodup → us.length = acc.length + ts.length) ∧ (us.length = acc.length + ts.length → acc.Nodup → (acc ++ ts).Nodup) ∧ acc.length ≤ us.length := by
  induction ts with
  | nil => intro acc _ _; exact ⟨acc, rfl, by simp, by simp, by simp, by simp⟩
  | cons t ts ih =>
    intro acc ha hts
    have ht := hts t (by simp)
    have hr : ∀ t ∈ ts, wfT t := fun s hs => hts s (by simp [hs])
    simp only [List.map_cons, List.foldl_cons]
    by_cases hin : t ∈ acc
    · have h1 : addKey (acc.map kl) (kl t) = acc.map kl := by
        unfold addKey
        rw [if_pos]
        rw [List.any_map, List.any_eq_true]
        exact ⟨t, hin, by simp [kl_same ht ht]⟩
      rw [h1]
      obtain ⟨us, h2, h3, h4, h5, h6⟩ := ih acc ha hr
      refine ⟨us, h2, by simp; omega, fun hn => ?_, fun hl => ?_, h6⟩
      · rw [List.nodup_append] at hn
        exact absurd rfl (hn.2.2 t hin t (by simp))
      · simp at hl; omega
    · have h1 : addKey (acc.map kl) (kl t) = (acc ++ [t]).map kl := by
        unfold addKey
        rw [if_neg]
        · simp
        · rw [List.any_map, List.any_eq_true]
          rintro ⟨s, hs, h⟩
          simp only [Function.comp] at h
          rw [kl_same (ha s hs) ht, decide_eq_true_eq] at h
          exact hin (h ▸ hs)
      rw [h1]
      obtain ⟨us, h2, h3, h4, h5, h6⟩ := ih (acc ++ [t]) (fun s hs => by rcases List.mem_append.1 hs with hs | hs; exact ha s hs; rw [List.mem_singleton.1 hs]; exact ht) hr
      simp only [List.append_assoc, List.cons_append, List.nil_append, List.length_append, List.length_cons, List.length_nil] at *
      refine ⟨us, h2, by omega, fun hn => by rw [h4 hn]; omega, fun hl hacc => h5 (by omega) ?_, by omega⟩
      rw [List.nodup_append]
      exact ⟨hacc, by simp, fun a ha b hb => by rw [List.mem_singleton.1 hb]; rintro rfl; exact hin ha⟩
theorem size_setD {H : Type} {ts : List (Int × Int)} (hts : ∀ t ∈ ts, wfT t) : size (setD ts : DataW H) ≤ ts.length ∧ (size (setD ts : DataW H) = ts.length ↔ ts.Nodup) := by
  unfold setD
  rw [size_setOf _ _ (fun x hx => by obtain ⟨s, hs, rfl⟩ := List.mem_map.1 hx; exact isKeyLit_kl (hts s hs))]
  obtain ⟨us, h2, h3, h4, h5, _⟩ := foldl_addKey (ts := ts) [] (by simp) hts
  simp only [List.map_nil, List.nil_append, List.length_nil, Nat.zero_add] at *
  rw [h2, List.length_map]
  exact ⟨h3, fun h => h5 h (by simp), h4⟩

theorem Try.zero_bool (w : World) : (zeroValue 4).run Try.prog w = .ok (.bool false) w := by kernel_rfl

/-- Block b is a map that holds just the tiles of a list. -/
abbrev setM (w : World) (b n : Nat) (ts : List (Int × Int)) : Prop := w.ownsMap (H := Unit) Try.prog 50 (plainElem Try.prog 4) b n (setD ts)

theorem run_makeMap_some {t k e : TypeId} (kd : IntKind) (n : Int) (ht : Try.prog.underlying t = some (.map k e)) (w : World) : (Instr.makeMap t (some (.int kd n))).run Try.prog w = .ok (.map (some w.heap.size)) (w.alloc (.map #[] 0)) := by
  simp [Instr.makeMap, run_underlying ht]; rfl

def RetM (w : World) (ts : List (Int × Int)) (e : Ending) (w' : World) : Prop :=
  ∃ b, e = .returned (.map (some b)) ∧ w.heap.size ≤ b ∧ setM w' b ts.length ts ∧ Below w.heap.size w w'

set_option maxHeartbeats 400000 in
theorem c_tilesIn (A : Option Addr) (c : Nat) (ts : List (Int × Int)) (w : World) (hr : RdT w A ts) (hl : ts.length ≤ 1048576) (hwf : ∀ t ∈ ts, wfT t) :
    Calls Try.prog 73 #[.slice A ts.length c] w (RetM w ts) := by
  have hmm := fun W => run_makeMap_some .i64 (ts.length : Int) Try.underlying97 W
  go_enter Try.func73, Try.ntmps73
  go_wp2
  clear hmm
  go_loopw [11] (fun i wr => ∃ k : Nat, k ≤ ts.length ∧ i = .int .i64 k ∧ setM wr w.heap.size k (ts.take k) ∧ Below w.heap.size w wr) (fun i _ => ts.length - (intOf i).toNat)
  case atStart => exact ⟨0, Nat.zero_le _, rfl, by simpa [setM, setD, setOf] using World.ownsMap_made w _ _ _, by go_grown⟩
  case round =>
    obtain ⟨k, hk, rfl, hm, hb⟩ := hrel
    by_cases hlt : k < ts.length
    · obtain ⟨bk, off, rfl, hbk, hc⟩ := hr.at_ hlt
      have g1 := (hb.cell (p := ⟨bk, _, none⟩) hbk).trans (hc k hlt).1
      have g2 := (hb.cell (p := ⟨bk, _, none⟩) hbk).trans (hc k hlt).2
      have hkey := keyOf_tile (hwf _ (List.getElem_mem hlt))
      have Hb := Lib.hid hb
      have Hk := Lib.hid hkey
      have Hm := Lib.hid (hm.alloc (.cells #[.int .i64 ts[k].1, .int .i64 ts[k].2] 50))
      have hz := hm.lt
      clear hc hb hkey hm hr hwf
      go_wp2_with (at_mapUpdate; refine wpList_mapUpdate_own _ rfl _ _ _ 97 rfl 50 4 lawT Try.underlying97 _ w.heap.size k _ rfl Hm.out (by unfold maxLen; omega) _ _ _ rfl rfl Hk.out _ [] (plainElem_bool Try.underlying4 true) ?_; intro w1 hown1 hgrow1)
      go_roundw
      case rel =>
        refine ⟨k + 1, by omega, by go_num, ?_, ?_⟩
        · rw [List.take_succ_eq_append_getElem hlt, setM, setD_snoc]
          exact hown1
        · exact Below.grown (by have hb0 := Hb.out; have hz0 := hb0.size; go_grown) hgrow1 (by have h := Hb.out.size; simp; omega) (fun g hg => by cases hg; exact Nat.le_refl _)
      case measure => simp [intOf]; omega
    · have : k = ts.length := by omega
      subst this
      rw [List.take_length] at hm
      go_wp2
      go_ret
      exact ⟨_, rfl, Nat.le_refl _, hm, hb⟩

set_option maxHeartbeats 400000 in
theorem c_implIsHand (A : Option Addr) (c : Nat) (ts : List (Int × Int)) (w : World) (hr : RdT w A ts) (hl : ts.length ≤ 9223372036854775807) :
    Calls Try.prog 47 #[.slice A ts.length c] w fun e w' => e = .returned (.bool (handB ts)) ∧ Below w.heap.size w w' := by
  by_cases hl55 : 55 < ts.length
  · go_enter Try.func47, Try.ntmps47
    go_wp2
    go_ret
    exact ⟨ret_b (handB_long hl55).symm, Below.refl _ _⟩
  · go_enter Try.func47, Try.ntmps47
    go_wp2
    go_loopw [10] (fun i wr => ∃ k : Nat, k ≤ ts.length ∧ i = .int .i64 k ∧ (∀ j (hj : j < ts.length), j < k → goodB ts[j].1 ts[j].2 = true) ∧ Below w.heap.size w wr) (fun i _ => ts.length - (intOf i).toNat)
    case atStart => exact ⟨0, Nat.zero_le _, rfl, by omega, Below.refl _ _⟩
    case round =>
      obtain ⟨k, hk, rfl, hg, hb⟩ := hrel
      by_cases hlt : k < ts.length
      · obtain ⟨bk, off, rfl, hbk, hc⟩ := hr.at_ hlt
        have g1 := (hb.cell (p := ⟨bk, _, none⟩) hbk).trans (hc k hlt).1
        have g2 := (hb.cell (p := ⟨bk, _, none⟩) hbk).trans (hc k hlt).2
        have Hg := Lib.hid hg
        have Hb := Lib.hid hb
        clear hc hr hg hb
        by_cases hgood : goodB ts[k].1 ts[k].2 = true
        all_goals
          go_wp2_with (go_at_call 72; refine (c_implIsTile _ _ _).mono ?_; rintro e w1 ⟨rfl, hb1⟩)
        · go_roundw
          case rel =>
            refine ⟨k + 1, by omega, by go_num, fun j hj hjk => ?_, bstep (by have hb0 := Hb.out; have hz0 := hb0.size; go_grown) hb1⟩
            rcases Nat.lt_succ_iff_lt_or_eq.1 hjk with h | rfl
            · exact Hg.out j hj h
            · exact hgood
          case measure => simp [intOf]; omega
        · go_ret
          exact ⟨ret_b (handB_bad hlt (by simpa using hgood)).symm, bstep (by have hb0 := Hb.out; have hz0 := hb0.size; go_grown) hb1⟩
      · have hall : ∀ t ∈ ts, goodB t.1 t.2 = true := fun t ht => by
          obtain ⟨j, hj, rfl⟩ := List.getElem_of_mem ht
          exact hg j hj (by omega)
        have Hall := Lib.hid hall
        have con := c_tilesIn A c ts wr (hr.below hb) (by omega) (fun t ht => wfT_good (hall t ht))
        have hsz := size_setD (H := Unit) (ts := ts) (fun t ht => wfT_good (hall t ht))
        have Hsz := Lib.hid hsz
        have Con := Lib.hid con
        clear hall con hg hr hsz
        by_cases hn : ((size (setD ts : DataW Unit) : Int) == (ts.length : Int)) = true
        all_goals
          go_wp2_with (first | (go_at_call 73; refine (Con.out).mono ?_; rintro e w1 ⟨b, rfl, hbb, hm, hb1⟩) | (at_len; refine wpList_len_own _ rfl _ 97 rfl 50 4 Try.underlying97 _ b ts.length _ rfl hm ?_))
          go_ret
        · refine ⟨ret_b ?_, bstep hb hb1⟩
          symm
          exact decide_eq_true ⟨by omega, Hall.out, (Hsz.out.2).1 (by have := beq_iff_eq.1 hn; omega)⟩
        · refine ⟨ret_b ?_, bstep hb hb1⟩
          symm
          exact decide_eq_false fun hp => hn (by rw [beq_iff_eq]; have := (Hsz.out.2).2 hp.2.2; omega)
end Go.Proofs.Ytbanpgifhnbjoaa

/- The search for chains: which tiles are left at first. -/
import Derived.Test.YtbanpgifhnbjoaaCsI
import Derived.Deep.MidRow
namespace Go.Proofs.Ytbanpgifhnbjoaa
open Go.RowKit
set_option linter.unusedVariables false

theorem hand_gdC {ts : List (Int × Int)} (h : handB ts = true) : ∀ t ∈ ts, goodB t.1 t.2 = true := (of_decide_eq_true h : handP ts).2.1

/-- A board of marks as cells. -/
def mkL (f : Nat → Nat → Bool) : List Value := (List.range 100).map fun i => .bool (f (i / 10) (i % 10))
theorem mkL_len (f : Nat → Nat → Bool) : (mkL f).length = 100 := by simp [mkL]
theorem mkL_get (f : Nat → Nat → Bool) {j : Nat} (hj : j < 100) : (mkL f)[j]? = some (.bool (f (j / 10) (j % 10))) := by simp [mkL, hj]
theorem mkL_one (f : Nat → Nat → Bool) : ∀ v ∈ mkL f, v.oneCell' = true := by
  intro v hv
  obtain ⟨i, _, rfl⟩ := List.mem_map.1 hv
  rfl

theorem below_setC {B b : Nat} {a : World} (hb : B ≤ b) : ∀ (vs : List Value) (o : Nat) (w : World), Below B a w → Below B a (w.setCells b o vs)
  | [], _, _, h => h
  | v :: vs, o, w, h => below_setC hb vs (o + 1) _ (h.setCell (by simpa using hb) _)

theorem marks_keep {g N : Nat} {ts : List (Int × Int)} {w w' : World} (h : Marks g ts w) (hb : Below N w w') (hg : g < N) : Marks g ts w' :=
  ⟨fun a b ha hb' => (World.cell?_of_block (a := ⟨g, a * 10 + b, none⟩) (hb.block g hg)).trans (h.1 a b ha hb'), fun m => (hb.frozen (p := ⟨g, m, none⟩) hg).trans (h.2 m)⟩
theorem marks_range {g : Nat} {ts : List (Int × Int)} {w : World} (h : Marks g ts w) : w.rangeAt g 0 (mkL (fun a b => decide (tile2 (a : Int) b ∈ ts))) := by
  intro j v hv
  have hj : j < 100 := by
    have := (List.getElem?_eq_some_iff.1 hv).1
    rw [mkL_len] at this; exact this
  rw [mkL_get _ hj] at hv
  cases hv
  have := h.1 (j / 10) (j % 10) (by omega) (by omega)
  rw [show j / 10 * 10 + j % 10 = j from by omega] at this
  rw [Nat.zero_add]
  exact this
theorem marks_there {g : Nat} {ts : List (Int × Int)} {w : World} (h : Marks g ts w) : w.there g 0 100 := by
  intro j hj
  have := h.1 (j / 10) (j % 10) (by omega) (by omega)
  rw [show j / 10 * 10 + j % 10 = j from by omega] at this
  rw [Nat.zero_add]
  exact ⟨by rw [this]; rfl, h.2 j⟩

theorem Try.info_marks : (Try.prog.info? 102).map (·.size) = some 100 := by kernel_rfl

set_option maxRecDepth 100000 in
set_option maxHeartbeats 4000000 in
theorem c_marksOf (A : Option Addr) (c : Nat) (ts : List (Int × Int)) (w : World) (hr : RdT w A ts) (hh : handB ts = true) :
    Calls Try.prog 76 #[.slice A ts.length c] w fun e w' => e = .returned (.agg (mkL (fun a b => decide (tile2 (a : Int) b ∈ ts))).toArray) ∧ Below w.heap.size w w' := by
  have hl55 : ts.length ≤ 55 := (of_decide_eq_true hh : handP ts).1
  have hgd := hand_gdC hh
  go_enter Try.func76, Try.ntmps76
  go_wp2
  obtain ⟨W0, hW0⟩ : ∃ W0, W0 = (w.alloc (.cells Try.zeroCells102 102)).alloc (.cells Try.zeroCells102 102) := ⟨_, rfl⟩
  rw [← hW0]
  have m0 : Marks (w.heap.size + 1) [] W0 := by
    have := marks_fresh (w.alloc (.cells Try.zeroCells102 102))
    rw [World.size_alloc] at this
    rw [hW0]; exact this
  have b0 : Below w.heap.size w W0 := by rw [hW0]; go_grown
  have t0 : Marks w.heap.size [] W0 := by
    have := marks_fresh w
    have hb : Below (w.heap.size + 1) (w.alloc (.cells Try.zeroCells102 102)) W0 := by rw [hW0]; exact (Below.refl _ _).alloc (by simp) _
    exact ⟨fun a b ha hb' => (World.cell?_of_block (a := ⟨w.heap.size, a * 10 + b, none⟩) (hb.block w.heap.size (by omega))).trans (this.1 a b ha hb'), fun m => (hb.frozen (p := ⟨w.heap.size, m, none⟩) (by show w.heap.size < _; omega)).trans (this.2 m)⟩
  have s0 : W0.heap.size = w.heap.size + 2 := by rw [hW0]; simp
  have hrw := hr.below b0
  clear hW0
  go_loopw [8] (fun i wr => ∃ k : Nat, k ≤ ts.length ∧ i = .int .i64 k ∧ Marks (w.heap.size + 1) (ts.take k) wr ∧ Marks w.heap.size [] wr ∧ Below w.heap.size w wr ∧ W0.heap.size ≤ wr.heap.size) (fun i _ => ts.length - (intOf i).toNat)
  case atStart => exact ⟨0, Nat.zero_le _, rfl, m0, t0, b0, Nat.le_refl _⟩
  case round =>
    clear m0 t0 b0 hrw
    obtain ⟨k, hk, rfl, hm, ht, hb, hz⟩ := hrel
    by_cases hlt : k < ts.length
    · obtain ⟨bk, off, rfl, hbk, hc⟩ := hr.at_ hlt
      have g1 := keepc hb (hc k hlt).1
      have g2 := keepc hb (hc k hlt).2
      have hg := hgd _ (List.getElem_mem hlt)
      have htk : ts.take (k + 1) = ts.take k ++ [ts[k]] := List.take_succ_eq_append_getElem hlt
      obtain ⟨p, q, hpq⟩ : ∃ p q, ts[k] = (p, q) := ⟨_, _, rfl⟩
      rw [hpq] at g1 g2 hg htk
      simp only [goodB, Bool.and_eq_true, decide_eq_true_eq] at hg
      obtain ⟨a, ha9, rfl⟩ := numB_nat hg.1
      obtain ⟨b, hb9, rfl⟩ := numB_nat hg.2.1
      have htl : ((a : Int), (b : Int)) = tile2 a b := by
        unfold tile2
        rw [Int.min_eq_left hg.2.2, Int.max_eq_right hg.2.2]
      rw [htl] at htk
      simp only at g1 g2
      have hbt : Below wr.heap.size wr (wr.alloc (.cells #[.int .i64 (a : Int), .int .i64 (b : Int)] 50)) := (Below.refl _ _).alloc (Nat.le_refl _) _
      have m1 := marks_keep hm hbt (by omega)
      have t1 := marks_keep ht hbt (by omega)
      have hcm := m1.1 a b ha9 hb9
      have hcn := m1.1 b a hb9 ha9
      have hfr := m1.2
      have B1 := Lib.hid (bstep hb hbt)
      have M1 := Lib.hid m1
      have T1 := Lib.hid t1
      have HTK := Lib.hid htk
      clear hm ht hb hbt m1 t1 htk htl hc hr hpq hg hgd hh
      go_wp2_with (go_at_call 100; refine (c_marksSet (w.heap.size + 1) a b ha9 hb9 true _ _ _ hcm hcn hfr).mono ?_; rintro e w' ⟨rfl, rfl⟩)
      go_roundw
      case rel =>
        refine ⟨k + 1, by omega, by go_num, ?_, ?_, ?_, ?_⟩
        · rw [HTK.out]; exact marks_drew (marks_add ha9 hb9 M1.out)
        · exact marks_drew (marks_keep (N := w.heap.size + 1) T1.out (((Below.refl _ _).setCell (by simp) _).setCell (by simp) _) (by omega))
        · exact ((B1.out.setCell (by simp) _).setCell (by simp) _).drew
        · simp [World.setCell]; omega
      case measure => simp [intOf]; omega
    · have hke : k = ts.length := by omega
      subst hke
      rw [List.take_length] at hm
      have R1 := Lib.hid (marks_range hm)
      have T1 := Lib.hid (marks_there ht)
      have B1 := Lib.hid hb
      have hsz : ((mkL (fun a b => decide (tile2 (a : Int) b ∈ ts))).toArray).size = 100 := by simp [mkL_len]
      have T2 := Lib.hid (show wr.there w.heap.size 0 ((mkL (fun a b => decide (tile2 (a : Int) b ∈ ts))).toArray).size by rw [hsz]; exact T1.out)
      have I2 := Lib.hid (show (Try.prog.info? 102).map (·.size) = some ((mkL (fun a b => decide (tile2 (a : Int) b ∈ ts))).toArray).size by rw [hsz]; exact Try.info_marks)
      clear hm ht hb hr hgd hh hsz
      go_wp2_with (first | (refine wpList_load_mid rfl 102 _ rfl (w.heap.size + 1) 0 rfl _ _ R1.out Try.underlying102 rfl (by rw [mkL_len]; exact Try.info_marks) ?_) | (refine wpList_store_mid rfl 102 _ _ rfl w.heap.size 0 _ rfl rfl T2.out I2.out (all_oneCell_toArray (mkL_one _)) ?_))
      have hl := run_loadVar_mid (P := Try.prog) (wr.setCells w.heap.size 0 (mkL (fun a b => decide (tile2 (a : Int) b ∈ ts)))) w.heap.size 0 102 _ _ (World.rangeAt_setCells_same wr w.heap.size 0 (mkL (fun a b => decide (tile2 (a : Int) b ∈ ts))) (by rw [mkL_len]; exact T1.out)) Try.underlying102 rfl (by rw [mkL_len]; exact Try.info_marks)
      exact bodyPost_ret (v := .agg (mkL (fun a b => decide (tile2 (a : Int) b ∈ ts))).toArray) (by simp [results, Try.results76, Act.put]; first | (simp [asAddr, hl]; done) | (unfold asAddr; simp [hl]; done) | (simp only [go_sem, Result.andThen_ok]; exact hl) | exact hl) rfl ⟨rfl, below_setC (Nat.le_refl _) _ _ _ B1.out⟩

end Go.Proofs.Ytbanpgifhnbjoaa

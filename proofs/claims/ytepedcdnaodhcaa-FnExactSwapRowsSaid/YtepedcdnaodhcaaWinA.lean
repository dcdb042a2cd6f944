/- Arrays of eight numbers in a block, and the program's tiles of pairs. -/
import Derived.Test.YtepedcdnaodhcaaWinS
import Derived.Test.YtepedcdnaodhcaaMap
import Derived.Test.YtepedcdnaodhcaaTurn
import Derived.Test.YtepedcdnaodhcaaRegS
import Derived.BigQuiet
namespace Go.Proofs.Ytepedcdnaodhcaa
open Go.RowKit
set_option linter.unusedVariables false

/-- Eight numbers in a block, told by a function, to be written. -/
def Eight (w : World) (g : Nat) (f : Nat → Int) : Prop := (∀ m : Nat, m < 8 → w.cell? ⟨g, m, none⟩ = some (.int .i64 (f m))) ∧ ∀ m, w.frozen? ⟨g, m, none⟩ = false

theorem Eight.below {w w' : World} {g N : Nat} {f : Nat → Int} (h : Eight w g f) (hb : Below N w w') (hN : g < N) : Eight w' g f :=
  ⟨fun m hm => (hb.cell (p := ⟨g, m, none⟩) hN).trans (h.1 m hm), fun m => (hb.frozen (p := ⟨g, m, none⟩) hN).trans (h.2 m)⟩

theorem Eight.lt {w : World} {g : Nat} {f : Nat → Int} (h : Eight w g f) : g < w.heap.size := block_lt (h.1 0 (by omega))

theorem Eight.keep {w w' : World} {g : Nat} {f : Nat → Int} (h : Eight w g f) (hb : Below w.heap.size w w') : Eight w' g f := h.below hb h.lt

theorem Eight.alloc {w : World} {g : Nat} {f : Nat → Int} (h : Eight w g f) (o : Obj) : Eight (w.alloc o) g f := h.keep ((Below.refl _ _).alloc (Nat.le_refl _) o)

theorem Eight.drew {w : World} {g : Nat} {f : Nat → Int} (h : Eight w g f) : Eight w.drew g f := h

theorem Eight.congr {w : World} {g : Nat} {f f' : Nat → Int} (h : Eight w g f) (e : ∀ m : Nat, m < 8 → f m = f' m) : Eight w g f' := ⟨fun m hm => by rw [h.1 m hm, e m hm], h.2⟩

theorem Eight.set {w : World} {g k : Nat} {f f' : Nat → Int} (h : Eight w g f) (hk : k < 8) (v : Int) (e1 : f' k = v) (e2 : ∀ m : Nat, m < 8 → m ≠ k → f' m = f m) : Eight (w.setCell ⟨g, k, none⟩ (.int .i64 v)) g f' := by
  refine ⟨fun m hm => ?_, fun m => by simp [h.2 m]⟩
  by_cases em : m = k
  · subst em
    rw [World.cell?_setCell_same _ _ _ (h.1 m hm), e1]
  · rw [World.cell?_setCell_other _ _ _ _ (by simp <;> omega), h.1 m hm, e2 m hm em]

theorem Eight.other {w : World} {g g' k : Nat} {f : Nat → Int} (h : Eight w g f) (hne : g ≠ g') (v : Value) : Eight (w.setCell ⟨g', k, none⟩ v) g f :=
  ⟨fun m hm => by rw [World.cell?_setCell_other _ _ _ _ (by simp <;> omega)]; exact h.1 m hm, fun m => by simp [h.2 m]⟩

theorem eight_new (w : World) (t : TypeId) : Eight (w.alloc (.cells #[.int .i64 0, .int .i64 0, .int .i64 0, .int .i64 0, .int .i64 0, .int .i64 0, .int .i64 0, .int .i64 0] t)) w.heap.size (fun _ => 0) := by
  refine ⟨fun m hm => ?_, fun m => by unfold World.frozen? World.alloc; simp⟩
  match m, hm with
  | 0, _ => simp
  | 1, _ => simp
  | 2, _ => simp
  | 3, _ => simp
  | 4, _ => simp
  | 5, _ => simp
  | 6, _ => simp
  | 7, _ => simp

theorem eight_box (w : World) (t : TypeId) (f : Nat → Int) : Eight (w.alloc (.cells #[.int .i64 (f 0), .int .i64 (f 1), .int .i64 (f 2), .int .i64 (f 3), .int .i64 (f 4), .int .i64 (f 5), .int .i64 (f 6), .int .i64 (f 7)] t)) w.heap.size f := by
  refine ⟨fun m hm => ?_, fun m => by unfold World.frozen? World.alloc; simp⟩
  match m, hm with
  | 0, _ => simp
  | 1, _ => simp
  | 2, _ => simp
  | 3, _ => simp
  | 4, _ => simp
  | 5, _ => simp
  | 6, _ => simp
  | 7, _ => simp

theorem Eight.setAll {w : World} {g : Nat} {f0 : Nat → Int} (h : Eight w g f0) (f : Nat → Int) : Eight ((((((((w.setCell ⟨g, 0, none⟩ (.int .i64 (f 0))).setCell ⟨g, 1, none⟩ (.int .i64 (f 1))).setCell ⟨g, 2, none⟩ (.int .i64 (f 2))).setCell ⟨g, 3, none⟩ (.int .i64 (f 3))).setCell ⟨g, 4, none⟩ (.int .i64 (f 4))).setCell ⟨g, 5, none⟩ (.int .i64 (f 5))).setCell ⟨g, 6, none⟩ (.int .i64 (f 6))).setCell ⟨g, 7, none⟩ (.int .i64 (f 7))) g f := by
  refine Eight.congr (f := fun x => if x < 8 then f x else f0 x) ?_ (fun m hm => by simp only [hm, if_true])
  have step : ∀ (k : Nat) (W : World), k < 8 → Eight W g (fun x => if x < k then f x else f0 x) → Eight (W.setCell ⟨g, k, none⟩ (.int .i64 (f k))) g (fun x => if x < k + 1 then f x else f0 x) := fun k W hk hW =>
    hW.set hk _ (by simp only [Nat.lt_succ_self, if_true]) (fun m hm hne => by
      by_cases h4 : m < k
      · have h2 : m < k + 1 := by omega
        simp only [h2, h4, if_true]
      · have h2 : ¬ m < k + 1 := by omega
        simp only [h2, h4, if_false])
  have h0 : Eight w g (fun x => if x < 0 then f x else f0 x) := h.congr fun m hm => by simp only [Nat.not_lt_zero, if_false]
  exact step 7 _ (by omega) (step 6 _ (by omega) (step 5 _ (by omega) (step 4 _ (by omega) (step 3 _ (by omega) (step 2 _ (by omega) (step 1 _ (by omega) (step 0 _ (by omega) h0)))))))

theorem Eight.zeroAll {w : World} {g : Nat} {f0 : Nat → Int} (h : Eight w g f0) : Eight ((((((((w.setCell ⟨g, 0, none⟩ (.int .i64 0)).setCell ⟨g, 1, none⟩ (.int .i64 0)).setCell ⟨g, 2, none⟩ (.int .i64 0)).setCell ⟨g, 3, none⟩ (.int .i64 0)).setCell ⟨g, 4, none⟩ (.int .i64 0)).setCell ⟨g, 5, none⟩ (.int .i64 0)).setCell ⟨g, 6, none⟩ (.int .i64 0)).setCell ⟨g, 7, none⟩ (.int .i64 0)) g (fun _ => 0) := h.setAll (fun _ => 0)

theorem zeroAll8_below {B : Nat} {a w : World} {g : Nat} (h : Below B a w) (hg : B ≤ g) : Below B a ((((((((w.setCell ⟨g, 0, none⟩ (.int .i64 0)).setCell ⟨g, 1, none⟩ (.int .i64 0)).setCell ⟨g, 2, none⟩ (.int .i64 0)).setCell ⟨g, 3, none⟩ (.int .i64 0)).setCell ⟨g, 4, none⟩ (.int .i64 0)).setCell ⟨g, 5, none⟩ (.int .i64 0)).setCell ⟨g, 6, none⟩ (.int .i64 0)).setCell ⟨g, 7, none⟩ (.int .i64 0)) :=
  ((((((((h.setCell hg _).setCell hg _).setCell hg _).setCell hg _).setCell hg _).setCell hg _).setCell hg _).setCell hg _)

theorem setAll8_below {B : Nat} {a w : World} {g : Nat} (h : Below B a w) (hg : B ≤ g) (f : Nat → Int) : Below B a ((((((((w.setCell ⟨g, 0, none⟩ (.int .i64 (f 0))).setCell ⟨g, 1, none⟩ (.int .i64 (f 1))).setCell ⟨g, 2, none⟩ (.int .i64 (f 2))).setCell ⟨g, 3, none⟩ (.int .i64 (f 3))).setCell ⟨g, 4, none⟩ (.int .i64 (f 4))).setCell ⟨g, 5, none⟩ (.int .i64 (f 5))).setCell ⟨g, 6, none⟩ (.int .i64 (f 6))).setCell ⟨g, 7, none⟩ (.int .i64 (f 7))) :=
  ((((((((h.setCell hg _).setCell hg _).setCell hg _).setCell hg _).setCell hg _).setCell hg _).setCell hg _).setCell hg _)

/-- The eight numbers as a list. -/
def l8 (f : Nat → Int) : List Int := (List.range 8).map f

theorem l8_len (f : Nat → Int) : (l8 f).length = 8 := by simp [l8]

theorem l8_get {f : Nat → Int} {i : Nat} (h : i < 8) : (l8 f).getD i 0 = f i := by
  unfold l8
  rw [List.getD_eq_getElem?_getD, List.getElem?_map, List.getElem?_range h]
  rfl

theorem l8_of {f : Nat → Int} {xs : List Int} (h : xs.length = 8) (hf : ∀ i, i < 8 → f i = xs.getD i 0) : l8 f = xs := by
  apply List.ext_getElem (by rw [l8_len, h])
  intro i h1 h2
  have h3 : i < 8 := by omega
  have e := hf i h3
  rw [List.getD_eq_getElem?_getD, List.getElem?_eq_getElem h2] at e
  exact (by simp [l8] : (l8 f)[i] = f i).trans e

theorem l8_same {f g : Nat → Int} (h : ∀ i, i < 8 → f i = g i) : l8 f = l8 g := by
  unfold l8
  exact List.map_congr_left fun i hi => h i (List.mem_range.1 hi)

theorem eight_reads {w : World} {g : Nat} {f : Nat → Int} (h : Eight w g f) : RdI w (some ⟨g, 0, none⟩) (l8 f) := by
  refine ⟨g, 0, fun _ => rfl, fun k hk => ?_⟩
  have hk8 : k < 8 := by rwa [l8_len] at hk
  rw [Nat.zero_add, h.1 k hk8]
  have e := l8_get (f := f) hk8
  rw [List.getD_eq_getElem?_getD, List.getElem?_eq_getElem hk] at e
  rw [← e]
  rfl

theorem farW {w : World} {g a i j : Nat} {u v : Value} (h : g ≠ a) (hc : w.cell? ⟨g, j, none⟩ = some v) : (w.setCell ⟨a, i, none⟩ u).cell? ⟨g, j, none⟩ = some v :=
  (World.cell?_setCell_other _ _ _ _ (fun e => h (by injection e with e; exact e.symm))).trans hc

def handT (xs : List Int) : List (Int × Int) := if handB (pairs2 xs) then pairs2 xs else []

theorem handT_yes {xs : List Int} (h : handB (pairs2 xs) = true) : handT xs = pairs2 xs := by simp [handT, h]

theorem handT_no {xs : List Int} (h : handB (pairs2 xs) = false) : handT xs = [] := by simp [handT, h]

theorem handT_len (xs : List Int) : (handT xs).length ≤ 55 := by
  unfold handT
  split
  · rename_i h
    exact (of_decide_eq_true h : handP _).1
  · simp

set_option maxRecDepth 100000 in
set_option maxHeartbeats 4000000 in
theorem c_tilesOfPairs (A : Option Addr) (c : Nat) (xs : List Int) (w : World) (hr : RdI w A xs) (hl : xs.length ≤ 1048576) :
    Calls Try.prog 121 #[.slice A xs.length c] w (RetT w (handT xs) (handB (pairs2 xs))) := by
  obtain ⟨i0, hi, hz0, hz1, hz2⟩ := info_parts Try.info_tile
  have Hget := Lib.hid (fun k (hk : k < (pairs2 xs).length) => pairs2_get xs hk)
  have hn : (pairs2 xs).length = xs.length / 2 := pairs2_len xs
  have HY := Lib.hid (fun h => handT_yes (xs := xs) h)
  have HN := Lib.hid (fun h => handT_no (xs := xs) h)
  generalize pairs2 xs = ts at *
  have hd : (xs.length : Int).tdiv 2 = (ts.length : Int) := by rw [Int.tdiv_eq_ediv_of_nonneg (by omega)]; omega
  have hd2 : (xs.length : Int) / 2 = (ts.length : Int) := by omega
  have hnl : ts.length ≤ 524288 := by omega
  have h2n : 2 * ts.length ≤ xs.length := by omega
  have iwd : IntKind.i64.wrap (ts.length : Int) = (ts.length : Int) := IntWalk.i64_in _ (by omega)
  have conH := Lib.hid (fun W A' c' (h : RdT W A' ts) => c_implIsHand A' c' ts W h (by omega))
  clear hn
  go_enter Try.func121, Try.ntmps121
  go_wp2_with (refine wpList_make_full _ rfl _ _ _ rfl w.heap.size 74 i0 _ 2 Try.underlying28 hi hz0 hz1 .i64 .i64 _ _ ts.length rfl rfl rfl rfl (by rw [hz2]; omega) (by unfold maxLen; omega) (Nat.le_refl _) ?_; intro w1 hown1 hg1)
  rw [← copyL_zero] at hown1
  have hb1 : Below w.heap.size w w1 := below_of_grown hg1 (Nat.le_refl _) (by simp)
  clear hg1 hz0 hz1 hz2 hi hd hd2 iwd
  go_loopw [12] (fun i wr => ∃ k : Nat, k ≤ ts.length ∧ i = .int .i64 k ∧ wr.ownsRow w.heap.size 74 2 (.slice (some ⟨w.heap.size, 0, none⟩) ts.length ts.length) ts.length (cellsT (copyL k ts)) ∧ Below w.heap.size w wr) (fun i _ => ts.length - (intOf i).toNat)
  case atStart => exact ⟨0, Nat.zero_le _, rfl, hown1, hb1⟩
  case round =>
    clear hown1 hb1
    obtain ⟨k, hk, rfl, hown, hb⟩ := hrel
    by_cases hlt : k < ts.length
    · obtain ⟨m, hm⟩ : ∃ m : Nat, m = 2 * k := ⟨_, rfl⟩
      obtain ⟨bk, off, rfl, hbk, hc⟩ := hr.at_ (k := m) (by omega)
      have g1 := (hb.cell (p := ⟨bk, _, none⟩) hbk).trans (hc m (by omega))
      have g2 := (hb.cell (p := ⟨bk, _, none⟩) hbk).trans (hc (m + 1) (by omega))
      have hget : ts[k] = (min (xs[m]'(by omega)) (xs[m + 1]'(by omega)), max (xs[m]'(by omega)) (xs[m + 1]'(by omega))) := by
        rw [Hget.out k hlt, ← hm, List.getD_eq_getElem?_getD, List.getD_eq_getElem?_getD, List.getElem?_eq_getElem (show m < xs.length by omega), List.getElem?_eq_getElem (show m + 1 < xs.length by omega)]
        rfl
      have hstep := copyL_step hlt
      rw [hget] at hstep
      have Hst := Lib.hid hstep
      have Hb := Lib.hid hb
      have Ho := Lib.hid hown
      have hcg := cellsT_get (copyL k ts) k (by rw [copyL_length hk]; exact hlt)
      have x1 := (hown.cellAt (k * 2) (by omega)).trans hcg.1
      have x2 := (hown.cellAt (k * 2 + 1) (by omega)).trans hcg.2
      have f1 := hown.frozenAt (k * 2)
      have f2 := hown.frozenAt (k * 2 + 1)
      have hsz := (hown.lt w.heap.size rfl).2
      have hbg0 : bk ≠ w.heap.size := by omega
      have iw : IntKind.i64.wrap (2 * (k : Int)) = (m : Int) := by rw [IntWalk.i64_in _ (by omega)]; omega
      have iw2 : 2 * (k : Int) = (m : Int) := by omega
      have iw0 : IntKind.i64.wrap (m : Int) = (m : Int) := IntWalk.i64_in _ (by omega)
      have iw3 : IntKind.i64.wrap ((m : Int) + 1) = (m : Int) + 1 := IntWalk.i64_in _ (by omega)
      have i0 : (0 : Int) ≤ (m : Int) := by omega
      have i1 : (m : Int) < (xs.length : Int) := by omega
      have i2 : (0 : Int) ≤ (m : Int) + 1 := by omega
      have i3 : (m : Int) + 1 < (xs.length : Int) := by omega
      have i4 : (0 : Int) ≤ (k : Int) := by omega
      have i5 : (k : Int) < (ts.length : Int) := by omega
      clear hstep hget
      generalize xs[m]'(by omega) = p at *
      generalize xs[m + 1]'(by omega) = q at *
      have g1d1 := g1d _ g1
      have g1d2 := g1d _ g2
      clear hc hcg hown hb hr hm h2n
      go_wp2_with fail
      refine wp_region_held_drew (S := fun w' => w'.cell? ⟨bk, off + m, none⟩ = some (.int .i64 p) ∧ w'.cell? ⟨bk, off + (m + 1), none⟩ = some (.int .i64 q)) (by kernel_rfl) ⟨g1d1, g1d2⟩ (fun hH0 => ?_)
      refine reg_take 0 rfl (by kernel_rfl) (by kernel_rfl) (by kernel_rfl) (fun _ _ _ h => h) (by rfl) (fun w _ => by first | (go_simp; done) | (go_simp; with_reducible rfl)) (by assumption) ?_
      try simp only [Act.put, List.setIfInBounds_toArray, List.set_cons_zero, List.set_cons_succ, List.getElem_toArray, List.getElem_cons_zero]
      refine reg_take 1 rfl (by kernel_rfl) (by kernel_rfl) (by kernel_rfl) (fun _ _ _ h => h) (by rfl) (fun w _ => by first | (go_simp; done) | (go_simp; with_reducible rfl)) (by assumption) ?_
      try simp only [Act.put, List.setIfInBounds_toArray, List.set_cons_zero, List.set_cons_succ, List.getElem_toArray, List.getElem_cons_zero, List.getElem_cons_succ]
      refine reg_take 2 rfl (by kernel_rfl) (by kernel_rfl) (by kernel_rfl) (fun _ _ _ h => h) (by rfl) (fun w _ => by first | (go_simp; done) | (go_simp; with_reducible rfl)) (by assumption) ?_
      try simp only [Act.put, List.setIfInBounds_toArray, List.set_cons_zero, List.set_cons_succ, List.getElem_toArray, List.getElem_cons_zero, List.getElem_cons_succ]
      refine reg_take 3 rfl (by kernel_rfl) (by kernel_rfl) (by kernel_rfl) (fun _ _ _ h => h) (by rfl) (fun w _ => by first | (go_simp; done) | (go_simp; with_reducible rfl)) (by assumption) ?_
      try simp only [Act.put, List.setIfInBounds_toArray, List.set_cons_zero, List.set_cons_succ, List.getElem_toArray, List.getElem_cons_zero, List.getElem_cons_succ]
      refine reg_take 4 rfl (by kernel_rfl) (by kernel_rfl) (by kernel_rfl) (fun _ _ _ h => h) (by rfl) (fun w _ => by first | (go_simp; done) | (go_simp; with_reducible rfl)) (by assumption) ?_
      try simp only [Act.put, List.setIfInBounds_toArray, List.set_cons_zero, List.set_cons_succ, List.getElem_toArray, List.getElem_cons_zero, List.getElem_cons_succ]
      refine reg_take 5 rfl (by kernel_rfl) (by kernel_rfl) (by kernel_rfl) (fun _ _ _ h => h) (by rfl) (fun w _ => by first | (go_simp; done) | (go_simp; with_reducible rfl)) (by assumption) ?_
      try simp only [Act.put, List.setIfInBounds_toArray, List.set_cons_zero, List.set_cons_succ, List.getElem_toArray, List.getElem_cons_zero, List.getElem_cons_succ]
      refine reg_take 6 rfl (by kernel_rfl) (by kernel_rfl) (by kernel_rfl) (fun _ _ _ h => h) (by rfl) (fun w hSw => by (try dsimp only at hSw); first | (go_simp; done) | (go_simp; with_reducible rfl)) (by assumption) ?_
      try simp only [Act.put, List.setIfInBounds_toArray, List.set_cons_zero, List.set_cons_succ, List.getElem_toArray, List.getElem_cons_zero, List.getElem_cons_succ]
      refine reg_take 7 rfl (by kernel_rfl) (by kernel_rfl) (by kernel_rfl) (fun _ _ _ h => h) (by rfl) (fun w _ => by first | (go_simp; done) | (go_simp; with_reducible rfl)) (by assumption) ?_
      try simp only [Act.put, List.setIfInBounds_toArray, List.set_cons_zero, List.set_cons_succ, List.getElem_toArray, List.getElem_cons_zero, List.getElem_cons_succ]
      refine reg_take 8 rfl (by kernel_rfl) (by kernel_rfl) (by kernel_rfl) (fun _ _ _ h => h) (by rfl) (fun w _ => by first | (go_simp; done) | (go_simp; with_reducible rfl)) (by assumption) ?_
      try simp only [Act.put, List.setIfInBounds_toArray, List.set_cons_zero, List.set_cons_succ, List.getElem_toArray, List.getElem_cons_zero, List.getElem_cons_succ]
      refine reg_take 9 rfl (by kernel_rfl) (by kernel_rfl) (by kernel_rfl) (fun _ _ _ h => h) (by rfl) (fun w _ => by first | (go_simp; done) | (go_simp; with_reducible rfl)) (by assumption) ?_
      try simp only [Act.put, List.setIfInBounds_toArray, List.set_cons_zero, List.set_cons_succ, List.getElem_toArray, List.getElem_cons_zero, List.getElem_cons_succ]
      refine reg_take 10 rfl (by kernel_rfl) (by kernel_rfl) (by kernel_rfl) (fun _ _ _ h => h) (by rfl) (fun w _ => by first | (go_simp; done) | (go_simp; with_reducible rfl)) (by assumption) ?_
      try simp only [Act.put, List.setIfInBounds_toArray, List.set_cons_zero, List.set_cons_succ, List.getElem_toArray, List.getElem_cons_zero, List.getElem_cons_succ]
      refine reg_take 11 rfl (by kernel_rfl) (by kernel_rfl) (by kernel_rfl) (fun _ _ _ h => h) (by rfl) (fun w _ => by first | (go_simp; done) | (go_simp; with_reducible rfl)) (by assumption) ?_
      try simp only [Act.put, List.setIfInBounds_toArray, List.set_cons_zero, List.set_cons_succ, List.getElem_toArray, List.getElem_cons_zero, List.getElem_cons_succ]
      refine reg_take 12 rfl (by kernel_rfl) (by kernel_rfl) (by kernel_rfl) (fun _ _ _ h => h) (by rfl) (fun w hSw => by (try dsimp only at hSw); first | (go_simp; done) | (go_simp; with_reducible rfl)) (by assumption) ?_
      try simp only [Act.put, List.setIfInBounds_toArray, List.set_cons_zero, List.set_cons_succ, List.getElem_toArray, List.getElem_cons_zero, List.getElem_cons_succ]
      refine reg_take 13 rfl (by kernel_rfl) (by kernel_rfl) (by kernel_rfl) (fun _ _ _ h => h) (by rfl) (fun w _ => by first | (go_simp; done) | (go_simp; with_reducible rfl)) (by assumption) ?_
      try simp only [Act.put, List.setIfInBounds_toArray, List.set_cons_zero, List.set_cons_succ, List.getElem_toArray, List.getElem_cons_zero, List.getElem_cons_succ]
      refine reg_take 14 rfl (by kernel_rfl) (by kernel_rfl) (by kernel_rfl) (fun _ _ _ h => h) (by rfl) (fun w _ => by first | (go_simp; done) | (go_simp; with_reducible rfl)) (by assumption) ?_
      try simp only [Act.put, List.setIfInBounds_toArray, List.set_cons_zero, List.set_cons_succ, List.getElem_toArray, List.getElem_cons_zero, List.getElem_cons_succ]
      refine reg_take 15 rfl (by kernel_rfl) (by kernel_rfl) (by kernel_rfl) (fun _ _ _ h => h) (by rfl) (fun w _ => by first | (go_simp; done) | (go_simp; with_reducible rfl)) (by assumption) ?_
      try simp only [Act.put, List.setIfInBounds_toArray, List.set_cons_zero, List.set_cons_succ, List.getElem_toArray, List.getElem_cons_zero, List.getElem_cons_succ]
      refine reg_take 16 rfl (by kernel_rfl) (by kernel_rfl) (by kernel_rfl) (fun _ _ _ h => h) (by rfl) (fun w _ => by first | (go_simp; done) | (go_simp; with_reducible rfl)) (by assumption) ?_
      try simp only [Act.put, List.setIfInBounds_toArray, List.set_cons_zero, List.set_cons_succ, List.getElem_toArray, List.getElem_cons_zero, List.getElem_cons_succ]
      refine reg_take 17 rfl (by kernel_rfl) (by kernel_rfl) (by kernel_rfl) (fun _ _ _ h => h) (by rfl) (fun w _ => by first | (go_simp; done) | (go_simp; with_reducible rfl)) (by assumption) ?_
      try simp only [Act.put, List.setIfInBounds_toArray, List.set_cons_zero, List.set_cons_succ, List.getElem_toArray, List.getElem_cons_zero, List.getElem_cons_succ]
      refine reg_take 18 rfl (by kernel_rfl) (by kernel_rfl) (by kernel_rfl) (fun _ _ _ h => h) (by rfl) (fun w hSw => by (try dsimp only at hSw); first | (go_simp; done) | (go_simp; with_reducible rfl)) (by assumption) ?_
      try simp only [Act.put, List.setIfInBounds_toArray, List.set_cons_zero, List.set_cons_succ, List.getElem_toArray, List.getElem_cons_zero, List.getElem_cons_succ]
      refine reg_take 19 rfl (by kernel_rfl) (by kernel_rfl) (by kernel_rfl) (fun _ _ _ h => h) (by rfl) (fun w _ => by first | (go_simp; done) | (go_simp; with_reducible rfl)) (by assumption) ?_
      try simp only [Act.put, List.setIfInBounds_toArray, List.set_cons_zero, List.set_cons_succ, List.getElem_toArray, List.getElem_cons_zero, List.getElem_cons_succ]
      refine reg_take 20 rfl (by kernel_rfl) (by kernel_rfl) (by kernel_rfl) (fun _ _ _ h => h) (by rfl) (fun w _ => by first | (go_simp; done) | (go_simp; with_reducible rfl)) (by assumption) ?_
      try simp only [Act.put, List.setIfInBounds_toArray, List.set_cons_zero, List.set_cons_succ, List.getElem_toArray, List.getElem_cons_zero, List.getElem_cons_succ]
      refine reg_take 21 rfl (by kernel_rfl) (by kernel_rfl) (by kernel_rfl) (fun _ _ _ h => h) (by rfl) (fun w _ => by first | (go_simp; done) | (go_simp; with_reducible rfl)) (by assumption) ?_
      try simp only [Act.put, List.setIfInBounds_toArray, List.set_cons_zero, List.set_cons_succ, List.getElem_toArray, List.getElem_cons_zero, List.getElem_cons_succ]
      refine reg_take 22 rfl (by kernel_rfl) (by kernel_rfl) (by kernel_rfl) (fun _ _ _ h => h) (by rfl) (fun w _ => by first | (go_simp; done) | (go_simp; with_reducible rfl)) (by assumption) ?_
      try simp only [Act.put, List.setIfInBounds_toArray, List.set_cons_zero, List.set_cons_succ, List.getElem_toArray, List.getElem_cons_zero, List.getElem_cons_succ]
      refine reg_take 23 rfl (by kernel_rfl) (by kernel_rfl) (by kernel_rfl) (fun _ _ _ h => h) (by rfl) (fun w _ => by first | (go_simp; done) | (go_simp; with_reducible rfl)) (by assumption) ?_
      try simp only [Act.put, List.setIfInBounds_toArray, List.set_cons_zero, List.set_cons_succ, List.getElem_toArray, List.getElem_cons_zero, List.getElem_cons_succ]
      refine reg_take 24 rfl (by kernel_rfl) (by kernel_rfl) (by kernel_rfl) (fun _ _ _ h => h) (by rfl) (fun w hSw => by (try dsimp only at hSw); first | (go_simp; done) | (go_simp; with_reducible rfl)) (by assumption) ?_
      try simp only [Act.put, List.setIfInBounds_toArray, List.set_cons_zero, List.set_cons_succ, List.getElem_toArray, List.getElem_cons_zero, List.getElem_cons_succ]
      refine reg_take 25 rfl (by kernel_rfl) (by kernel_rfl) (by kernel_rfl) (fun _ _ _ h => h) (by rfl) (fun w _ => by first | (go_simp; done) | (go_simp; with_reducible rfl)) (by assumption) ?_
      try simp only [Act.put, List.setIfInBounds_toArray, List.set_cons_zero, List.set_cons_succ, List.getElem_toArray, List.getElem_cons_zero, List.getElem_cons_succ]
      refine reg_take 26 rfl (by kernel_rfl) (by kernel_rfl) (by kernel_rfl) (fun _ _ _ h => h) (by rfl) (fun w _ => by first | (go_simp; done) | (go_simp; with_reducible rfl)) (by assumption) ?_
      try simp only [Act.put, List.setIfInBounds_toArray, List.set_cons_zero, List.set_cons_succ, List.getElem_toArray, List.getElem_cons_zero, List.getElem_cons_succ]
      refine reg_take 27 rfl (by kernel_rfl) (by kernel_rfl) (by kernel_rfl) (fun _ _ _ h => h) (by rfl) (fun w _ => by first | (go_simp; done) | (go_simp; with_reducible rfl)) (by assumption) ?_
      try simp only [Act.put, List.setIfInBounds_toArray, List.set_cons_zero, List.set_cons_succ, List.getElem_toArray, List.getElem_cons_zero, List.getElem_cons_succ]
      refine wpAnyH_ready (rs := [28]) (by kernel_rfl) (by simp) ?_
      refine AllReadyH.cons (i := 28) rfl (fun K hK => ?_) AllReadyH.nil
      go_simp
      skip
      refine hK.out _ _ ⟨farW hbg0 (farW hbg0 g1d1), farW hbg0 (farW hbg0 g1d2)⟩ (fun hH28 => ?_)
      clear hK K
      try simp only [Act.put, List.setIfInBounds_toArray, List.set_cons_zero, List.set_cons_succ, List.getElem_toArray, List.getElem_cons_zero, List.getElem_cons_succ]
      refine wpAnyH_done (by kernel_rfl) ?_ _
      go_wp2
      go_roundw
      case rel =>
        refine ⟨k + 1, by omega, by go_num, ?_, ((Hb.out.setCell (Nat.le_refl _) _).setCell (Nat.le_refl _) _).drew⟩
        have em : (if q < p then q else p) = min p q := by rw [Int.min_def]; split <;> split <;> omega
        have eM : (if p < q then q else p) = max p q := by rw [Int.max_def]; split <;> split <;> omega
        rw [← Hst.out, ← em, ← eM]
        exact own_drew (World.ownsRow.stored (Ho.out.stored _ _).1 _ _).1
      case measure => simp [intOf]; omega
    · have : k = ts.length := by omega
      subst this
      rw [copyL_all] at hown
      have hrd := Lib.hid (RdT.of_own hown)
      have Ho := Lib.hid hown
      have Hb := Lib.hid hb
      clear hown hb hr Hget
      cases hh : handB ts
      all_goals
        rw [hh] at conH
        have HH := Lib.hid hh
        clear hh
        go_wp2_with (go_at_call 105; refine (conH.out _ _ _ hrd.out).mono ?_; rintro e w2 ⟨rfl, hb2⟩)
        go_ret2
        rw [HH.out]
      · rw [HN.out HH.out]; exact ⟨none, 0, rfl, World.ownsRow_nil _ _ _ _, bstep Hb.out hb2⟩
      · rw [HY.out HH.out]; exact ⟨_, _, rfl, own_keep Ho.out hb2, bstep Hb.out hb2⟩
end Go.Proofs.Ytepedcdnaodhcaa

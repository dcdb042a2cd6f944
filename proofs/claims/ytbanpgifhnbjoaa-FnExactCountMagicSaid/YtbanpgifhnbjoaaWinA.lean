/- Arrays of eight numbers in a block, and the program's tiles of pairs. -/
import Derived.Test.YtbanpgifhnbjoaaWinS
import Derived.Test.YtbanpgifhnbjoaaMap
import Derived.Test.YtbanpgifhnbjoaaTurn
import Derived.Test.YtbanpgifhnbjoaaRegS
import Derived.BigQuiet
namespace Go.Proofs.Ytbanpgifhnbjoaa
open Go.RowKit
set_option linter.unusedVariables false

/-- Eight numbers in a block, told by a function, to be written. -/
def Eight (w : World) (g : Nat) (f : Nat → Int) : Prop := (∀ m : Nat, m < 8 → w.cell? ⟨g, m, none⟩ = some (.int .i64 (f m))) ∧ ∀ m, w.frozen? ⟨g, m, none⟩ = false

theorem Eight.below {w w' : World} {g N : Nat} {f : Nat → Int} (h : Eight w g f) (hb : Below N w w') (hN : g < N) : Eight w' g f :=
  ⟨fun m hm => (hb.cell (p := ⟨g, m, none⟩) hN).trans (h.1 m hm), fun m => (hb.frozen (p := ⟨g, m, none⟩) hN).trans (h.2 m)⟩

theorem Eight.lt {w : World} {g : Nat} {f : Nat → Int} (h : Eight w g f) : g < w.heap.size := block_lt (h.1 0 (by omega))

theorem Eight.keep {w w' : World} {g : Nat} {f : Nat → Int} (h : Eight w g f) (hb : Below w.heap.size w w') : Eight w' g f := h.below hb h.lt

theorem Eight.alloc {w : World} {g : Nat} {f : Nat → Int} (h : Eight w g f) (o : Obj) : Eight (w.alloc o) g f := h.keep ((Below.refl _ _).alloc (Nat.le_refl _) o)

theorem Eight.drew {w : World} {g : Nat} {f : Nat → Int} (h : Eight w g f) : Eight w.drew g f := h

theorem Eight.congr {w : World} {g : Nat} {f f' : Nat → Int} (h : Eight w g f) (e : ∀ m : Nat, m < 8 → f m = f' m) : Eight w g f' := ⟨fun m hm => by rw [h.1 m hm, e m hm], h.2⟩

theorem Eight.set {w : World} {g k : Nat} {f f' : Nat → Int} (h : Eight w g f) (hk : k < 8) (v : Int) (e1 : f' k = v) (e2 : ∀ m : Nat, m < 8 → m ≠ k → f' m = f m) : Eight (w.setCell ⟨g, k, none⟩ (.int .i64 v)) g f' := by
  refine ⟨fun m hm => ?_, fun m => by simp [h.2 m]⟩
  by_cases em : m = k
  · subst em
    rw [World.cell?_setCell_same _ _ _ (h.1 m hm), e1]
  · rw [World.cell?_setCell_other _ _ _ _ (by simp <;> omega), h.1 m hm, e2 m hm em]

theorem Eight.other {w : World} {g g' k : Nat} {f : Nat → Int} (h : Eight w g f) (hne : g ≠ g') (v : Value) : Eight (w.setCell ⟨g', k, none⟩ v) g f :=
  ⟨fun m hm => by rw [World.cell?_setCell_other _ _ _ _ (by simp <;> omega)]; exact h.1 m hm, fun m => by simp [h.2 m]⟩

theorem eight_new (w : World) (t : TypeId) : Eight (w.alloc (.cells #[.int .i64 0, .int .i64 0, .int .i64 0, .int .i64 0, .int .i64 0, .int .i64 0, .int .i64 0, .int .i64 0] t)) w.heap.size (fun _ => 0) := by
  refine ⟨fun m hm => ?_, fun m => by unfold World.frozen? World.alloc; simp⟩
  match m, hm with
  | 0, _ => simp
  | 1, _ => simp
  | 2, _ => simp
  | 3, _ => simp
  | 4, _ => simp
  | 5, _ => simp
  | 6, _ => simp
  | 7, _ => simp

theorem eight_box (w : World) (t : TypeId) (f : Nat → Int) : Eight (w.alloc (.cells #[.int .i64 (f 0), .int .i64 (f 1), .int .i64 (f 2), .int .i64 (f 3), .int .i64 (f 4), .int .i64 (f 5), .int .i64 (f 6), .int .i64 (f 7)] t)) w.heap.size f := by
  refine ⟨fun m hm => ?_, fun m => by unfold World.frozen? World.alloc; simp⟩
  match m, hm with
  | 0, _ => simp
  | 1, _ => simp
  | 2, _ => simp
  | 3, _ => simp
  | 4, _ => simp
  | 5, _ => simp
  | 6, _ => simp
  | 7, _ => simp

theorem Eight.setAll {w : World} {g : Nat} {f0 : Nat → Int} (h : Eight w g f0) (f : Nat → Int) : Eight ((((((((w.setCell ⟨g, 0, none⟩ (.int .i64 (f 0))).setCell ⟨g, 1, none⟩ (.int .i64 (f 1))).setCell ⟨g, 2, none⟩ (.int .i64 (f 2))).setCell ⟨g, 3, none⟩ (.int .i64 (f 3))).setCell ⟨g, 4, none⟩ (.int .i64 (f 4))).setCell ⟨g, 5, none⟩ (.int .i64 (f 5))).setCell ⟨g, 6, none⟩ (.int .i64 (f 6))).setCell ⟨g, 7, none⟩ (.int .i64 (f 7))) g f := by
  refine Eight.congr (f := fun x => if x < 8 then f x else f0 x) ?_ (fun m hm => by simp only [hm, if_true])
  have step : ∀ (k : Nat) (W : World), k < 8 → Eight W g (fun x => if x < k then f x else f0 x) → Eight (W.setCell ⟨g, k, none⟩ (.int .i64 (f k))) g (fun x => if x < k + 1 then f x else f0 x) := fun k W hk hW =>
    hW.set hk _ (by simp only [Nat.lt_succ_self, if_true]) (fun m hm hne => by
      by_cases h4 : m < k
      · have h2 : m < k + 1 := by omega
        simp only [h2, h4, if_true]
      · have h2 : ¬ m < k + 1 := by omega
        simp only [h2, h4, if_false])
  have h0 : Eight w g (fun x => if x < 0 then f x else f0 x) := h.congr fun m hm => by simp only [Nat.not_lt_zero, if_false]
  exact step 7 _ (by omega) (step 6 _ (by omega) (step 5 _ (by omega) (step 4 _ (by omega) (step 3 _ (by omega) (step 2 _ (by omega) (step 1 _ (by omega) (step 0 _ (by omega) h0)))))))

theorem Eight.zeroAll {w : World} {g : Nat} {f0 : Nat → Int} (h : Eight w g f0) : Eight ((((((((w.setCell ⟨g, 0, none⟩ (.int .i64 0)).setCell ⟨g, 1, none⟩ (.int .i64 0)).setCell ⟨g, 2, none⟩ (.int .i64 0)).setCell ⟨g, 3, none⟩ (.int .i64 0)).setCell ⟨g, 4, none⟩ (.int .i64 0)).setCell ⟨g, 5, none⟩ (.int .i64 0)).setCell ⟨g, 6, none⟩ (.int .i64 0)).setCell ⟨g, 7, none⟩ (.int .i64 0)) g (fun _ => 0) := h.setAll (fun _ => 0)

theorem zeroAll8_below {B : Nat} {a w : World} {g : Nat} (h : Below B a w) (hg : B ≤ g) : Below B a ((((((((w.setCell ⟨g, 0, none⟩ (.int .i64 0)).setCell ⟨g, 1, none⟩ (.int .i64 0)).setCell ⟨g, 2, none⟩ (.int .i64 0)).setCell ⟨g, 3, none⟩ (.int .i64 0)).setCell ⟨g, 4, none⟩ (.int .i64 0)).setCell ⟨g, 5, none⟩ (.int .i64 0)).setCell ⟨g, 6, none⟩ (.int .i64 0)).setCell ⟨g, 7, none⟩ (.int .i64 0)) :=
  ((((((((h.setCell hg _).setCell hg _).setCell hg _).setCell hg _).setCell hg _).setCell hg _).setCell hg _).setCell hg _)

theorem setAll8_below {B : Nat} {a w : World} {g : Nat} (h : Below B a w) (hg : B ≤ g) (f : Nat → Int) : Below B a ((((((((w.setCell ⟨g, 0, none⟩ (.int .i64 (f 0))).setCell ⟨g, 1, none⟩ (.int .i64 (f 1))).setCell ⟨g, 2, none⟩ (.int .i64 (f 2))).setCell ⟨g, 3, none⟩ (.int .i64 (f 3))).setCell ⟨g, 4, none⟩ (.int .i64 (f 4))).setCell ⟨g, 5, none⟩ (.int .i64 (f 5))).setCell ⟨g, 6, none⟩ (.int .i64 (f 6))).setCell ⟨g, 7, none⟩ (.int .i64 (f 7))) :=
  ((((((((h.setCell hg _).setCell hg _).setCell hg _).setCell hg _).setCell hg _).setCell hg _).setCell hg _).setCell hg _)

/-- The eight numbers as a list. -/
def l8 (f : Nat → Int) : List Int := (List.range 8).map f

theorem l8_len (f : Nat → Int) : (l8 f).length = 8 := by simp [l8]

theorem l8_get {f : Nat → Int} {i : Nat} (h : i < 8) : (l8 f).getD i 0 = f i := by
  unfold l8
  rw [List.getD_eq_getElem?_getD, List.getElem?_map, List.getElem?_range h]
  rfl

theorem l8_of {f : Nat → Int} {xs : List Int} (h : xs.length = 8) (hf : ∀ i, i < 8 → f i = xs.getD i 0) : l8 f = xs := by
  apply List.ext_getElem (by rw [l8_len, h])
  intro i h1 h2
  have h3 : i < 8 := by omega
  have e := hf i h3
  rw [List.getD_eq_getElem?_getD, List.getElem?_eq_getElem h2] at e
  exact (by simp [l8] : (l8 f)[i] = f i).trans e

theorem l8_same {f g : Nat → Int} (h : ∀ i, i < 8 → f i = g i) : l8 f = l8 g := by
  unfold l8
  exact List.map_congr_left fun i hi => h i (List.mem_range.1 hi)

theorem eight_reads {w : World} {g : Nat} {f : Nat → Int} (h : Eight w g f) : RdI w (some ⟨g, 0, none⟩) (l8 f) := by
  refine ⟨g, 0, fun _ => rfl, fun k hk => ?_⟩
  have hk8 : k < 8 := by rwa [l8_len] at hk
  rw [Nat.zero_add, h.1 k hk8]
  have e := l8_get (f := f) hk8
  rw [List.getD_eq_getElem?_getD, List.getElem?_eq_getElem hk] at e
  rw [← e]
  rfl

theorem farW {w : World} {g a i j : Nat} {u v : Value} (h : g ≠ a) (hc : w.cell? ⟨g, j, none⟩ = some v) : (w.setCell ⟨a, i, none⟩ u).cell? ⟨g, j, none⟩ = some v :=
  (World.cell?_setCell_other _ _ _ _ (fun e => h (by injection e with e; exact e.symm))).trans hc

def handT (xs : List Int) : List (Int × Int) := if handB (pairs2 xs) then pairs2 xs else []

theorem handT_yes {xs : List Int} (h : handB (pairs2 xs) = true) : handT xs = pairs2 xs := by simp [handT, h]

theorem handT_no {xs : List Int} (h : handB (pairs2 xs) = false) : handT xs = [] := by simp [handT, h]

theorem handT_len (xs : List Int) : (handT xs).length ≤ 55 := by
  unfold handT
  split
  · rename_i h
    exact (of_decide_eq_true h : handP _).1
  · simp
end Go.Proofs.Ytbanpgifhnbjoaa

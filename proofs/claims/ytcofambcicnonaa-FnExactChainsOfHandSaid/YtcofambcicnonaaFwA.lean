/- The first whole chain: when there is a whole chain from a number on, told by how tiles hang together and by parity. No function of the program is named here. The first whole chain: laying the least tile that fits, and turning back when stuck, gives what the specification finds with a look ahead. No function of the program is named here. The first whole chain: where the least tile that fits is a bridge, what lies before it comes first. No function of the program is named here. The first whole chain: the program's way is the specification's, and there is one wherever the specification says so. No function of the program is named here. The first whole chain: with which number it begins. No function of the program is named here. -/
import Derived.Test.YtcofambcicnonaaWcX
namespace Go.Proofs.Ytcofambcicnonaa
open Go.RowKit
set_option linter.unusedVariables false

/-- All tiles hang together with a number. -/
def Conn (P : List (Int × Int)) (x : Int) : Prop := ∀ t ∈ P, lfn P t.1 = lfn P x
def i1 (a b : Int) : Int := if a = b then 1 else 0
/-- Each number stands at an even number of tiles' ends, the chain's own ends counted too. -/
def Par (P : List (Int × Int)) (x e : Int) : Prop := ∀ d : Nat, d < 10 → (timesI P (d : Int) + i1 x (d : Int) + i1 e (d : Int)) % 2 = 0
theorem times_app : ∀ (A B : List (Int × Int)) (d : Int), timesI (A ++ B) d = timesI A d + timesI B d
  | [], B, d => by simp [timesI]
  | t :: A, B, d => by rw [List.cons_append, times_cons, times_cons, times_app A B d]; omega
theorem times_wo {P : List (Int × Int)} (hn : P.Nodup) {x y : Int} (ht : tile2 x y ∈ P) (d : Int) : timesI P d = i1 x d + i1 y d + timesI (woT P (tile2 x y)) d := by
  rw [times_woT d hn ht, hit_tile]
  rfl
theorem Par.wo {P : List (Int × Int)} (hn : P.Nodup) {x y e : Int} (ht : tile2 x y ∈ P) (h : Par P x e) : Par (woT P (tile2 x y)) y e := fun d hd => by
  have h1 := h d hd
  rw [times_wo hn ht] at h1
  omega
/-- What the specification asks, told so. -/
theorem fromB_par {P : List (Int × Int)} (h : handB P = true) {x : Nat} (hx : x < 10) : fromB P (x : Int) = true ↔ P.length = 0 ∨ (Conn P (x : Int) ∧ ∃ e : Nat, e < 10 ∧ Par P (x : Int) (e : Int)) := by
  rw [fromB_iff h hx]
  have hq : ∀ d : Nat, oddB P (d : Int) = decide (timesI P (d : Int) % 2 = 1) := fun d => rfl
  have nn : ∀ d : Nat, 0 ≤ timesI P (d : Int) := fun d => timesI_nonneg P d
  constructor
  · rintro (h0 | ⟨h1, h2⟩)
    · exact .inl h0
    · refine .inr ⟨h1, ?_⟩
      rcases h2 with h2 | ⟨h2, h3⟩
      · refine ⟨x, hx, fun d hd => ?_⟩
        have hb : oddB P (d : Int) = false := by
          cases hb : oddB P (d : Int) with
          | false => rfl
          | true =>
            have hm : d ∈ (List.range 10).filter fun i : Nat => oddB P (i : Int) := List.mem_filter.2 ⟨List.mem_range.2 hd, hb⟩
            have hnil : ((List.range 10).filter fun i : Nat => oddB P (i : Int)) = [] := List.eq_nil_of_length_eq_zero h2
            rw [hnil] at hm
            simp at hm
        rw [hq] at hb
        have := of_decide_eq_false hb
        omega
      · -- the other odd number
        have hlen : ((List.range 10).filter fun i : Nat => oddB P (i : Int)).length = 2 := h2
        have hnd : ((List.range 10).filter fun i : Nat => oddB P (i : Int)).Nodup := List.nodup_range.filter _
        have hxm : x ∈ (List.range 10).filter fun i : Nat => oddB P (i : Int) := List.mem_filter.2 ⟨List.mem_range.2 hx, h3⟩
        have hmem : ∀ d : Nat, d < 10 → (d ∈ ((List.range 10).filter fun i : Nat => oddB P (i : Int)) ↔ timesI P (d : Int) % 2 = 1) := fun d hd => by
          rw [List.mem_filter, List.mem_range]
          exact ⟨fun h => of_decide_eq_true h.2, fun h => ⟨hd, decide_eq_true h⟩⟩
        have hr : ∀ d, d ∈ ((List.range 10).filter fun i : Nat => oddB P (i : Int)) → d < 10 := fun d h => List.mem_range.1 (List.mem_filter.1 h).1
        generalize ((List.range 10).filter fun i : Nat => oddB P (i : Int)) = L at hlen hnd hxm hmem hr
        match L, hlen with
        | [a, b], _ =>
          have hab : a ≠ b := by simpa using hnd
          have main : ∀ e : Nat, (x = a ∧ e = b) ∨ (x = b ∧ e = a) → e < 10 → ∀ d : Nat, d < 10 → (timesI P (d : Int) + i1 (x : Int) (d : Int) + i1 (e : Int) (d : Int)) % 2 = 0 := fun e he _ d hd => by
            have hm := hmem d hd
            simp only [List.mem_cons, List.not_mem_nil, or_false] at hm
            have h0 := nn d
            unfold i1
            by_cases h4 : d = x
            · have h5 : ¬ d = e := by omega
              have : timesI P (d : Int) % 2 = 1 := hm.1 (by omega)
              rw [if_pos (by omega), if_neg (by omega)]; omega
            · by_cases h5 : d = e
              · have : timesI P (d : Int) % 2 = 1 := hm.1 (by omega)
                rw [if_neg (by omega), if_pos (by omega)]; omega
              · have : ¬ timesI P (d : Int) % 2 = 1 := fun h => by have := hm.2 h; omega
                rw [if_neg (by omega), if_neg (by omega)]; omega
          rcases List.mem_cons.1 hxm with e | e
          · exact ⟨b, hr b (by simp), main b (.inl ⟨e, rfl⟩) (hr b (by simp))⟩
          · have e2 : x = b := by simpa using e
            exact ⟨a, hr a (by simp), main a (.inr ⟨e2, rfl⟩) (hr a (by simp))⟩
  · rintro (h0 | ⟨h1, e, he, h2⟩)
    · exact .inl h0
    · refine .inr ⟨h1, ?_⟩
      have hb : ∀ d : Nat, d < 10 → oddB P (d : Int) = tog (tog (fun _ => false) x) e d := fun d hd => by
        rw [hq]
        have h3 := h2 d hd
        have h0 := nn d
        unfold i1 at h3
        unfold tog
        by_cases h4 : d = e
        · rw [if_pos h4]
          by_cases h5 : d = x
          · rw [if_pos h5]
            rw [if_pos (by omega), if_pos (by omega)] at h3
            have : ¬ timesI P (d : Int) % 2 = 1 := by omega
            simp [this]
          · rw [if_neg h5]
            rw [if_neg (by omega), if_pos (by omega)] at h3
            have : timesI P (d : Int) % 2 = 1 := by omega
            simp [this]
        · rw [if_neg h4]
          by_cases h5 : d = x
          · rw [if_pos h5]
            rw [if_pos (by omega), if_neg (by omega)] at h3
            have : timesI P (d : Int) % 2 = 1 := by omega
            simp [this]
          · rw [if_neg h5]
            rw [if_neg (by omega), if_neg (by omega)] at h3
            have : ¬ timesI P (d : Int) % 2 = 1 := by omega
            simp [this]
      have hoc : oc P = ((List.range 10).filter (tog (tog (fun _ => false) x) e)).length := by
        unfold oc
        congr 1
        exact List.filter_congr fun d hd => hb d (List.mem_range.1 hd)
      have rn : (List.range 10).Nodup := List.nodup_range
      have a1 := tog_len (p := fun _ => false) rn (List.mem_range.2 hx)
      have a2 := tog_len (p := tog (fun _ => false) x) rn (List.mem_range.2 he)
      have a3 := a1.2 rfl
      have a4 : ((List.range 10).filter fun _ => false).length = 0 := by simp
      rw [← hoc] at a2
      by_cases hxe : e = x
      · have a5 : tog (fun _ => false) x e = true := by unfold tog; rw [if_pos hxe]; rfl
        have := a2.1 a5
        exact .inl (by omega)
      · have a5 : tog (fun _ => false) x e = false := by unfold tog; rw [if_neg hxe]
        have := a2.2 a5
        refine .inr ⟨by omega, ?_⟩
        rw [hb x hx]
        unfold tog
        rw [if_neg (fun h => hxe h.symm), if_pos rfl]
        rfl
/-- Functions that are the same at both ends of each tile are the same at all that hangs together. -/
theorem hang {P : List (Int × Int)} {h : Int → Int} (hh : ∀ t ∈ P, h t.1 = h t.2) {a b : Int} (e : lfn P a = lfn P b) : h a = h b := by
  have h1 := (lfn_isLeast P).eqv h hh
  rw [← h1 a, ← h1 b, e]
theorem ends_con {P : List (Int × Int)} {t : Int × Int} (ht : t ∈ P) : lfn P t.1 = lfn P t.2 := (lfn_isLeast P).con t ht
theorem tile_con {P : List (Int × Int)} {x y : Int} (ht : tile2 x y ∈ P) : lfn P x = lfn P y := by
  have := ends_con ht
  unfold tile2 at this
  simp only at this
  rcases Int.le_total x y with hl | hl
  · rw [Int.min_eq_left hl, Int.max_eq_right hl] at this; exact this
  · rw [Int.min_eq_right hl, Int.max_eq_left hl] at this; exact this.symm
theorem tile_ends (x y : Int) : ((tile2 x y).1 = x ∧ (tile2 x y).2 = y) ∨ ((tile2 x y).1 = y ∧ (tile2 x y).2 = x) := by
  unfold tile2
  rcases Int.le_total x y with hl | hl
  · exact .inl ⟨Int.min_eq_left hl, Int.max_eq_right hl⟩
  · exact .inr ⟨Int.min_eq_right hl, Int.max_eq_left hl⟩
theorem hang_mono {P Q : List (Int × Int)} (h : ∀ t ∈ P, t ∈ Q) {a b : Int} (e : lfn P a = lfn P b) : lfn Q a = lfn Q b := hang (fun t ht => ends_con (h t ht)) e
/-- Where all tiles hang together with a number, one of them has it. -/
theorem conn_fit {P : List (Int × Int)} (hg : ∀ t ∈ P, goodB t.1 t.2 = true) {x : Nat} (hx : x < 10) (h0 : P.length ≠ 0) (hc : Conn P (x : Int)) : ∃ y : Nat, y < 10 ∧ tile2 (x : Int) (y : Int) ∈ P := by
  refine Classical.byContradiction fun hno => ?_
  have hnot : ∀ t ∈ P, t.1 ≠ (x : Int) ∧ t.2 ≠ (x : Int) := fun t ht => by
    have hb := hg t ht
    simp only [goodB, numB, Bool.and_eq_true, decide_eq_true_eq] at hb
    refine ⟨fun e => hno ⟨t.2.toNat, by omega, ?_⟩, fun e => hno ⟨t.1.toNat, by omega, ?_⟩⟩
    · have : tile2 (x : Int) ((t.2.toNat : Nat) : Int) = t := by
        unfold tile2
        refine Prod.ext ?_ ?_ <;> simp only <;> omega
      rw [this]; exact ht
    · have : tile2 (x : Int) ((t.1.toNat : Nat) : Int) = t := by
        unfold tile2
        refine Prod.ext ?_ ?_ <;> simp only <;> omega
      rw [this]; exact ht
  obtain ⟨t, ht⟩ : ∃ t, t ∈ P := ⟨P[0]'(by omega), List.getElem_mem _⟩
  have h1 : (fun n : Int => if n = (x : Int) then (1 : Int) else 0) t.1 = (fun n : Int => if n = (x : Int) then (1 : Int) else 0) (x : Int) := hang (h := fun n : Int => if n = (x : Int) then (1 : Int) else 0) (fun u hu => by
    show (if u.1 = (x : Int) then (1 : Int) else 0) = (if u.2 = (x : Int) then (1 : Int) else 0)
    rw [if_neg (hnot u hu).1, if_neg (hnot u hu).2]) (hc t ht)
  simp only [if_neg (hnot t ht).1] at h1
  simp at h1
/-- One tile taken away: what is left hangs with one of its ends. -/
theorem wo_hang {P : List (Int × Int)} {x y : Int} (ht : tile2 x y ∈ P) (hc : Conn P x) : ∀ t ∈ woT P (tile2 x y), lfn (woT P (tile2 x y)) t.1 = lfn (woT P (tile2 x y)) y ∨ lfn (woT P (tile2 x y)) t.1 = lfn (woT P (tile2 x y)) x := by
  obtain ⟨g, hg⟩ : ∃ g, g = lfn (woT P (tile2 x y)) := ⟨_, rfl⟩
  have hgc : ∀ t ∈ woT P (tile2 x y), g t.1 = g t.2 := fun t ht => hg ▸ ends_con ht
  rw [← hg]
  intro t htw
  have h1 := hang (P := P) (h := fun n : Int => if g n = g y then g x else g n) (fun u hu => by
    by_cases e : u = tile2 x y
    · subst e
      rcases tile_ends x y with ⟨e1, e2⟩ | ⟨e1, e2⟩
      · rw [e1, e2]; by_cases hxy : g x = g y <;> simp [hxy]
      · rw [e1, e2]; by_cases hxy : g x = g y <;> simp [hxy]
    · simp only [hgc u (mem_woT.2 ⟨hu, e⟩)]) (hc t (mem_woT.1 htw).1)
  by_cases e1 : g t.1 = g y
  · exact .inl e1
  · simp only [if_neg e1] at h1
    refine .inr (h1.trans ?_)
    split
    · rfl
    · rfl
end Go.Proofs.Ytcofambcicnonaa

namespace Go.Proofs.Ytcofambcicnonaa
open Go.RowKit
set_option linter.unusedVariables false

/-! The program's way. -/
def leastF (P : List (Int × Int)) (u : Int) : Option Nat := (List.range 10).find? fun y : Nat => decide (tile2 u (y : Int) ∈ P)
/-- What is put behind when a number is done with, and the tiles that are left then. -/
def gw : Nat → List (Int × Int) → Int → List Int × List (Int × Int)
  | 0, P, u => ([u], P)
  | f + 1, P, u => match leastF P u with
    | none => ([u], P)
    | some y => ((gw f (woT P (tile2 u (y : Int))) (y : Int)).1 ++ (gw f (gw f (woT P (tile2 u (y : Int))) (y : Int)).2 u).1, (gw f (gw f (woT P (tile2 u (y : Int))) (y : Int)).2 u).2)
theorem gw_none {f : Nat} {P : List (Int × Int)} {u : Int} (h : leastF P u = none) : gw f P u = ([u], P) := by
  cases f with
  | zero => rfl
  | succ f => unfold gw; rw [h]
theorem gw_some {f : Nat} {P : List (Int × Int)} {u : Int} {y : Nat} (h : leastF P u = some y) : gw (f + 1) P u = ((gw f (woT P (tile2 u (y : Int))) (y : Int)).1 ++ (gw f (gw f (woT P (tile2 u (y : Int))) (y : Int)).2 u).1, (gw f (gw f (woT P (tile2 u (y : Int))) (y : Int)).2 u).2) := by
  rw [gw, h]
theorem leastF_some {P : List (Int × Int)} {u : Int} {y : Nat} (h : leastF P u = some y) : y < 10 ∧ tile2 u (y : Int) ∈ P ∧ ∀ z : Nat, z < y → tile2 u (z : Int) ∉ P := by
  unfold leastF at h
  rw [List.find?_range_eq_some] at h
  obtain ⟨h1, h2, h3⟩ := h
  exact ⟨List.mem_range.1 h2, of_decide_eq_true h1, fun z hz hm => by have := h3 z hz; rw [decide_eq_true hm] at this; simp at this⟩
theorem leastF_congr {P Q : List (Int × Int)} {u : Int} (h : ∀ y : Nat, y < 10 → (tile2 u (y : Int) ∈ P ↔ tile2 u (y : Int) ∈ Q)) : leastF P u = leastF Q u := by
  unfold leastF
  have e : ∀ L : List Nat, (∀ y ∈ L, y < 10) → L.find? (fun y : Nat => decide (tile2 u (y : Int) ∈ P)) = L.find? (fun y : Nat => decide (tile2 u (y : Int) ∈ Q)) := by
    intro L
    induction L with
    | nil => intro _; rfl
    | cons y L ih =>
      intro hL
      rw [List.find?_cons, List.find?_cons, ih (fun z hz => hL z (List.mem_cons_of_mem _ hz))]
      have : decide (tile2 u (y : Int) ∈ P) = decide (tile2 u (y : Int) ∈ Q) := decide_eq_decide.2 (h y (hL y List.mem_cons_self))
      rw [this]
  exact e _ (fun y hy => List.mem_range.1 hy)
theorem gw_sub : ∀ (f : Nat) (P : List (Int × Int)) (u : Int), (gw f P u).2.Sublist P
  | 0, P, u => List.Sublist.refl _
  | f + 1, P, u => by
    cases h : leastF P u with
    | none => rw [gw_none h]; exact List.Sublist.refl _
    | some y =>
      rw [gw_some h]
      exact ((gw_sub f _ u).trans (gw_sub f _ _)).trans List.filter_sublist
theorem gw_nil (f : Nat) (u : Int) : gw f [] u = ([u], []) := gw_none (by unfold leastF; rw [List.find?_eq_none]; intro y _; simp)
theorem gw_fuel : ∀ (f f' : Nat) (P : List (Int × Int)) (u : Int), P.Nodup → P.length ≤ f → P.length ≤ f' → gw f P u = gw f' P u
  | 0, f', P, u, hn, h1, h2 => by
    rw [List.eq_nil_of_length_eq_zero (by omega : P.length = 0), gw_nil, gw_nil]
  | f + 1, 0, P, u, hn, h1, h2 => by
    rw [List.eq_nil_of_length_eq_zero (by omega : P.length = 0), gw_nil, gw_nil]
  | f + 1, f' + 1, P, u, hn, h1, h2 => by
    cases h : leastF P u with
    | none => rw [gw_none h, gw_none h]
    | some y =>
      obtain ⟨_, ht, _⟩ := leastF_some h
      have hl := woT_len hn ht
      have e1 := gw_fuel f f' (woT P (tile2 u (y : Int))) (y : Int) (hn.filter _) (by omega) (by omega)
      have s1 := gw_sub f' (woT P (tile2 u (y : Int))) (y : Int)
      have e2 := gw_fuel f f' (gw f' (woT P (tile2 u (y : Int))) (y : Int)).2 u ((hn.filter _).sublist s1) (by have := s1.length_le; omega) (by have := s1.length_le; omega)
      rw [gw_some h, gw_some h, e1, e2]
theorem gw_perm : ∀ (f : Nat) {P Q : List (Int × Int)} (u : Int), P.Perm Q → (gw f P u).1 = (gw f Q u).1 ∧ (gw f P u).2.Perm (gw f Q u).2
  | 0, P, Q, u, h => ⟨rfl, h⟩
  | f + 1, P, Q, u, h => by
    have e := leastF_congr (u := u) (fun y _ => (h.mem_iff : tile2 u (y : Int) ∈ P ↔ tile2 u (y : Int) ∈ Q))
    cases hq : leastF Q u with
    | none => rw [gw_none hq, gw_none (e.trans hq)]; exact ⟨rfl, h⟩
    | some y =>
      rw [gw_some hq, gw_some (e.trans hq)]
      have hp : (woT P (tile2 u (y : Int))).Perm (woT Q (tile2 u (y : Int))) := h.filter _
      obtain ⟨a1, a2⟩ := gw_perm f (y : Int) hp
      obtain ⟨b1, b2⟩ := gw_perm f u a2
      exact ⟨by rw [a1, b1], b2⟩
/-- Tiles that lie apart are left alone. -/
theorem gw_frame (K : Int → Bool) {Z : List (Int × Int)} (hZ : ∀ t ∈ Z, K t.1 = false ∧ K t.2 = false) : ∀ (f : Nat) (X : List (Int × Int)) (u : Int), (∀ t ∈ X, K t.1 = true ∧ K t.2 = true) → K u = true → gw f (X ++ Z) u = ((gw f X u).1, (gw f X u).2 ++ Z)
  | 0, X, u, hX, hu => rfl
  | f + 1, X, u, hX, hu => by
    have hno : ∀ y : Int, tile2 u y ∉ Z := fun y hm => by
      obtain ⟨h1, h2⟩ := hZ _ hm
      rcases tile_ends u y with ⟨e1, e2⟩ | ⟨e1, e2⟩
      · rw [e1, hu] at h1; cases h1
      · rw [e2, hu] at h2; cases h2
    have e : leastF (X ++ Z) u = leastF X u := leastF_congr (fun y _ => by rw [List.mem_append]; exact ⟨fun h => h.resolve_right (hno _), .inl⟩)
    cases hx : leastF X u with
    | none => rw [gw_none hx, gw_none (e.trans hx)]
    | some y =>
      obtain ⟨_, ht, _⟩ := leastF_some hx
      have ew : woT (X ++ Z) (tile2 u (y : Int)) = woT X (tile2 u (y : Int)) ++ Z := by
        unfold woT
        rw [List.filter_append]
        congr 1
        exact List.filter_eq_self.2 fun t htz => by rw [decide_eq_true_eq]; rintro rfl; exact hno _ htz
      have hKy : K (y : Int) = true := by
        obtain ⟨h1, h2⟩ := hX _ ht
        rcases tile_ends u (y : Int) with ⟨e1, e2⟩ | ⟨e1, e2⟩
        · rw [e2] at h2; exact h2
        · rw [e1] at h1; exact h1
      have r1 := gw_frame K hZ f (woT X (tile2 u (y : Int))) (y : Int) (fun t h => hX t (mem_woT.1 h).1) hKy
      have r2 := gw_frame K hZ f (gw f (woT X (tile2 u (y : Int))) (y : Int)).2 u (fun t h => hX t (mem_woT.1 ((gw_sub f _ _).subset h)).1) hu
      rw [gw_some hx, gw_some (e.trans hx), ew, r1]
      simp only
      rw [r2]

/-! The specification's way. -/
def leastS (P : List (Int × Int)) (u : Int) : Option Nat := (List.range 10).find? fun y : Nat => decide (tile2 u (y : Int) ∈ P) && fromB (woT P (tile2 u (y : Int))) (y : Int)
def wk : Nat → List (Int × Int) → Int → List Int
  | 0, _, u => [u]
  | f + 1, P, u => if P.length = 0 then [u] else match leastS P u with
    | none => [u]
    | some y => u :: wk f (woT P (tile2 u (y : Int))) (y : Int)
/-- May the specification go on so? -/
def Feas (P : List (Int × Int)) (u : Int) (y : Nat) : Prop := tile2 u (y : Int) ∈ P ∧ fromB (woT P (tile2 u (y : Int))) (y : Int) = true
theorem leastS_iff {P : List (Int × Int)} {u : Int} {y : Nat} : leastS P u = some y ↔ y < 10 ∧ Feas P u y ∧ ∀ z : Nat, z < y → ¬ Feas P u z := by
  unfold leastS
  rw [List.find?_range_eq_some]
  have e : ∀ z : Nat, ((decide (tile2 u (z : Int) ∈ P) && fromB (woT P (tile2 u (z : Int))) (z : Int)) = true ↔ Feas P u z) := fun z => by
    rw [Bool.and_eq_true, decide_eq_true_eq]
    exact Iff.rfl
  constructor
  · rintro ⟨h1, h2, h3⟩
    exact ⟨List.mem_range.1 h2, (e y).1 h1, fun z hz hf => by have := h3 z hz; rw [(e z).2 hf] at this; simp at this⟩
  · rintro ⟨h1, h2, h3⟩
    refine ⟨(e y).2 h2, List.mem_range.2 h1, fun z hz => ?_⟩
    have := h3 z hz
    cases hb : (decide (tile2 u (z : Int) ∈ P) && fromB (woT P (tile2 u (z : Int))) (z : Int)) with
    | false => rfl
    | true => exact absurd ((e z).1 hb) this
theorem leastS_ex {P : List (Int × Int)} {u : Int} (h : ∃ y : Nat, y < 10 ∧ Feas P u y) : ∃ y, leastS P u = some y := by
  cases hl : leastS P u with
  | some y => exact ⟨y, rfl⟩
  | none =>
    obtain ⟨y, hy, hf⟩ := h
    unfold leastS at hl
    rw [List.find?_eq_none] at hl
    exact absurd (by rw [Bool.and_eq_true, decide_eq_true_eq]; exact hf) (hl y (List.mem_range.2 hy))
theorem leastS_congr {P Q : List (Int × Int)} {u : Int} (h : ∀ y : Nat, y < 10 → (Feas P u y ↔ Feas Q u y)) : leastS P u = leastS Q u := by
  cases hq : leastS Q u with
  | some y =>
    rw [leastS_iff] at hq ⊢
    exact ⟨hq.1, (h y hq.1).2 hq.2.1, fun z hz hf => hq.2.2 z hz ((h z (by omega)).1 hf)⟩
  | none =>
    cases hp : leastS P u with
    | none => rfl
    | some y =>
      rw [leastS_iff] at hp
      obtain ⟨z, hz⟩ := leastS_ex (P := Q) (u := u) ⟨y, hp.1, (h y hp.1).1 hp.2.1⟩
      rw [hz] at hq
      cases hq
theorem fromB_perm {P Q : List (Int × Int)} (hP : handB P = true) (h : P.Perm Q) {x : Nat} (hx : x < 10) : fromB P (x : Int) = fromB Q (x : Int) := by
  have hQ : handB Q = true := by
    have hp : handP P := of_decide_eq_true hP
    exact decide_eq_true ⟨by rw [← h.length_eq]; exact hp.1, fun t ht => hp.2.1 t (h.mem_iff.2 ht), h.nodup_iff.1 hp.2.2⟩
  rw [Bool.eq_iff_iff, fromB_par hP hx, fromB_par hQ hx, h.length_eq]
  have e : lfn P = lfn Q := lfn_congr fun t => h.mem_iff
  unfold Conn Par
  simp only [e, fun d => times_perm h d, fun t => (h.mem_iff : t ∈ P ↔ t ∈ Q)]
theorem feas_perm {P Q : List (Int × Int)} (hP : handB P = true) (h : P.Perm Q) (u : Int) (y : Nat) (hy : y < 10) : Feas P u y ↔ Feas Q u y := by
  unfold Feas
  have hp : (woT P (tile2 u (y : Int))).Perm (woT Q (tile2 u (y : Int))) := h.filter _
  rw [h.mem_iff, fromB_perm (hand_woT hP _) hp hy]
theorem wk_perm : ∀ (f : Nat) {P Q : List (Int × Int)} (u : Int), handB P = true → P.Perm Q → wk f P u = wk f Q u
  | 0, P, Q, u, hP, h => rfl
  | f + 1, P, Q, u, hP, h => by
    unfold wk
    rw [h.length_eq, leastS_congr (fun y hy => feas_perm hP h u y hy)]
    split
    · rfl
    · split
      · rfl
      · rename_i y _
        have hp : (woT P (tile2 u (y : Int))).Perm (woT Q (tile2 u (y : Int))) := h.filter _
        rw [wk_perm f (y : Int) (hand_woT hP _) hp]
theorem wk_step {f : Nat} {P : List (Int × Int)} {u : Int} {y : Nat} (h0 : P.length ≠ 0) (h : leastS P u = some y) : wk (f + 1) P u = u :: wk f (woT P (tile2 u (y : Int))) (y : Int) := by
  rw [wk, if_neg h0, h]
end Go.Proofs.Ytcofambcicnonaa

namespace Go.Proofs.Ytcofambcicnonaa
open Go.RowKit
set_option linter.unusedVariables false

theorem tile2_inj {x y z : Int} (h : tile2 x y = tile2 x z) : y = z := by
  unfold tile2 at h
  have h1 := congrArg Prod.fst h
  have h2 := congrArg Prod.snd h
  simp only at h1 h2
  omega
theorem times_filter {p : Int × Int → Bool} {b : Bool} {d : Int} : ∀ {P : List (Int × Int)}, (∀ t ∈ P, hitI t d ≠ 0 → p t = b) → timesI (P.filter p) d = if b = true then timesI P d else 0
  | [], _ => by
    cases b
    · rfl
    · rfl
  | t :: P, h => by
    have ih := times_filter (P := P) (fun u hu => h u (List.mem_cons_of_mem _ hu))
    have ht := h t List.mem_cons_self
    rw [times_cons]
    by_cases hp : p t = true
    · rw [List.filter_cons_of_pos hp, times_cons, ih]
      cases b with
      | true => rw [if_pos rfl, if_pos rfl]
      | false =>
        have : hitI t d = 0 := Classical.byContradiction fun hne => by rw [hp] at ht; exact absurd (ht hne) (by simp)
        rw [this]; simp
    · rw [List.filter_cons_of_neg hp, ih]
      cases b with
      | false => simp
      | true =>
        have : hitI t d = 0 := Classical.byContradiction fun hne => hp (ht hne)
        rw [this]; simp
theorem hit_ends {t : Int × Int} {d : Int} (h : hitI t d ≠ 0) : t.1 = d ∨ t.2 = d := by
  refine Classical.byContradiction fun hno => h ?_
  unfold hitI
  rw [if_neg (fun e => hno (.inl e)), if_neg (fun e => hno (.inr e))]
  rfl
theorem hand_sub {P Q : List (Int × Int)} (h : handB P = true) (hs : Q.Sublist P) : handB Q = true := by
  have hp : handP P := of_decide_eq_true h
  exact decide_eq_true ⟨Nat.le_trans hs.length_le hp.1, fun t ht => hp.2.1 t (hs.subset ht), hp.2.2.sublist hs⟩
theorem i1_self (a : Int) : i1 a a = 1 := if_pos rfl
theorem i1_ne {a b : Int} (h : a ≠ b) : i1 a b = 0 := if_neg h
theorem i1_01 (a b : Int) : i1 a b = 0 ∨ i1 a b = 1 := by unfold i1; split <;> simp

/-- The part of a hand that hangs with a number, and the rest. -/
def inP (P : List (Int × Int)) (y : Int) (t : Int × Int) : Bool := decide (lfn P t.1 = lfn P y)
theorem inP_conn (P : List (Int × Int)) (y : Int) : Conn (P.filter (inP P y)) y := by
  intro t ht
  obtain ⟨h1, h2⟩ := List.mem_filter.1 ht
  have h3 : lfn P t.1 = lfn P y := of_decide_eq_true h2
  have h4 := hang (P := P) (h := fun n : Int => if lfn P n = lfn P y then lfn (P.filter (inP P y)) n else -1) (fun u hu => by
    have hc := ends_con hu
    show (if lfn P u.1 = lfn P y then _ else _) = (if lfn P u.2 = lfn P y then _ else _)
    by_cases e : lfn P u.1 = lfn P y
    · rw [if_pos e, if_pos (hc ▸ e)]
      exact ends_con (List.mem_filter.2 ⟨hu, decide_eq_true e⟩)
    · rw [if_neg e, if_neg (fun h => e (hc.trans h))]) h3
  simp only [if_pos h3] at h4
  simpa using h4
theorem outP_conn {P : List (Int × Int)} {y v : Int} (hvy : lfn P v ≠ lfn P y) (hall : ∀ t ∈ P, lfn P t.1 = lfn P y ∨ lfn P t.1 = lfn P v) : Conn (P.filter fun t => !inP P y t) v := by
  intro t ht
  obtain ⟨h1, h2⟩ := List.mem_filter.1 ht
  have hny : ¬ lfn P t.1 = lfn P y := fun e => by unfold inP at h2; rw [decide_eq_true e] at h2; cases h2
  have h3 : lfn P t.1 = lfn P v := (hall t h1).resolve_left hny
  have h4 := hang (P := P) (h := fun n : Int => if lfn P n = lfn P v then lfn (P.filter fun t => !inP P y t) n else -1) (fun u hu => by
    have hc := ends_con hu
    show (if lfn P u.1 = lfn P v then _ else _) = (if lfn P u.2 = lfn P v then _ else _)
    by_cases e : lfn P u.1 = lfn P v
    · rw [if_pos e, if_pos (hc ▸ e)]
      refine ends_con (List.mem_filter.2 ⟨hu, ?_⟩)
      unfold inP
      rw [decide_eq_false (fun e2 => hvy (e.symm.trans e2))]
      rfl
    · rw [if_neg e, if_neg (fun h => e (hc.trans h))]) h3
  simp only [if_pos h3] at h4
  simpa using h4
/-- How often a number stands in the part and in the rest. -/
theorem inP_times (P : List (Int × Int)) (y d : Int) : timesI (P.filter (inP P y)) d = if lfn P d = lfn P y then timesI P d else 0 := by
  have h := times_filter (p := inP P y) (b := decide (lfn P d = lfn P y)) (d := d) (P := P) (fun t ht hh => by
    unfold inP
    rw [decide_eq_decide]
    rcases hit_ends hh with e | e
    · rw [e]
    · rw [ends_con ht, e])
  rw [h]
  by_cases e : lfn P d = lfn P y
  · rw [decide_eq_true e, if_pos rfl, if_pos e]
  · rw [decide_eq_false e, if_neg (by simp), if_neg e]
theorem outP_times (P : List (Int × Int)) (y d : Int) : timesI (P.filter fun t => !inP P y t) d = if lfn P d = lfn P y then 0 else timesI P d := by
  have h := times_filter (p := fun t => !inP P y t) (b := !decide (lfn P d = lfn P y)) (d := d) (P := P) (fun t ht hh => by
    unfold inP
    congr 1
    rw [decide_eq_decide]
    rcases hit_ends hh with e | e
    · rw [e]
    · rw [ends_con ht, e])
  rw [h]
  by_cases e : lfn P d = lfn P y
  · rw [decide_eq_true e, if_pos e]; rfl
  · rw [decide_eq_false e, if_neg e]; rfl
/-- The end of the chain lies in the part. -/
theorem end_in {P : List (Int × Int)} (hh : handB P = true) {y e : Nat} (hy : y < 10) (he : e < 10) (hp : Par P (y : Int) (e : Int)) : lfn P (e : Int) = lfn P (y : Int) := by
  refine Classical.byContradiction fun hne => ?_
  have hhY := hand_sub hh (List.filter_sublist : (P.filter (inP P (y : Int))).Sublist P)
  have hev := odd_even (hand_gd hhY)
  rw [oc_len] at hev
  have nn : ∀ d : Nat, 0 ≤ timesI (P.filter (inP P (y : Int))) (d : Int) := fun d => timesI_nonneg _ _
  have hb : ∀ d : Nat, d < 10 → oddB (P.filter (inP P (y : Int))) (d : Int) = tog (fun _ => false) y d := fun d hd => by
    have h1 := hp d hd
    have h2 := inP_times P (y : Int) (d : Int)
    have h0 := nn d
    unfold oddB
    unfold tog
    by_cases hdy : d = y
    · subst hdy
      rw [if_pos rfl] at h2
      rw [i1_self, i1_ne (fun h => hne (by rw [h]))] at h1
      rw [if_pos rfl, h2]
      have : timesI P (d : Int) % 2 = 1 := by rw [h2] at h0; omega
      simp [this]
    · rw [if_neg hdy]
      by_cases hc : lfn P (d : Int) = lfn P (y : Int)
      · rw [if_pos hc] at h2
        rw [i1_ne (fun h => hdy (by omega)), i1_ne (fun h => hne (by rw [h]; exact hc))] at h1
        rw [h2]
        have : ¬ timesI P (d : Int) % 2 = 1 := by omega
        simp [this]
      · rw [if_neg hc] at h2
        rw [h2]
        simp
  have hoc : oc (P.filter (inP P (y : Int))) = ((List.range 10).filter (tog (fun _ => false) y)).length := by
    unfold oc
    congr 1
    exact List.filter_congr fun d hd => hb d (List.mem_range.1 hd)
  have a1 := (tog_len (p := fun _ => false) (List.nodup_range : (List.range 10).Nodup) (List.mem_range.2 hy)).2 rfl
  have a4 : ((List.range 10).filter fun _ => false).length = 0 := by simp
  omega
theorem inP_par {P : List (Int × Int)} {y e : Int} (he : lfn P e = lfn P y) (hp : Par P y e) : Par (P.filter (inP P y)) y e := fun d hd => by
  have h1 := hp d hd
  rw [inP_times]
  by_cases hc : lfn P (d : Int) = lfn P y
  · rw [if_pos hc]; exact h1
  · rw [if_neg hc, i1_ne (fun h => hc (by rw [← h])), i1_ne (fun h => hc (by rw [← h]; exact he))]
    rfl
theorem outP_par {P : List (Int × Int)} {y e : Int} (he : lfn P e = lfn P y) (hp : Par P y e) (v : Int) : Par (P.filter fun t => !inP P y t) v v := fun d hd => by
  have h1 := hp d hd
  rw [outP_times]
  by_cases hc : lfn P (d : Int) = lfn P y
  · rw [if_pos hc]; rcases i1_01 v (d : Int) with h | h <;> rw [h] <;> rfl
  · rw [i1_ne (fun h => hc (by rw [← h])), i1_ne (fun h => hc (by rw [← h]; exact he))] at h1
    rw [if_neg hc]
    omega

/-! What lies before a bridge. -/
section
variable {Py : List (Int × Int)} {v y e : Nat} {K : Int → Bool}
/-- A bridge from v to y, and what lies behind it (its numbers are those of K). -/
structure Brg (Py : List (Int × Int)) (v y e : Nat) (K : Int → Bool) : Prop where
  hv : v < 10
  hy : y < 10
  he : e < 10
  ky : K (y : Int) = true
  kv : K (v : Int) = false
  kp : ∀ t ∈ Py, K t.1 = true ∧ K t.2 = true
  cn : Conn Py (y : Int)
  pr : Par Py (y : Int) (e : Int)
theorem Brg.end_k (h : Brg Py v y e K) {x z : Int} (ht : tile2 x z ∈ tile2 (v : Int) (y : Int) :: Py) (hx : K x = false) : x = (v : Int) ∧ z = (y : Int) := by
  rcases List.mem_cons.1 ht with ht | ht
  · rcases tile_ends x z with ⟨e1, e2⟩ | ⟨e1, e2⟩ <;> rcases tile_ends (v : Int) (y : Int) with ⟨f1, f2⟩ | ⟨f1, f2⟩ <;> rw [ht] at e1 e2
    · exact ⟨e1.symm.trans f1, e2.symm.trans f2⟩
    · have : x = (y : Int) := e1.symm.trans f1
      rw [this, h.ky] at hx; cases hx
    · have : x = (y : Int) := e2.symm.trans f2
      rw [this, h.ky] at hx; cases hx
    · exact ⟨e2.symm.trans f2, e1.symm.trans f1⟩
  · obtain ⟨h1, h2⟩ := h.kp _ ht
    rcases tile_ends x z with ⟨e1, e2⟩ | ⟨e1, e2⟩
    · rw [e1, hx] at h1; cases h1
    · rw [e2, hx] at h2; cases h2
theorem Brg.feas (h : Brg Py v y e K) {Q : List (Int × Int)} (hQ : ∀ t ∈ Q, K t.1 = false ∧ K t.2 = false) (hh : handB (Q ++ tile2 (v : Int) (y : Int) :: Py) = true) (hq0 : Q.length ≠ 0) {u : Nat} (hu : u < 10) (hku : K (u : Int) = false) (hp : Par Q (u : Int) (v : Int)) (z : Nat) (hz : z < 10) :
    Feas (Q ++ tile2 (v : Int) (y : Int) :: Py) (u : Int) z ↔ Feas Q (u : Int) z := by
  obtain ⟨T, hT⟩ : ∃ T, T = tile2 (v : Int) (y : Int) :: Py := ⟨_, rfl⟩
  have hek : ∀ x z : Int, tile2 x z ∈ T → K x = false → x = (v : Int) ∧ z = (y : Int) := fun x z ht hx => h.end_k (hT ▸ ht) hx
  rw [← hT] at hh ⊢
  have hn := hand_nd hh
  have hQT : ∀ t ∈ Q, t ∉ T := fun t ht hm => by
    rw [List.nodup_append] at hn
    exact hn.2.2 t ht t hm rfl
  have hhQ : handB Q = true := hand_sub hh (List.sublist_append_left _ _)
  have hvyQ : tile2 (v : Int) (y : Int) ∉ Q := fun hm => hQT _ hm (hT ▸ List.mem_cons_self)
  by_cases ht : tile2 (u : Int) (z : Int) ∈ Q
  · have ew : woT (Q ++ T) (tile2 (u : Int) (z : Int)) = woT Q (tile2 (u : Int) (z : Int)) ++ T := by
      unfold woT
      rw [List.filter_append]
      congr 1
      exact List.filter_eq_self.2 fun t htt => by rw [decide_eq_true_eq]; rintro rfl; exact hQT _ ht htt
    have hwh := hand_woT hh (tile2 (u : Int) (z : Int))
    rw [ew] at hwh
    have hwq := hand_woT hhQ (tile2 (u : Int) (z : Int))
    have hpz := hp.wo (hand_nd hhQ) ht
    have hkz : K (z : Int) = false := by
      obtain ⟨h1, h2⟩ := hQ _ ht
      rcases tile_ends (u : Int) (z : Int) with ⟨e1, e2⟩ | ⟨e1, e2⟩
      · rw [e2] at h2; exact h2
      · rw [e1] at h1; exact h1
    have hQ' : ∀ t ∈ woT Q (tile2 (u : Int) (z : Int)), K t.1 = false ∧ K t.2 = false := fun t htt => hQ t (mem_woT.1 htt).1
    have key : fromB (woT Q (tile2 (u : Int) (z : Int)) ++ T) (z : Int) = true ↔ fromB (woT Q (tile2 (u : Int) (z : Int))) (z : Int) = true := by
      generalize woT Q (tile2 (u : Int) (z : Int)) = Q' at *
      rw [fromB_par hwh hz, fromB_par hwq hz]
      have hTm : ∀ t ∈ T, t ∈ Q' ++ T := fun t ht => List.mem_append.2 (.inr ht)
      have hQm : ∀ t ∈ Q', t ∈ Q' ++ T := fun t ht => List.mem_append.2 (.inl ht)
      have hvT : tile2 (v : Int) (y : Int) ∈ T := hT ▸ List.mem_cons_self
      have hPT : ∀ t ∈ Py, t ∈ T := fun t ht => hT ▸ List.mem_cons_of_mem _ ht
      constructor
      · rintro (h0 | ⟨hc, _⟩)
        · exact .inl (by rw [List.length_append] at h0; omega)
        · by_cases h0 : Q'.length = 0
          · exact .inl h0
          · refine .inr ⟨fun s hs => ?_, v, h.hv, hpz⟩
            have h4 := hang (P := Q' ++ T) (h := fun n : Int => if K n = true then lfn Q' (v : Int) else lfn Q' n) (fun t ht => by
              show (if K t.1 = true then _ else _) = (if K t.2 = true then _ else _)
              rcases List.mem_append.1 ht with ht | ht
              · obtain ⟨h1, h2⟩ := hQ' t ht
                rw [h1, h2]
                simpa using ends_con ht
              · rw [hT] at ht
                rcases List.mem_cons.1 ht with rfl | ht
                · rcases tile_ends (v : Int) (y : Int) with ⟨e1, e2⟩ | ⟨e1, e2⟩ <;> rw [e1, e2, h.kv, h.ky] <;> simp
                · obtain ⟨h1, h2⟩ := h.kp t ht
                  rw [h1, h2]; simp) (hc s (hQm s hs))
            simp only [(hQ' s hs).1, hkz] at h4
            simpa using h4
      · intro hf
        right
        have hvz : lfn (Q' ++ T) (v : Int) = lfn (Q' ++ T) (z : Int) := by
          by_cases hzv : (v : Int) = (z : Int)
          · rw [hzv]
          · -- v is odd in what is left before the bridge
            have h5 := hpz v h.hv
            rw [i1_self, i1_ne (fun e => hzv e.symm)] at h5
            have h6 : timesI Q' (v : Int) ≠ 0 := by omega
            have hq : ¬ Q'.length = 0 := fun h0 => h6 (by rw [List.eq_nil_of_length_eq_zero h0]; rfl)
            obtain ⟨hc, _⟩ := hf.resolve_left hq
            obtain ⟨t, htq, hte⟩ : ∃ t ∈ Q', t.1 = (v : Int) ∨ t.2 = (v : Int) := by
              refine Classical.byContradiction fun hno => h6 ?_
              have : ∀ L : List (Int × Int), (∀ t ∈ L, t ∈ Q') → timesI L (v : Int) = 0 := by
                intro L
                induction L with
                | nil => intro _; rfl
                | cons t L ih =>
                  intro hL
                  rw [times_cons, ih (fun u hu => hL u (List.mem_cons_of_mem _ hu))]
                  have : hitI t (v : Int) = 0 := Classical.byContradiction fun hh => hno ⟨t, hL t List.mem_cons_self, hit_ends hh⟩
                  omega
              exact this Q' (fun t h => h)
            have h7 : lfn Q' (v : Int) = lfn Q' (z : Int) := by
              rcases hte with e1 | e1
              · rw [← e1]; exact hc t htq
              · rw [← e1, ← ends_con htq]; exact hc t htq
            exact hang_mono hQm h7
        have hvy : lfn (Q' ++ T) (v : Int) = lfn (Q' ++ T) (y : Int) := tile_con (hTm _ hvT)
        refine ⟨fun s hs => ?_, e, h.he, fun d hd => ?_⟩
        · rcases List.mem_append.1 hs with hs | hs
          · have hq : ¬ Q'.length = 0 := fun h0 => by rw [List.eq_nil_of_length_eq_zero h0] at hs; simp at hs
            obtain ⟨hc, _⟩ := hf.resolve_left hq
            exact hang_mono hQm (hc s hs)
          · rw [hT] at hs
            rcases List.mem_cons.1 hs with rfl | hs
            · rcases tile_ends (v : Int) (y : Int) with ⟨e1, _⟩ | ⟨e1, _⟩ <;> rw [e1]
              · exact hvz
              · exact hvy.symm.trans hvz
            · have h8 := hang_mono (fun t ht => hTm t (hPT t ht)) (h.cn s hs)
              exact h8.trans (hvy.symm.trans hvz)
        · have h5 := hpz d hd
          have h6 := h.pr d hd
          rw [times_app, hT, times_cons, hit_tile]
          unfold i1 at *
          omega
    constructor
    · rintro ⟨_, h2⟩
      rw [ew] at h2
      exact ⟨ht, key.1 h2⟩
    · rintro ⟨_, h2⟩
      refine ⟨List.mem_append.2 (.inl ht), ?_⟩
      rw [ew]
      exact key.2 h2
  · constructor
    · rintro ⟨h1, h2⟩
      exfalso
      have hm := (List.mem_append.1 h1).resolve_left ht
      obtain ⟨e1, e2⟩ := hek _ _ hm hku
      -- the bridge is crossed too early
      have ew : woT (Q ++ T) (tile2 (u : Int) (z : Int)) = Q ++ Py := by
        rw [e1, e2]
        unfold woT
        rw [List.filter_append, hT, List.filter_cons_of_neg (by simp)]
        congr 1
        · exact List.filter_eq_self.2 fun t htt => by rw [decide_eq_true_eq]; rintro rfl; exact hvyQ htt
        · refine List.filter_eq_self.2 fun t htt => ?_
          rw [decide_eq_true_eq]
          rintro rfl
          have := h.end_k (List.mem_cons_of_mem _ htt) h.kv
          have h3 := h.kp _ htt
          rcases tile_ends (v : Int) (y : Int) with ⟨f1, f2⟩ | ⟨f1, f2⟩
          · rw [f1, h.kv] at h3; cases h3.1
          · rw [f2, h.kv] at h3; cases h3.2
      have hwh := hand_woT hh (tile2 (u : Int) (z : Int))
      rw [ew] at h2 hwh
      rw [fromB_par hwh hz] at h2
      rcases h2 with h2 | ⟨hc, _⟩
      · rw [List.length_append] at h2; omega
      · obtain ⟨s, hs⟩ : ∃ s, s ∈ Q := ⟨Q[0]'(by omega), List.getElem_mem _⟩
        have h4 := hang (P := Q ++ Py) (h := fun n : Int => if K n = true then (1 : Int) else 0) (fun t ht => by
          show (if K t.1 = true then (1 : Int) else 0) = (if K t.2 = true then (1 : Int) else 0)
          rcases List.mem_append.1 ht with ht | ht
          · obtain ⟨g1, g2⟩ := hQ t ht
            rw [g1, g2]
          · obtain ⟨g1, g2⟩ := h.kp t ht
            rw [g1, g2]) (hc s (List.mem_append.2 (.inl hs)))
        simp only [(hQ s hs).1, e2, h.ky] at h4
        simp at h4
    · rintro ⟨h1, _⟩
      exact absurd h1 ht
end
end Go.Proofs.Ytcofambcicnonaa

namespace Go.Proofs.Ytcofambcicnonaa
open Go.RowKit
set_option linter.unusedVariables false

theorem perm_wo {P : List (Int × Int)} {t : Int × Int} (hn : P.Nodup) (ht : t ∈ P) : P.Perm (t :: woT P t) := by
  have h1 := List.perm_cons_erase ht
  have e : P.erase t = woT P t := by
    rw [hn.erase_eq_filter]
    unfold woT
    refine List.filter_congr fun u _ => ?_
    by_cases h : u = t <;> simp [h]
  rw [e] at h1
  exact h1
theorem Brg.walk {Py : List (Int × Int)} {v y e : Nat} {K : Int → Bool} (h : Brg Py v y e K) (hf : fromB Py (y : Int) = true) {N : Nat}
    (E : ∀ R : List (Int × Int), R.length ≤ N → handB R = true → ∀ x : Nat, x < 10 → fromB R (x : Int) = true → R.length ≠ 0 → ∃ z : Nat, z < 10 ∧ Feas R (x : Int) z) :
    ∀ (n : Nat) (Q : List (Int × Int)) (u : Nat), Q.length = n → n ≤ N → (∀ t ∈ Q, K t.1 = false ∧ K t.2 = false) → handB (Q ++ tile2 (v : Int) (y : Int) :: Py) = true → u < 10 → K (u : Int) = false → fromB Q (u : Int) = true → Par Q (u : Int) (v : Int) →
      wk (n + Py.length + 1) (Q ++ tile2 (v : Int) (y : Int) :: Py) (u : Int) = wk n Q (u : Int) ++ wk Py.length Py (y : Int)
  | 0, Q, u, hl, hN, hQ, hh, hu, hku, hfQ, hp => by
    have e0 : Q = [] := List.eq_nil_of_length_eq_zero hl
    subst e0
    have huv : u = v := by
      have h1 := hp u hu
      have e3 : timesI [] (u : Int) = 0 := rfl
      rw [e3, i1_self] at h1
      refine Classical.byContradiction fun hne => ?_
      rw [i1_ne (fun h => hne (by omega))] at h1
      omega
    subst huv
    have hn := hand_nd hh
    rw [List.nil_append] at hn ⊢
    rw [List.nodup_cons] at hn
    have ew : woT (tile2 (u : Int) (y : Int) :: Py) (tile2 (u : Int) (y : Int)) = Py := by
      unfold woT
      rw [List.filter_cons_of_neg (by simp)]
      exact List.filter_eq_self.2 fun t htt => by rw [decide_eq_true_eq]; rintro rfl; exact hn.1 htt
    have hls : leastS (tile2 (u : Int) (y : Int) :: Py) (u : Int) = some y := by
      rw [leastS_iff]
      refine ⟨h.hy, ⟨List.mem_cons_self, by rw [ew]; exact hf⟩, fun z hz hfz => ?_⟩
      have := (h.end_k hfz.1 hku).2
      omega
    rw [Nat.zero_add, wk_step (by simp) hls, ew]
    rfl
  | n + 1, Q, u, hl, hN, hQ, hh, hu, hku, hfQ, hp => by
    have hhQ : handB Q = true := hand_sub hh (List.sublist_append_left _ _)
    have hn := hand_nd hh
    obtain ⟨z, hz⟩ := leastS_ex (E Q (by omega) hhQ u hu hfQ (by omega))
    have hz2 := leastS_iff.1 hz
    have ht : tile2 (u : Int) (z : Int) ∈ Q := hz2.2.1.1
    have els := leastS_congr (P := Q ++ tile2 (v : Int) (y : Int) :: Py) (Q := Q) (u := (u : Int)) (fun w hw => h.feas hQ hh (by omega) hu hku hp w hw)
    have hQT : ∀ t ∈ Q, t ∉ tile2 (v : Int) (y : Int) :: Py := fun t ht hm => by
      rw [List.nodup_append] at hn
      exact hn.2.2 t ht t hm rfl
    have ew : woT (Q ++ tile2 (v : Int) (y : Int) :: Py) (tile2 (u : Int) (z : Int)) = woT Q (tile2 (u : Int) (z : Int)) ++ tile2 (v : Int) (y : Int) :: Py := by
      unfold woT
      rw [List.filter_append]
      congr 1
      exact List.filter_eq_self.2 fun t htt => by rw [decide_eq_true_eq]; rintro rfl; exact hQT _ ht htt
    have hwh := hand_woT hh (tile2 (u : Int) (z : Int))
    rw [ew] at hwh
    have hkz : K (z : Int) = false := by
      obtain ⟨h1, h2⟩ := hQ _ ht
      rcases tile_ends (u : Int) (z : Int) with ⟨e1, e2⟩ | ⟨e1, e2⟩
      · rw [e2] at h2; exact h2
      · rw [e1] at h1; exact h1
    have hwl := woT_len (hand_nd hhQ) ht
    have ih := h.walk hf E n (woT Q (tile2 (u : Int) (z : Int))) z (by omega) (by omega) (fun t htt => hQ t (mem_woT.1 htt).1) hwh hz2.1 hkz hz2.2.1.2 (hp.wo (hand_nd hhQ) ht)
    rw [show n + 1 + Py.length + 1 = (n + Py.length + 1) + 1 from by omega, wk_step (by simp) (els.trans hz), wk_step (by omega) hz, ew, ih]
    rfl
/-- Wherever the specification goes on there is a way, and the program finds the same. -/
theorem first_main : ∀ (n : Nat) (P : List (Int × Int)) (x : Nat), P.length ≤ n → handB P = true → x < 10 → fromB P (x : Int) = true →
    (P.length ≠ 0 → ∃ z : Nat, z < 10 ∧ Feas P (x : Int) z) ∧ gw P.length P (x : Int) = ((wk P.length P (x : Int)).reverse, [])
  | 0, P, x, hl, hh, hx, hf => by
    have e0 : P = [] := List.eq_nil_of_length_eq_zero (by omega)
    subst e0
    exact ⟨fun h => absurd rfl h, rfl⟩
  | n + 1, P, x, hl, hh, hx, hf => by
    by_cases h0 : P.length = 0
    · have e0 : P = [] := List.eq_nil_of_length_eq_zero h0
      subst e0
      exact ⟨fun h => absurd rfl h, rfl⟩
    obtain ⟨hc, e, he, hp⟩ := ((fromB_par hh hx).1 hf).resolve_left h0
    have hn := hand_nd hh
    obtain ⟨y0, hy0, hm0⟩ := conn_fit (hand_gd hh) hx h0 hc
    obtain ⟨y, hy⟩ : ∃ y, leastF P (x : Int) = some y := by
      cases hl : leastF P (x : Int) with
      | some y => exact ⟨y, rfl⟩
      | none =>
        unfold leastF at hl
        rw [List.find?_eq_none] at hl
        exact absurd (decide_eq_true hm0) (hl y0 (List.mem_range.2 hy0))
    obtain ⟨hy10, ht, hmin⟩ := leastF_some hy
    have hwl := woT_len hn ht
    obtain ⟨m, hm⟩ : ∃ m, P.length = m + 1 := ⟨P.length - 1, by omega⟩
    have hwm : (woT P (tile2 (x : Int) (y : Int))).length = m := by omega
    have hhw := hand_woT hh (tile2 (x : Int) (y : Int))
    have hpw := hp.wo hn ht
    have IH := first_main n
    by_cases hA : fromB (woT P (tile2 (x : Int) (y : Int))) (y : Int) = true
    · obtain ⟨_, ih⟩ := IH (woT P (tile2 (x : Int) (y : Int))) y (by omega) hhw hy10 hA
      have hfe : Feas P (x : Int) y := ⟨ht, hA⟩
      have hls : leastS P (x : Int) = some y := leastS_iff.2 ⟨hy10, hfe, fun z hz hfz => hmin z hz hfz.1⟩
      refine ⟨fun _ => ⟨y, hy10, hfe⟩, ?_⟩
      rw [hwm] at ih
      rw [hm, gw_some hy, ih, wk_step h0 hls]
      simp only
      rw [gw_nil]
      simp
    · -- the least tile that fits is a bridge
      obtain ⟨P', hP'⟩ : ∃ P', P' = woT P (tile2 (x : Int) (y : Int)) := ⟨_, rfl⟩
      have hwh := wo_hang ht hc
      rw [← hP'] at hwl hwm hhw hpw hA hwh
      rw [fromB_par hhw hy10] at hA
      have hnc : ¬ Conn P' (y : Int) := fun h => hA (.inr ⟨h, e, he, hpw⟩)
      have hvy : lfn P' (x : Int) ≠ lfn P' (y : Int) := fun hv => hnc fun t htt => by
        rcases hwh t htt with h | h
        · exact h
        · exact h.trans hv
      have hey := end_in hhw hy10 he hpw
      obtain ⟨Py, hPy⟩ : ∃ Py, Py = P'.filter (inP P' (y : Int)) := ⟨_, rfl⟩
      obtain ⟨Pv, hPv⟩ : ∃ Pv, Pv = P'.filter (fun t => !inP P' (y : Int) t) := ⟨_, rfl⟩
      obtain ⟨K, hK⟩ : ∃ K : Int → Bool, K = fun k => decide (lfn P' k = lfn P' (y : Int)) := ⟨_, rfl⟩
      have hKd : ∀ k, K k = decide (lfn P' k = lfn P' (y : Int)) := fun k => by rw [hK]
      have hPyK : ∀ t ∈ Py, K t.1 = true ∧ K t.2 = true := fun t htt => by
        rw [hPy] at htt
        obtain ⟨h1, h2⟩ := List.mem_filter.1 htt
        have h3 : lfn P' t.1 = lfn P' (y : Int) := of_decide_eq_true h2
        rw [hKd, hKd]
        exact ⟨decide_eq_true h3, decide_eq_true (by rw [← ends_con h1]; exact h3)⟩
      have hPvK : ∀ t ∈ Pv, K t.1 = false ∧ K t.2 = false := fun t htt => by
        rw [hPv] at htt
        obtain ⟨h1, h2⟩ := List.mem_filter.1 htt
        have h3 : ¬ lfn P' t.1 = lfn P' (y : Int) := fun e => by unfold inP at h2; rw [decide_eq_true e] at h2; cases h2
        rw [hKd, hKd]
        exact ⟨decide_eq_false h3, decide_eq_false (by rw [← ends_con h1]; exact h3)⟩
      have hky : K (y : Int) = true := by rw [hKd]; exact decide_eq_true rfl
      have hkx : K (x : Int) = false := by rw [hKd]; exact decide_eq_false hvy
      have hcy : Conn Py (y : Int) := hPy ▸ inP_conn P' (y : Int)
      have hpy : Par Py (y : Int) (e : Int) := hPy ▸ inP_par hey hpw
      have hcv : Conn Pv (x : Int) := hPv ▸ outP_conn hvy hwh
      have hpv : Par Pv (x : Int) (x : Int) := hPv ▸ outP_par hey hpw (x : Int)
      have hhy : handB Py = true := hPy ▸ hand_sub hhw List.filter_sublist
      have hhv : handB Pv = true := hPv ▸ hand_sub hhw List.filter_sublist
      have hb : Brg Py x y e K := ⟨hx, hy10, he, hky, hkx, hPyK, hcy, hpy⟩
      have hfy : fromB Py (y : Int) = true := (fromB_par hhy hy10).2 (.inr ⟨hcy, e, he, hpy⟩)
      have hfv : fromB Pv (x : Int) = true := (fromB_par hhv hx).2 (.inr ⟨hcv, x, hx, hpv⟩)
      have hpp : P'.Perm (Py ++ Pv) := by rw [hPy, hPv]; exact (List.filter_append_perm _ _).symm
      have hlen : Py.length + Pv.length = m := by have := hpp.length_eq; rw [List.length_append] at this; omega
      have hv0 : Pv.length ≠ 0 := fun h => hnc fun t htt => by
        refine Classical.byContradiction fun hne => ?_
        have : t ∈ Pv := by
          rw [hPv]
          refine List.mem_filter.2 ⟨htt, ?_⟩
          unfold inP
          rw [decide_eq_false hne]
          rfl
        rw [List.eq_nil_of_length_eq_zero h] at this
        simp at this
      have hperm : P.Perm (Pv ++ tile2 (x : Int) (y : Int) :: Py) := by
        refine (perm_wo hn ht).trans ?_
        rw [← hP']
        refine (hpp.cons _).trans ?_
        exact (List.perm_append_comm : (tile2 (x : Int) (y : Int) :: Py ++ Pv).Perm (Pv ++ tile2 (x : Int) (y : Int) :: Py))
      have hhT : handB (Pv ++ tile2 (x : Int) (y : Int) :: Py) = true := by
        have hq : handP P := of_decide_eq_true hh
        exact decide_eq_true ⟨by rw [← hperm.length_eq]; exact hq.1, fun t ht => hq.2.1 t (hperm.mem_iff.2 ht), hperm.nodup_iff.1 hq.2.2⟩
      have E : ∀ R : List (Int × Int), R.length ≤ n → handB R = true → ∀ x : Nat, x < 10 → fromB R (x : Int) = true → R.length ≠ 0 → ∃ z : Nat, z < 10 ∧ Feas R (x : Int) z := fun R h1 h2 x h3 h4 h5 => (IH R x h1 h2 h3 h4).1 h5
      obtain ⟨z, hz, hfz⟩ := E Pv (by omega) hhv x hx hfv hv0
      refine ⟨fun _ => ⟨z, hz, (feas_perm hh hperm (x : Int) z hz).2 ((hb.feas hPvK hhT hv0 hx hkx hpv z hz).2 hfz)⟩, ?_⟩
      have hw := hb.walk hfy E Pv.length Pv x rfl (by omega) hPvK hhT hx hkx hfv hpv
      have hwP : wk P.length P (x : Int) = wk Pv.length Pv (x : Int) ++ wk Py.length Py (y : Int) := by
        rw [wk_perm P.length (x : Int) hh hperm, hm, show m + 1 = Pv.length + Py.length + 1 from by omega]
        exact hw
      obtain ⟨_, ihy⟩ := IH Py y (by omega) hhy hy10 hfy
      obtain ⟨_, ihv⟩ := IH Pv x (by omega) hhv hx hfv
      have g1 := gw_perm m (y : Int) hpp
      have g2 := gw_frame K hPvK m Py (y : Int) hPyK hky
      rw [gw_fuel m Py.length Py (y : Int) (hand_nd hhy) (by omega) (Nat.le_refl _), ihy] at g2
      rw [g2] at g1
      obtain ⟨g3, g4⟩ := g1
      simp only [List.nil_append] at g3 g4
      have g5 := gw_perm m (x : Int) g4
      rw [gw_fuel m Pv.length Pv (x : Int) (hand_nd hhv) (by omega) (Nat.le_refl _), ihv] at g5
      obtain ⟨g6, g7⟩ := g5
      simp only at g6 g7
      rw [hwP, hm, gw_some hy, ← hP', g3, g6, List.perm_nil.1 g7, List.reverse_append]
end Go.Proofs.Ytcofambcicnonaa

namespace Go.Proofs.Ytcofambcicnonaa
open Go.RowKit
set_option linter.unusedVariables false

/-- The least number from which there is a whole chain. -/
def startS (P : List (Int × Int)) : Option Nat := (List.range 10).find? fun x : Nat => fromB P (x : Int)
theorem startS_some {P : List (Int × Int)} {x : Nat} : startS P = some x ↔ x < 10 ∧ fromB P (x : Int) = true ∧ ∀ z : Nat, z < x → fromB P (z : Int) = false := by
  unfold startS
  rw [List.find?_range_eq_some]
  constructor
  · rintro ⟨h1, h2, h3⟩
    exact ⟨List.mem_range.1 h2, h1, fun z hz => by simpa using h3 z hz⟩
  · rintro ⟨h1, h2, h3⟩
    exact ⟨h2, List.mem_range.2 h1, fun z hz => by simpa using h3 z hz⟩
theorem startS_none {P : List (Int × Int)} : startS P = none ↔ ∀ x : Nat, x < 10 → fromB P (x : Int) = false := by
  unfold startS
  rw [List.find?_eq_none]
  constructor
  · intro h x hx
    simpa using h x (List.mem_range.2 hx)
  · intro h x hx
    simpa using h x (List.mem_range.1 hx)
/-- Where it stands at a tile. -/
theorem times_pos {P : List (Int × Int)} {q : Int} (h : 0 < timesI P q) : ∃ t ∈ P, t.1 = q ∨ t.2 = q := by
  refine Classical.byContradiction fun hno => ?_
  have : ∀ L : List (Int × Int), (∀ t ∈ L, t ∈ P) → timesI L q = 0 := by
    intro L
    induction L with
    | nil => intro _; rfl
    | cons t L ih =>
      intro hL
      rw [times_cons, ih (fun u hu => hL u (List.mem_cons_of_mem _ hu))]
      have : hitI t q = 0 := Classical.byContradiction fun hh => hno ⟨t, hL t List.mem_cons_self, hit_ends hh⟩
      omega
  have := this P (fun t h => h)
  omega
theorem times_tile {P : List (Int × Int)} (hn : P.Nodup) {x y : Int} (ht : tile2 x y ∈ P) : 0 < timesI P x := by
  rw [times_wo hn ht, i1_self]
  have := timesI_nonneg (woT P (tile2 x y)) x
  rcases i1_01 y x with h | h <;> rw [h] <;> omega
/-- All tiles hang together if the program says so. -/
theorem can_conn {P : List (Int × Int)} (hh : handB P = true) (hc : canV P false = true) {x : Nat} (hx : 0 < timesI P (x : Int)) : Conn P (x : Int) := by
  obtain ⟨t0, ht0, he⟩ := times_pos hx
  have hlx : lfn P (x : Int) = lfn P t0.1 := by
    rcases he with e | e
    · rw [e]
    · rw [← e, ends_con ht0]
  intro t ht
  rw [hlx]
  refine Classical.byContradiction fun hne => ?_
  unfold canV canB at hc
  rw [Bool.and_eq_true, decide_eq_true_eq] at hc
  have hp := hc.1
  unfold partsL partsTo at hp
  rw [List.filter_map, List.length_map] at hp
  have hin : ∀ u ∈ P, (lfn P u.1).toNat ∈ (List.range 10).filter ((fun p => !p.isEmpty) ∘ fun i : Nat => partAt P (i : Int)) := fun u hu => by
    have hg := hand_gd hh u hu
    simp only [goodB, numB, Bool.and_eq_true, decide_eq_true_eq] at hg
    have h0 := lfn_nonneg (hand_gd hh) (x := u.1) (by omega)
    have h1 := (lfn_isLeast P).le u.1
    refine List.mem_filter.2 ⟨List.mem_range.2 (by omega), ?_⟩
    simp only [Function.comp]
    have hm : u ∈ partAt P (((lfn P u.1).toNat : Nat) : Int) := by
      unfold partAt
      refine List.mem_filter.2 ⟨(sortP_perm hh).mem_iff.2 hu, ?_⟩
      rw [decide_eq_true_eq]
      omega
    cases hpa : partAt P (((lfn P u.1).toNat : Nat) : Int) with
    | nil => rw [hpa] at hm; simp at hm
    | cons a L => rfl
  have m1 := hin t ht
  have m2 := hin t0 ht0
  have hnn : ∀ u ∈ P, 0 ≤ lfn P u.1 := fun u hu => by
    have hg := hand_gd hh u hu
    simp only [goodB, numB, Bool.and_eq_true, decide_eq_true_eq] at hg
    exact lfn_nonneg (hand_gd hh) (by omega)
  have n1 := hnn t ht
  have n2 := hnn t0 ht0
  have hd : (lfn P t.1).toNat ≠ (lfn P t0.1).toNat := fun e => hne (by omega)
  generalize (List.range 10).filter ((fun p => !p.isEmpty) ∘ fun i : Nat => partAt P (i : Int)) = L at hp m1 m2
  match L, hp with
  | [], _ => simp at m1
  | [a], _ =>
    simp only [List.mem_singleton] at m1 m2
    exact hd (m1.trans m2.symm)
/-- The number with which the program begins. -/
def startI (P : List (Int × Int)) : Int := match oddTo P 10 with
  | d :: _ => d
  | [] => match numsTo P 10 with
    | d :: _ => d
    | [] => 0
theorem filter_head {p : Nat → Bool} {x : Nat} {L : List Int} (h : ((List.range 10).filter p).map (fun i : Nat => (i : Int)) = (x : Int) :: L) : x < 10 ∧ p x = true ∧ ∀ z : Nat, z < x → p z = false := by
  have hf : ((List.range 10).filter p).head? = some x := by
    cases hq : (List.range 10).filter p with
    | nil => rw [hq] at h; simp at h
    | cons a M =>
      rw [hq, List.map_cons] at h
      injection h with h1 _
      have : a = x := by omega
      rw [this]; rfl
  rw [List.head?_filter, List.find?_range_eq_some] at hf
  exact ⟨List.mem_range.1 hf.2.1, hf.1, fun z hz => by simpa using hf.2.2 z hz⟩
theorem start_same {P : List (Int × Int)} (hh : handB P = true) (hc : canV P false = true) : ∃ x : Nat, startS P = some x ∧ startI P = (x : Int) := by
  by_cases h0 : P.length = 0
  · have e0 : P = [] := List.eq_nil_of_length_eq_zero h0
    subst e0
    exact ⟨0, startS_some.2 ⟨by omega, by decide, fun z hz => absurd hz (Nat.not_lt_zero z)⟩, by rfl⟩
  have hn := hand_nd hh
  have fb : ∀ x : Nat, x < 10 → (fromB P (x : Int) = true ↔ 0 < timesI P (x : Int) ∧ (oc P = 0 ∨ (oc P = 2 ∧ oddB P (x : Int) = true))) := fun x hx => by
    rw [fromB_iff hh hx]
    constructor
    · rintro (h | ⟨h1, h2⟩)
      · exact absurd h h0
      · obtain ⟨y, _, ht⟩ := conn_fit (hand_gd hh) hx h0 h1
        exact ⟨times_tile hn ht, h2⟩
    · rintro ⟨h1, h2⟩
      exact .inr ⟨can_conn hh hc h1, h2⟩
  have hoc : oc P ≤ 2 := by
    unfold canV canB at hc
    rw [Bool.and_eq_true, decide_eq_true_eq, decide_eq_true_eq, oc_len] at hc
    simpa using hc.2
  have hev := odd_even (hand_gd hh)
  rw [oc_len] at hev
  unfold startI
  cases ho : oddTo P 10 with
  | cons d D =>
    have hm : d ∈ oddTo P 10 := by rw [ho]; exact List.mem_cons_self
    obtain ⟨x, _, rfl⟩ : ∃ i ∈ (List.range 10).filter (fun i : Nat => oddB P (i : Int)), (i : Int) = d := List.mem_map.1 hm
    have hf := filter_head (p := fun i : Nat => oddB P (i : Int)) (x := x) (L := D) ho
    have h2 : oc P = 2 := by
      have : oc P ≠ 0 := fun h => by
        have h3 := oc_len P
        rw [ho, h] at h3
        simp at h3
      omega
    have hodd : timesI P (x : Int) % 2 = 1 := of_decide_eq_true hf.2.1
    refine ⟨x, startS_some.2 ⟨hf.1, (fb x hf.1).2 ⟨by have := timesI_nonneg P (x : Int); omega, .inr ⟨h2, hf.2.1⟩⟩, fun z hz => ?_⟩, rfl⟩
    cases hb : fromB P (z : Int) with
    | false => rfl
    | true =>
      have h4 := ((fb z (by omega)).1 hb).2
      have h5 := hf.2.2 z hz
      rcases h4 with h4 | ⟨_, h4⟩
      · omega
      · rw [h5] at h4; cases h4
  | nil =>
    have h2 : oc P = 0 := by rw [← oc_len, ho]; rfl
    obtain ⟨t, ht⟩ : ∃ t, t ∈ P := ⟨P[0]'(by omega), List.getElem_mem _⟩
    cases hu : numsTo P 10 with
    | cons d D =>
      have hm : d ∈ numsTo P 10 := by rw [hu]; exact List.mem_cons_self
      obtain ⟨x, _, rfl⟩ : ∃ i ∈ (List.range 10).filter (fun i : Nat => decide (0 < timesI P (i : Int))), (i : Int) = d := List.mem_map.1 hm
      have hf := filter_head (p := fun i : Nat => decide (0 < timesI P (i : Int))) (x := x) (L := D) hu
      refine ⟨x, startS_some.2 ⟨hf.1, (fb x hf.1).2 ⟨of_decide_eq_true hf.2.1, .inl h2⟩, fun z hz => ?_⟩, rfl⟩
      cases hb : fromB P (z : Int) with
      | false => rfl
      | true =>
        have h4 := ((fb z (by omega)).1 hb).1
        have h5 := of_decide_eq_false (hf.2.2 z hz)
        exact absurd h4 h5
    | nil =>
      exfalso
      have hg := hand_gd hh t ht
      simp only [goodB, numB, Bool.and_eq_true, decide_eq_true_eq] at hg
      have e : tile2 t.1 t.2 = t := by unfold tile2; exact Prod.ext (by simp only; omega) (by simp only; omega)
      have hp := times_tile hn (e.symm ▸ ht : tile2 t.1 t.2 ∈ P)
      have hm : t.1.toNat ∈ (List.range 10).filter (fun i : Nat => decide (0 < timesI P (i : Int))) := List.mem_filter.2 ⟨List.mem_range.2 (by omega), by rw [decide_eq_true_eq]; rw [show ((t.1.toNat : Nat) : Int) = t.1 by omega]; exact hp⟩
      have hnil : (List.range 10).filter (fun i : Nat => decide (0 < timesI P (i : Int))) = [] := List.map_eq_nil_iff.1 hu
      rw [hnil] at hm
      simp at hm
/-- The first whole chain. -/
def fwL (P : List (Int × Int)) : List Int := match startS P with
  | some x => wk P.length P (x : Int)
  | none => []
theorem fwB_can {P : List (Int × Int)} (hh : handB P = true) : (startS P).isSome = canV P false := by
  cases hc : canV P false with
  | true =>
    obtain ⟨x, hx, _⟩ := start_same hh hc
    rw [hx]; rfl
  | false =>
    cases hs : startS P with
    | none => rfl
    | some x =>
      have h := startS_some.1 hs
      have := from_can hh h.1 h.2.1
      rw [hc] at this
      cases this
end Go.Proofs.Ytcofambcicnonaa

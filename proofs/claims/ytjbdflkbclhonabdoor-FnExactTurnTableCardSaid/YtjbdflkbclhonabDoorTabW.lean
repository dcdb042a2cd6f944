/- Rows of a table turned around in their place, rows and texts of a grid: the program's row, text, the library's Reverse of bytes; the specification's taDigits. -/
import Derived.Test.YtjbdflkbclhonabDoorTabX
namespace Go.Proofs.YtjbdflkbclhonabDoor
open Go.RowKit
set_option linter.unusedVariables false

/-- The first n cells of a block hold bytes and may be written. -/
def BytA (w : World) (g n : Nat) (F : Nat → Int) : Prop := ∀ j, j < n → w.cell? ⟨g, j, none⟩ = some (.int .u8 (F j)) ∧ w.frozen? ⟨g, j, none⟩ = false

theorem BytA.put {w : World} {g n : Nat} {F : Nat → Int} (h : BytA w g n F) {i : Nat} (hi : i < n) (u : Int) : BytA (w.setCell ⟨g, i, none⟩ (.int .u8 u)) g n (fun j => if j = i then u else F j) := by
  intro j hj
  refine ⟨?_, (World.frozen?_setCell _ _ _ _).trans (h j hj).2⟩
  show (w.setCell ⟨g, i, none⟩ (.int .u8 u)).cell? ⟨g, j, none⟩ = some (.int .u8 (if j = i then u else F j))
  by_cases e : j = i
  · subst e
    rw [if_pos rfl]
    exact World.cell?_setCell_same _ _ _ (h j hj).1
  · rw [if_neg e]
    exact (World.cell?_setCell_other _ _ _ _ (by intro x; injection x with _ x; exact e x.symm)).trans (h j hj).1

theorem BytA.dr {w : World} {g n : Nat} {F : Nat → Int} (h : BytA w g n F) : BytA w.drew g n F := h

theorem BytA.below {w w' : World} {g n : Nat} {F : Nat → Int} (h : BytA w g n F) (hb : Below w.heap.size w w') : BytA w' g n F := fun j hj => ⟨keepc hb (h j hj).1, (hb.frozen (p := ⟨g, j, none⟩) (block_lt (h j hj).1)).trans (h j hj).2⟩

theorem BytA.same {w : World} {g n : Nat} {F G : Nat → Int} (h : BytA w g n F) (e : ∀ j, j < n → F j = G j) : BytA w g n G := fun j hj => ⟨by rw [← e j hj]; exact (h j hj).1, (h j hj).2⟩

/-- All cells of other blocks are as they were. -/
def OthC (g : Nat) (w w' : World) : Prop := ∀ b o v, b ≠ g → w.cell? ⟨b, o, none⟩ = some v → w'.cell? ⟨b, o, none⟩ = some v

theorem OthC.refl (g : Nat) (w : World) : OthC g w w := fun _ _ _ _ h => h

theorem OthC.put {g : Nat} {w w' : World} (h : OthC g w w') (i : Nat) (u : Value) : OthC g w (w'.setCell ⟨g, i, none⟩ u) := fun b o v hb hc => (World.cell?_setCell_other _ _ _ _ (by intro x; injection x with x; exact hb x.symm)).trans (h b o v hb hc)

theorem OthC.dr {g : Nat} {w w' : World} (h : OthC g w w') : OthC g w w'.drew := h

/-- m cells from off on turned around. -/
def revF (F : Nat → Int) (off m : Nat) (t : Nat) : Int := if off ≤ t ∧ t < off + m then F (2 * off + (m - 1) - t) else F t

set_option maxRecDepth 100000 in
set_option maxHeartbeats 2000000 in
theorem c_revU (base g off m n : Nat) (F : Nat → Int) (w : World) (hB : BytA w g n F) (hm : 0 < m) (hmn : off + m ≤ n) (hn : n ≤ 1048576) (hg : base ≤ g) :
    Calls Tryd.prog 43 #[.slice (some ⟨g, off, none⟩) m m] w fun e w' => e = .returned (.tuple #[]) ∧ BytA w' g n (revF F off m) ∧ OthC g w w' ∧ Below base w w' := by
  obtain ⟨d, hd⟩ : ∃ d, m = d + 1 := ⟨m - 1, by omega⟩
  subst hd
  have hl' : d ≤ 1048576 := by omega
  clear hm
  go_enter Tryd.func43, Tryd.ntmps43
  go_wp2
  go_loopw [2, 3] (fun i j wr => ∃ (k l : Nat) (Z : Nat → Int), k + l = d ∧ k ≤ l + 1 ∧ i = .int .i64 k ∧ j = .int .i64 l ∧ (∀ t, t < n → Z t = if (off ≤ t ∧ t < off + k) ∨ (off + l < t ∧ t < off + (d + 1)) then F (2 * off + d - t) else F t) ∧ BytA wr g n Z ∧ OthC g w wr ∧ Below base w wr) (fun i _ _ => d + 1 - (intOf i).toNat)
  case atStart => exact ⟨0, d, F, by omega, by omega, rfl, by go_num, fun t ht => by rw [if_neg (by omega)], hB, OthC.refl _ _, Below.refl _ _⟩
  case round =>
    clear hB
    obtain ⟨k, l, Z, hkl, hk, rfl, rfl, hv, hZ, hO, hb⟩ := hrel
    by_cases hlt : k < l
    · have x1 := (hZ (off + k) (by omega)).1
      have x2 := (hZ (off + l) (by omega)).1
      have f1 := (hZ (off + k) (by omega)).2
      have f2 := (hZ (off + l) (by omega)).2
      have Hv := Lib.hid hv
      have HZ := Lib.hid hZ
      have HO := Lib.hid hO
      have Hb := Lib.hid hb
      have Hkl := Lib.hid hkl
      have Hmn := Lib.hid hmn
      have i0 : (0 : Int) ≤ (k : Int) := by omega
      have i1 : (k : Int) < (d : Int) + 1 := by omega
      have i2 : (0 : Int) ≤ (l : Int) := by omega
      have i3 : (l : Int) < (d : Int) + 1 := by omega
      have i4 : (k : Int) < (l : Int) := by omega
      generalize hp : Z (off + k) = p at x1
      generalize hq : Z (off + l) = q at x2
      have Hp := Lib.hid hp
      have Hq := Lib.hid hq
      obtain ⟨v', hy⟩ := cell?_setCell_some (w := wr.drew) (p := ⟨g, off + k, none⟩) (x := .int .u8 q) (q := ⟨g, off + l, none⟩) (v := .int .u8 q) x2
      clear hv hZ hO hb hkl hp hq hmn
      go_wp2
      go_region
      go_wp2
      go_roundw
      case rel =>
        have hkl := Hkl.out
        have hmn := Hmn.out
        refine ⟨k + 1, l - 1, fun j => if j = off + l then p else if j = off + k then q else Z j, by omega, by omega, by go_num, by go_num, fun t ht => ?_, ((HZ.out.dr.put (i := off + k) (by omega) q).put (i := off + l) (by omega) p), (HO.out.dr.put _ _).put _ _, ((Hb.out.setCell hg _).setCell hg _).drew⟩
        have h1 := Hv.out t ht
        have h2 := Hv.out (off + k) (by omega)
        have h3 := Hv.out (off + l) (by omega)
        rw [Hp.out, if_neg (by omega)] at h2
        rw [Hq.out, if_neg (by omega)] at h3
        simp only
        by_cases e1 : t = off + l
        · rw [if_pos e1, if_pos (by omega), h2]
          congr 1
          omega
        · rw [if_neg e1]
          by_cases e2 : t = off + k
          · rw [if_pos e2, if_pos (by omega), h3]
            congr 1
            omega
          · rw [if_neg e2, h1]
            by_cases e3 : (off ≤ t ∧ t < off + k) ∨ (off + l < t ∧ t < off + (d + 1))
            · rw [if_pos e3, if_pos (by omega)]
            · rw [if_neg e3, if_neg (by omega)]
      case measure => simp [intOf]; omega
    · have i4 : ¬ (k : Int) < (l : Int) := by omega
      have hR := hZ.same (G := revF F off (d + 1)) (fun t ht => by
        rw [hv t ht]
        unfold revF
        by_cases e1 : off ≤ t ∧ t < off + (d + 1)
        · rw [if_pos e1]
          by_cases e2 : (off ≤ t ∧ t < off + k) ∨ (off + l < t ∧ t < off + (d + 1))
          · rw [if_pos e2, Nat.add_sub_cancel]
          · rw [if_neg e2]
            congr 1
            omega
        · rw [if_neg e1, if_neg (by omega)])
      clear hv hZ
      go_wp2
      go_end0
      exact ⟨rfl, hR, hO, hb⟩

set_option maxRecDepth 100000 in
set_option maxHeartbeats 1000000 in
theorem c_gridRow (b off n c W i p : Nat) (w : World) (hW : 0 < W) (hp : p = i * W) (hn : p + W ≤ n) (hc : n ≤ c) (hn3 : n ≤ 1048576) (hi : i ≤ 1048576) :
    Calls Tryd.prog 41 #[.agg #[.slice (some ⟨b, off, none⟩) n c, .int .i64 W], .int .i64 i] w fun e w' => e = .returned (.slice (some ⟨b, off + p, none⟩) W W) ∧ Below w.heap.size w w' := by
  have e1 : (i : Int) * (W : Int) = (p : Int) := by rw [hp]; rfl
  have e2 : ((i : Int) + 1) * (W : Int) = (p : Int) + (W : Int) := by rw [Int.add_mul, e1, Int.one_mul]
  have iw0 : IntKind.i64.wrap (i : Int) = (i : Int) := IntWalk.i64_in _ (by omega)
  have iw1 : IntKind.i64.wrap ((i : Int) + 1) = (i : Int) + 1 := IntWalk.i64_in _ (by omega)
  have iw2 : IntKind.i64.wrap (p : Int) = (p : Int) := IntWalk.i64_in _ (by omega)
  have iw3 : IntKind.i64.wrap ((p : Int) + (W : Int)) = (p : Int) + (W : Int) := IntWalk.i64_in _ (by omega)
  have i0 : (0 : Int) ≤ (p : Int) := by omega
  have i1 : (p : Int) ≤ (p : Int) + (W : Int) := by omega
  have i2 : (p : Int) + (W : Int) ≤ (c : Int) := by omega
  have n1 : ¬ W = 0 := by omega
  have n2 : ¬ (W : Int) = 0 := by omega
  clear hp
  go_enter Tryd.func41, Tryd.ntmps41
  go_wp2_with fail
  go_quiet (fail)
  go_wp2
  go_ret
  refine ⟨?_, by first | exact (by go_grown : Below w.heap.size w _) | exact (belowN (by go_grown) _)⟩
  show Ending.returned (.slice (some ⟨b, off + p, none⟩) (p + W - p) (p + W - p)) = _
  rw [Nat.add_sub_cancel_left]

end Go.Proofs.YtjbdflkbclhonabDoor

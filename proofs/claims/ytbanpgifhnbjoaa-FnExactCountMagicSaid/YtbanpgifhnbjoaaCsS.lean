/- What a search for chains keeps in memory: a chain, and which tiles are left. -/
import Derived.Test.YtbanpgifhnbjoaaCsM
import Derived.Test.YtbanpgifhnbjoaaChn
import Derived.Test.YtbanpgifhnbjoaaGamB
namespace Go.Proofs.Ytbanpgifhnbjoaa
open Go.RowKit
set_option linter.unusedVariables false

/-- Which tiles are left. -/
def fM (H : List (Int × Int)) (c : List Int) (a b : Nat) : Bool := decide (tile2 (a : Int) b ∈ H) && decide (tile2 (a : Int) b ∉ tilesC c)
theorem fM_lay (H : List (Int × Int)) {c : List Int} (h : c.length ≠ 0) (x : Int) (a b : Nat) : fM H (c ++ [x]) a b = if tile2 (a : Int) b = tile2 (lastC c) x then false else fM H c a b := by
  unfold fM
  rw [tilesC_snoc h]
  split
  · rename_i e; rw [e]; simp
  · rename_i e; simp [e]
theorem fM_take {H : List (Int × Int)} {c : List Int} (ho : OkC H c) (h : c.dropLast.length ≠ 0) (a b : Nat) : fM H c.dropLast a b = if tile2 (a : Int) b = tile2 (lastC c.dropLast) (lastC c) then true else fM H c a b := by
  have h0 : c.length ≠ 0 := fun e => h (by rw [List.length_dropLast]; omega)
  have e := snoc_of h0
  have e2 := tilesC_snoc h (lastC c)
  rw [← e] at e2
  have hnd := ho.nd
  rw [e2, List.nodup_append] at hnd
  unfold fM
  rw [e2]
  split
  · rename_i e3
    rw [e3]
    have h1 := ho.mem (tile2 (lastC c.dropLast) (lastC c)) (by rw [e2]; simp)
    have h2 : tile2 (lastC c.dropLast) (lastC c) ∉ tilesC c.dropLast := fun hm => hnd.2.2 _ hm _ (by simp) rfl
    simp [h1, h2]
  · rename_i e3; simp [e3]
theorem fM_one {H : List (Int × Int)} {c : List Int} (h : c.length ≤ 1) (a b : Nat) : fM H c a b = fM H [] a b := by
  have e : tilesC c = tilesC [] := by
    unfold tilesC
    rw [show c.length - 1 = 0 from by omega]
    rfl
  unfold fM
  rw [e]
theorem fit_fM {H : List (Int × Int)} {c : List Int} {l x : Nat} (h : c.length ≠ 0) (hl : lastC c = (l : Int)) : fitC H c (x : Int) = fM H c l x := by
  unfold fitC fM
  rw [decide_eq_false h, hl, Bool.false_or]
theorem lastC_num {H : List (Int × Int)} {c : List Int} (ho : OkC H c) : ∃ l : Nat, l ≤ 9 ∧ lastC c = (l : Int) := numB_nat (numB_getD ho.num _)

/-- A board of marks that lies from cell off of a block on. -/
structure MkAt (g off : Nat) (f : Nat → Nat → Bool) (w : World) : Prop where
  m : ∀ a b : Nat, a ≤ 9 → b ≤ 9 → w.cell? ⟨g, off + (a * 10 + b), none⟩ = some (.bool (f a b))
  fz : ∀ m, w.frozen? ⟨g, m, none⟩ = false
theorem MkAt.of_block {g off : Nat} {f : Nat → Nat → Bool} {w w' : World} (h : MkAt g off f w) (hb : w'.heap[g]? = w.heap[g]?) : MkAt g off f w' :=
  ⟨fun a b ha hb' => (World.cell?_of_block (a := ⟨g, off + (a * 10 + b), none⟩) hb).trans (h.m a b ha hb'), fun m => by have := h.fz m; unfold World.frozen? at this ⊢; simp only [hb]; exact this⟩
theorem MkAt.lt {g off : Nat} {f : Nat → Nat → Bool} {w : World} (h : MkAt g off f w) : g < w.heap.size := block_lt (h.m 0 0 (by omega) (by omega))
theorem MkAt.set {g off : Nat} {f f' : Nat → Nat → Bool} {w : World} {p q : Nat} {v : Bool} (h : MkAt g off f w) (hp : p ≤ 9) (hq : q ≤ 9)
    (hf : ∀ a b : Nat, f' a b = if tile2 (a : Int) b = tile2 (p : Int) q then v else f a b) :
    MkAt g off f' ((w.setCell ⟨g, off + (p * 10 + q), none⟩ (.bool v)).setCell ⟨g, off + (q * 10 + p), none⟩ (.bool v)) := by
  obtain ⟨h1, h2⟩ := h
  refine ⟨fun a b ha hb => ?_, fun m => by simp [h2]⟩
  have c1 := h1 p q hp hq
  have c2 := h1 q p hq hp
  rw [hf]
  by_cases e2 : a * 10 + b = q * 10 + p
  · have ea : a = q := by omega
    have eb : b = p := by omega
    subst ea eb
    have c3 : ∃ v', (w.setCell ⟨g, off + (b * 10 + a), none⟩ (.bool v)).cell? ⟨g, off + (a * 10 + b), none⟩ = some v' := by
      by_cases e : a * 10 + b = b * 10 + a
      · rw [e, World.cell?_setCell_same _ _ _ c1]; exact ⟨_, rfl⟩
      · rw [World.cell?_setCell_other _ _ _ _ (by first | (simp; omega) | simp)]; exact ⟨_, c2⟩
    obtain ⟨v', c3⟩ := c3
    rw [World.cell?_setCell_same _ _ _ c3, if_pos (tile2_comm _ _)]
  · rw [World.cell?_setCell_other _ _ _ _ (by first | (simp; omega) | simp)]
    by_cases e1 : a * 10 + b = p * 10 + q
    · have ea : a = p := by omega
      have eb : b = q := by omega
      subst ea eb
      rw [World.cell?_setCell_same _ _ _ c1, if_pos rfl]
    · rw [World.cell?_setCell_other _ _ _ _ (by first | (simp; omega) | simp), h1 a b ha hb, if_neg]
      rw [tile2_eq]
      omega

/-- The chain's slice in block g, and the chain's own row. -/
def ChAt (lo g : Nat) (c : List Int) (w : World) : Prop := ∃ A cap, w.cell? ⟨g, 0, none⟩ = some (.slice A c.length cap) ∧ w.ownsRow lo 3 1 (.slice A c.length cap) c.length (cellsI c) ∧ ∀ b, (Value.slice A c.length cap).ownBlock = some b → b ≠ g
theorem ChAt.keep {lo g : Nat} {c : List Int} {w w' : World} (h : ChAt lo g c w) (hb : Below w.heap.size w w') : ChAt lo g c w' := by
  obtain ⟨A, cap, x0, ho, hne⟩ := h
  exact ⟨A, cap, keepc hb x0, own_keep ho hb, hne⟩
/-- The search's own memory: .. and the marks. -/
structure CsAt (H : List (Int × Int)) (lo g : Nat) (c : List Int) (w : World) : Prop where
  ch : ChAt lo g c w
  mks : MkAt g 1 (fM H c) w
section
variable {H : List (Int × Int)} {lo g : Nat} {c : List Int} {w w' : World}
theorem CsAt.lt (h : CsAt H lo g c w) : g < w.heap.size := h.mks.lt
theorem CsAt.keep (h : CsAt H lo g c w) (hb : Below w.heap.size w w') : CsAt H lo g c w' := by
  obtain ⟨A, cap, x0, ho, hne⟩ := h.ch
  exact ⟨⟨A, cap, keepc hb x0, own_keep ho hb, hne⟩, h.mks.of_block (hb.block g h.lt)⟩
theorem CsAt.drew (h : CsAt H lo g c w) : CsAt H lo g c w.drew := by
  obtain ⟨A, cap, x0, ho, hne⟩ := h.ch
  exact ⟨⟨A, cap, x0, own_drew ho, hne⟩, ⟨h.mks.m, h.mks.fz⟩⟩
/-- The blocks that are the search's own. -/
def OwnK (g : Nat) (w : World) (k : Nat) : Prop := k = g ∨ ∃ v, w.cell? ⟨g, 0, none⟩ = some v ∧ v.ownBlock = some k
end
end Go.Proofs.Ytbanpgifhnbjoaa

/- The program's answers on blocks. -/
import Derived.Test.YtepedcdnaodhcaaBlkJ
namespace Go.Proofs.Ytepedcdnaodhcaa
open Go.RowKit
set_option linter.unusedVariables false

theorem own_capM {w : World} {base e size n c : Nat} {A : Option Addr} {cs : List Value} (h : w.ownsRow base e size (.slice A n c) n cs) : c ≤ 9223372036854775807 := by
  obtain ⟨_, ⟨hv, hn⟩ | ⟨g, cap, cur, hv, _, _, _, hm, _⟩⟩ := h
  · injection hv with h1 h2 h3
    omega
  · injection hv with h1 h2 h3
    unfold maxLen at hm
    omega

theorem blkF_yes {rss : List (List Int)} (h : blkB rss = true) : blkF rss = rss.flatten := by simp [blkF, h]

theorem blkW_yes {rss : List (List Int)} (h : blkB rss = true) : blkW rss = widB rss := by simp [blkW, h]

theorem blkF_no {rss : List (List Int)} (h : blkB rss = false) : blkF rss = [] := by simp [blkF, h]

theorem blkW_no {rss : List (List Int)} (h : blkB rss = false) : blkW rss = 0 := by simp [blkW, h]

/-- The block of rows, told with its numbers F, its width and height. -/
theorem c_blockYes (A : Option Addr) (c : Nat) (rss : List (List Int)) (w : World) (hr : RdII w A rss) (hl : rss.length ≤ 9223372036854775807) (hlr : ∀ k, k < rss.length → (rss.getD k []).length ≤ 9223372036854775807) (h : blkB rss = true) :
    Calls Try.prog 86 #[.slice A rss.length c] w fun e w' => ∃ A2 c2, e = .returned (.tuple #[.agg #[.slice A2 rss.flatten.length c2, .int .i64 (widB rss)], .bool true]) ∧ w'.ownsRow w.heap.size 3 1 (.slice A2 rss.flatten.length c2) rss.flatten.length (cellsI rss.flatten) ∧ rss.flatten.length ≤ c2 ∧ c2 ≤ 9223372036854775807 ∧ Below w.heap.size w w' :=
  (c_blockOf A c rss w hr hl hlr).mono fun e w' ⟨A2, c2, h1, h2, h3⟩ => by
    rw [blkF_yes h, blkW_yes h, h] at h1
    rw [blkF_yes h] at h2
    exact ⟨A2, c2, h1, h2, own_cap h2, own_capM h2, h3⟩

theorem c_blockNo (A : Option Addr) (c : Nat) (rss : List (List Int)) (w : World) (hr : RdII w A rss) (hl : rss.length ≤ 9223372036854775807) (hlr : ∀ k, k < rss.length → (rss.getD k []).length ≤ 9223372036854775807) (h : blkB rss = false) :
    Calls Try.prog 86 #[.slice A rss.length c] w fun e w' => ∃ A2 c2, e = .returned (.tuple #[.agg #[.slice A2 0 c2, .int .i64 0], .bool false]) ∧ Below w.heap.size w w' :=
  (c_blockOf A c rss w hr hl hlr).mono fun e w' ⟨A2, c2, h1, h2, h3⟩ => by
    rw [blkF_no h, blkW_no h, h] at h1
    exact ⟨A2, c2, h1, h3⟩

theorem flat_bd {rss : List (List Int)} (h : blkB rss = true) (k : Nat) : 0 ≤ rss.flatten.getD k 0 ∧ rss.flatten.getD k 0 ≤ 9 := by
  have := numB_getD (pairs2_num (shape_even (blk_shape h)) (blk_hand h)) k
  simpa [numB] using this

theorem flat_rows {rss : List (List Int)} (h : shapeP rss) : sumsL (fun i j => rss.flatten.getD (i * widB rss + j) 0) rss.length (widB rss) = sumsL (matF rss) rss.length (widB rss) :=
  sumsL_same fun i j hi hj => flat_get rss (widB rss) h.2.2.2 i j hi hj

theorem flat_cols {rss : List (List Int)} (h : shapeP rss) : sumsL (fun i j => rss.flatten.getD (j * widB rss + i) 0) (widB rss) rss.length = sumsL (fun c i => matF rss i c) (widB rss) rss.length :=
  sumsL_same fun i j hi hj => flat_get rss (widB rss) h.2.2.2 j i hj hi

end Go.Proofs.Ytepedcdnaodhcaa

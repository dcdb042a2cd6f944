/- The program's answers on blocks. -/
import Derived.Test.YtbanpgifhnbjoaaBlkJ
namespace Go.Proofs.Ytbanpgifhnbjoaa
open Go.RowKit
set_option linter.unusedVariables false

theorem own_capM {w : World} {base e size n c : Nat} {A : Option Addr} {cs : List Value} (h : w.ownsRow base e size (.slice A n c) n cs) : c ≤ 9223372036854775807 := by
  obtain ⟨_, ⟨hv, hn⟩ | ⟨g, cap, cur, hv, _, _, _, hm, _⟩⟩ := h
  · injection hv with h1 h2 h3
    omega
  · injection hv with h1 h2 h3
    unfold maxLen at hm
    omega

theorem blkF_yes {rss : List (List Int)} (h : blkB rss = true) : blkF rss = rss.flatten := by simp [blkF, h]

theorem blkW_yes {rss : List (List Int)} (h : blkB rss = true) : blkW rss = widB rss := by simp [blkW, h]

theorem blkF_no {rss : List (List Int)} (h : blkB rss = false) : blkF rss = [] := by simp [blkF, h]

theorem blkW_no {rss : List (List Int)} (h : blkB rss = false) : blkW rss = 0 := by simp [blkW, h]

theorem flat_bd {rss : List (List Int)} (h : blkB rss = true) (k : Nat) : 0 ≤ rss.flatten.getD k 0 ∧ rss.flatten.getD k 0 ≤ 9 := by
  have := numB_getD (pairs2_num (shape_even (blk_shape h)) (blk_hand h)) k
  simpa [numB] using this

theorem flat_rows {rss : List (List Int)} (h : shapeP rss) : sumsL (fun i j => rss.flatten.getD (i * widB rss + j) 0) rss.length (widB rss) = sumsL (matF rss) rss.length (widB rss) :=
  sumsL_same fun i j hi hj => flat_get rss (widB rss) h.2.2.2 i j hi hj

theorem flat_cols {rss : List (List Int)} (h : shapeP rss) : sumsL (fun i j => rss.flatten.getD (j * widB rss + i) 0) (widB rss) rss.length = sumsL (fun c i => matF rss i c) (widB rss) rss.length :=
  sumsL_same fun i j hi hj => flat_get rss (widB rss) h.2.2.2 j i hj hi

end Go.Proofs.Ytbanpgifhnbjoaa

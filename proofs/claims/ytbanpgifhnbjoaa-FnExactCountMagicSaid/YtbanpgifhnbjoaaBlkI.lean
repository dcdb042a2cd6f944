/- The program's blocks. -/
import Derived.Test.YtbanpgifhnbjoaaBlkS
import Derived.Test.YtbanpgifhnbjoaaWinJ
namespace Go.Proofs.Ytbanpgifhnbjoaa
open Go.RowKit
set_option linter.unusedVariables false

theorem own_set_low {w : World} {base e size n g j : Nat} {v u : Value} {cs : List Value} (h : w.ownsRow base e size v n cs) (hg : g < base) : (w.setCell ⟨g, j, none⟩ u).ownsRow base e size v n cs := by
  refine h.kept (grown_set (World.grownBy.refl w (some g)) j u) ?_
  cases hX : v.ownBlock with
  | none => exact .inl rfl
  | some x => exact .inr (fun e => by injection e with e; have := (h.lt x hX).1; omega)

def blkF (rss : List (List Int)) : List Int := if blkB rss then rss.flatten else []

def blkW (rss : List (List Int)) : Nat := if blkB rss then widB rss else 0

def RetBlk (w : World) (rss : List (List Int)) (e : Ending) (w' : World) : Prop :=
  ∃ A c, e = .returned (.tuple #[.agg #[.slice A (blkF rss).length c, .int .i64 (blkW rss)], .bool (blkB rss)]) ∧ w'.ownsRow w.heap.size 3 1 (.slice A (blkF rss).length c) (blkF rss).length (cellsI (blkF rss)) ∧ Below w.heap.size w w'

theorem retBlk_no {w w' : World} {rss : List (List Int)} {e : Ending} (h : blkB rss = false) (he : e = .returned (.tuple #[.agg #[.slice none 0 0, .int .i64 0], .bool false])) (hb : Below w.heap.size w w') : RetBlk w rss e w' := by
  have e1 : blkF rss = [] := by simp [blkF, h]
  have e2 : blkW rss = 0 := by simp [blkW, h]
  refine ⟨none, 0, ?_, ?_, hb⟩
  · rw [he, e1, e2, h]; rfl
  · rw [e1]; exact World.ownsRow_nil _ _ _ _
end Go.Proofs.Ytbanpgifhnbjoaa

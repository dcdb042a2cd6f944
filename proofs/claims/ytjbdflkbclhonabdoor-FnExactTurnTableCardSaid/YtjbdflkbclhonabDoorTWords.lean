/- Rows: a text cut at each slash, as the specification's loop and as the library's Split do. -/
import Derived.Test.YtjbdflkbclhonabDoorMap
import Derived.Lib.SplitLaws
import Derived.Lib.IndexBytes
namespace Go.Proofs.YtjbdflkbclhonabDoor
open Go.RowKit
set_option linter.unusedVariables false

def rowsW : List UInt8 → List (List UInt8)
  | [] => [[]]
  | b :: l => if b = 47 then [] :: rowsW l else (b :: (rowsW l).headD []) :: (rowsW l).tail
theorem rowsW_ne (l : List UInt8) : rowsW l ≠ [] := by
  cases l with
  | nil => simp [rowsW]
  | cons b l => unfold rowsW; split <;> simp
theorem rowsW_hit : ∀ (pre rest : List UInt8), 47 ∉ pre → rowsW (pre ++ 47 :: rest) = pre :: rowsW rest
  | [], rest, _ => by simp [rowsW]
  | b :: pre, rest, h => by
    have hb : b ≠ 47 := fun e => h (by simp [e])
    have ih := rowsW_hit pre rest (fun e => h (by simp [e]))
    show rowsW (b :: (pre ++ 47 :: rest)) = _
    rw [rowsW, if_neg hb, ih]
    rfl
theorem rowsW_none : ∀ (l : List UInt8), 47 ∉ l → rowsW l = [l]
  | [], _ => rfl
  | b :: l, h => by
    have hb : b ≠ 47 := fun e => h (by simp [e])
    have ih := rowsW_none l (fun e => h (by simp [e]))
    rw [rowsW, if_neg hb, ih]
    rfl
theorem ib_casesW : ∀ (s : List UInt8), (Lib.indexByte s 47 = -1 ∧ 47 ∉ s) ∨ ∃ i : Nat, Lib.indexByte s 47 = i ∧ i < s.length ∧ 47 ∉ s.take i ∧ s = s.take i ++ 47 :: s.drop (i + 1)
  | [] => .inl ⟨rfl, by simp⟩
  | b :: s => by
    by_cases hb : b = 47
    · subst hb
      exact .inr ⟨0, by simp [Lib.indexByte], by simp, by simp, by simp⟩
    · have hb2 : (b == 47) = false := beq_eq_false_iff_ne.2 hb
      rcases ib_casesW s with ⟨h1, h2⟩ | ⟨i, h1, h0, h2, h3⟩
      · refine .inl ⟨?_, by simp [h2, Ne.symm hb]⟩
        rw [Lib.indexByte, hb2, h1]
        rfl
      · refine .inr ⟨i + 1, ?_, by simp; omega, ?_, ?_⟩
        · rw [Lib.indexByte, hb2, h1]
          have : ((i : Int) == -1) = false := beq_eq_false_iff_ne.2 (by omega)
          rw [this]
          simp
        · simp [h2, Ne.symm hb]
        · simp only [List.take_succ_cons, List.drop_succ_cons, List.cons_append]
          rw [← h3]
def slashB : ByteArray := ⟨#[47]⟩
theorem split_rowsW : ∀ (k : Nat) (s : ByteArray), Lib.countB s slashB = k → (Lib.splitB slashB 0 k s).map (·.data.toList) = rowsW s.data.toList
  | 0, s, hk => by
    rcases ib_casesW s.data.toList with ⟨h1, h2⟩ | ⟨i, h1, h0, h2, h3⟩
    · rw [rowsW_none _ h2]
      rfl
    · have hix : Lib.indexB s slashB = i := by
        show Lib.index s.data.toList [47] = i
        rw [Lib.index_one, h1]
      have := Lib.countB_hit s slashB i (Nat.le_refl _) hix
      omega
  | k + 1, s, hk => by
    rcases ib_casesW s.data.toList with ⟨h1, h2⟩ | ⟨i, h1, h0, h2, h3⟩
    · have hix : Lib.indexB s slashB = -1 := by
        show Lib.index s.data.toList [47] = -1
        rw [Lib.index_one, h1]
      have := Lib.countB_miss s slashB hix
      omega
    · have hix : Lib.indexB s slashB = i := by
        show Lib.index s.data.toList [47] = i
        rw [Lib.index_one, h1]
      have hc := Lib.countB_hit s slashB i (Nat.le_refl _) hix
      rw [Lib.splitB_hit slashB 0 k s i hix, List.map_cons, split_rowsW k _ (by omega), Lib.extract_from_zero, Lib.extract_to_end]
      conv => rhs; rw [h3, rowsW_hit _ _ h2]
      rfl
theorem split_allW (s : ByteArray) : (Lib.splitB slashB 0 (Lib.countB s slashB) s).map (·.data.toList) = rowsW s.data.toList := split_rowsW _ s rfl
theorem split_lenW (s : ByteArray) : (Lib.splitB slashB 0 (Lib.countB s slashB) s).length = Lib.countB s slashB + 1 := Lib.splitB_all slashB (Nat.le_refl _) 0 _ s rfl

theorem rowsW_size : ∀ (l : List UInt8), ((rowsW l).map List.length).sum + (rowsW l).length = l.length + 1
  | [] => rfl
  | b :: l => by
    have ih := rowsW_size l
    unfold rowsW
    split
    · simp at ih ⊢; omega
    · cases hw : rowsW l with
      | nil => exact absurd hw (rowsW_ne l)
      | cons w ws =>
        rw [hw] at ih
        simp at ih ⊢
        omega
end Go.Proofs.YtjbdflkbclhonabDoor

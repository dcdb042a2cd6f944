/- Words: a text cut at each comma, as the specification's loop and as the library's Split do. -/
import Derived.Test.YtjdnkcdnppcbhabDoorHText
import Derived.Lib.SplitLaws
import Derived.Lib.IndexBytes
namespace Go.Proofs.YtjdnkcdnppcbhabDoor
open Go.RowKit
set_option linter.unusedVariables false

def wordsL : List UInt8 → List (List UInt8)
  | [] => [[]]
  | b :: l => if b = 44 then [] :: wordsL l else (b :: (wordsL l).headD []) :: (wordsL l).tail
theorem words_ne (l : List UInt8) : wordsL l ≠ [] := by
  cases l with
  | nil => simp [wordsL]
  | cons b l => unfold wordsL; split <;> simp
theorem words_hit : ∀ (pre rest : List UInt8), 44 ∉ pre → wordsL (pre ++ 44 :: rest) = pre :: wordsL rest
  | [], rest, _ => by simp [wordsL]
  | b :: pre, rest, h => by
    have hb : b ≠ 44 := fun e => h (by simp [e])
    have ih := words_hit pre rest (fun e => h (by simp [e]))
    show wordsL (b :: (pre ++ 44 :: rest)) = _
    rw [wordsL, if_neg hb, ih]
    rfl
theorem words_none : ∀ (l : List UInt8), 44 ∉ l → wordsL l = [l]
  | [], _ => rfl
  | b :: l, h => by
    have hb : b ≠ 44 := fun e => h (by simp [e])
    have ih := words_none l (fun e => h (by simp [e]))
    rw [wordsL, if_neg hb, ih]
    rfl
theorem ib_cases : ∀ (s : List UInt8), (Lib.indexByte s 44 = -1 ∧ 44 ∉ s) ∨ ∃ i : Nat, Lib.indexByte s 44 = i ∧ i < s.length ∧ 44 ∉ s.take i ∧ s = s.take i ++ 44 :: s.drop (i + 1)
  | [] => .inl ⟨rfl, by simp⟩
  | b :: s => by
    by_cases hb : b = 44
    · subst hb
      exact .inr ⟨0, by simp [Lib.indexByte], by simp, by simp, by simp⟩
    · have hb2 : (b == 44) = false := beq_eq_false_iff_ne.2 hb
      rcases ib_cases s with ⟨h1, h2⟩ | ⟨i, h1, h0, h2, h3⟩
      · refine .inl ⟨?_, by simp [h2, Ne.symm hb]⟩
        rw [Lib.indexByte, hb2, h1]
        rfl
      · refine .inr ⟨i + 1, ?_, by simp; omega, ?_, ?_⟩
        · rw [Lib.indexByte, hb2, h1]
          have : ((i : Int) == -1) = false := beq_eq_false_iff_ne.2 (by omega)
          rw [this]
          simp
        · simp [h2, Ne.symm hb]
        · simp only [List.take_succ_cons, List.drop_succ_cons, List.cons_append]
          rw [← h3]
def comma : ByteArray := ⟨#[44]⟩
theorem split_words : ∀ (k : Nat) (s : ByteArray), Lib.countB s comma = k → (Lib.splitB comma 0 k s).map (·.data.toList) = wordsL s.data.toList
  | 0, s, hk => by
    rcases ib_cases s.data.toList with ⟨h1, h2⟩ | ⟨i, h1, h0, h2, h3⟩
    · rw [words_none _ h2]
      rfl
    · have hix : Lib.indexB s comma = i := by
        show Lib.index s.data.toList [44] = i
        rw [Lib.index_one, h1]
      have := Lib.countB_hit s comma i (Nat.le_refl _) hix
      omega
  | k + 1, s, hk => by
    rcases ib_cases s.data.toList with ⟨h1, h2⟩ | ⟨i, h1, h0, h2, h3⟩
    · have hix : Lib.indexB s comma = -1 := by
        show Lib.index s.data.toList [44] = -1
        rw [Lib.index_one, h1]
      have := Lib.countB_miss s comma hix
      omega
    · have hix : Lib.indexB s comma = i := by
        show Lib.index s.data.toList [44] = i
        rw [Lib.index_one, h1]
      have hc := Lib.countB_hit s comma i (Nat.le_refl _) hix
      rw [Lib.splitB_hit comma 0 k s i hix, List.map_cons, split_words k _ (by omega), Lib.extract_from_zero, Lib.extract_to_end]
      conv => rhs; rw [h3, words_hit _ _ h2]
      rfl
theorem split_all (s : ByteArray) : (Lib.splitB comma 0 (Lib.countB s comma) s).map (·.data.toList) = wordsL s.data.toList := split_words _ s rfl
theorem split_len (s : ByteArray) : (Lib.splitB comma 0 (Lib.countB s comma) s).length = Lib.countB s comma + 1 := Lib.splitB_all comma (Nat.le_refl _) 0 _ s rfl

/-- A word that spells two numbers, and the tile that it spells. -/
def okW (w : List UInt8) : Bool := decide (w.length = 2) && w.all (fun b => decide (48 ≤ b.toNat ∧ b.toNat ≤ 57))
def tileW (w : List UInt8) : Int × Int := (((w[0]?.getD 0).toNat : Int) - 48, ((w[1]?.getD 0).toNat : Int) - 48)
def parseTo (ws : List (List UInt8)) : List (Int × Int) := ws.map tileW
def parseHB (s : ByteArray) : Bool := (wordsL s.data.toList).all okW && handB (parseTo (wordsL s.data.toList))
def dash : ByteArray := ⟨#[45]⟩
def parseB (s : ByteArray) : Bool := decide (s = dash) || parseHB s
def parseHL (s : ByteArray) : List (Int × Int) := if s = dash then [] else if parseHB s then parseTo (wordsL s.data.toList) else []
theorem words_size : ∀ (l : List UInt8), ((wordsL l).map List.length).sum + (wordsL l).length = l.length + 1
  | [] => rfl
  | b :: l => by
    have ih := words_size l
    unfold wordsL
    split
    · simp at ih ⊢; omega
    · cases hw : wordsL l with
      | nil => exact absurd hw (words_ne l)
      | cons w ws =>
        rw [hw] at ih
        simp at ih ⊢
        omega
theorem sum_two : ∀ (ws : List (List UInt8)), ws.all okW = true → (ws.map List.length).sum = 2 * ws.length
  | [], _ => rfl
  | w :: ws, h => by
    rw [List.all_cons, Bool.and_eq_true] at h
    have ih := sum_two ws h.2
    have h2 : w.length = 2 := by
      have := h.1
      unfold okW at this
      rw [Bool.and_eq_true, decide_eq_true_eq] at this
      exact this.1
    simp only [List.map_cons, List.sum_cons, List.length_cons]
    omega
/-- A text that spells a hand is no longer than 164 bytes. -/
theorem parseHB_len {s : ByteArray} (h : parseHB s = true) : s.size ≤ 164 := by
  unfold parseHB at h
  rw [Bool.and_eq_true] at h
  have h1 := sum_two _ h.1
  have h2 := words_size s.data.toList
  have h3 : (parseTo (wordsL s.data.toList)).length ≤ 55 := (of_decide_eq_true h.2 : _ ∧ _).1
  have h4 : (parseTo (wordsL s.data.toList)).length = (wordsL s.data.toList).length := by simp [parseTo]
  have h5 : s.data.toList.length = s.size := by simp
  omega

end Go.Proofs.YtjdnkcdnppcbhabDoor

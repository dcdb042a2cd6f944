/- Texts of puzzles read: the mathematics. -/
import Derived.Test.YtjdnkcdnppcbhabDoorPzY
import Derived.Test.YtjdnkcdnppcbhabDoorHSpec
import Derived.Deep.Cut
import Derived.BigQuiet
import Derived.Lib.CutLaws
namespace Go.Proofs.YtjdnkcdnppcbhabDoor
open Go.RowKit
set_option linter.unusedVariables false

/-- A letter of a place, and what it stands for. -/
def okCh (u : UInt8) : Bool := (u == 46) || (decide (48 ≤ u.toNat) && decide (u.toNat ≤ 57))
def chV (u : UInt8) : Int := if u = 46 then -1 else (u.toNat : Int) - 48
def pA (s : ByteArray) : ByteArray := ⟨(Lib.cut s.data.toList [58]).1.toArray⟩
def pBB (s : ByteArray) : ByteArray := ⟨(Lib.cut s.data.toList [58]).2.1.toArray⟩
def pB (s : ByteArray) : List UInt8 := (pBB s).data.toList
def parPB (s : ByteArray) : Bool := parseB (pA s) && (decide ((pBB s).size ≤ 10) && ((pB s).all okCh && pzB (parseHL (pA s)) ((pB s).map chV)))
def parPT (s : ByteArray) : List (Int × Int) := if parPB s then parseHL (pA s) else []
def parPC (s : ByteArray) : List Int := if parPB s then (pB s).map chV else []
theorem parP_parts {s : ByteArray} (h : parPB s = true) : parseB (pA s) = true ∧ (pBB s).size ≤ 10 ∧ (pB s).all okCh = true ∧ pzB (parseHL (pA s)) ((pB s).map chV) = true := by
  unfold parPB at h
  simp only [Bool.and_eq_true, decide_eq_true_eq] at h
  exact ⟨h.1, h.2.1, h.2.2.1, h.2.2.2⟩
theorem parP_len (s : ByteArray) : (parPT s).length + (parPC s).length ≤ 1048576 := by
  unfold parPT parPC
  split
  · rename_i h
    obtain ⟨_, h9, _, h10, _, _⟩ := pzB_parts (parP_parts h).2.2.2
    omega
  · simp
theorem pB_len (s : ByteArray) : (pB s).length = (pBB s).size := by unfold pB; simp
/-- The place of a byte. -/
theorem ix_cases (c : UInt8) : ∀ (s : List UInt8), (Lib.indexByte s c = -1 ∧ c ∉ s) ∨ ∃ i : Nat, Lib.indexByte s c = i ∧ i < s.length ∧ c ∉ s.take i ∧ s[i]? = some c
  | [] => .inl ⟨rfl, by simp⟩
  | b :: s => by
    by_cases hb : b = c
    · subst hb
      exact .inr ⟨0, by simp [Lib.indexByte], by simp, by simp, by simp⟩
    · have hb2 : (b == c) = false := beq_eq_false_iff_ne.2 hb
      rcases ix_cases c s with ⟨h1, h2⟩ | ⟨i, h1, h0, h2, h3⟩
      · refine .inl ⟨?_, by simp [h2, Ne.symm hb]⟩
        rw [Lib.indexByte, hb2, h1]
        rfl
      · refine .inr ⟨i + 1, ?_, by simp; omega, ?_, by simpa using h3⟩
        · rw [Lib.indexByte, hb2, h1]
          have : ((i : Int) == -1) = false := beq_eq_false_iff_ne.2 (by omega)
          rw [this]
          simp
        · simp [h2, Ne.symm hb]
def colon : ByteArray := ⟨#[58]⟩
theorem ix_colon (s : ByteArray) : Lib.indexB s colon = Lib.indexByte s.data.toList 58 := by
  show Lib.index s.data.toList [58] = _
  rw [Lib.index_one]
/-- Where a colon stands, and none ahead of it. -/
theorem par_hit {s : ByteArray} {i : Nat} (hi : i < s.size) (hx : s[i] = 58) (hn : 58 ∉ s.data.toList.take i) : pA s = s.extract 0 i ∧ pBB s = s.extract (i + 1) s.size := by
  have hl : i < s.data.toList.length := by simpa using hi
  have hx' : s.data.toList[i] = 58 := by rw [← hx]; rfl
  have hix : Lib.indexByte s.data.toList 58 = i := by
    rcases ix_cases 58 s.data.toList with ⟨_, h2⟩ | ⟨j, h1, h0, h2, h3⟩
    · exact absurd (by rw [← hx']; exact List.getElem_mem hl) h2
    · have hj : s.data.toList[j] = 58 := by rw [List.getElem?_eq_getElem h0] at h3; exact Option.some.inj h3
      have e : j = i := by
        rcases Nat.lt_trichotomy j i with h | h | h
        · exact absurd (by rw [← hj]; exact List.mem_take_iff_getElem.2 ⟨j, by omega, rfl⟩) hn
        · exact h
        · exact absurd (by rw [← hx']; exact List.mem_take_iff_getElem.2 ⟨i, by omega, rfl⟩) h2
      rw [h1, e]
  have h := Lib.cutB_hit s colon i (by rw [ix_colon, hix])
  exact ⟨h.1, h.2.1⟩
theorem par_none {s : ByteArray} (h : 58 ∉ s.data.toList) : parPB s = false := by
  have hix : Lib.indexByte s.data.toList 58 = -1 := by
    rcases ix_cases 58 s.data.toList with ⟨h1, _⟩ | ⟨j, _, h0, _, h3⟩
    · exact h1
    · rw [List.getElem?_eq_getElem h0] at h3
      exact absurd (by rw [← Option.some.inj h3]; exact List.getElem_mem h0) h
  have hc := Lib.cutB_miss s colon (by rw [ix_colon, hix])
  have e : pB s = [] := by
    unfold pB
    rw [show pBB s = ByteArray.empty from hc.2.1]
    rfl
  cases hp : parPB s
  · rfl
  · obtain ⟨_, _, _, h10, _, _⟩ := pzB_parts (parP_parts hp).2.2.2
    rw [e] at h10
    simp at h10
theorem words_of_hand {a : ByteArray} (h : parseB a = true) (h9 : (parseHL a).length ≤ 9) : a.size ≤ 26 := by
  unfold parseB at h
  rw [Bool.or_eq_true, decide_eq_true_eq] at h
  rcases h with h | h
  · subst h
    decide
  · by_cases hd : a = dash
    · subst hd; decide
    · have e : parseHL a = parseTo (wordsL a.data.toList) := by unfold parseHL; rw [if_neg hd, h]; rfl
      rw [e] at h9
      unfold parseHB at h
      rw [Bool.and_eq_true] at h
      have h1 := sum_two _ h.1
      have h2 := words_size a.data.toList
      have h4 : (parseTo (wordsL a.data.toList)).length = (wordsL a.data.toList).length := by simp [parseTo]
      have h5 : a.data.toList.length = a.size := by simp
      omega
/-- No colon among the first 37 bytes. -/
theorem par_far {s : ByteArray} (h : 58 ∉ s.data.toList.take 37) : parPB s = false := by
  rcases ix_cases 58 s.data.toList with ⟨_, h2⟩ | ⟨j, h1, h0, h2, h3⟩
  · exact par_none h2
  · have hj : s.data.toList[j] = 58 := by rw [List.getElem?_eq_getElem h0] at h3; exact Option.some.inj h3
    have hge : 37 ≤ j := by
      rcases Nat.lt_or_ge j 37 with h4 | h4
      · exact absurd (by rw [← hj]; exact List.mem_take_iff_getElem.2 ⟨j, by omega, rfl⟩) h
      · exact h4
    have hjs : j < s.size := by simpa using h0
    cases hp : parPB s
    · rfl
    · obtain ⟨p1, _, _, p4⟩ := parP_parts hp
      obtain ⟨_, h9, _⟩ := pzB_parts p4
      have h26 := words_of_hand p1 h9
      rw [(par_hit hjs (by rw [← hj]; rfl) h2).1, ByteArray.size_extract] at h26
      omega
/-- A text that spells a hand is that hand's text. -/
theorem words_join : ∀ (l : List UInt8), Lib.join (wordsL l) [44] = l
  | [] => rfl
  | b :: l => by
    have ih := words_join l
    unfold wordsL
    split
    · rename_i hb
      subst hb
      cases hw : wordsL l with
      | nil => exact absurd hw (words_ne l)
      | cons w ws =>
        rw [hw] at ih
        rw [Lib.join_cons] at ih
        rw [Lib.join_cons]
        simp only [Lib.joinTail, List.nil_append, List.cons_append]
        rw [← ih]
        simp [Lib.joinTail]
    · cases hw : wordsL l with
      | nil => exact absurd hw (words_ne l)
      | cons w ws =>
        rw [hw] at ih
        rw [Lib.join_cons] at ih
        simp only [List.headD_cons, List.tail_cons]
        rw [Lib.join_cons, List.cons_append, ih]
theorem dgU_of {u : UInt8} (h : 48 ≤ u.toNat ∧ u.toNat ≤ 57) : dgU ((u.toNat : Int) - 48) = u := by
  unfold dgU
  apply UInt8.toNat_inj.1
  rw [UInt8.toNat_ofNat']
  have e : 48 + ((u.toNat : Int) - 48).toNat = u.toNat := by omega
  rw [e, Nat.mod_eq_of_lt (by omega)]
theorem tileU_of {w : List UInt8} (h : okW w = true) : tileU (tileW w) = w := by
  unfold okW at h
  rw [Bool.and_eq_true, decide_eq_true_eq] at h
  obtain ⟨h1, h2⟩ := h
  match w, h1 with
  | [a, b], _ =>
    simp only [List.all_cons, List.all_nil, Bool.and_true, Bool.and_eq_true, decide_eq_true_eq] at h2
    show [dgU ((a.toNat : Int) - 48), dgU ((b.toNat : Int) - 48)] = [a, b]
    rw [dgU_of h2.1, dgU_of h2.2]
theorem hand_back {a : ByteArray} (h : parseB a = true) (hne : parseHL a ≠ []) : textHB (parseHL a) = a := by
  unfold parseB at h
  rw [Bool.or_eq_true, decide_eq_true_eq] at h
  have hd : a ≠ dash := fun e => hne (by unfold parseHL; rw [if_pos e])
  rcases h with h | h
  · exact absurd h hd
  · have e : parseHL a = parseTo (wordsL a.data.toList) := by unfold parseHL; rw [if_neg hd, h]; rfl
    have ht : textHB (parseHL a) = joinB (parseHL a) := if_neg hne
    rw [ht, e]
    unfold parseHB at h
    rw [Bool.and_eq_true] at h
    have hm : (parseTo (wordsL a.data.toList)).map tileU = wordsL a.data.toList := by
      unfold parseTo
      rw [List.map_map]
      conv => rhs; rw [← List.map_id (wordsL a.data.toList)]
      exact List.map_congr_left fun w hw => tileU_of (List.all_eq_true.1 h.1 w hw)
    show (⟨(Lib.join ((parseTo (wordsL a.data.toList)).map tileU) [44]).toArray⟩ : ByteArray) = a
    rw [hm, words_join]
theorem ch_back {u : UInt8} (h : okCh u = true) : pzCh (chV u) = u := by
  unfold okCh at h
  rw [Bool.or_eq_true, beq_iff_eq, Bool.and_eq_true, decide_eq_true_eq, decide_eq_true_eq] at h
  unfold pzCh chV
  by_cases he : u = 46
  · rw [if_pos he, if_pos (by decide), he]
  · rcases h with h | h
    · exact absurd h he
    · rw [if_neg he, if_neg (by omega), dgU_of h]
theorem chs_back {us : List UInt8} (h : us.all okCh = true) : (us.map chV).map pzCh = us := by
  rw [List.map_map]
  conv => rhs; rw [← List.map_id us]
  exact List.map_congr_left fun u hu => ch_back (List.all_eq_true.1 h u hu)
/-- A text that spells a puzzle is that puzzle's text. -/
theorem text_back {s : ByteArray} {i : Nat} (hi : i < s.size) (hx : s[i] = 58) (hn : 58 ∉ s.data.toList.take i) (hp : parPB s = true) : pzTx (parseHL (pA s)) ((pB s).map chV) ((pB s).map chV).length = s := by
  obtain ⟨p1, _, p3, p4⟩ := parP_parts hp
  obtain ⟨h1, _⟩ := pzB_parts p4
  have hne : parseHL (pA s) ≠ [] := fun e => by rw [e] at h1; simp at h1
  obtain ⟨eA, eB⟩ := par_hit hi hx hn
  have hr : pzRow ((pB s).map chV) ((pB s).map chV).length = pB s := by
    unfold pzRow
    rw [List.take_length, chs_back p3]
  unfold pzTx
  rw [hand_back p1 hne, hr, eA]
  have hl : i < s.data.toList.length := by simpa using hi
  have hx' : s.data.toList[i] = 58 := by rw [← hx]; rfl
  apply ByteArray.ext
  apply Array.toList_inj.1
  rw [ByteArray.data_append, ByteArray.data_append, Array.toList_append, Array.toList_append]
  have e1 : (s.extract 0 i).data.toList = s.data.toList.take i := by
    rw [Lib.extract_data]
    simp
  have e2 : pB s = s.data.toList.drop (i + 1) := by
    unfold pB
    rw [eB, Lib.extract_to_end]
  rw [e1]
  show s.data.toList.take i ++ [58] ++ (pB s).toArray.toList = s.data.toList
  rw [List.toList_toArray, e2, List.append_assoc, ← hx']
  show s.data.toList.take i ++ ([s.data.toList[i]] ++ s.data.toList.drop (i + 1)) = _
  rw [List.singleton_append, ← List.drop_eq_getElem_cons hl, List.take_append_drop]

end Go.Proofs.YtjdnkcdnppcbhabDoor

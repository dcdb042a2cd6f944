/- A text cut at each comma, the specification's way. -/
import Derived.Test.YtjdnkcdnppcbhabDoorHImp
namespace Go.Proofs.YtjdnkcdnppcbhabDoor
open Go.RowKit
set_option linter.unusedVariables false

theorem cellsS_append (xs ys : List ByteArray) : cellsS (xs ++ ys) = cellsS xs ++ cellsS ys := by simp [cellsS]
theorem cellsS_length (xs : List ByteArray) : (cellsS xs).length = xs.length := by simp [cellsS]
/-- One text appended to a row of the call's own. -/
theorem wp_append_str {w : World} {ops : Array Oper} {rest : List Oper} {o : Oper} {a : Act} {Q : Exit → Act → World → Prop} (hgd : o.guard = none) (s x : Operand)
    (ho : o.op = .call { callee := .builtin .append, args := #[s, x], argTypes := #[69, 69] }) (base : Nat) (v : Value) (xs : List ByteArray) (hs : a.eval s = v)
    (hown : w.ownsRow base 9 1 v xs.length (cellsS xs)) (p : ByteArray) (g : Nat) (hx : a.eval x = .slice (some ⟨g, 0, none⟩) 1 1)
    (h0 : w.cell? ⟨g, 0, none⟩ = some (.string p)) (hlen : xs.length ≤ 4194304) (hbase : base ≤ w.heap.size)
    (h : ∀ A c w', w'.ownsRow base 9 1 (.slice A (xs.length + 1) c) (xs.length + 1) (cellsS (xs ++ [p])) → w.grownBy w' v.ownBlock → wpList Tryd.prog ops Q rest (a.put o.dst (.slice A (xs.length + 1) c)) w') :
    wpList Tryd.prog ops Q (o :: rest) a w := by
  obtain ⟨i0, hi, hz0, hz1, hz2⟩ := info_parts Tryd.info_str
  refine wpList_append_own w hgd s x 69 ho base 9 i0 _ 1 16 Tryd.underlying69 hi hz0 hz1 hz2 rfl (by decide) v xs.length (cellsS xs) hs (by simpa using hown) ⟨g, 0, none⟩ 1 1 [.string p] hx rfl ?_ ?_ (by unfold maxLen; omega) (by omega) hbase ?_
  · intro j u hj
    match j, hj with
    | 0, hj => simp at hj; subst hj; simpa [Addr.add] using h0
  · intro u hu
    simp at hu
    rcases hu with rfl; rfl
  · intro v' w' h1 h2 _
    have h1' := h1
    obtain ⟨_, ⟨_, hn⟩ | ⟨g', cap, cur, rfl, _⟩⟩ := h1'
    · omega
    refine h _ _ w' ?_ h2
    rw [cellsS_append]
    exact h1

/-- What the loop has cut: the words so far, and the rest from f on, which has no comma up to i. -/
def cutAt (s : ByteArray) (f i : Nat) (us : List ByteArray) : Prop :=
  f ≤ i ∧ i ≤ s.size ∧ wordsL s.data.toList = us.map (·.data.toList) ++ wordsL (s.data.toList.drop f) ∧ 44 ∉ (s.data.toList.drop f).take (i - f) ∧ us.length ≤ i
theorem cut_zero (s : ByteArray) : cutAt s 0 0 [] := ⟨Nat.le_refl _, Nat.zero_le _, by simp, by simp, Nat.le_refl _⟩
theorem drop_split {L : List UInt8} {f i : Nat} (hf : f ≤ i) (hi : i < L.length) : L.drop f = (L.drop f).take (i - f) ++ L[i] :: L.drop (i + 1) := by
  have h1 : L.drop i = L[i] :: L.drop (i + 1) := List.drop_eq_getElem_cons hi
  have h2 : (L.drop f).drop (i - f) = L.drop i := by rw [List.drop_drop]; congr 1; omega
  rw [← h1, ← h2, List.take_append_drop]
theorem cut_hit {s : ByteArray} {f i : Nat} {us : List ByteArray} (h : cutAt s f i us) (hi : i < s.size) (hx : s[i] = 44) : cutAt s (i + 1) (i + 1) (us ++ [s.extract f i]) := by
  obtain ⟨h1, h2, h3, h4, h5⟩ := h
  have hl : i < s.data.toList.length := by simpa using hi
  have hx' : s.data.toList[i] = 44 := by rw [← hx]; rfl
  have hd := drop_split h1 hl
  rw [hx'] at hd
  refine ⟨Nat.le_refl _, hi, ?_, by simp, by simp; omega⟩
  rw [h3, hd, words_hit _ _ h4, List.map_append, List.append_assoc]
  congr 1
  show _ = [(s.extract f i).data.toList] ++ _
  rw [Lib.extract_data]
  rfl
theorem cut_miss {s : ByteArray} {f i : Nat} {us : List ByteArray} (h : cutAt s f i us) (hi : i < s.size) (hx : s[i] ≠ 44) : cutAt s f (i + 1) us := by
  obtain ⟨h1, h2, h3, h4, h5⟩ := h
  have hl : i < s.data.toList.length := by simpa using hi
  have hx' : s.data.toList[i] ≠ 44 := hx
  refine ⟨by omega, hi, h3, ?_, by omega⟩
  have hd := drop_split h1 hl
  have hP : ((s.data.toList.drop f).take (i - f)).length = i - f := by
    rw [List.length_take, List.length_drop]
    have : s.data.toList.length = s.size := by simp
    omega
  generalize (s.data.toList.drop f).take (i - f) = P at *
  generalize s.data.toList[i] = x at *
  generalize s.data.toList.drop (i + 1) = R at *
  rw [hd, show P ++ x :: R = (P ++ [x]) ++ R by simp, List.take_left' (by simp; omega)]
  intro h
  rcases List.mem_append.1 h with h | h
  · exact h4 h
  · exact hx' (List.mem_singleton.1 h).symm
theorem cut_end {s : ByteArray} {f : Nat} {us : List ByteArray} (h : cutAt s f s.size us) : (us ++ [s.extract f s.size]).map (·.data.toList) = wordsL s.data.toList := by
  obtain ⟨h1, h2, h3, h4, h5⟩ := h
  have hn : 44 ∉ s.data.toList.drop f := by
    rw [List.take_of_length_le (by simp)] at h4
    exact h4
  rw [h3, words_none _ hn, List.map_append]
  congr 1
  show [(s.extract f s.size).data.toList] = _
  rw [Lib.extract_to_end]

set_option maxRecDepth 100000 in
set_option maxHeartbeats 1500000 in
theorem c_l1Split (s : ByteArray) (w : World) (hl : s.size ≤ 1048576) :
    Calls Tryd.prog 61 #[.string s, .int .u8 44] w fun e w' => ∃ (us : List ByteArray) (A : Option Addr) (c : Nat), e = .returned (.slice A us.length c) ∧ us.map (·.data.toList) = wordsL s.data.toList ∧ us.length ≤ 1048577 ∧ w'.ownsRow w.heap.size 9 1 (.slice A us.length c) us.length (cellsS us) ∧ Below w.heap.size w w' := by
  go_enter Tryd.func61, Tryd.ntmps61
  go_wp2
  go_loopw [5, 6, 7] (fun v u i wr => ∃ (f k : Nat) (A : Option Addr) (c : Nat) (us : List ByteArray), i = .int .i64 k ∧ u = .int .i64 f ∧ v = .slice A us.length c ∧ cutAt s f k us ∧ wr.ownsRow w.heap.size 9 1 (.slice A us.length c) us.length (cellsS us) ∧ Below w.heap.size w wr) (fun _ _ i _ => s.size - (intOf i).toNat)
  case atStart => exact ⟨0, 0, none, 0, [], rfl, rfl, rfl, cut_zero s, World.ownsRow_nil _ _ _ _, Below.refl _ _⟩
  case round =>
    obtain ⟨f, k, A, c, us, rfl, rfl, rfl, hcut, hown, hb⟩ := hrel
    have h1 := hcut.1
    have h2 := hcut.2.1
    have h5 := hcut.2.2.2.2
    have i0 : (0 : Int) ≤ (f : Int) := by omega
    have i1 : (f : Int) ≤ (k : Int) := by omega
    have i2 : (0 : Int) ≤ (k : Int) := by omega
    have hsz := hb.size
    by_cases hlt : k < s.size
    · have i3 : (k : Int) < (s.size : Int) := by omega
      have i4 : (k : Int) ≤ (s.size : Int) := by omega
      by_cases hx : s[k] = 44
      · have hxc : (s[k].toNat : Int) = 44 := by rw [hx]; rfl
        have Hc := Lib.hid (cut_hit hcut hlt hx)
        have Ho2 := Lib.hid (hown.alloc (.cells #[.string (s.extract f k)] 9))
        have Hb := Lib.hid hb
        clear hcut hown hb hx
        go_wp2_with (at_builtin; refine wp_append_str rfl _ _ rfl w.heap.size _ us rfl Ho2.out (s.extract f k) wr.heap.size rfl (by simp) (by omega) (by simp; omega) ?_; intro A2 c2 w3 hown3 hg3)
        go_roundw
        case rel =>
          refine ⟨k + 1, k + 1, A2, c2, us ++ [s.extract f k], by go_num, by go_num, by rw [List.length_append]; rfl, Hc.out, by rw [List.length_append]; exact hown3, ?_⟩
          exact Below.grown (by have hq := Hb.out; go_grown) hg3 (by simp; omega) (fun g hg => (Ho2.out.lt g hg).1)
        case measure => simp [intOf]; omega
      · have hxc : ¬ (s[k].toNat : Int) = 44 := fun h => hx (by
          apply UInt8.toNat_inj.1
          show s[k].toNat = 44
          omega)
        have Hc := Lib.hid (cut_miss hcut hlt hx)
        have Hb := Lib.hid hb
        have Ho := Lib.hid hown
        clear hcut hown hb hx
        go_wp2
        go_roundw
        case rel => exact ⟨f, k + 1, A, c, us, by go_num, rfl, rfl, Hc.out, Ho.out, Hb.out⟩
        case measure => simp [intOf]; omega
    · obtain rfl : k = s.size := by omega
      have Hc := Lib.hid (cut_end hcut)
      have Ho2 := Lib.hid (hown.alloc (.cells #[.string (s.extract f s.size)] 9))
      have Hb := Lib.hid hb
      clear hcut hown hb
      go_wp2_with (at_builtin; refine wp_append_str rfl _ _ rfl w.heap.size _ us rfl Ho2.out (s.extract f s.size) wr.heap.size rfl (by simp) (by omega) (by simp; omega) ?_; intro A2 c2 w3 hown3 hg3)
      go_ret
      refine ⟨us ++ [s.extract f s.size], A2, c2, by rw [List.length_append]; rfl, Hc.out, by rw [List.length_append]; show us.length + 1 ≤ _; omega, by rw [List.length_append]; exact hown3, ?_⟩
      exact Below.grown (by have hq := Hb.out; go_grown) hg3 (by simp; omega) (fun g hg => (Ho2.out.lt g hg).1)

end Go.Proofs.YtjdnkcdnppcbhabDoor

/- The tiles of a map in their order. -/
import Derived.Test.YtcofambcicnonaaSort
import Derived.Test.YtcofambcicnonaaCount
namespace Go.Proofs.Ytcofambcicnonaa
open Go.RowKit Go.Maps Go.ChangeMaps
set_option linter.unusedVariables false

/-- The tiles gathered so far are those of ts that are no longer to come. -/
structure Got (ts us : List (Int × Int)) (left : Lit → Bool) : Prop where
  nd : us.Nodup
  wf : ∀ t ∈ us, wfT t
  mem : ∀ t, wfT t → (t ∈ us ↔ (t ∈ ts ∧ left (kl t) = false))
  sub : ∀ t, wfT t → left (kl t) = true → t ∈ ts
theorem Got.start {ts : List (Int × Int)} {D : DataW Unit} (hD : ∀ t, wfT t → has D (kl t) = decide (t ∈ ts)) : Got ts [] (has D) where
  nd := List.nodup_nil
  wf t h := by simp at h
  mem t ht := by rw [hD t ht]; simp
  sub t ht h := by rw [hD t ht] at h; exact of_decide_eq_true h
theorem Got.step {ts us : List (Int × Int)} {left : Lit → Bool} (h : Got ts us left) {x : Int × Int} (hx : wfT x) (hl : left (kl x) = true) : Got ts (us ++ [x]) (fun z => left z && !z.sameKey (kl x)) where
  nd := by
    rw [List.nodup_append]
    refine ⟨h.nd, by simp, fun a ha b hb => ?_⟩
    rw [List.mem_singleton.1 hb]
    rintro rfl
    have := ((h.mem a hx).1 ha).2
    rw [hl] at this
    cases this
  wf t ht := by
    rcases List.mem_append.1 ht with ht | ht
    · exact h.wf t ht
    · rw [List.mem_singleton.1 ht]; exact hx
  mem t ht := by
    have h1 := h.mem t ht
    rw [List.mem_append, List.mem_singleton, kl_same ht hx]
    by_cases e : t = x
    · subst e
      simp [h.sub t ht hl]
    · simp [e, h1]
  sub t ht h2 := by
    simp only [Bool.and_eq_true] at h2
    exact h.sub t ht h2.1
theorem Got.done {ts us : List (Int × Int)} {left : Lit → Bool} (h : Got ts us left) (hts : ∀ t ∈ ts, wfT t) (h0 : ∀ z, left z = false) (t : Int × Int) : t ∈ us ↔ t ∈ ts := by
  constructor
  · intro ht
    exact ((h.mem t (h.wf t ht)).1 ht).1
  · intro ht
    exact (h.mem t (hts t ht)).2 ⟨ht, h0 _⟩

theorem row_iter {w : World} {base e size n b r k : Nat} {v : Value} {xs : List Value} {D : DataW Unit} {left : Lit → Bool} {cnt : Nat} (h : w.ownsRow base e size v n xs) (hr : w.ranges Try.prog 41 (plainElem (H := Unit) Try.prog 4) b r k D left cnt) : some r ≠ v.ownBlock := by
  obtain ⟨_, ⟨rfl, _⟩ | ⟨g, cap, cur, rfl, _, hg, _⟩⟩ := h
  · simp [Value.ownBlock]
  · intro e
    have e : r = g := by simpa [Value.ownBlock] using e
    subst e
    obtain ⟨es, clock, since, seen, c0, _, _, _, _, hi, _⟩ := hr
    rw [hg] at hi
    cases hi
theorem row_low {w : World} {base e size n b : Nat} {v : Value} {xs : List Value} (h : w.ownsRow base e size v n xs) (hb : b < base) : some b ≠ v.ownBlock := by
  intro e
  have := (h.lt b e.symm).1
  omega

theorem own_some {w : World} {base e size n c : Nat} {A : Option Addr} {xs : List Value} (h : w.ownsRow base e size (.slice A (n + 1) c) (n + 1) xs) : ∃ g, A = some ⟨g, 0, none⟩ := by
  obtain ⟨_, ⟨_, hn⟩ | ⟨g, cap, cur, hv, _⟩⟩ := h
  · omega
  · injection hv with e1
    exact ⟨g, e1⟩

set_option maxRecDepth 100000 in
/-- The step of a range over a map of tiles. -/
theorem wp_next_tile {w : World} {ops : Array Oper} {rest : List Oper} {o : Oper} {a : Act} {Q : Exit → Act → World → Prop} (hg : o.guard = none) (it : Operand) (hop : o.op = Op.next it false)
    (b r n : Nat) (D : DataW Unit) (left : Lit → Bool) (cnt : Nat) (hit : a.eval it = .pointer (some ⟨r, 0, none⟩)) (h : w.ranges Try.prog 41 (plainElem (H := Unit) Try.prog 4) b r n D left cnt)
    (hDone : cnt = 0 → Hid (∀ z, left z = false) → wpList Try.prog ops Q rest (a.put o.dst (.tuple #[.bool false])) w)
    (hMore : ∀ (p q : Int) (v : Value) (w' : World) (cnt' : Nat), Hid (wfT (p, q)) → Hid (left (kl (p, q)) = true) → w'.ranges Try.prog 41 (plainElem (H := Unit) Try.prog 4) b r n D (fun z => left z && !z.sameKey (kl (p, q))) cnt' → cnt' < cnt →
      w.grownBy w' (some r) → (Instr.entry (.pointer (some ⟨r, 0, none⟩))).run Try.prog w' = .ok (.tuple #[.agg #[.int .i64 p, .int .i64 q], v]) w' → wpList Try.prog ops Q rest (a.put o.dst (.tuple #[.bool true, .agg #[.int .i64 p, .int .i64 q], v])) w') :
    wpList Try.prog ops Q (o :: rest) a w := by
  refine wpList_next_ranges _ hg it hop 41 lawT (plainElem (H := Unit) Try.prog 4) tv Value.bool ?_ ?_ b r n D left cnt hit h (fun h1 h2 => hDone h1 (Lib.hid h2)) ?_
  · intro key kl' hk
    obtain ⟨t, rfl, _, _⟩ := keyOf_tile_inv hk
    exact ⟨t, rfl⟩
  · intro v y hv
    unfold plainElem at hv
    rw [Try.underlying4] at hv
    cases v <;> simp at hv
    exact ⟨_, rfl⟩
  · intro x c kl' y w' cnt' hkey hleft hv hat hrg hlt hgr hsz hen
    obtain ⟨t, ht, rfl, hwf⟩ := keyOf_tile_inv hkey
    have hxt : x = t := by
      simp only [tv, Value.agg.injEq] at ht
      simp at ht
      exact Prod.ext ht.1 ht.2
    subst hxt
    obtain ⟨p, q⟩ := x
    exact hMore p q (.bool c) w' cnt' (Lib.hid hwf) (Lib.hid hleft) hrg hlt hgr hen

set_option maxHeartbeats 2000000 in
theorem c_sortedTiles (b n : Nat) (D : DataW Unit) (ts : List (Int × Int)) (w : World) (hm : w.ownsMap Try.prog 41 (plainElem (H := Unit) Try.prog 4) b n D) (hn : n ≤ 1048576) (hD : ∀ t, wfT t → has D (kl t) = decide (t ∈ ts))
    (hg : ∀ t ∈ ts, goodB t.1 t.2 = true) : Calls Try.prog 59 #[.map (some b)] w (RetL w (sortL ts)) := by
  obtain ⟨i0, hi, hz0, hz1, hz2⟩ := info_parts Try.info_tile
  have hsz := hm.size_le
  have hbl := hm.lt
  go_enter Try.func59, Try.ntmps59
  go_wp2_with (first | (at_len; refine wpList_len_own _ rfl _ 83 rfl 41 4 Try.underlying83 _ b n _ rfl hm ?_) | (refine wpList_make_own _ rfl _ _ _ rfl w.heap.size 41 i0 _ 2 Try.underlying27 hi hz0 hz1 .i64 .i64 _ (Maps.size D) rfl rfl rfl (by rw [hz2]; omega) (by unfold maxLen; omega) (Nat.le_refl _) ?_; intro w1 hown1 hg1; have hm1 := hm.kept hg1 (by simp); have hb1 : Below w.heap.size w w1 := below_of_grown hg1 (Nat.le_refl _) (by simp)) | (at_range; refine wpList_range_own _ rfl _ 83 rfl 41 4 lawT Try.underlying83 _ b n _ rfl hm1 ?_; intro w2 hrg0 hg0 hs0))
  have hb2 : Below w.heap.size w w2 := hb1.trans (below_of_grown hg0 hb1.size (by simp))
  have ho2 := hown1.kept hg0 (.inr (by simp [Value.ownBlock]))
  clear hown1 hg1 hm1 hg0 hs0 hz0 hz1 hz2 hi hm
  go_frame
  go_loopw [3] (fun v wr => ∃ (us : List (Int × Int)) (left : Lit → Bool) (cnt g c : Nat), v = .slice (some ⟨g, 0, none⟩) us.length c ∧ wr.ownsRow w.heap.size 41 2 (.slice (some ⟨g, 0, none⟩) us.length c) us.length (cellsT us) ∧
      wr.ranges Try.prog 41 (plainElem (H := Unit) Try.prog 4) b w1.heap.size n D left cnt ∧ Got ts us left ∧ us.length + cnt ≤ n ∧ Below w.heap.size w wr) (fun _ wr => wr.rangeLeft b w1.heap.size)
  case atStart => exact ⟨[], _, _, _, _, rfl, ho2, hrg0, Got.start hD, by simpa using hsz, hb2⟩
  case round =>
    clear ho2 hrg0 hb2
    obtain ⟨us, left, cnt, g, c, rfl, hown, hrg, hgot, hle, hb⟩ := hrel
    have Ho := Lib.hid hown
    have Hgot := Lib.hid hgot
    have Hb := Lib.hid hb
    have HD := Lib.hid hD
    have Hg := Lib.hid hg
    have hzb := hb.size
    clear hown hgot hb hD hg
    go_wp2_with (at_next; refine wp_next_tile rfl _ rfl b w1.heap.size n _ _ _ rfl hrg ?_ ?_)
    · intro h0 hl0
      have hmem := Hgot.out.done (fun t ht => wfT_good (Hg.out t ht)) hl0.out
      have hnd := Hgot.out.nd
      have Hmem := Lib.hid hmem
      clear hmem
      have con := Lib.hid (c_sortFunc g c w.heap.size us ts wr Ho.out (by omega) Hg.out hnd Hmem.out)
      clear hnd
      go_wp2_with (go_at_call 65; refine con.out.mono ?_; rintro e w4 ⟨rfl, hl4, ho4, hg4⟩)
      go_ret
      rw [hl4] at ho4
      exact ⟨_, c, rfl, ho4, Hb.out.trans (below_of_grown hg4 hzb (fun g' hg' => by cases hg'; exact (Ho.out.lt g rfl).1))⟩
    · intro p q v w3 cnt' hwf hleft hrg3 hlt hg3 hen
      have Ho3 := Lib.hid (((Ho.out.kept hg3 (.inr (row_iter Ho.out hrg).symm)).alloc (.cells #[.int .i64 p, .int .i64 q] 41)).alloc (.cells #[.int .i64 p, .int .i64 q] 41))
      have Hb3 := Lib.hid (Hb.out.trans (below_of_grown hg3 hzb (fun g hg => by cases hg; exact hb1.size)))
      have hz3 := Hb3.out.size
      have Hrg3 := Lib.hid hrg3
      have Hst := Lib.hid (Hgot.out.step hwf.out hleft.out)
      clear hrg3 hg3
      go_wp2_with (at_builtin; refine wp_append_tile rfl _ _ rfl w.heap.size _ _ rfl Ho3.out p q (w3.heap.size + 1) rfl (by simp) (by simp) (by omega) (by simp; omega) ?_; intro A5 c5 w5 hown5 hg5)
      go_roundw
      case rel =>
        obtain ⟨g5, rfl⟩ := own_some hown5
        refine ⟨us ++ [(p, q)], _, cnt', g5, c5, by rw [List.length_append]; rfl, by rw [List.length_append]; exact hown5, (((Hrg3.out.alloc _).alloc _).kept hg5 (row_low Ho3.out hbl) (row_iter Ho3.out ((Hrg3.out.alloc _).alloc _))), Hst.out, by rw [List.length_append]; simp; omega, ?_⟩
        exact Below.grown (by have hb0 := Hb3.out; go_grown) hg5 (by simp; omega) (fun g' hg' => (Ho3.out.lt g' hg').1)
      case measure =>
        rw [(((Hrg3.out.alloc _).alloc _).kept hg5 (row_low Ho3.out hbl) (row_iter Ho3.out ((Hrg3.out.alloc _).alloc _))).left_eq, hrg.left_eq]
        exact hlt

theorem has_set {ts : List (Int × Int)} (hg : ∀ t ∈ ts, goodB t.1 t.2 = true) (t : Int × Int) (ht : wfT t) : has (setD ts : DataW Unit) (kl t) = decide (t ∈ ts) := has_setD (fun s hs => wfT_good (hg s hs)) ht

set_option maxHeartbeats 1000000 in
theorem c_implSortHand (A : Option Addr) (c : Nat) (ts : List (Int × Int)) (w : World) (hr : RdT w A ts) (hl : ts.length ≤ 1048576) :
    Calls Try.prog 49 #[.slice A ts.length c] w (RetT w (sortHL ts) (handB ts)) := by
  have conH := Lib.hid (c_implIsHand A c ts w hr (by omega))
  by_cases h : handB ts = true
  · have e1 : sortHL ts = sortL ts := by simp [sortHL, h]
    rw [e1, h]
    clear e1
    have hg := (handB_good h).2
    have conP := fun W (hb : Below w.heap.size w W) => c_tilesIn A c ts W (hr.below hb) hl (fun t ht => wfT_good (hg t ht))
    have ConP := Lib.hid conP
    have conS := fun W b (hm : setM W b ts.length ts) => c_sortedTiles b ts.length (setD ts) ts W hm hl (has_set hg) hg
    have ConS := Lib.hid conS
    clear conP conS hr hg
    go_enter Try.func49, Try.ntmps49
    go_wp2_with (first | (go_at_call 56; refine conH.out.mono ?_; rintro e w0 ⟨rfl, hb0⟩) | (go_at_call 60; refine (ConP.out _ hb0).mono ?_; rintro e w1 ⟨b, rfl, hbb, hm1, hb1⟩) | (go_at_call 59; refine (ConS.out _ b hm1).mono ?_; rintro e w2 ⟨A2, c2, rfl, ho2, hb2⟩))
    go_ret2
    exact ⟨A2, c2, rfl, own_base ho2 (Nat.le_trans hb0.size hb1.size), bstep (bstep hb0 hb1) hb2⟩
  · have h' : handB ts = false := by simpa using h
    have e1 : sortHL ts = [] := by simp [sortHL, h']
    rw [e1, h']
    clear e1 h hr
    go_enter Try.func49, Try.ntmps49
    go_wp2_with (go_at_call 56; refine conH.out.mono ?_; rintro e w1 ⟨rfl, hb1⟩)
    go_ret2
    exact ⟨none, 0, rfl, World.ownsRow_nil _ _ _ _, hb1⟩

end Go.Proofs.Ytcofambcicnonaa

/- The board of the program: what its small methods answer. -/
import Derived.Test.YtnnkdnleencofabSpread
namespace Go.Proofs.Ytnnkdnleencofab
open Go.RowKit
set_option linter.unusedVariables false

def spinV (ps : List (Int × Int × Int)) : Int := if 0 ≤ spinL ps then spinL ps else 0
theorem spinL_none : ∀ {ps : List (Int × Int × Int)}, (∀ j (hj : j < ps.length), dblB ps[j] = false) → spinL ps = -1
  | [], _ => rfl
  | p :: r, h => by
    have h0 := h 0 (by simp)
    have h1 : spinL r = -1 := spinL_none fun j hj => by have := h (j + 1) (by simp; omega); simpa using this
    unfold spinL
    rw [if_neg (by simpa using h0), h1]
theorem spinL_at : ∀ {ps : List (Int × Int × Int)} {k : Nat} (hk : k < ps.length), dblB ps[k] = true → (∀ j (hj : j < ps.length), j < k → dblB ps[j] = false) → spinL ps = ps[k].1
  | p :: r, 0, hk, hd, h => by
    unfold spinL
    rw [if_pos (by simpa using hd)]
    rfl
  | p :: r, k + 1, hk, hd, h => by
    have h0 := h 0 (by simp) (by omega)
    have h1 : spinL r = (r[k]'(by simpa using hk)).1 := spinL_at (by simpa using hk) (by simpa using hd) fun j hj hjk => by have := h (j + 1) (by simp; omega) (by omega); simpa using this
    unfold spinL
    rw [if_neg (by simpa using h0), h1]
    rfl
theorem hasL_at {ps : List (Int × Int × Int)} {k : Nat} (hk : k < ps.length) {a b : Int} (h0 : ps[k].1 = a) (h1 : ps[k].2.1 = b) : hasL ps a b = true := by
  unfold hasL
  rw [List.any_eq_true]
  exact ⟨ps[k], List.getElem_mem hk, by simp [h0, h1]⟩
theorem hasL_no {ps : List (Int × Int × Int)} {a b : Int} (h : ∀ j (hj : j < ps.length), ¬ (ps[j].1 = a ∧ ps[j].2.1 = b)) : hasL ps a b = false := by
  unfold hasL
  rw [List.any_eq_false]
  intro p hp
  obtain ⟨j, hj, rfl⟩ := List.getElem_of_mem hp
  have := h j hj
  simpa using this

set_option maxRecDepth 100000 in
set_option maxHeartbeats 1000000 in
theorem c_spinner (A : Option Addr) (c : Nat) (D : Option Addr) (n d : Nat) (f : Int) (ps : List (Int × Int × Int)) (w : World) (hr : RdP w A ps) (hl : ps.length ≤ 28) (hg : ∀ p ∈ ps, goodB p.1 p.2.1 = true) :
    Calls Try.prog 137 #[.agg #[.slice A ps.length c, .slice D n d, .int .i64 f]] w fun e w' => e = .returned (.tuple #[.int .i64 (spinV ps), .bool (decide (0 ≤ spinL ps))]) ∧ Below w.heap.size w w' := by
  have Hg := Lib.hid hg
  clear hg
  go_enter Try.func137, Try.ntmps137
  go_wp2
  go_loopw [9] (fun i wr => ∃ k : Nat, k ≤ ps.length ∧ i = .int .i64 k ∧ (∀ j (hj : j < ps.length), j < k → dblB ps[j] = false) ∧ Below w.heap.size w wr) (fun i _ => ps.length - (intOf i).toNat)
  case atStart => exact ⟨0, Nat.zero_le _, rfl, by omega, by go_grown⟩
  case round =>
    obtain ⟨k, hk, rfl, hn, hb⟩ := hrel
    by_cases hlt : k < ps.length
    · obtain ⟨bk, off, rfl, hbk, hc⟩ := hr.at_ hlt
      have g0 := (hb.cell (p := ⟨bk, _, none⟩) hbk).trans (hc k hlt).1
      have g1 := (hb.cell (p := ⟨bk, _, none⟩) hbk).trans (hc k hlt).2.1
      have g2 := (hb.cell (p := ⟨bk, _, none⟩) hbk).trans (hc k hlt).2.2
      have Hn := Lib.hid hn
      have Hb := Lib.hid hb
      have hz := hb.size
      clear hc hr hn hb
      cases hd : dblB ps[k]
      · have q1 : (ps[k].1 == ps[k].2.1) = false := by simpa [dblB] using hd
        have Hd := Lib.hid hd
        clear hd
        go_wp2
        go_roundw
        case rel =>
          refine ⟨k + 1, by omega, by go_num, fun j hj hjk => ?_, by have hb0 := Hb.out; have hz0 := hb0.size; go_grown⟩
          rcases Nat.lt_succ_iff_lt_or_eq.1 hjk with h | rfl
          · exact Hn.out j hj h
          · exact Hd.out
        case measure => simp [intOf]; omega
      · have q1 : (ps[k].1 == ps[k].2.1) = true := by simpa [dblB] using hd
        have e1 := spinL_at hlt hd Hn.out
        have e2 := good_b (Hg.out _ (List.getElem_mem hlt))
        have E := Lib.hid (show spinV ps = ps[k].1 ∧ decide (0 ≤ spinL ps) = true from by unfold spinV; rw [e1]; exact ⟨if_pos e2.1, decide_eq_true e2.1⟩)
        clear hd e1 e2
        go_wp2
        go_ret2
        exact ⟨by rw [E.out.1, E.out.2]; rfl, by have hb0 := Hb.out; have hz0 := hb0.size; go_grown⟩
    · have e1 := spinL_none (ps := ps) fun j hj => hn j hj (by omega)
      have E := Lib.hid (show spinV ps = 0 ∧ decide (0 ≤ spinL ps) = false from by unfold spinV; rw [e1]; exact ⟨rfl, rfl⟩)
      clear e1
      go_wp2
      go_ret2
      exact ⟨by rw [E.out.1, E.out.2]; rfl, hb⟩

set_option maxRecDepth 100000 in
set_option maxHeartbeats 1000000 in
theorem c_hasLaid (A : Option Addr) (c : Nat) (D : Option Addr) (n d : Nat) (f : Int) (ps : List (Int × Int × Int)) (a b : Int) (w : World) (hr : RdP w A ps) (hl : ps.length ≤ 28) :
    Calls Try.prog 135 #[.agg #[.slice A ps.length c, .slice D n d, .int .i64 f], .agg #[.int .i64 a, .int .i64 b]] w fun e w' => e = .returned (.bool (hasL ps a b)) ∧ Below w.heap.size w w' := by
  go_enter Try.func135, Try.ntmps135
  go_wp2
  go_loopw [10] (fun i wr => ∃ k : Nat, k ≤ ps.length ∧ i = .int .i64 k ∧ (∀ j (hj : j < ps.length), j < k → ¬ (ps[j].1 = a ∧ ps[j].2.1 = b)) ∧ Below w.heap.size w wr ∧ w.heap.size + 1 < wr.heap.size ∧
      wr.cell? ⟨w.heap.size + 1, 0, none⟩ = some (.int .i64 a) ∧ wr.cell? ⟨w.heap.size + 1, 1, none⟩ = some (.int .i64 b)) (fun i _ => ps.length - (intOf i).toNat)
  case atStart => exact ⟨0, Nat.zero_le _, rfl, by omega, by go_grown, by simp, by simp, by simp⟩
  case round =>
    obtain ⟨k, hk, rfl, hn, hb, hz, x0, x1⟩ := hrel
    by_cases hlt : k < ps.length
    · obtain ⟨bk, off, rfl, hbk, hc⟩ := hr.at_ hlt
      have g0 := (hb.cell (p := ⟨bk, _, none⟩) hbk).trans (hc k hlt).1
      have g1 := (hb.cell (p := ⟨bk, _, none⟩) hbk).trans (hc k hlt).2.1
      have g2 := (hb.cell (p := ⟨bk, _, none⟩) hbk).trans (hc k hlt).2.2
      have Hn := Lib.hid hn
      have Hb := Lib.hid hb
      clear hc hr hn hb
      go_wp2
      · have e0 : ps[k].fst = a := by assumption
        have e1 : ps[k].snd.fst = b := by assumption
        go_ret
        exact ⟨ret_b (hasL_at hlt e0 e1).symm, by have hb0 := Hb.out; go_grown⟩
      all_goals
        go_roundw
        case rel =>
          have hne : ¬ (ps[k].1 = a ∧ ps[k].2.1 = b) := by rintro ⟨e, e'⟩; simp_all
          refine ⟨k + 1, by omega, by go_num, fun j hj hjk => ?_, by have hb0 := Hb.out; go_grown, by simp; omega, by simp [*, go_sem], by simp [*, go_sem]⟩
          rcases Nat.lt_succ_iff_lt_or_eq.1 hjk with h | rfl
          · exact Hn.out j hj h
          · exact hne
        case measure => simp [intOf]; omega
    · go_wp2
      go_ret
      exact ⟨ret_b (hasL_no (fun j hj => hn j hj (by omega))).symm, hb⟩

set_option maxRecDepth 100000 in
set_option maxHeartbeats 1000000 in
theorem c_indexA (A : Option Addr) (c : Nat) (xs : List (Int × Bool × Bool)) (v : Int) (w : World) (hr : RdA w A xs) (hl : xs.length ≤ 1048576) :
    Calls Try.prog 148 #[.slice A xs.length c, .agg #[.int .i64 v, .bool true, .bool false]] w fun e w' => (∃ r : Int, e = .returned (.int .i64 r) ∧ decide (0 ≤ r) = decide ((v, true, false) ∈ xs)) ∧ Below w.heap.size w w' := by
  go_enter Try.func148, Try.ntmps148
  go_wp2
  go_loopw [8] (fun i wr => ∃ k : Nat, k ≤ xs.length ∧ i = .int .i64 k ∧ (∀ j (hj : j < xs.length), j < k → xs[j] ≠ (v, true, false)) ∧ Below w.heap.size w wr ∧ w.heap.size < wr.heap.size ∧
      wr.cell? ⟨w.heap.size, 0, none⟩ = some (.int .i64 v) ∧ wr.cell? ⟨w.heap.size, 1, none⟩ = some (.bool true) ∧ wr.cell? ⟨w.heap.size, 2, none⟩ = some (.bool false)) (fun i _ => xs.length - (intOf i).toNat)
  case atStart => exact ⟨0, Nat.zero_le _, rfl, by omega, by go_grown, by simp, by simp, by simp, by simp⟩
  case round =>
    obtain ⟨k, hk, rfl, hn, hb, hz, x0, x1, x2⟩ := hrel
    by_cases hlt : k < xs.length
    · obtain ⟨bk, off, rfl, hbk, hc⟩ := hr.at_ hlt
      have g0 := (hb.cell (p := ⟨bk, _, none⟩) hbk).trans (hc k hlt).1
      have g1 := (hb.cell (p := ⟨bk, _, none⟩) hbk).trans (hc k hlt).2.1
      have g2 := (hb.cell (p := ⟨bk, _, none⟩) hbk).trans (hc k hlt).2.2
      have i0 : (0 : Int) ≤ (k : Int) := by omega
      have i1 : (k : Int) < (xs.length : Int) := by omega
      have Hn := Lib.hid hn
      have Hb := Lib.hid hb
      clear hc hr hn hb
      obtain ⟨d, hd⟩ : ∃ d, xs[k].2.1 = d := ⟨_, rfl⟩
      obtain ⟨s, hs⟩ : ∃ s, xs[k].2.2 = s := ⟨_, rfl⟩
      obtain ⟨q, hq⟩ : ∃ q, (v == xs[k].1) = q := ⟨_, rfl⟩
      rw [hd] at g1
      rw [hs] at g2
      have hall : (xs[k] = (v, true, false)) ↔ (q = true ∧ d = true ∧ s = false) := by
        rw [← hq, ← hd, ← hs]
        constructor
        · intro e; rw [e]; simp
        · rintro ⟨e, e', e''⟩; exact Prod.ext (by simpa using (beq_iff_eq.1 e).symm) (Prod.ext e' e'')
      have Hall := Lib.hid hall
      clear hall hd hs
      cases q <;> cases d <;> cases s
      case true.true.false =>
        have hm : (v, true, false) ∈ xs := by rw [← Hall.out.2 ⟨rfl, rfl, rfl⟩]; exact List.getElem_mem hlt
        have Hm := Lib.hid hm
        clear hm
        go_wp2
        go_quiet (fail)
        go_wp2
        go_ret
        exact ⟨⟨_, rfl, by rw [decide_eq_true Hm.out]; simp⟩, Hb.out.trans ⟨rfl, rfl, rfl, Nat.le_refl _, fun _ _ => rfl⟩⟩
      all_goals
        go_wp2
        go_quiet (fail)
        go_wp2
        go_roundw
        case rel =>
          refine ⟨k + 1, by omega, by go_num, fun j hj hjk => ?_, Hb.out.trans ⟨rfl, rfl, rfl, Nat.le_refl _, fun _ _ => rfl⟩, hz, x0, x1, x2⟩
          rcases Nat.lt_succ_iff_lt_or_eq.1 hjk with h | rfl
          · exact Hn.out j hj h
          · intro e; have := Hall.out.1 e; simp at this
        case measure => simp [intOf]; omega
    · have hm : (v, true, false) ∉ xs := fun h => by
        obtain ⟨j, hj, e⟩ := List.getElem_of_mem h
        exact hn j hj (by omega) e
      have Hm := Lib.hid hm
      clear hm
      go_wp2
      go_ret
      exact ⟨⟨_, rfl, by rw [decide_eq_false Hm.out]; decide⟩, hb⟩

set_option maxHeartbeats 400000 in
theorem c_containsA (A : Option Addr) (c : Nat) (xs : List (Int × Bool × Bool)) (v : Int) (w : World) (hr : RdA w A xs) (hl : xs.length ≤ 1048576) :
    Calls Try.prog 138 #[.slice A xs.length c, .agg #[.int .i64 v, .bool true, .bool false]] w fun e w' => e = .returned (.bool (decide ((v, true, false) ∈ xs))) ∧ Below w.heap.size w w' := by
  have con := Lib.hid (fun W (hb : Below w.heap.size w W) => c_indexA A c xs v W (hr.below hb) hl)
  clear hr
  go_enter Try.func138, Try.ntmps138
  go_wp2_with (go_at_call 148; refine (con.out _ (by go_grown)).mono ?_; rintro e w1 ⟨⟨r, rfl, hr1⟩, hb1⟩; have Hr1 := Lib.hid hr1; clear hr1)
  go_ret
  exact ⟨ret_b Hr1.out, bstep (by go_grown) hb1⟩

theorem sumL_nil (n : Nat) : sumL n [] = 0 := rfl
theorem sumL_take {n : Nat} {arms : List (Int × Bool × Bool)} {k : Nat} (h : k < arms.length) : sumL n (arms.take (k + 1)) = sumL n (arms.take k) + armSum n arms[k] := by
  unfold sumL
  rw [List.take_succ_eq_append_getElem h, List.map_append, List.sum_append]
  simp only [List.map_cons, List.map_nil, List.sum_cons, List.sum_nil, Int.add_zero]

set_option maxRecDepth 100000 in
set_option maxHeartbeats 1000000 in
theorem c_sumOfEnds (A : Option Addr) (n c : Nat) (D : Option Addr) (d : Nat) (f : Int) (arms : List (Int × Bool × Bool)) (w : World) (hr : RdA w D arms) (hl : arms.length ≤ 4) (hg : ∀ a ∈ arms, 0 ≤ a.1 ∧ a.1 ≤ 9) (hn : n ≤ 28) :
    Calls Try.prog 109 #[.agg #[.slice A n c, .slice D arms.length d, .int .i64 f]] w fun e w' => e = .returned (.int .i64 (sumL n arms)) ∧ Below w.heap.size w w' := by
  have Hg := Lib.hid hg
  clear hg
  go_enter Try.func109, Try.ntmps109
  go_wp2
  go_loopw [3, 9] (fun s i wr => ∃ k : Nat, k ≤ arms.length ∧ i = .int .i64 k ∧ s = .int .i64 (sumL n (arms.take k)) ∧ Below w.heap.size w wr ∧ wr.cell? ⟨w.heap.size, 0, none⟩ = some (.slice A n c)) (fun _ i _ => arms.length - (intOf i).toNat)
  case atStart => exact ⟨0, Nat.zero_le _, rfl, rfl, by go_grown, by simp⟩
  case round =>
    obtain ⟨k, hk, rfl, rfl, hb, xb⟩ := hrel
    have hz1 := block_lt xb
    by_cases hlt : k < arms.length
    · obtain ⟨bk, off, rfl, hbk, hc⟩ := hr.at_ hlt
      have g0 := (hb.cell (p := ⟨bk, _, none⟩) hbk).trans (hc k hlt).1
      have g1 := (hb.cell (p := ⟨bk, _, none⟩) hbk).trans (hc k hlt).2.1
      have g2 := (hb.cell (p := ⟨bk, _, none⟩) hbk).trans (hc k hlt).2.2
      have hs0 := sumL_le (n := n) (arms := arms.take k) fun a ha => Hg.out a (List.mem_of_mem_take ha)
      have hs1 : sumL n (arms.take k) ≤ 72 := by have h2 : (arms.take k).length ≤ 4 := by simp; omega
                                                 omega
      have hs2 := hs0.1
      have he := Hg.out _ (List.getElem_mem hlt)
      have hst := Lib.hid (sumL_take (n := n) hlt)
      have Hb := Lib.hid hb
      have hz := hb.size
      clear hc hr hb hs0
      generalize hS : sumL n (arms.take k) = S at hs1 hs2 hst ⊢
      clear hS
      obtain ⟨x, hx⟩ : ∃ x, arms[k].1 = x := ⟨_, rfl⟩
      obtain ⟨y, hy⟩ : ∃ y, arms[k].2.1 = y := ⟨_, rfl⟩
      obtain ⟨z, hz'⟩ : ∃ z, arms[k].2.2 = z := ⟨_, rfl⟩
      have hsum : armSum n arms[k] = if z then 0 else if y && decide (1 < n) then x + x else x := by unfold armSum; rw [hx, hy, hz']
      rw [hsum] at hst
      rw [hx] at g0 he
      rw [hy] at g1
      rw [hz'] at g2
      clear hx hy hz' hsum
      by_cases hn1 : 1 < n
      all_goals
        cases z <;> cases y
        all_goals
          go_wp2
          go_roundw
          case rel => exact ⟨k + 1, by omega, by go_num, by rw [hst.out]; simp [hn1]; try go_num, by have hb0 := Hb.out; have hz0 := hb0.size; go_grown, keepc ((Below.refl _ _).alloc (Nat.le_refl _) _) xb⟩
          case measure => simp [intOf]; omega
    · have : k = arms.length := by omega
      subst this
      rw [List.take_length]
      go_wp2
      go_ret
      exact ⟨rfl, hb⟩

set_option maxHeartbeats 400000 in
theorem c_points (A : Option Addr) (n c : Nat) (D : Option Addr) (d : Nat) (f : Int) (arms : List (Int × Bool × Bool)) (w : World) (hr : RdA w D arms) (hl : arms.length ≤ 4) (hg : ∀ a ∈ arms, 0 ≤ a.1 ∧ a.1 ≤ 9) (hn : n ≤ 28) :
    Calls Try.prog 64 #[.agg #[.slice A n c, .slice D arms.length d, .int .i64 f]] w fun e w' => e = .returned (.int .i64 (ptsL n arms)) ∧ Below w.heap.size w w' := by
  have hs := sumL_le (n := n) hg
  have con := Lib.hid (fun W (hb : Below w.heap.size w W) => c_sumOfEnds A n c D d f arms W (hr.below hb) hl hg hn)
  have E := Lib.hid (show ptsL n arms = if sumL n arms % 5 = 0 then sumL n arms else 0 from rfl)
  obtain ⟨S, hS⟩ : ∃ S, sumL n arms = S := ⟨_, rfl⟩
  rw [hS] at con hs E
  have s0 := hs.1
  have s1 : S ≤ 72 := by omega
  clear hr hg hs hS
  by_cases hm : S % 5 = 0
  · have q1 : (S % 5 != 0) = false := by rw [hm]; rfl
    have Hm := Lib.hid hm
    clear hm
    go_enter Try.func64, Try.ntmps64
    go_wp2_with (go_at_call 109; refine (con.out _ (by go_grown)).mono ?_; rintro e w1 ⟨rfl, hb1⟩)
    go_ret
    exact ⟨ret_i (by rw [E.out, if_pos Hm.out]), bstep (by go_grown) hb1⟩
  · have q1 : (S % 5 != 0) = true := by simpa using hm
    have Hm := Lib.hid hm
    clear hm
    go_enter Try.func64, Try.ntmps64
    go_wp2_with (go_at_call 109; refine (con.out _ (by go_grown)).mono ?_; rintro e w1 ⟨rfl, hb1⟩)
    go_ret
    exact ⟨ret_i (by rw [E.out, if_neg Hm.out]), bstep (by go_grown) hb1⟩
end Go.Proofs.Ytnnkdnleencofab

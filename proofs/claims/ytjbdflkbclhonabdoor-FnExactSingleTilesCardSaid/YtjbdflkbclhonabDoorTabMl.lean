/- Lists of pairs, and the places of a tile as lists. -/
import Derived.Test.YtjbdflkbclhonabDoorTabN
import Derived.Test.YtjbdflkbclhonabDoorNestA
namespace Go.Proofs.YtjbdflkbclhonabDoor
open Go.RowKit
set_option linter.unusedVariables false

/-- The tile of a pair of cells of a table with the numbers D. -/
def prT (D : List Int) (p : Int × Int) : Int × Int := (min (dgI D p.1) (dgI D p.2), max (dgI D p.1) (dgI D p.2))

theorem tlP_eq (D : List Int) (P : List (Int × Int)) : tlP D P = P.map (prT D) := rfl

/-- The places of a tile at a cell, and at the first k ones. -/
def plcAt (D : List Int) (W n : Nat) (t : Int × Int) (i : Nat) : List (Int × Int) := (nearP W n i).filter fun p => decide (prT D p = t)

def plcTo (D : List Int) (W n : Nat) (t : Int × Int) (k : Nat) : List (Int × Int) := (List.range k).flatMap (plcAt D W n t)

/-- .. and of the first j pairs of the next one. -/
def plcJ (D : List Int) (W n : Nat) (t : Int × Int) (k j : Nat) : List (Int × Int) := plcTo D W n t k ++ ((nearP W n k).take j).filter fun p => decide (prT D p = t)

theorem plcTo_zero (D : List Int) (W n : Nat) (t : Int × Int) : plcTo D W n t 0 = [] := rfl

theorem plcTo_step (D : List Int) (W n : Nat) (t : Int × Int) (k : Nat) : plcTo D W n t (k + 1) = plcTo D W n t k ++ plcAt D W n t k := by
  unfold plcTo
  rw [List.range_succ, List.flatMap_append]
  simp

theorem plcJ_zero (D : List Int) (W n : Nat) (t : Int × Int) (k : Nat) : plcJ D W n t k 0 = plcTo D W n t k := by simp [plcJ]

theorem plcJ_all (D : List Int) (W n : Nat) (t : Int × Int) (k : Nat) : plcJ D W n t k (nearP W n k).length = plcTo D W n t (k + 1) := by
  unfold plcJ
  rw [List.take_length, plcTo_step]
  rfl

theorem plcJ_yes {D : List Int} {W n : Nat} {t : Int × Int} {k j : Nat} (h : j < (nearP W n k).length) (e : prT D (nearP W n k)[j] = t) : plcJ D W n t k (j + 1) = plcJ D W n t k j ++ [((nearP W n k)[j].1, (nearP W n k)[j].2)] := by
  unfold plcJ
  rw [List.take_succ_eq_append_getElem h, List.filter_append, List.append_assoc]
  congr 2
  simp [e]

theorem plcJ_no {D : List Int} {W n : Nat} {t : Int × Int} {k j : Nat} (h : j < (nearP W n k).length) (e : prT D (nearP W n k)[j] ≠ t) : plcJ D W n t k (j + 1) = plcJ D W n t k j := by
  unfold plcJ
  rw [List.take_succ_eq_append_getElem h, List.filter_append]
  simp [e]

theorem nearP_len (W n k : Nat) : (nearP W n k).length ≤ 2 := by
  unfold nearP
  rw [List.length_append]
  split <;> split <;> simp

theorem plcTo_len (D : List Int) (W n : Nat) (t : Int × Int) : ∀ k, (plcTo D W n t k).length ≤ 2 * k
  | 0 => by simp [plcTo]
  | k + 1 => by
    have h1 := plcTo_len D W n t k
    have h2 := nearP_len W n k
    have h3 : (plcAt D W n t k).length ≤ (nearP W n k).length := List.length_filter_le _ _
    rw [plcTo_step, List.length_append]
    omega

theorem plcJ_len (D : List Int) (W n : Nat) (t : Int × Int) (k j : Nat) : (plcJ D W n t k j).length ≤ 2 * k + 2 := by
  unfold plcJ
  rw [List.length_append]
  have h1 := plcTo_len D W n t k
  have h2 := nearP_len W n k
  have h3 : (((nearP W n k).take j).filter fun p => decide (prT D p = t)).length ≤ ((nearP W n k).take j).length := List.length_filter_le _ _
  have h4 : ((nearP W n k).take j).length ≤ (nearP W n k).length := by simp; omega
  omega

theorem nearP_in {W n k : Nat} (hW : 0 < W) (hr : ∃ H, n = H * W) (hk : k < n) : ∀ p ∈ nearP W n k, ∃ i j : Nat, p = ((i : Int), (j : Int)) ∧ i < n ∧ j < n := by
  intro p hp
  unfold nearP at hp
  rw [List.mem_append] at hp
  rcases hp with hp | hp
  · split at hp
    · rename_i he
      rw [List.mem_singleton] at hp
      refine ⟨k, k + 1, hp, hk, ?_⟩
      obtain ⟨H, hH⟩ := hr
      unfold eastB at he
      have he := of_decide_eq_true he
      rcases Nat.lt_or_ge (k + 1) n with h | h
      · exact h
      · exact absurd (show (k + 1) % W = 0 from by rw [show k + 1 = H * W from by omega, Nat.mul_mod_left]) he
    · cases hp
  · split at hp
    · rw [List.mem_singleton] at hp
      exact ⟨k, k + W, hp, hk, by omega⟩
    · cases hp

/-- A list read stays where another block turns. -/
theorem RdT.kept {w w' : World} {A : Option Addr} {ts : List (Int × Int)} {row : Option Nat} (h : RdT w A ts) (hg : w.grownBy w' row) (hne : ∀ g a, row = some g → A = some a → a.block ≠ g) : RdT w' A ts := by
  obtain ⟨b, off, h1, h2⟩ := h
  refine ⟨b, off, h1, fun k hk => ?_⟩
  have hA := h1 (by rintro rfl; simp at hk)
  exact ⟨World.grownBy.cell hg (h2 k hk).1 (fun e => hne _ _ e.symm hA rfl), World.grownBy.cell hg (h2 k hk).2 (fun e => hne _ _ e.symm hA rfl)⟩

/-- One pair appended; where the row lies then. -/
theorem wp_append_pair_at {w : World} {ops : Array Oper} {rest : List Oper} {o : Oper} {a : Act} {Q : Exit → Act → World → Prop} (hgd : o.guard = none) (s x : Operand)
    (ho : o.op = .call { callee := .builtin .append, args := #[s, x], argTypes := #[57, 57] }) (base : Nat) (v : Value) (ts : List (Int × Int)) (hs : a.eval s = v)
    (hown : w.ownsRow base 81 2 v ts.length (cellsT ts)) (p q : Int) (g : Nat) (hx : a.eval x = .slice (some ⟨g, 0, none⟩) 1 1)
    (h0 : w.cell? ⟨g, 0, none⟩ = some (.int .i64 p)) (h1 : w.cell? ⟨g, 1, none⟩ = some (.int .i64 q)) (hlen : ts.length ≤ 4194304) (hbase : base ≤ w.heap.size)
    (h : ∀ A c w', w'.ownsRow base 81 2 (.slice A (ts.length + 1) c) (ts.length + 1) (cellsT (ts ++ [(p, q)])) → w.grownBy w' v.ownBlock → ((Value.slice A (ts.length + 1) c).ownBlock = v.ownBlock ∨ (Value.slice A (ts.length + 1) c).ownBlock = some w.heap.size) → wpList Tryd.prog ops Q rest (a.put o.dst (.slice A (ts.length + 1) c)) w') :
    wpList Tryd.prog ops Q (o :: rest) a w := by
  obtain ⟨i0, hi, hz0, hz1, hz2⟩ := info_parts Tryd.info_pair
  refine wpList_append_own_at w hgd s x 57 ho base 81 i0 _ 2 16 Tryd.underlying57 hi hz0 hz1 hz2 rfl (by decide) v ts.length (cellsT ts) hs hown ⟨g, 0, none⟩ 1 1 [.int .i64 p, .int .i64 q] hx rfl ?_ ?_ (by unfold maxLen; omega) (by omega) hbase ?_
  · intro j u hj
    match j, hj with
    | 0, hj => simp at hj; subst hj; simpa [Addr.add] using h0
    | 1, hj => simp at hj; subst hj; simpa [Addr.add] using h1
  · intro u hu
    simp at hu
    rcases hu with rfl | rfl <;> rfl
  · intro v' w' h1 h2 _ hat
    have h1' := h1
    obtain ⟨_, ⟨_, hn⟩ | ⟨g', cap, cur, rfl, _⟩⟩ := h1'
    · omega
    refine h _ _ w' ?_ h2 hat
    rw [cellsT_append]
    exact h1

def prL (P : List (Int × Int)) : List (List Int) := P.map fun p => [p.1, p.2]

theorem prL_get {P : List (Int × Int)} {k : Nat} (h : k < P.length) : (prL P).getD k [] = [P[k].1, P[k].2] := by simp [prL, h]

set_option maxRecDepth 100000 in
set_option maxHeartbeats 2000000 in
theorem c_listsOfPairs (A : Option Addr) (c : Nat) (P : List (Int × Int)) (w : World) (hr : RdT w A P) (hl : P.length ≤ 1048576) :
    Calls Tryd.prog 29 #[.slice A P.length c] w (RetIR w (prL P)) := by
  obtain ⟨i0, hi, hz0, hz1, hz2⟩ := info_parts Tryd.info_rowI
  have hpl : (prL P).length = P.length := by simp [prL]
  have Hget := Lib.hid (fun k (h : k < P.length) => prL_get h)
  generalize prL P = tss at *
  show Calls Tryd.prog 29 #[.slice A P.length c] w (RetIR w tss)
  go_enter Tryd.func29, Tryd.ntmps29
  go_wp2_with (refine wpList_make_full _ rfl _ _ _ rfl w.heap.size 44 i0 _ 1 Tryd.underlying24 hi hz0 hz1 .i64 .i64 _ _ P.length rfl rfl rfl rfl (by rw [hz2]; omega) (by unfold maxLen; omega) (Nat.le_refl _) ?_; intro w1 hown1 hg1)
  have hb1 : Below w.heap.size w w1 := below_of_grown hg1 (Nat.le_refl _) (by simp)
  have hO1 : OwnII w1 w.heap.size w1.heap.size (.slice (some ⟨w.heap.size, 0, none⟩) P.length P.length) (fillTo tss 0) := by
    rw [← hpl]
    rw [← hpl] at hown1
    refine ⟨fun _ => none, fun _ => 0, ?_, fun g hg => (hown1.lt g hg).2, fun k hk => ⟨?_, fun g hg => (by cases hg), .inl rfl⟩, fun j k _ _ => .inl rfl⟩
    · have e1 : (fillTo tss 0).length = tss.length := fillTo_len (Nat.zero_le _)
      have e2 : (madeCells (Value.slice none 0 0).cells (tss.length * 1)).toList = (List.range (fillTo tss 0).length).map (rowV (fun _ => none) (fun _ => 0) (fillTo tss 0)) := by
        rw [e1, Nat.mul_one]
        refine (toList_madeCells_one (.slice none 0 0) tss.length).trans ?_
        apply List.ext_getElem
        · simp
        · intro i i1 i2
          rw [List.getElem_replicate, List.getElem_map, List.getElem_range]
          unfold rowV
          rw [fillTo_zero]
          rfl
      rw [← e2, e1]
      exact hown1
    · rw [rowV, fillTo_zero]
      exact World.ownsRow_nil _ _ _ _
  clear hg1 hz0 hz1 hz2 hi hown1
  go_loopw [11] (fun i wr => ∃ k : Nat, k ≤ P.length ∧ i = .int .i64 k ∧ OwnII wr w.heap.size wr.heap.size (.slice (some ⟨w.heap.size, 0, none⟩) P.length P.length) (fillTo tss k) ∧ Below w.heap.size w wr) (fun i _ => P.length - (intOf i).toNat)
  case atStart => exact ⟨0, Nat.zero_le _, rfl, hO1, hb1⟩
  case round =>
    clear hO1 hb1
    obtain ⟨k, hk, rfl, hown, hb⟩ := hrel
    by_cases hlt : k < P.length
    · obtain ⟨bk, off, rfl, hbk, hc⟩ := hr.at_ hlt
      have g1 := keepc hb (hc k hlt).1
      have g2 := keepc hb (hc k hlt).2
      have hfl := fillTo_len (tss := tss) (k := k) (by omega)
      have hst := fillTo_step (tss := tss) (k := k) (by omega)
      rw [Hget.out k hlt] at hst
      rw [hpl] at hfl
      obtain ⟨v0, x1⟩ : ∃ v0, wr.cell? ⟨w.heap.size, k, none⟩ = some v0 := by
        obtain ⟨B2, d2, o1, _⟩ := hown
        have hgt : ((List.range (fillTo tss k).length).map (rowV B2 d2 (fillTo tss k)))[k]? = some (rowV B2 d2 (fillTo tss k) k) := by simp [hfl, hlt]
        rw [hfl] at o1 hgt
        exact ⟨_, (o1.cellAt k (by omega)).trans hgt⟩
      have f1 : wr.frozen? ⟨w.heap.size, k, none⟩ = false := by
        obtain ⟨B2, d2, o1, _⟩ := hown
        rw [hfl] at o1
        exact o1.frozenAt k
      have hsz : w.heap.size < wr.heap.size := (hown.lt w.heap.size rfl).2
      have Hst := Lib.hid hst
      have Hfl := Lib.hid hfl
      have Ho := Lib.hid hown
      have Hb := Lib.hid hb
      have i0 : (0 : Int) ≤ (k : Int) := by omega
      have i1 : (k : Int) < (P.length : Int) := by omega
      clear hc hst hfl hown hb Hget
      generalize P[k].1 = p at *
      generalize P[k].2 = q at *
      have hbA : Below wr.heap.size wr ((wr.alloc (.cells #[.int .i64 p, .int .i64 q] 81)).alloc (.cells #[.int .i64 p, .int .i64 q] 3)) := (Below.refl _ wr).alloc (Nat.le_refl _) _ |>.alloc (by simp) _
      have y1 := keepc hbA x1
      have y2 := (hbA.frozen (p := ⟨w.heap.size, k, none⟩) hsz).trans f1
      have z0 : (wr.alloc (.cells #[.int .i64 p, .int .i64 q] 81)).cell? ⟨wr.heap.size, 0, none⟩ = some (.int .i64 p) := by simp [go_sem]
      have z1 : (wr.alloc (.cells #[.int .i64 p, .int .i64 q] 81)).cell? ⟨wr.heap.size, 1, none⟩ = some (.int .i64 q) := by simp [go_sem]
      have HbA := Lib.hid hbA
      clear hbA x1 f1
      go_wp2
      go_roundw
      case rel =>
        have heq : ((wr.setCell ⟨w.heap.size, k, none⟩ (.slice (some ⟨wr.heap.size + 1, 0, none⟩) 2 2)).alloc (.cells #[.int .i64 p, .int .i64 q] 81)).alloc (.cells #[.int .i64 p, .int .i64 q] 3) = ((wr.alloc (.cells #[.int .i64 p, .int .i64 q] 81)).alloc (.cells #[.int .i64 p, .int .i64 q] 3)).setCell ⟨w.heap.size, k, none⟩ (.slice (some ⟨wr.heap.size + 1, 0, none⟩) 2 2) := by rw [World.setCell_alloc_past _ _ _ _ (by simp; omega), World.setCell_alloc_past _ _ _ _ hsz]
        rw [heq]
        refine ⟨k + 1, by omega, by go_num, ?_, (Hb.out.trans (HbA.out.mono (by omega))).setCell (Nat.le_refl _) _⟩
        rw [← Hst.out]
        have hlit : ((wr.alloc (.cells #[.int .i64 p, .int .i64 q] 81)).alloc (.cells #[.int .i64 p, .int .i64 q] 3)).ownsRow wr.heap.size 3 1 (.slice (some ⟨wr.heap.size + 1, 0, none⟩) 2 2) 2 (cellsI [p, q]) := by
          have h := World.ownsRow_lit (base := wr.heap.size) (e := 3) (size := 1) (wr.alloc (.cells #[.int .i64 p, .int .i64 q] 81)) #[.int .i64 p, .int .i64 q] 2 (by simp) (by unfold maxLen; omega) rfl
          rw [World.size_alloc] at h
          exact h
        have hf := OwnRR.fill (cp := P.length) (k := k) (by rw [Hfl.out]; exact Ho.out.below HbA.out (Nat.le_refl _)) (by rw [Hfl.out]; exact hlt) (ts := [p, q]) hlit (by omega) (Nat.le_refl _)
        rw [Hfl.out] at hf
        exact hf.fit
      case measure => simp [intOf]; omega
    · obtain rfl : k = P.length := by omega
      rw [← hpl, fillTo_all, hpl] at hown
      go_wp2
      go_ret
      exact ⟨some ⟨w.heap.size, 0, none⟩, P.length, by rw [hpl]; rfl, by rw [hpl]; exact hown, hb⟩

end Go.Proofs.YtjbdflkbclhonabDoor

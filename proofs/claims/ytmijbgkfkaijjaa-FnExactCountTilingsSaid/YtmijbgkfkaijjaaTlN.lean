/- Layouts: the pairs of which a cell is the lesser one, for a seat without tables' texts. -/
import Derived.Test.YtmijbgkfkaijjaaHelp
import Derived.BigQuiet
import Derived.Deep.MidRow
namespace Go.Proofs.Ytmijbgkfkaijjaa
open Go.RowKit
set_option linter.unusedVariables false

theorem Try.info_pair : (Try.prog.info? 56).map (fun i => (i.zero, i.size, i.bytes)) = some (some (.agg #[.int .i64 0, .int .i64 0]), 2, 16) := by kernel_rfl
/-- One pair appended to a row of the call's own. -/
theorem wp_append_pair {w : World} {ops : Array Oper} {rest : List Oper} {o : Oper} {a : Act} {Q : Exit → Act → World → Prop} (hgd : o.guard = none) (s x : Operand)
    (ho : o.op = .call { callee := .builtin .append, args := #[s, x], argTypes := #[53, 53] }) (base : Nat) (v : Value) (ts : List (Int × Int)) (hs : a.eval s = v)
    (hown : w.ownsRow base 56 2 v ts.length (cellsT ts)) (p q : Int) (g : Nat) (hx : a.eval x = .slice (some ⟨g, 0, none⟩) 1 1)
    (h0 : w.cell? ⟨g, 0, none⟩ = some (.int .i64 p)) (h1 : w.cell? ⟨g, 1, none⟩ = some (.int .i64 q)) (hlen : ts.length ≤ 4194304) (hbase : base ≤ w.heap.size)
    (h : ∀ A c w', w'.ownsRow base 56 2 (.slice A (ts.length + 1) c) (ts.length + 1) (cellsT (ts ++ [(p, q)])) → w.grownBy w' v.ownBlock → wpList Try.prog ops Q rest (a.put o.dst (.slice A (ts.length + 1) c)) w') :
    wpList Try.prog ops Q (o :: rest) a w := by
  obtain ⟨i0, hi, hz0, hz1, hz2⟩ := info_parts Try.info_pair
  refine wpList_append_own w hgd s x 53 ho base 56 i0 _ 2 16 Try.underlying53 hi hz0 hz1 hz2 rfl (by decide) v ts.length (cellsT ts) hs hown ⟨g, 0, none⟩ 1 1 [.int .i64 p, .int .i64 q] hx rfl ?_ ?_ (by unfold maxLen; omega) (by omega) hbase ?_
  · intro j u hj
    match j, hj with
    | 0, hj => simp at hj; subst hj; simpa [Addr.add] using h0
    | 1, hj => simp at hj; subst hj; simpa [Addr.add] using h1
  · intro u hu
    simp at hu
    rcases hu with rfl | rfl <;> rfl
  · intro v' w' h1 h2 _
    have h1' := h1
    obtain ⟨_, ⟨_, hn⟩ | ⟨g', cap, cur, rfl, _⟩⟩ := h1'
    · omega
    refine h _ _ w' ?_ h2
    rw [cellsT_append]
    exact h1
/-- A row of pairs, read. -/
theorem ownP_at {w : World} {base : Nat} {A : Option Addr} {c : Nat} {ts : List (Int × Int)} (h : w.ownsRow base 56 2 (.slice A ts.length c) ts.length (cellsT ts)) (h0 : 0 < ts.length) :
    ∃ g, A = some ⟨g, 0, none⟩ ∧ base ≤ g ∧ g < w.heap.size ∧ ∀ k (hk : k < ts.length), w.cell? ⟨g, k * 2, none⟩ = some (.int .i64 ts[k].1) ∧ w.cell? ⟨g, k * 2 + 1, none⟩ = some (.int .i64 ts[k].2) := by
  have h' := h
  obtain ⟨hl, ⟨hv, hn⟩ | ⟨g, cap, cur, hv, hb, hh, r⟩⟩ := h'
  · omega
  · cases hv
    refine ⟨g, rfl, hb, (Array.getElem?_eq_some_iff.1 hh).1, fun k hk => ?_⟩
    have := cellsT_get ts k hk
    exact ⟨(h.cellAt (k * 2) (by omega)).trans this.1, (h.cellAt (k * 2 + 1) (by omega)).trans this.2⟩

theorem belowN {B : Nat} {a w : World} (h : Below B a w) (n : Nat) : Below B a (w.drewN n) := h.trans ⟨rfl, rfl, rfl, Nat.le_refl _, fun _ _ => rfl⟩
def eastB (W i : Nat) : Bool := decide ((i + 1) % W ≠ 0)
def nearP (W n i : Nat) : List (Int × Int) := (if eastB W i then [((i : Int), ((i + 1 : Nat) : Int))] else []) ++ (if i + W < n then [((i : Int), ((i + W : Nat) : Int))] else [])
/-- A cell has one to its east in a row of W: told by what is left of the cell's number, or of the next one's. -/
theorem east_iff {W i : Nat} (hW : 0 < W) : eastB W i = decide (i % W < W - 1) := by
  unfold eastB
  have h1 := Nat.mod_lt i hW
  have e : (i + 1) % W = if i % W + 1 = W then 0 else i % W + 1 := by
    rw [Nat.add_mod]
    by_cases h : W = 1
    · subst h; simp [Nat.mod_one]
    · rw [Nat.mod_eq_of_lt (show 1 < W by omega)]
      split
      · rename_i h2; rw [h2, Nat.mod_self]
      · exact Nat.mod_eq_of_lt (by omega)
  rw [e]
  split <;> simp <;> omega

set_option maxRecDepth 100000 in
set_option maxHeartbeats 1000000 in
theorem c_taNear (W H n k : Nat) (A : Option Addr) (d c : Nat) (w : World) (hW : 0 < W) (hn : (W : Int) * (H : Int) = (n : Int)) (hk : k < n) (k30 : n ≤ 60) (hW30 : W ≤ 60) :
    Calls Try.prog 10 #[.agg #[.int .i64 W, .int .i64 H, .slice A d c], .int .i64 k] w fun e w' => e = .returned (.tuple #[.int .i64 (if eastB W k then ((k + 1 : Nat) : Int) else -1), .int .i64 (if k + W < n then ((k + W : Nat) : Int) else -1)]) ∧ Below w.heap.size w w' := by
  have r0 : (w.alloc (.cells #[.int .i64 W, .int .i64 H, .slice A d c] 29)).cell? ⟨w.heap.size, 0, none⟩ = some (.int .i64 W) := by simp
  have r1 : (w.alloc (.cells #[.int .i64 W, .int .i64 H, .slice A d c] 29)).cell? ⟨w.heap.size, 1, none⟩ = some (.int .i64 H) := by simp
  have hr : (k : Int).tmod (W : Int) = ((k % W : Nat) : Int) := by rw [Int.tmod_eq_emod_of_nonneg (by omega)]; rfl
  have h1 := Nat.mod_lt k hW
  have q0 : ((W : Int) == 0) = false := by simp; omega
  have q1 : ¬ (W : Int) = 0 := by omega
  have iw1 : IntKind.i64.wrap ((W : Int) - 1) = (W : Int) - 1 := IntWalk.i64_in _ (by omega)
  have i2 : IntKind.i64.wrap ((k : Int) + 1) = ((k + 1 : Nat) : Int) := by rw [IntWalk.i64_in _ (by omega)]; simp
  have i3 : IntKind.i64.wrap ((k : Int) + (W : Int)) = ((k + W : Nat) : Int) := by rw [IntWalk.i64_in _ (by omega)]; simp
  have i4 : IntKind.i64.wrap ((W : Int) * (H : Int)) = (n : Int) := by rw [hn]; exact IntWalk.i64_in _ (by omega)
  have hb0 : Below w.heap.size w (w.alloc (.cells #[.int .i64 W, .int .i64 H, .slice A d c] 29)) := by go_grown
  have hea := east_iff (i := k) hW
  cases he : eastB W k
  · rw [he] at hea
    have e1 : decide (((k % W : Nat) : Int) < (W : Int) - 1) = false := by have := of_decide_eq_false hea.symm; exact decide_eq_false (by omega)
    generalize k % W = m at *
    by_cases hs : k + W < n
    · have e2 : decide (((k + W : Nat) : Int) < (n : Int)) = true := decide_eq_true (by omega)
      rw [if_pos hs]
      clear hea he
      go_enter Try.func10, Try.ntmps10
      go_wp2
      go_quiet (fail)
      go_wp2
      go_ret2
      exact ⟨rfl, by first | exact belowN hb0 _ | exact hb0⟩
    · have e2 : decide (((k + W : Nat) : Int) < (n : Int)) = false := decide_eq_false (by omega)
      rw [if_neg hs]
      clear hea he
      go_enter Try.func10, Try.ntmps10
      go_wp2
      go_quiet (fail)
      go_wp2
      go_ret2
      exact ⟨rfl, by first | exact belowN hb0 _ | exact hb0⟩
  · rw [he] at hea
    have e1 : decide (((k % W : Nat) : Int) < (W : Int) - 1) = true := by have := of_decide_eq_true hea.symm; exact decide_eq_true (by omega)
    generalize k % W = m at *
    by_cases hs : k + W < n
    · have e2 : decide (((k + W : Nat) : Int) < (n : Int)) = true := decide_eq_true (by omega)
      rw [if_pos hs]
      clear hea he
      go_enter Try.func10, Try.ntmps10
      go_wp2
      go_quiet (fail)
      go_wp2
      go_ret2
      exact ⟨rfl, by first | exact belowN hb0 _ | exact hb0⟩
    · have e2 : decide (((k + W : Nat) : Int) < (n : Int)) = false := decide_eq_false (by omega)
      rw [if_neg hs]
      clear hea he
      go_enter Try.func10, Try.ntmps10
      go_wp2
      go_quiet (fail)
      go_wp2
      go_ret2
      exact ⟨rfl, by first | exact belowN hb0 _ | exact hb0⟩

def RetPs (w : World) (ts : List (Int × Int)) (e : Ending) (w' : World) : Prop :=
  ∃ A c, e = .returned (.slice A ts.length c) ∧ w'.ownsRow w.heap.size 56 2 (.slice A ts.length c) ts.length (cellsT ts) ∧ Below w.heap.size w w'

set_option maxRecDepth 100000 in
set_option maxHeartbeats 1000000 in
theorem c_pairsFrom (W n k : Nat) (A : Option Addr) (c : Nat) (w : World) (hW : 0 < W) (hk : k < n) (k30 : n ≤ 60) (hW30 : W ≤ 60) :
    Calls Try.prog 17 #[.agg #[.slice A n c, .int .i64 W], .int .i64 k] w (RetPs w (nearP W n k)) := by
  have hr : ((k : Int) + 1).tmod (W : Int) = (((k + 1) % W : Nat) : Int) := by rw [Int.tmod_eq_emod_of_nonneg (by omega)]; rfl
  have q0 : ((W : Int) == 0) = false := by simp; omega
  have q1 : ¬ (W : Int) = 0 := by omega
  have i2 : IntKind.i64.wrap ((k : Int) + 1) = ((k : Int) + 1) := IntWalk.i64_in _ (by omega)
  have i3 : IntKind.i64.wrap ((k : Int) + (W : Int)) = ((k : Int) + (W : Int)) := IntWalk.i64_in _ (by omega)
  have i4 : IntKind.i64.wrap (((k + 1) % W : Nat) : Int) = (((k + 1) % W : Nat) : Int) := IntWalk.i64_in _ (by have := Nat.mod_lt (k + 1) hW; omega)
  have hb0 : Below w.heap.size w (w.alloc (.cells #[.slice A n c, .int .i64 W] 39)) := by go_grown
  have r0 : (w.alloc (.cells #[.slice A n c, .int .i64 W] 39)).cell? ⟨w.heap.size, 0, none⟩ = some (.slice A n c) := by simp
  have r1 : (w.alloc (.cells #[.slice A n c, .int .i64 W] 39)).cell? ⟨w.heap.size, 1, none⟩ = some (.int .i64 W) := by simp
  have x0 : ((w.alloc (.cells #[.slice A n c, .int .i64 W] 39)).alloc (.cells #[.int .i64 k, .int .i64 ((k : Int) + (W : Int))] 56)).cell? ⟨w.heap.size + 1, 0, none⟩ = some (.int .i64 k) := by simp [go_sem]
  have x1 : ((w.alloc (.cells #[.slice A n c, .int .i64 W] 39)).alloc (.cells #[.int .i64 k, .int .i64 ((k : Int) + (W : Int))] 56)).cell? ⟨w.heap.size + 1, 1, none⟩ = some (.int .i64 ((k : Int) + (W : Int))) := by simp [go_sem]
  have y0 : ((w.alloc (.cells #[.slice A n c, .int .i64 W] 39)).alloc (.cells #[.int .i64 k, .int .i64 ((k : Int) + 1)] 56)).cell? ⟨w.heap.size + 1, 0, none⟩ = some (.int .i64 k) := by simp [go_sem]
  have y1 : ((w.alloc (.cells #[.slice A n c, .int .i64 W] 39)).alloc (.cells #[.int .i64 k, .int .i64 ((k : Int) + 1)] 56)).cell? ⟨w.heap.size + 1, 1, none⟩ = some (.int .i64 ((k : Int) + 1)) := by simp [go_sem]
  have hbS : Below w.heap.size w ((w.alloc (.cells #[.slice A n c, .int .i64 W] 39)).alloc (.cells #[.int .i64 k, .int .i64 ((k : Int) + (W : Int))] 56)) := hb0.alloc hb0.size _
  have hbE : Below w.heap.size w ((w.alloc (.cells #[.slice A n c, .int .i64 W] 39)).alloc (.cells #[.int .i64 k, .int .i64 ((k : Int) + 1)] 56)) := hb0.alloc hb0.size _
  have s0 : ((w.alloc (.cells #[.slice A n c, .int .i64 W] 39)).alloc (.cells #[.int .i64 k, .int .i64 ((k : Int) + 1)] 56)).cell? ⟨w.heap.size, 0, none⟩ = some (.slice A n c) := keepc ((Below.refl _ _).alloc (Nat.le_refl _) _) r0
  have s1 : ((w.alloc (.cells #[.slice A n c, .int .i64 W] 39)).alloc (.cells #[.int .i64 k, .int .i64 ((k : Int) + 1)] 56)).cell? ⟨w.heap.size, 1, none⟩ = some (.int .i64 W) := keepc ((Below.refl _ _).alloc (Nat.le_refl _) _) r1
  cases he : eastB W k
  · have hm0 : (k + 1) % W = 0 := by unfold eastB at he; have := of_decide_eq_false he; omega
    have e1 : ((((k + 1) % W : Nat) : Int) != 0) = false := by rw [hm0]; rfl
    clear hm0
    generalize (k + 1) % W = m at *
    by_cases hs : k + W < n
    · have el : nearP W n k = [] ++ [((k : Int), ((k : Int) + (W : Int)))] := by unfold nearP; rw [he, if_pos hs]; simp
      have e2 : decide (k + W < n) = true := decide_eq_true hs
      have e3 : ((k : Int) + (W : Int)) < (n : Int) := by omega
      rw [el]
      clear el he
      go_enter Try.func17, Try.ntmps17
      generalize hz : (none : Option Addr) = z
      have Hz : ∀ u : World, u.ownsRow w.heap.size 56 2 (.slice z 0 0) 0 (cellsT []) := fun u => by rw [← hz]; exact World.ownsRow_nil _ _ _ _
      have Hzb : (Value.slice z 0 0).ownBlock = none := by rw [← hz]; rfl
      clear hz
      go_wp2_with (refine wp_append_pair rfl (.tmp 29) (.tmp 33) rfl w.heap.size (.slice z 0 0) [] rfl (Hz _) k ((k : Int) + (W : Int)) (w.heap.size + 1) rfl x0 x1 (by simp) hbS.size ?_; intro A3 c3 w6 hown6 hg6)
      go_ret
      exact ⟨A3, c3, rfl, hown6, Below.grown hbS hg6 hbS.size (fun g hg => by rw [Hzb] at hg; cases hg)⟩
    · have el : nearP W n k = [] := by unfold nearP; rw [he, if_neg hs]; simp
      have e3 : ¬ ((k : Int) + (W : Int)) < (n : Int) := by omega
      rw [el]
      clear el he
      go_enter Try.func17, Try.ntmps17
      go_wp2
      go_ret
      exact ⟨none, 0, rfl, World.ownsRow_nil _ _ _ _, hb0⟩
  · have hm0 : (k + 1) % W ≠ 0 := by unfold eastB at he; exact of_decide_eq_true he
    have e1 : ((((k + 1) % W : Nat) : Int) != 0) = true := bne_iff_ne.2 (by omega)
    clear hm0
    generalize (k + 1) % W = m at *
    by_cases hs : k + W < n
    · have el : nearP W n k = ([] ++ [((k : Int), ((k : Int) + 1))]) ++ [((k : Int), ((k : Int) + (W : Int)))] := by unfold nearP; rw [he, if_pos hs]; simp
      have e3 : ((k : Int) + (W : Int)) < (n : Int) := by omega
      rw [el]
      clear el he
      go_enter Try.func17, Try.ntmps17
      generalize hz : (none : Option Addr) = z
      have Hz : ∀ u : World, u.ownsRow w.heap.size 56 2 (.slice z 0 0) 0 (cellsT []) := fun u => by rw [← hz]; exact World.ownsRow_nil _ _ _ _
      have Hzb : (Value.slice z 0 0).ownBlock = none := by rw [← hz]; rfl
      clear hz
      go_wp2_with (first | (refine wp_append_pair rfl (.tmp 13) (.tmp 18) rfl w.heap.size (.slice z 0 0) [] rfl (Hz _) k ((k : Int) + 1) (w.heap.size + 1) rfl y0 y1 (by simp) hbE.size ?_; intro A3 c3 w6 hown6 hg6; have z0 := World.grownBy.cell hg6 s0 (fun e => by rw [Hzb] at e; cases e); have z1 := World.grownBy.cell hg6 s1 (fun e => by rw [Hzb] at e; cases e); have hb6 : Below w.heap.size w w6 := Below.grown hbE hg6 hbE.size (fun g hg => by rw [Hzb] at hg; cases hg); have hsz6 : w.heap.size < w6.heap.size := block_lt z0; have Ho6 := Lib.hid (hown6.alloc (.cells #[.int .i64 k, .int .i64 ((k : Int) + (W : Int))] 56))) | (refine wp_append_pair rfl (.tmp 29) (.tmp 33) rfl w.heap.size (.slice A3 1 c3) ([] ++ [((k : Int), ((k : Int) + 1))]) rfl Ho6.out k ((k : Int) + (W : Int)) w6.heap.size rfl (by simp) (by simp) (by simp) (by rw [World.size_alloc]; omega) ?_; intro A4 c4 w7 hown7 hg7))
      go_ret
      exact ⟨A4, c4, rfl, hown7, Below.grown (hb6.alloc hb6.size _) hg7 (by rw [World.size_alloc]; omega) (fun g hg => (hown6.lt g hg).1)⟩
    · have el : nearP W n k = [] ++ [((k : Int), ((k : Int) + 1))] := by unfold nearP; rw [he, if_neg hs]; simp
      have e3 : ¬ ((k : Int) + (W : Int)) < (n : Int) := by omega
      rw [el]
      clear el he
      go_enter Try.func17, Try.ntmps17
      generalize hz : (none : Option Addr) = z
      have Hz : ∀ u : World, u.ownsRow w.heap.size 56 2 (.slice z 0 0) 0 (cellsT []) := fun u => by rw [← hz]; exact World.ownsRow_nil _ _ _ _
      have Hzb : (Value.slice z 0 0).ownBlock = none := by rw [← hz]; rfl
      clear hz
      go_wp2_with (refine wp_append_pair rfl (.tmp 13) (.tmp 18) rfl w.heap.size (.slice z 0 0) [] rfl (Hz _) k ((k : Int) + 1) (w.heap.size + 1) rfl y0 y1 (by simp) hbE.size ?_; intro A3 c3 w6 hown6 hg6; have z0 := World.grownBy.cell hg6 s0 (fun e => by rw [Hzb] at e; cases e); have z1 := World.grownBy.cell hg6 s1 (fun e => by rw [Hzb] at e; cases e); have hsz6 : w.heap.size < w6.heap.size := block_lt z0)
      go_ret
      exact ⟨A3, c3, rfl, hown6, Below.grown hbE hg6 hbE.size (fun g hg => by rw [Hzb] at hg; cases hg)⟩

end Go.Proofs.Ytmijbgkfkaijjaa

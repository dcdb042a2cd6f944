/- Rows of rows that a call owns, whose blocks all keep a property (to lie apart from blocks that are written beside). -/
import Derived.Test.YtcofambcicnonaaNest
import Derived.Test.YtcofambcicnonaaBx2
import Derived.Test.YtcofambcicnonaaGamB
namespace Go.Proofs.Ytcofambcicnonaa
open Go.RowKit
set_option linter.unusedVariables false

section
variable {α : Type} {oe e sz : Nat} {cells : List α → List Value}
def OwnPP (oe e sz : Nat) (cells : List α → List Value) (w : World) (lo : Nat) (P : Nat → Prop) (v : Value) (tss : List (List α)) : Prop :=
  ∃ B d, w.ownsRow lo oe 1 v tss.length ((List.range tss.length).map (rowV B d tss)) ∧ (∀ g, v.ownBlock = some g → P g) ∧
    (∀ k, k < tss.length → w.ownsRow lo e sz (rowV B d tss k) (tss.getD k []).length (cells (tss.getD k [])) ∧ (∀ g, (rowV B d tss k).ownBlock = some g → P g) ∧ Apart (rowV B d tss k) v) ∧
    (∀ j k, j < k → k < tss.length → Apart (rowV B d tss j) (rowV B d tss k))
variable {w w' : World} {lo : Nat} {P P' : Nat → Prop} {v : Value} {tss : List (List α)}
theorem OwnPP.nil (w : World) (lo : Nat) (P : Nat → Prop) : OwnPP oe e sz cells w lo P (.slice none 0 0) [] :=
  ⟨fun _ => none, fun _ => 0, World.ownsRow_nil _ _ _ _, fun g h => by simp [Value.ownBlock] at h, fun k h => by simp at h, fun j k _ h => by simp at h⟩
theorem OwnPP.toRR (h : OwnPP oe e sz cells w lo P v tss) : OwnRR oe e sz cells w lo w.heap.size v tss := by
  obtain ⟨B, d, h1, h2, h3, h4⟩ := h
  exact ⟨B, d, h1, fun g hg => (h1.lt g hg).2, fun k hk => ⟨(h3 k hk).1, fun g hg => ((h3 k hk).1.lt g hg).2, (h3 k hk).2.2⟩, h4⟩
theorem OwnPP.mono (h : OwnPP oe e sz cells w lo P v tss) (hp : ∀ g, g < w.heap.size → P g → P' g) : OwnPP oe e sz cells w lo P' v tss := by
  obtain ⟨B, d, h1, h2, h3, h4⟩ := h
  exact ⟨B, d, h1, fun g hg => hp g (h1.lt g hg).2 (h2 g hg), fun k hk => ⟨(h3 k hk).1, fun g hg => hp g ((h3 k hk).1.lt g hg).2 ((h3 k hk).2.1 g hg), (h3 k hk).2.2⟩, h4⟩
theorem OwnPP.base {lo' : Nat} (h : OwnPP oe e sz cells w lo P v tss) (hb : lo' ≤ lo) : OwnPP oe e sz cells w lo' P v tss := by
  obtain ⟨B, d, h1, h2, h3, h4⟩ := h
  exact ⟨B, d, own_base h1 hb, h2, fun k hk => ⟨own_base (h3 k hk).1 hb, (h3 k hk).2⟩, h4⟩
theorem OwnPP.keep (h : OwnPP oe e sz cells w lo P v tss) (hb : Below w.heap.size w w') : OwnPP oe e sz cells w' lo P v tss := by
  obtain ⟨B, d, h1, h2, h3, h4⟩ := h
  exact ⟨B, d, own_keep h1 hb, h2, fun k hk => ⟨own_keep (h3 k hk).1 hb, (h3 k hk).2⟩, h4⟩
/-- Blocks without the property are written. -/
theorem OwnPP.kept {row : Option Nat} (h : OwnPP oe e sz cells w lo P v tss) (hg : w.grownBy w' row) (hne : ∀ g, row = some g → ¬ P g) : OwnPP oe e sz cells w' lo P v tss := by
  obtain ⟨B, d, h1, h2, h3, h4⟩ := h
  have ap : ∀ (u : Value), (∀ g, u.ownBlock = some g → P g) → u.ownBlock = none ∨ u.ownBlock ≠ row := fun u hu => by
    cases hu' : u.ownBlock with
    | none => exact .inl rfl
    | some g => exact .inr fun e => hne g e.symm (hu g hu')
  exact ⟨B, d, h1.kept hg (ap _ h2), h2, fun k hk => ⟨(h3 k hk).1.kept hg (ap _ (h3 k hk).2.1), (h3 k hk).2⟩, h4⟩
theorem OwnPP.set {b j : Nat} {u : Value} (h : OwnPP oe e sz cells w lo P v tss) (hb : ¬ P b) : OwnPP oe e sz cells (w.setCell ⟨b, j, none⟩ u) lo P v tss :=
  h.kept (grown_set2 w b j u) (fun g hg => by cases hg; exact hb)
/-- Blocks that are as they were. -/
theorem OwnPP.blocks (h : OwnPP oe e sz cells w lo P v tss) (hb : ∀ g, g < w.heap.size → P g → w'.heap[g]? = w.heap[g]?) : OwnPP oe e sz cells w' lo P v tss := by
  obtain ⟨B, d, h1, h2, h3, h4⟩ := h
  exact ⟨B, d, own_blockG h1 (fun g hg => hb g (h1.lt g hg).2 (h2 g hg)), h2, fun k hk => ⟨own_blockG (h3 k hk).1 (fun g hg => hb g ((h3 k hk).1.lt g hg).2 ((h3 k hk).2.1 g hg)), (h3 k hk).2⟩, h4⟩
theorem OwnPP.move (h : OwnPP oe e sz cells w lo P v tss) (hb : ∀ g, g < w.heap.size → P g → w'.heap[g]? = w.heap[g]?) (hp : ∀ g, g < w.heap.size → P g → P' g) : OwnPP oe e sz cells w' lo P' v tss := by
  obtain ⟨B, d, h1, h2, h3, h4⟩ := h
  exact ⟨B, d, own_blockG h1 (fun g hg => hb g (h1.lt g hg).2 (h2 g hg)), fun g hg => hp g (h1.lt g hg).2 (h2 g hg), fun k hk => ⟨own_blockG (h3 k hk).1 (fun g hg => hb g ((h3 k hk).1.lt g hg).2 ((h3 k hk).2.1 g hg)), fun g hg => hp g ((h3 k hk).1.lt g hg).2 ((h3 k hk).2.1 g hg), (h3 k hk).2.2⟩, h4⟩
theorem OwnPP.lt (h : OwnPP oe e sz cells w lo P v tss) : ∀ g, v.ownBlock = some g → lo ≤ g ∧ g < w.heap.size := by
  obtain ⟨B, d, h1, _⟩ := h
  exact h1.lt
theorem OwnPP.has (h : OwnPP oe e sz cells w lo P v tss) : ∀ g, v.ownBlock = some g → P g := by
  obtain ⟨B, d, _, h2, _⟩ := h
  exact h2
/-- One row more, made since the world w0. -/
theorem OwnPP.push {w0 : World} {A : Option Addr} {c : Nat} {ts : List α} {v' : Value} (h : OwnPP oe e sz cells w0 lo P v tss) (hb : Below w0.heap.size w0 w) (hrow : w.ownsRow w0.heap.size e sz (.slice A ts.length c) ts.length (cells ts)) (hlo : lo ≤ w0.heap.size)
    (hrows : ∀ g, w0.heap.size ≤ g → P g)
    (hnew : ∀ xs, w.ownsRow lo oe 1 v tss.length xs → w'.ownsRow lo oe 1 v' (tss.length + 1) (xs ++ [.slice A ts.length c])) (hg : w.grownBy w' v.ownBlock) (hat : v'.ownBlock = v.ownBlock ∨ v'.ownBlock = some w.heap.size) :
    OwnPP oe e sz cells w' lo P v' (tss ++ [ts]) := by
  have hh := h.keep hb
  obtain ⟨B, d, k1, k2, k3, k4⟩ := h
  have h1 := own_keep k1 hb
  have h2 := k2
  have h3 : ∀ k, k < tss.length → w.ownsRow lo e sz (rowV B d tss k) (tss.getD k []).length (cells (tss.getD k [])) ∧ (∀ g, (rowV B d tss k).ownBlock = some g → P g) ∧ Apart (rowV B d tss k) v := fun k hk => ⟨own_keep (k3 k hk).1 hb, (k3 k hk).2⟩
  have h4 := k4
  have hsz := hb.size
  have hu : ∀ g, (Value.slice A ts.length c).ownBlock = some g → w0.heap.size ≤ g ∧ g < w.heap.size := hrow.lt
  have hold : ∀ g, v.ownBlock = some g → g < w0.heap.size := fun g hg => (k1.lt g hg).2
  have hin' : ∀ k, k < tss.length → ∀ g, (rowV B d tss k).ownBlock = some g → g < w0.heap.size := fun k hk g hg => ((k3 k hk).1.lt g hg).2
  have new := hnew _ h1
  have eold : ∀ k, k < tss.length → rowV (fun k => if k < tss.length then B k else A) (fun k => if k < tss.length then d k else c) (tss ++ [ts]) k = rowV B d tss k := fun k hk => by
    simp [rowV, hk, List.getElem?_append_left hk]
  have elast : rowV (fun k => if k < tss.length then B k else A) (fun k => if k < tss.length then d k else c) (tss ++ [ts]) tss.length = .slice A ts.length c := by
    simp [rowV]
  have gold : ∀ k, k < tss.length → (tss ++ [ts]).getD k [] = tss.getD k [] := fun k hk => by simp [List.getElem?_append_left hk]
  have glast : (tss ++ [ts]).getD tss.length [] = ts := by simp
  have aprow : ∀ k, k < tss.length → Apart (rowV B d tss k) v' := fun k hk => by
    rcases hat with e0 | e0
    · have := (h3 k hk).2.2
      unfold Apart at *
      rw [e0]; exact this
    · exact Apart.of_lt (m := w.heap.size) (fun g hg => ((h3 k hk).1.lt g hg).2) (fun g hg => by rw [e0] at hg; injection hg with hg; omega)
  have apu : Apart (.slice A ts.length c) v' := by
    rcases hat with e0 | e0
    · exact Apart.of_gt (m := w0.heap.size) (fun g hg => (hu g hg).1) (fun g hg => hold g (by rw [← e0]; exact hg))
    · exact Apart.of_lt (m := w.heap.size) (fun g hg => (hu g hg).2) (fun g hg => by rw [e0] at hg; injection hg with hg; omega)
  have apold : ∀ k, k < tss.length → (rowV B d tss k).ownBlock = none ∨ (rowV B d tss k).ownBlock ≠ v.ownBlock := fun k hk => (h3 k hk).2.2
  have apu0 : (Value.slice A ts.length c).ownBlock = none ∨ (Value.slice A ts.length c).ownBlock ≠ v.ownBlock :=
    Apart.of_gt (u := .slice A ts.length c) (v := v) (m := w0.heap.size) (fun g hg => (hu g hg).1) hold
  have hk' : ∀ g, v'.ownBlock = some g → P g := fun g hg => by
    rcases hat with e0 | e0
    · exact h2 g (by rw [← e0]; exact hg)
    · rw [e0] at hg; injection hg with hg; exact hrows g (by omega)
  refine ⟨fun k => if k < tss.length then B k else A, fun k => if k < tss.length then d k else c, ?_, hk', fun k hk => ?_, fun j k hjk hk => ?_⟩
  · have e0 : (List.range (tss ++ [ts]).length).map (rowV (fun k => if k < tss.length then B k else A) (fun k => if k < tss.length then d k else c) (tss ++ [ts])) = (List.range tss.length).map (rowV B d tss) ++ [.slice A ts.length c] := by
      rw [List.length_append, List.length_singleton, List.range_succ, List.map_append, List.map_singleton, elast]
      congr 1
      exact List.map_congr_left fun k hk => eold k (List.mem_range.1 hk)
    rw [e0, List.length_append]
    exact new
  · rw [List.length_append, List.length_singleton] at hk
    rcases Nat.lt_or_ge k tss.length with hlt | hge
    · rw [eold k hlt, gold k hlt]
      exact ⟨(h3 k hlt).1.kept hg (apold k hlt), (h3 k hlt).2.1, aprow k hlt⟩
    · have : k = tss.length := by omega
      subst this
      rw [elast, glast]
      exact ⟨own_base (hrow.kept hg apu0) hlo, fun g hg' => hrows g (hu g hg').1, apu⟩
  · rw [List.length_append, List.length_singleton] at hk
    rcases Nat.lt_or_ge k tss.length with hlt | hge
    · rw [eold k hlt, eold j (by omega)]
      exact h4 j k hjk hlt
    · have : k = tss.length := by omega
      subst this
      rw [elast, eold j hjk]
      exact Apart.of_lt (m := w0.heap.size) (fun g hg => hin' j hjk g hg) (fun g hg => (hu g hg).1)
end

/-- One row appended, at a step of a region that draws its order. -/
theorem step_append_rowG {w : World} {ops : Array Oper} {o : Oper} {a : Act} {K : Act → World → Prop} {Q : Exit → Act → World → Prop} {E : Prop} (hgd : o.guard = none) (s x : Operand)
    (ho : o.op = .call { callee := .builtin .append, args := #[s, x], argTypes := #[34, 34] }) (base : Nat) (v : Value) (n : Nat) (xs : List Value) (hs : a.eval s = v) (hown : w.ownsRow base 24 1 v n xs)
    (A : Option Addr) (m c : Nat) (g : Nat) (hx : a.eval x = .slice (some ⟨g, 0, none⟩) 1 1) (h0 : w.cell? ⟨g, 0, none⟩ = some (.slice A m c)) (hlen : n ≤ 2097152) (hbase : base ≤ w.heap.size)
    (h : ∀ A' c' w', w'.ownsRow base 24 1 (.slice A' (n + 1) c') (n + 1) (xs ++ [.slice A m c]) → w.grownBy w' v.ownBlock → ((Value.slice A' (n + 1) c').ownBlock = v.ownBlock ∨ (Value.slice A' (n + 1) c').ownBlock = some w.heap.size) → K (a.put o.dst (.slice A' (n + 1) c')) w') :
    if Region.wanted o (yielded ops a.tmps) = true then Oper.wp Try.prog o a w K Q else E := by
  have hw : Region.wanted o (yielded ops a.tmps) = true := by simp [Region.wanted, hgd]
  rw [if_pos hw]
  obtain ⟨i0, hi, hz0, hz1, hz2⟩ := info_parts Try.info_rowI
  obtain ⟨v', w', hr, h2, h3, h4, h5⟩ := run_append_own_at (P := Try.prog) (w := w) base 34 o.type 24 i0 _ 1 24 Try.underlying34 hi hz0 hz1 hz2 rfl (by decide) v n xs hown ⟨g, 0, none⟩ 1 1 [.slice A m c] rfl (by
      intro j u hj
      match j, hj with
      | 0, hj => simp at hj; subst hj; simpa [Addr.add] using h0) (by
      intro u hu
      simp at hu
      rcases hu with rfl; rfl) (by unfold maxLen; omega) (by omega) hbase
  obtain ⟨A', c', rfl⟩ : ∃ A' c', v' = .slice A' (n + 1) c' := by
    rcases h2.2 with ⟨hv, hn⟩ | ⟨g, cap, cur, rfl, _⟩
    · omega
    · exact ⟨_, cap, rfl⟩
  unfold Oper.wp execOp
  simp only [ho, resolve, invoke, builtin, Sem.run_bind, Sem.run_pure, Result.andThen_ok, List.map_toArray, List.map_cons, List.map_nil, hs, hx, hr]
  exact h A' c' w' h2 h3 h5

end Go.Proofs.Ytcofambcicnonaa

/- The search for chains: what it hands out, one chain after the other. -/
import Derived.Test.YtcofambcicnonaaCsO
import Derived.Test.YtcofambcicnonaaIterB
import Derived.Test.YtcofambcicnonaaApp
import Derived.LoopIn
import Derived.TacticsIn
import Derived.Maps.OwnIn
import Derived.Scope
namespace Go.Proofs.Ytcofambcicnonaa
open Go Go.RowKit
set_option linter.unusedVariables false

/-- A chain as it is handed out: a slice of the search's own row. -/
def EncC (x : List Int) (v : Array Value) (T : Nat → Prop) (A : World) : Prop := ∃ Ax cx, v = #[.slice Ax x.length cx] ∧ RdI A Ax x ∧ (x ≠ [] → ∀ a, Ax = some a → T a.block)

theorem wpList_build_to {P : Program} {ops : Array Oper} {rest : List Oper} {o : Oper} {a : Act} {w : World} {Q : Exit → Act → World → Prop} (hg : o.guard = none) (t : TypeId) (parts : Array (Nat × Operand)) (ho : o.op = .build t parts) (cells : Array Value)
    (hb : P.built t (parts.map fun (i, x) => (i, a.eval x)).toList = some cells) (h : wpList P ops Q rest (a.put o.dst (.agg cells)) w) : wpList P ops Q (o :: rest) a w :=
  wpList_plain hg fun _ hK => by
    unfold Oper.wp execOp
    simp only [ho, Sem.run_bind, run_build w t _ cells hb, Result.andThen_ok]
    exact hK _ _ h
theorem there_new (w : World) (cs : Array Value) (t : TypeId) (n : Nat) (hn : cs.size = n) : (w.alloc (.cells cs t)).there w.heap.size 0 n := by
  intro j hj
  rw [Nat.zero_add, cell_of_row _ _ _ _ _ _ (heap_alloc_new w _)]
  exact ⟨by rw [Array.getElem?_eq_getElem (by omega)]; rfl, frozen_new w cs t j⟩
theorem wpIn_scope_wide {n : Nat} {P : Program} {c : Code} {Q : Exit → Act → World → Prop} {a : Act} {w : World} (h : c.wpIn Fence.wide n P (Exit.noGoto Q) a w) : (Code.scope c).wpIn Fence.wide n P Q a w :=
  wpIn_wide.2 (wp_scope_straight ((wpIn_wide (n := n)).1 h))

/-- The chain as it stands in memory. -/
def chainOf (g : Nat) (w : World) : List Int :=
  match w.cell? ⟨g, 0, none⟩ with
  | some (.slice (some a) n _) => (List.range n).map fun j => intOf ((w.cell? ⟨a.block, a.off + j, none⟩).getD undef)
  | _ => []
theorem chainOf_at {H : List (Int × Int)} {lo g : Nat} {c : List Int} {w : World} (h : CsAt H lo g c w) : chainOf g w = c := by
  obtain ⟨A, cap, x0, ho, hne⟩ := h.ch
  unfold chainOf
  rw [x0]
  cases A with
  | none =>
    obtain ⟨_, ⟨hv, hn⟩ | ⟨g', cap', cur, hv, _⟩⟩ := ho
    · exact (List.eq_nil_of_length_eq_zero hn).symm
    · injection hv with e1; cases e1
  | some a =>
    have hr := RdI.of_own ho
    show (List.range c.length).map _ = c
    apply List.ext_getElem
    · simp
    · intro j h1 h2
      obtain ⟨bk, off, hA, hbk, hc⟩ := hr.at_ h2
      cases hA
      simp only [List.getElem_map, List.getElem_range]
      rw [hc j h2]
      rfl

theorem own_bounds {H : List (Int × Int)} {lo g n₀ : Nat} {c : List Int} {w : World} (h : CsAt H lo g c w) (h1 : n₀ ≤ lo) (h2 : n₀ ≤ g) : ∀ k, OwnK g w k → n₀ ≤ k ∧ k < w.heap.size := by
  obtain ⟨A, cap, x0, ho, hne⟩ := h.ch
  rintro k (rfl | ⟨v, hv, hb⟩)
  · exact ⟨h2, h.lt⟩
  · rw [x0] at hv
    cases hv
    have := ho.lt k hb
    omega
theorem enc_of {H : List (Int × Int)} {lo g : Nat} {c : List Int} {w : World} (h : CsAt H lo g c w) : ∃ A cap, w.cell? ⟨g, 0, none⟩ = some (.slice A c.length cap) ∧ EncC c #[.slice A c.length cap] (OwnK g w) w := by
  obtain ⟨A, cap, x0, ho, hne⟩ := h.ch
  refine ⟨A, cap, x0, A, cap, rfl, RdI.of_own ho, fun hc a ha => ?_⟩
  subst ha
  obtain ⟨_, ⟨hv, hn⟩ | ⟨g', cap', cur, hv, _⟩⟩ := id ho
  · injection hv with e1; cases e1
  · injection hv with e1
    cases e1
    exact .inr ⟨_, x0, rfl⟩
theorem CsAt.of_blocks {H : List (Int × Int)} {lo g : Nat} {c : List Int} {w w' : World} (h : CsAt H lo g c w) (hb : ∀ k, OwnK g w k → w'.heap[k]? = w.heap[k]?) : CsAt H lo g c w' ∧ ∀ k, OwnK g w' k → OwnK g w k := by
  obtain ⟨A, cap, x0, ho, hne⟩ := h.ch
  have hg := hb g (.inl rfl)
  have x1 : w'.cell? ⟨g, 0, none⟩ = some (.slice A c.length cap) := (World.cell?_of_block (a := ⟨g, 0, none⟩) hg).trans x0
  refine ⟨⟨⟨A, cap, x1, own_blockG ho (fun k hk => hb k (.inr ⟨_, x0, hk⟩)), hne⟩, h.mks.of_block hg⟩, ?_⟩
  rintro k (rfl | ⟨v, hv, hk⟩)
  · exact .inl rfl
  · rw [x1] at hv
    cases hv
    exact .inr ⟨_, x0, hk⟩
theorem own_keep_sub {H : List (Int × Int)} {lo g : Nat} {c : List Int} {w w' : World} (h : CsAt H lo g c w) (hb : Below w.heap.size w w') : ∀ k, OwnK g w' k → OwnK g w k :=
  (h.of_blocks (w' := w') (fun k hk => hb.block k (own_bounds (n₀ := 0) h (Nat.zero_le _) (Nat.zero_le _) k hk).2)).2

end Go.Proofs.Ytcofambcicnonaa

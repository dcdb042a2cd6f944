/- A region that draws its order and at last writes cells that it has loaded: the loads are taken first while the operation k0, which waits for them, has not come up; from k0 on nothing is asked of the world. -/
import Derived.OrdersHeld
import Derived.Deep.RegionHeld3
namespace Go.Proofs.Ytmijbgkfkaijjaa
open Go
set_option linter.unusedVariables false

section
variable {P : Program} {ops : Array Oper} {Q : Exit → Act → World → Prop} {md : Region.Mode} {S : World → Prop} {k0 : Nat}

/-- Whatever order is picked; S holds behind each operation as long as k0 has not come up. -/
def AnyK (P : Program) (md : Region.Mode) (ops : Array Oper) (Q : Exit → Act → World → Prop) (k0 : Nat) (S : World → Prop) : Nat → Array Bool → Act → World → Prop
  | 0, ls, a, w => Region.ready md ops ls = [] ∧ Q .normal a w
  | n + 1, ls, a, w => (Region.ready md ops ls = [] → Q .normal a w) ∧
    ∀ i ∈ Region.ready md ops ls, wpOp P ops Q i (fun a' w' => ((ls.setIfInBounds i true).getD k0 true = false → S w') ∧ AnyK P md ops Q k0 S n (ls.setIfInBounds i true) a' w') a w

theorem anyK_any : ∀ (n : Nat) (ls : Array Bool) (a : Act) (w : World), AnyK P md ops Q k0 S n ls a w → wpAny P md ops Q n ls a w
  | 0, _, _, _, h => h
  | n + 1, _, _, _, h => ⟨h.1, fun i hi => wpOp_mono (fun a' w' h' => anyK_any n _ a' w' h'.2) (h.2 i hi)⟩

theorem unready {i j : Nat} {oj : Oper} {ls : Array Bool} (hi : i ∈ Region.ready md ops ls) (hj : j ∈ Region.ready md ops ls) (ho : ops[j]? = some oj) : ∀ e ∈ oj.after, Region.binds md e = true → e.on ≠ i := fun e he hb heq => by
  obtain ⟨_, o', ho', hall⟩ := mem_ready.1 hj
  rw [ho] at ho'
  cases ho'
  have h1 := hall e he hb
  have h0 := (mem_ready.1 hi).1
  rw [heq] at h1
  rcases Nat.lt_or_ge i ls.size with h' | h'
  · simp [h'] at h0 h1; rw [h0] at h1; cases h1
  · simp [Array.getElem?_eq_none h'] at h1

theorem anyK_first {i : Nat} {oi : Oper} {v : Value} (hi : ops[i]? = some oi) (hsel : ∀ (j : Nat) (o : Oper) cs b, ops[j]? = some o → o.op ≠ .select cs b)
    (hQ : ∀ c a w, Q (.panic c) (a.put oi.dst v) w → Q (.panic c) a w) {ok : Oper} (hk : ops[k0]? = some ok) (hki : ∃ e ∈ ok.after, Region.binds md e = true ∧ e.on = i) (hne : k0 ≠ i) :
    ∀ (n : Nat) (ls : Array Bool) (a : Act) (w : World),
      (∀ j oj, ops[j]? = some oj → j ≠ i → ls.getD j true = false → (∀ e ∈ oj.after, Region.binds md e = true → e.on ≠ i) → oi.apart ops oj = true) →
      i ∈ Region.ready md ops ls → ls.getD k0 true = false → YieldsIf P ops S oi v a → S w →
      AnyK P md ops Q k0 S n (ls.setIfInBounds i true) (a.put oi.dst v) w → AnyK P md ops Q k0 S (n + 1) ls a w := by
  intro n
  induction n with
  | zero =>
    intro ls a w _ hr hu hy hS H
    refine ⟨fun h => (by rw [h] at hr; cases hr), fun j hj => ?_⟩
    by_cases hji : j = i
    · subst hji; exact hy.wpOp hi hS ⟨fun _ => hS, H⟩
    · have := ready_mono hj hji
      rw [H.1] at this
      cases this
  | succ n ih =>
    intro ls a w hfree hr hu hy hS H
    refine ⟨fun h => (by rw [h] at hr; cases hr), fun j hj => ?_⟩
    by_cases hji : j = i
    · subst hji; exact hy.wpOp hi hS ⟨fun _ => hS, H⟩
    · have h1 := H.2 j (ready_mono hj hji)
      obtain ⟨hjun, oj, hoj, hall⟩ := mem_ready.1 hj
      have hnot := unready hr hj hoj
      have hjk : j ≠ k0 := fun e => by
        subst e
        rw [hoj] at hk
        cases hk
        obtain ⟨e, he, hb, hon⟩ := hki
        exact hnot e he hb hon
      have h2 := wpOp_putIf hoj (hfree j oj hoj hji hjun hnot) (fun cs b => hsel i oi cs b hi) (fun cs b => hsel j oj cs b hoj) hQ hy h1
      have hu' : (ls.setIfInBounds j true).getD k0 true = false := by rw [getD_set_ne true hjk]; exact hu
      have hfree' : ∀ k o, ops[k]? = some o → k ≠ i → (ls.setIfInBounds j true).getD k true = false → (∀ e ∈ o.after, Region.binds md e = true → e.on ≠ i) → oi.apart ops o = true := fun k o ho hki hun hno => by
        refine hfree k o ho hki ?_ hno
        by_cases hjk : j = k
        · subst hjk; exact hjun
        · rw [getD_set_ne true hjk] at hun; exact hun
      refine wpOp_mono (fun a' w' h3 => ?_) h2
      have hS' : S w' := h3.2.1 (by rw [getD_set_ne true hjk, getD_set_ne true (Ne.symm hne)]; exact hu)
      refine ⟨fun _ => hS', ih (ls.setIfInBounds j true) a' w' hfree' (ready_mono hr (Ne.symm hji)) hu' h3.1 hS' ?_⟩
      rw [Array.setIfInBounds_comm _ _ hji]
      exact h3.2.2

/-- Does k0 wait for i? -/
def waits (md : Region.Mode) (ops : Array Oper) (k0 i : Nat) : Bool := match ops[k0]? with
  | some ok => (k0 != i) && ok.after.any (fun e => Region.binds md e && e.on == i)
  | none => false

theorem regK_take (i : Nat) {oi : Oper} {v : Value} {n : Nat} {ls : Array Bool} {a : Act} {w : World} (hi : ops[i]? = some oi)
    (hs : Region.noSelect ops = true) (hf : Region.free md ops ls i = true) (hr : (Region.ready md ops ls).contains i = true) (hk : waits md ops k0 i = true) (hu : ls.getD k0 true = false)
    (hQ : ∀ c a w, Q (.panic c) (a.put oi.dst v) w → Q (.panic c) a w) (hw : Region.wanted oi (yielded ops a.tmps) = true) (hv : ∀ w, S w → (execOp a.eval oi).run P w = .ok (.value v) w) (hS : S w)
    (h : AnyK P md ops Q k0 S n (ls.setIfInBounds i true) (a.put oi.dst v) w) : AnyK P md ops Q k0 S (n + 1) ls a w := by
  unfold waits at hk
  cases hok : ops[k0]? with
  | none => rw [hok] at hk; cases hk
  | some ok =>
    rw [hok] at hk
    simp only [Bool.and_eq_true, bne_iff_ne, Array.any_eq_true, beq_iff_eq] at hk
    obtain ⟨hne, x, hx, h1, h2⟩ := hk
    exact anyK_first hi (Region.noSelect_spec hs) hQ hok ⟨ok.after[x], Array.getElem_mem hx, h1, h2⟩ hne n ls a w (Region.free_spec hi hf) (by simpa using hr) hu (Or.inl ⟨hw, hv⟩) hS h

theorem regK_skip (i : Nat) {oi : Oper} {n : Nat} {ls : Array Bool} {a : Act} {w : World} (hi : ops[i]? = some oi)
    (hs : Region.noSelect ops = true) (hf : Region.free md ops ls i = true) (hr : (Region.ready md ops ls).contains i = true) (hk : waits md ops k0 i = true) (hu : ls.getD k0 true = false)
    (hQ : ∀ c a w, Q (.panic c) (a.put oi.dst undef) w → Q (.panic c) a w) (hw : Region.wanted oi (yielded ops a.tmps) = false) (hS : S w)
    (h : AnyK P md ops Q k0 S n (ls.setIfInBounds i true) (a.put oi.dst undef) w) : AnyK P md ops Q k0 S (n + 1) ls a w := by
  unfold waits at hk
  cases hok : ops[k0]? with
  | none => rw [hok] at hk; cases hk
  | some ok =>
    rw [hok] at hk
    simp only [Bool.and_eq_true, bne_iff_ne, Array.any_eq_true, beq_iff_eq] at hk
    obtain ⟨hne, x, hx, h1, h2⟩ := hk
    exact anyK_first hi (Region.noSelect_spec hs) hQ hok ⟨ok.after[x], Array.getElem_mem hx, h1, h2⟩ hne n ls a w (Region.free_spec hi hf) (by simpa using hr) hu (Or.inr ⟨hw, rfl⟩) hS h

/-- The one operation i comes up next; before k0 comes up S is to be shown behind it. -/
theorem regK_one (i : Nat) {oi : Oper} {n : Nat} {ls : Array Bool} {a : Act} {w : World} (hi : ops[i]? = some oi) (hr : Region.ready md ops ls = [i])
    (h : ∀ K' : Act → World → Prop, Shut (∀ a w, ((ls.setIfInBounds i true).getD k0 true = false → S w) → (((ls.setIfInBounds i true).getD k0 true = false → S w) → AnyK P md ops Q k0 S n (ls.setIfInBounds i true) a w) → K' a w) → if Region.wanted oi (yielded ops a.tmps) = true then Oper.wp P oi a w K' Q else K' (a.put oi.dst undef) w) :
    AnyK P md ops Q k0 S (n + 1) ls a w := by
  refine ⟨fun h0 => (by rw [h0] at hr; cases hr), fun j hj => ?_⟩
  rw [hr, List.mem_singleton] at hj
  subst hj
  exact wpOp_step hi (fun K' hK => h K' (fun a w hS hW => hK a w ⟨hS, hW hS⟩))

/-- On, while k0 has not come up. -/
theorem regK_go {i n : Nat} {ls : Array Bool} {K' : Act → World → Prop} (hK : Shut (∀ a w, ((ls.setIfInBounds i true).getD k0 true = false → S w) → (((ls.setIfInBounds i true).getD k0 true = false → S w) → AnyK P md ops Q k0 S n (ls.setIfInBounds i true) a w) → K' a w)) {a : Act} {w : World} (hS : S w)
    (h : S w → AnyK P md ops Q k0 S n (ls.setIfInBounds i true) a w) : K' a w := hK.out a w (fun _ => hS) (fun _ => h hS)
/-- On, from k0 on. -/
theorem regK_on {i n : Nat} {ls : Array Bool} {K' : Act → World → Prop} (hK : Shut (∀ a w, ((ls.setIfInBounds i true).getD k0 true = false → S w) → (((ls.setIfInBounds i true).getD k0 true = false → S w) → AnyK P md ops Q k0 S n (ls.setIfInBounds i true) a w) → K' a w)) {a : Act} {w : World} (hz : (ls.setIfInBounds i true).getD k0 true = true)
    (h : AnyK P md ops Q k0 S n (ls.setIfInBounds i true) a w) : K' a w := hK.out a w (fun e => by rw [hz] at e; cases e) (fun _ => h)

theorem regK_done {ls : Array Bool} {a : Act} {w : World} (hr : Region.ready md ops ls = []) (h : Q .normal a w) : ∀ n, AnyK P md ops Q k0 S n ls a w
  | 0 => ⟨hr, h⟩
  | _ + 1 => ⟨fun _ => h, by rw [hr]; simp⟩

theorem wp_regK {id : Nat} {a : Act} {w : World} (hm : P.follows .mixedOrders = true) (hS : S w.drew)
    (h : S w.drew → AnyK P .any ops Q k0 S ops.size (Array.replicate ops.size false) a w.drew) : (Code.region id ops true).wp P Q a w :=
  wp_region_any hm (anyK_any _ _ _ _ (h hS))
end
end Go.Proofs.Ytmijbgkfkaijjaa

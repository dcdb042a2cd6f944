/- A region that draws its order and at last writes cells that it has loaded: the loads are taken first while the operation k0, which waits for them, has not come up; from k0 on nothing is asked of the world. Games copied: both sides. Games made of two hands, and exchanged: both sides. -/
import Derived.OrdersHeld
import Derived.Deep.RegionHeld3
import Derived.Test.YtlnfialfkipdjaaGameL
import Derived.Test.YtlnfialfkipdjaaChains
import Derived.Deep.Cut
namespace Go.Proofs.Ytlnfialfkipdjaa
open Go
set_option linter.unusedVariables false

section
variable {P : Program} {ops : Array Oper} {Q : Exit → Act → World → Prop} {md : Region.Mode} {S : World → Prop} {k0 : Nat}

/-- Whatever order is picked; S holds behind each operation as long as k0 has not come up. -/
def AnyK (P : Program) (md : Region.Mode) (ops : Array Oper) (Q : Exit → Act → World → Prop) (k0 : Nat) (S : World → Prop) : Nat → Array Bool → Act → World → Prop
  | 0, ls, a, w => Region.ready md ops ls = [] ∧ Q .normal a w
  | n + 1, ls, a, w => (Region.ready md ops ls = [] → Q .normal a w) ∧
    ∀ i ∈ Region.ready md ops ls, wpOp P ops Q i (fun a' w' => ((ls.setIfInBounds i true).getD k0 true = false → S w') ∧ AnyK P md ops Q k0 S n (ls.setIfInBounds i true) a' w') a w

theorem anyK_any : ∀ (n : Nat) (ls : Array Bool) (a : Act) (w : World), AnyK P md ops Q k0 S n ls a w → wpAny P md ops Q n ls a w
  | 0, _, _, _, h => h
  | n + 1, _, _, _, h => ⟨h.1, fun i hi => wpOp_mono (fun a' w' h' => anyK_any n _ a' w' h'.2) (h.2 i hi)⟩

theorem unready {i j : Nat} {oj : Oper} {ls : Array Bool} (hi : i ∈ Region.ready md ops ls) (hj : j ∈ Region.ready md ops ls) (ho : ops[j]? = some oj) : ∀ e ∈ oj.after, Region.binds md e = true → e.on ≠ i := fun e he hb heq => by
  obtain ⟨_, o', ho', hall⟩ := mem_ready.1 hj
  rw [ho] at ho'
  cases ho'
  have h1 := hall e he hb
  have h0 := (mem_ready.1 hi).1
  rw [heq] at h1
  rcases Nat.lt_or_ge i ls.size with h' | h'
  · simp [h'] at h0 h1; rw [h0] at h1; cases h1
  · simp [Array.getElem?_eq_none h'] at h1

theorem anyK_first {i : Nat} {oi : Oper} {v : Value} (hi : ops[i]? = some oi) (hsel : ∀ (j : Nat) (o : Oper) cs b, ops[j]? = some o → o.op ≠ .select cs b)
    (hQ : ∀ c a w, Q (.panic c) (a.put oi.dst v) w → Q (.panic c) a w) {ok : Oper} (hk : ops[k0]? = some ok) (hki : ∃ e ∈ ok.after, Region.binds md e = true ∧ e.on = i) (hne : k0 ≠ i) :
    ∀ (n : Nat) (ls : Array Bool) (a : Act) (w : World),
      (∀ j oj, ops[j]? = some oj → j ≠ i → ls.getD j true = false → (∀ e ∈ oj.after, Region.binds md e = true → e.on ≠ i) → oi.apart ops oj = true) →
      i ∈ Region.ready md ops ls → ls.getD k0 true = false → YieldsIf P ops S oi v a → S w →
      AnyK P md ops Q k0 S n (ls.setIfInBounds i true) (a.put oi.dst v) w → AnyK P md ops Q k0 S (n + 1) ls a w := by
  intro n
  induction n with
  | zero =>
    intro ls a w _ hr hu hy hS H
    refine ⟨fun h => (by rw [h] at hr; cases hr), fun j hj => ?_⟩
    by_cases hji : j = i
    · subst hji; exact hy.wpOp hi hS ⟨fun _ => hS, H⟩
    · have := ready_mono hj hji
      rw [H.1] at this
      cases this
  | succ n ih =>
    intro ls a w hfree hr hu hy hS H
    refine ⟨fun h => (by rw [h] at hr; cases hr), fun j hj => ?_⟩
    by_cases hji : j = i
    · subst hji; exact hy.wpOp hi hS ⟨fun _ => hS, H⟩
    · have h1 := H.2 j (ready_mono hj hji)
      obtain ⟨hjun, oj, hoj, hall⟩ := mem_ready.1 hj
      have hnot := unready hr hj hoj
      have hjk : j ≠ k0 := fun e => by
        subst e
        rw [hoj] at hk
        cases hk
        obtain ⟨e, he, hb, hon⟩ := hki
        exact hnot e he hb hon
      have h2 := wpOp_putIf hoj (hfree j oj hoj hji hjun hnot) (fun cs b => hsel i oi cs b hi) (fun cs b => hsel j oj cs b hoj) hQ hy h1
      have hu' : (ls.setIfInBounds j true).getD k0 true = false := by rw [getD_set_ne true hjk]; exact hu
      have hfree' : ∀ k o, ops[k]? = some o → k ≠ i → (ls.setIfInBounds j true).getD k true = false → (∀ e ∈ o.after, Region.binds md e = true → e.on ≠ i) → oi.apart ops o = true := fun k o ho hki hun hno => by
        refine hfree k o ho hki ?_ hno
        by_cases hjk : j = k
        · subst hjk; exact hjun
        · rw [getD_set_ne true hjk] at hun; exact hun
      refine wpOp_mono (fun a' w' h3 => ?_) h2
      have hS' : S w' := h3.2.1 (by rw [getD_set_ne true hjk, getD_set_ne true (Ne.symm hne)]; exact hu)
      refine ⟨fun _ => hS', ih (ls.setIfInBounds j true) a' w' hfree' (ready_mono hr (Ne.symm hji)) hu' h3.1 hS' ?_⟩
      rw [Array.setIfInBounds_comm _ _ hji]
      exact h3.2.2

/-- Does k0 wait for i? -/
def waits (md : Region.Mode) (ops : Array Oper) (k0 i : Nat) : Bool := match ops[k0]? with
  | some ok => (k0 != i) && ok.after.any (fun e => Region.binds md e && e.on == i)
  | none => false

theorem regK_take (i : Nat) {oi : Oper} {v : Value} {n : Nat} {ls : Array Bool} {a : Act} {w : World} (hi : ops[i]? = some oi)
    (hs : Region.noSelect ops = true) (hf : Region.free md ops ls i = true) (hr : (Region.ready md ops ls).contains i = true) (hk : waits md ops k0 i = true) (hu : ls.getD k0 true = false)
    (hQ : ∀ c a w, Q (.panic c) (a.put oi.dst v) w → Q (.panic c) a w) (hw : Region.wanted oi (yielded ops a.tmps) = true) (hv : ∀ w, S w → (execOp a.eval oi).run P w = .ok (.value v) w) (hS : S w)
    (h : AnyK P md ops Q k0 S n (ls.setIfInBounds i true) (a.put oi.dst v) w) : AnyK P md ops Q k0 S (n + 1) ls a w := by
  unfold waits at hk
  cases hok : ops[k0]? with
  | none => rw [hok] at hk; cases hk
  | some ok =>
    rw [hok] at hk
    simp only [Bool.and_eq_true, bne_iff_ne, Array.any_eq_true, beq_iff_eq] at hk
    obtain ⟨hne, x, hx, h1, h2⟩ := hk
    exact anyK_first hi (Region.noSelect_spec hs) hQ hok ⟨ok.after[x], Array.getElem_mem hx, h1, h2⟩ hne n ls a w (Region.free_spec hi hf) (by simpa using hr) hu (Or.inl ⟨hw, hv⟩) hS h

theorem regK_skip (i : Nat) {oi : Oper} {n : Nat} {ls : Array Bool} {a : Act} {w : World} (hi : ops[i]? = some oi)
    (hs : Region.noSelect ops = true) (hf : Region.free md ops ls i = true) (hr : (Region.ready md ops ls).contains i = true) (hk : waits md ops k0 i = true) (hu : ls.getD k0 true = false)
    (hQ : ∀ c a w, Q (.panic c) (a.put oi.dst undef) w → Q (.panic c) a w) (hw : Region.wanted oi (yielded ops a.tmps) = false) (hS : S w)
    (h : AnyK P md ops Q k0 S n (ls.setIfInBounds i true) (a.put oi.dst undef) w) : AnyK P md ops Q k0 S (n + 1) ls a w := by
  unfold waits at hk
  cases hok : ops[k0]? with
  | none => rw [hok] at hk; cases hk
  | some ok =>
    rw [hok] at hk
    simp only [Bool.and_eq_true, bne_iff_ne, Array.any_eq_true, beq_iff_eq] at hk
    obtain ⟨hne, x, hx, h1, h2⟩ := hk
    exact anyK_first hi (Region.noSelect_spec hs) hQ hok ⟨ok.after[x], Array.getElem_mem hx, h1, h2⟩ hne n ls a w (Region.free_spec hi hf) (by simpa using hr) hu (Or.inr ⟨hw, rfl⟩) hS h

/-- The one operation i comes up next; before k0 comes up S is to be shown behind it. -/
theorem regK_one (i : Nat) {oi : Oper} {n : Nat} {ls : Array Bool} {a : Act} {w : World} (hi : ops[i]? = some oi) (hr : Region.ready md ops ls = [i])
    (h : ∀ K' : Act → World → Prop, Shut (∀ a w, ((ls.setIfInBounds i true).getD k0 true = false → S w) → (((ls.setIfInBounds i true).getD k0 true = false → S w) → AnyK P md ops Q k0 S n (ls.setIfInBounds i true) a w) → K' a w) → if Region.wanted oi (yielded ops a.tmps) = true then Oper.wp P oi a w K' Q else K' (a.put oi.dst undef) w) :
    AnyK P md ops Q k0 S (n + 1) ls a w := by
  refine ⟨fun h0 => (by rw [h0] at hr; cases hr), fun j hj => ?_⟩
  rw [hr, List.mem_singleton] at hj
  subst hj
  exact wpOp_step hi (fun K' hK => h K' (fun a w hS hW => hK a w ⟨hS, hW hS⟩))

/-- On, while k0 has not come up. -/
theorem regK_go {i n : Nat} {ls : Array Bool} {K' : Act → World → Prop} (hK : Shut (∀ a w, ((ls.setIfInBounds i true).getD k0 true = false → S w) → (((ls.setIfInBounds i true).getD k0 true = false → S w) → AnyK P md ops Q k0 S n (ls.setIfInBounds i true) a w) → K' a w)) {a : Act} {w : World} (hS : S w)
    (h : S w → AnyK P md ops Q k0 S n (ls.setIfInBounds i true) a w) : K' a w := hK.out a w (fun _ => hS) (fun _ => h hS)
/-- On, from k0 on. -/
theorem regK_on {i n : Nat} {ls : Array Bool} {K' : Act → World → Prop} (hK : Shut (∀ a w, ((ls.setIfInBounds i true).getD k0 true = false → S w) → (((ls.setIfInBounds i true).getD k0 true = false → S w) → AnyK P md ops Q k0 S n (ls.setIfInBounds i true) a w) → K' a w)) {a : Act} {w : World} (hz : (ls.setIfInBounds i true).getD k0 true = true)
    (h : AnyK P md ops Q k0 S n (ls.setIfInBounds i true) a w) : K' a w := hK.out a w (fun e => by rw [hz] at e; cases e) (fun _ => h)

theorem regK_done {ls : Array Bool} {a : Act} {w : World} (hr : Region.ready md ops ls = []) (h : Q .normal a w) : ∀ n, AnyK P md ops Q k0 S n ls a w
  | 0 => ⟨hr, h⟩
  | _ + 1 => ⟨fun _ => h, by rw [hr]; simp⟩

theorem wp_regK {id : Nat} {a : Act} {w : World} (hm : P.follows .mixedOrders = true) (hS : S w.drew)
    (h : S w.drew → AnyK P .any ops Q k0 S ops.size (Array.replicate ops.size false) a w.drew) : (Code.region id ops true).wp P Q a w :=
  wp_region_any hm (anyK_any _ _ _ _ (h hS))
end
end Go.Proofs.Ytlnfialfkipdjaa

namespace Go.Proofs.Ytlnfialfkipdjaa
open Go.RowKit
set_option linter.unusedVariables false

set_option maxRecDepth 100000 in
set_option maxHeartbeats 2000000 in
theorem c_cloneR (A : Option Addr) (c : Nat) (xs : List Int) (w : World) (hr : RdI w A xs) (hl : xs.length ≤ 1048576) : Calls Try.prog 128 #[.slice A xs.length c] w (RetN w xs) := by
  by_cases hne : 0 < xs.length
  · exact c_clone A c xs w hr hl hne
  · have e0 : xs = [] := List.eq_nil_of_length_eq_zero (by omega)
    subst e0
    have ho0 : (w.alloc (.cells #[] 3)).ownsRow w.heap.size 3 1 (.slice (some ⟨w.heap.size, 0, none⟩) 0 0) 0 (cellsI []) := World.ownsRow_lit w #[] 0 (Nat.le_refl _) (by unfold maxLen; omega) rfl
    have hb0 : Below w.heap.size w (w.alloc (.cells #[] 3)) := (Below.refl _ _).alloc (Nat.le_refl _) _
    have q : ∀ (w : World) (a : Option Addr) (n c n' c' : Nat), (binOp .eql 36 (.slice a n c) (.slice none n' c')).run Try.prog w = .ok (.bool a.isNone) w := fun w a n c n' c' => Lib.run_eql_slice_nil w _ _ a n c n' c' Try.underlying36
    cases A with
    | none =>
      go_enter Try.func128, Try.ntmps128
      go_wp2
      go_ret
      exact ⟨none, 0, rfl, World.ownsRow_nil _ _ _ _, Below.refl _ _⟩
    | some ad =>
      go_enter Try.func128, Try.ntmps128
      go_wp2_with (at_builtin; refine wp_append_ints rfl _ _ rfl w.heap.size _ [] rfl ho0 _ c [] rfl (hr.below hb0) (by simp) (by simp) (by simp) ⟨_, _, rfl⟩ ?_; intro A4 c4 w4 ho4 hg4; have hb4 : Below w.heap.size w w4 := hb0.trans (below_of_grown hg4 hb0.size (fun g hg => by cases hg; exact Nat.le_refl _)); simp only [List.nil_append] at ho4)
      go_ret
      exact ⟨A4, c4, rfl, ho4, hb4⟩

set_option maxRecDepth 100000 in
set_option maxHeartbeats 2000000 in
theorem c_copied (AF : Option Addr) (cF : Nat) (F : List (Int × Int)) (AS : Option Addr) (cS : Nat) (S : List (Int × Int)) (AR : Option Addr) (cR : Nat) (R : List Int) (t u : Int) (w : World) (hF : RdT w AF F) (hS : RdT w AS S) (hR : RdI w AR R) (lF : F.length ≤ 1048576) (lS : S.length ≤ 1048576) (lR : R.length ≤ 1048576) :
    Calls Try.prog 207 #[.agg #[.slice AF F.length cF, .slice AS S.length cS, .slice AR R.length cR, .int .i64 t, .int .i64 u]] w (RetG w F S R t u) := by
  have conF := Lib.hid (fun W (hb : Below w.heap.size w W) => c_cloneT AF cF F W (hF.below hb) lF)
  have conS := Lib.hid (fun W (hb : Below w.heap.size w W) => c_cloneT AS cS S W (hS.below hb) lS)
  have conR := Lib.hid (fun W (hb : Below w.heap.size w W) => c_cloneR AR cR R W (hR.below hb) lR)
  clear hF hS hR
  go_enter Try.func207, Try.ntmps207
  go_wp2_with fail
  obtain ⟨w0, hw0⟩ : ∃ w0, w0 = (w.alloc (.cells #[.slice AF F.length cF, .slice AS S.length cS, .slice AR R.length cR, .int .i64 t, .int .i64 u] 43)).alloc (.cells #[.slice none 0 0, .slice none 0 0, .slice none 0 0, .int .i64 0, .int .i64 0] 43) := ⟨_, rfl⟩
  rw [← hw0]
  have hs0 : w0.heap.size = w.heap.size + 2 := by rw [hw0]; simp
  have ba0 : BoxAt w0 w.heap.size (.slice AF F.length cF) (.slice AS S.length cS) (.slice AR R.length cR) (.int .i64 t) (.int .i64 u) := by rw [hw0]; exact (BoxAt.fresh w _ _ _ _ _ _).more _
  have br0 : BoxAt w0 (w.heap.size + 1) (.slice none 0 0) (.slice none 0 0) (.slice none 0 0) (.int .i64 0) (.int .i64 0) := by
    have h1 := BoxAt.fresh (w.alloc (.cells #[.slice AF F.length cF, .slice AS S.length cS, .slice AR R.length cR, .int .i64 t, .int .i64 u] 43)) (.slice none 0 0) (.slice none 0 0) (.slice none 0 0) (.int .i64 0) (.int .i64 0) 43
    rw [World.size_alloc] at h1
    rw [hw0]; exact h1
  have hb0 : Below w.heap.size w w0 := by rw [hw0]; go_grown
  have hbd : Below w.heap.size w w0.drew := hb0.drew
  clear hw0
  refine wp_regK (k0 := 10) (S := fun w' => w'.cell? ⟨w.heap.size, 0, none⟩ = some (.slice AF F.length cF) ∧ w'.cell? ⟨w.heap.size, 1, none⟩ = some (.slice AS S.length cS) ∧ w'.cell? ⟨w.heap.size, 2, none⟩ = some (.slice AR R.length cR)) (by kernel_rfl) ⟨gdG _ ba0.c0, gdG _ ba0.c1, gdG _ ba0.c2⟩ (fun hH0 => ?_)
  refine regK_take 0 rfl (by kernel_rfl) (by kernel_rfl) (by kernel_rfl) (by kernel_rfl) (by kernel_rfl) (fun _ _ _ h => h) (by rfl) (fun w _ => by first | (go_simp; done) | (go_simp; with_reducible rfl)) (by assumption) ?_
  try simp only [Act.put, List.setIfInBounds_toArray, List.set_cons_zero, List.set_cons_succ, List.getElem_toArray, List.getElem_cons_zero]
  refine regK_take 1 rfl (by kernel_rfl) (by kernel_rfl) (by kernel_rfl) (by kernel_rfl) (by kernel_rfl) (fun _ _ _ h => h) (by rfl) (fun w hSw => by (try dsimp only at hSw); first | (go_simp; done) | (go_simp; with_reducible rfl)) (by assumption) ?_
  try simp only [Act.put, List.setIfInBounds_toArray, List.set_cons_zero, List.set_cons_succ, List.getElem_toArray, List.getElem_cons_zero, List.getElem_cons_succ]
  refine regK_take 3 rfl (by kernel_rfl) (by kernel_rfl) (by kernel_rfl) (by kernel_rfl) (by kernel_rfl) (fun _ _ _ h => h) (by rfl) (fun w _ => by first | (go_simp; done) | (go_simp; with_reducible rfl)) (by assumption) ?_
  try simp only [Act.put, List.setIfInBounds_toArray, List.set_cons_zero, List.set_cons_succ, List.getElem_toArray, List.getElem_cons_zero, List.getElem_cons_succ]
  refine regK_take 4 rfl (by kernel_rfl) (by kernel_rfl) (by kernel_rfl) (by kernel_rfl) (by kernel_rfl) (fun _ _ _ h => h) (by rfl) (fun w hSw => by (try dsimp only at hSw); first | (go_simp; done) | (go_simp; with_reducible rfl)) (by assumption) ?_
  try simp only [Act.put, List.setIfInBounds_toArray, List.set_cons_zero, List.set_cons_succ, List.getElem_toArray, List.getElem_cons_zero, List.getElem_cons_succ]
  refine regK_take 6 rfl (by kernel_rfl) (by kernel_rfl) (by kernel_rfl) (by kernel_rfl) (by kernel_rfl) (fun _ _ _ h => h) (by rfl) (fun w _ => by first | (go_simp; done) | (go_simp; with_reducible rfl)) (by assumption) ?_
  try simp only [Act.put, List.setIfInBounds_toArray, List.set_cons_zero, List.set_cons_succ, List.getElem_toArray, List.getElem_cons_zero, List.getElem_cons_succ]
  refine regK_take 7 rfl (by kernel_rfl) (by kernel_rfl) (by kernel_rfl) (by kernel_rfl) (by kernel_rfl) (fun _ _ _ h => h) (by rfl) (fun w hSw => by (try dsimp only at hSw); first | (go_simp; done) | (go_simp; with_reducible rfl)) (by assumption) ?_
  try simp only [Act.put, List.setIfInBounds_toArray, List.set_cons_zero, List.set_cons_succ, List.getElem_toArray, List.getElem_cons_zero, List.getElem_cons_succ]
  refine regK_one 2 rfl (by kernel_rfl) (fun K hK => ?_)
  go_simp
  refine (conF.out _ hbd).mono ?_
  rintro e w1 ⟨A1, c1, rfl, o1, h1⟩
  have hb1 := bstep hbd h1
  have ba1 := ba0.drew.keep h1
  have br1 := br0.drew.keep h1
  have l1 := o1.lt
  have p1 := h1.size
  refine regK_go hK ⟨ba1.c0, ba1.c1, ba1.c2⟩ (fun hH2 => ?_)
  clear hK K
  try simp only [Act.put, List.setIfInBounds_toArray, List.set_cons_zero, List.set_cons_succ, List.getElem_toArray, List.getElem_cons_zero, List.getElem_cons_succ]
  refine regK_take 9 rfl (by kernel_rfl) (by kernel_rfl) (by kernel_rfl) (by kernel_rfl) (by kernel_rfl) (fun _ _ _ h => h) (by rfl) (fun w _ => by first | (go_simp; done) | (go_simp; with_reducible rfl)) (by assumption) ?_
  try simp only [Act.put, List.setIfInBounds_toArray, List.set_cons_zero, List.set_cons_succ, List.getElem_toArray, List.getElem_cons_zero, List.getElem_cons_succ]
  refine regK_one 5 rfl (by kernel_rfl) (fun K hK => ?_)
  go_simp
  refine (conS.out _ hb1).mono ?_
  rintro e w2 ⟨A2, c2, rfl, o2, h2⟩
  have hb2 := bstep hb1 h2
  have ba2 := ba1.keep h2
  have br2 := br1.keep h2
  have o1 := own_keep o1 h2
  have l2 := o2.lt
  have p2 := h2.size
  refine regK_go hK ⟨ba2.c0, ba2.c1, ba2.c2⟩ (fun hH5 => ?_)
  clear hK K
  try simp only [Act.put, List.setIfInBounds_toArray, List.set_cons_zero, List.set_cons_succ, List.getElem_toArray, List.getElem_cons_zero, List.getElem_cons_succ]
  refine regK_one 8 rfl (by kernel_rfl) (fun K hK => ?_)
  go_simp
  refine (conR.out _ hb2).mono ?_
  rintro e w3 ⟨A3, c3, rfl, o3, h3⟩
  have hb3 := bstep hb2 h3
  have ba3 := ba2.keep h3
  have br3 := br2.keep h3
  have o1 := own_keep o1 h3
  have o2 := own_keep o2 h3
  have l3 := o3.lt
  have p3 := h3.size
  refine regK_go hK ⟨ba3.c0, ba3.c1, ba3.c2⟩ (fun hH8 => ?_)
  clear hK K
  try simp only [Act.put, List.setIfInBounds_toArray, List.set_cons_zero, List.set_cons_succ, List.getElem_toArray, List.getElem_cons_zero, List.getElem_cons_succ]
  have y0 := ba3.c0
  have y1 := ba3.c1
  have y2 := ba3.c2
  have f0 := ba3.fz 0
  have f1 := ba3.fz 1
  have f2 := ba3.fz 2
  refine regK_one 10 rfl (by kernel_rfl) (fun K hK => ?_)
  go_simp
  refine regK_on hK (by kernel_rfl) ?_
  clear hK K
  try simp only [Act.put, List.setIfInBounds_toArray, List.set_cons_zero, List.set_cons_succ, List.getElem_toArray, List.getElem_cons_zero, List.getElem_cons_succ]
  refine regK_one 11 rfl (by kernel_rfl) (fun K hK => ?_)
  go_simp
  refine regK_on hK (by kernel_rfl) ?_
  clear hK K
  try simp only [Act.put, List.setIfInBounds_toArray, List.set_cons_zero, List.set_cons_succ, List.getElem_toArray, List.getElem_cons_zero, List.getElem_cons_succ]
  refine regK_one 12 rfl (by kernel_rfl) (fun K hK => ?_)
  go_simp
  refine regK_on hK (by kernel_rfl) ?_
  clear hK K
  try simp only [Act.put, List.setIfInBounds_toArray, List.set_cons_zero, List.set_cons_succ, List.getElem_toArray, List.getElem_cons_zero, List.getElem_cons_succ]
  refine regK_one 13 rfl (by kernel_rfl) (fun K hK => ?_)
  go_simp
  refine regK_on hK (by kernel_rfl) ?_
  clear hK K
  try simp only [Act.put, List.setIfInBounds_toArray, List.set_cons_zero, List.set_cons_succ, List.getElem_toArray, List.getElem_cons_zero, List.getElem_cons_succ]
  refine regK_one 14 rfl (by kernel_rfl) (fun K hK => ?_)
  go_simp
  refine regK_on hK (by kernel_rfl) ?_
  clear hK K
  try simp only [Act.put, List.setIfInBounds_toArray, List.set_cons_zero, List.set_cons_succ, List.getElem_toArray, List.getElem_cons_zero, List.getElem_cons_succ]
  refine regK_done (by kernel_rfl) ?_ _
  have n0 : w.heap.size < w3.heap.size := by have := ba3.lt; omega
  have n1 : w.heap.size + 1 < w3.heap.size := by have := br3.lt; omega
  have r0 := br3.c0
  have r1 := br3.c1
  have r2 := br3.c2
  have r3 := br3.c3
  have r4 := br3.c4
  have z0 := br3.fz 0
  have z1 := br3.fz 1
  have z2 := br3.fz 2
  have z3 := br3.fz 3
  have z4 := br3.fz 4
  have x3 := ba3.c3
  have x4 := ba3.c4
  have hsd : w0.drew.heap.size = w0.heap.size := rfl
  have g5 : OwnG w3 (w.heap.size + 2) w3.heap.size (.slice A1 F.length c1) F.length F (.slice A2 S.length c2) S.length S (.slice A3 R.length c3) R.length R :=
    { f := own_base o1 (by omega), s := own_base o2 (by omega), r := own_base o3 (by omega), hf := fun g hg => (o1.lt g hg).2, hs := fun g hg => (o2.lt g hg).2, hr := fun g hg => (o3.lt g hg).2,
      fs := ApG.of_lt (m := w1.heap.size) (fun g hg => (l1 g hg).2) (fun g hg => (l2 g hg).1), fr := ApG.of_lt (m := w1.heap.size) (fun g hg => (l1 g hg).2) (fun g hg => by have := (l3 g hg).1; omega), sr := ApG.of_lt (m := w2.heap.size) (fun g hg => (l2 g hg).2) (fun g hg => (l3 g hg).1) }
  have G5 := Lib.hid g5
  have HQ := Lib.hid hb3
  clear g5 ba0 ba1 ba2 ba3 br0 br1 br2 br3 o1 o2 o3 l1 l2 l3 hb0 hbd hb1 hb2 hb3 h1 h2 h3 p1 p2 p3 hs0 hsd conF conS conR
  go_wp2
  refine bodyPost_ret (v := .agg #[.slice A1 F.length c1, .slice A2 S.length c2, .slice A3 R.length c3, .int .i64 t, .int .i64 u]) (by simp [results, Try.results207, go_sem, r0, r1, r2, r3, r4]) rfl ⟨A1, c1, A2, c2, A3, c3, rfl, ?_, ?_⟩
  · exact ((((((((G5.out.box (by omega)).box (by omega)).box (by omega)).box (by omega)).box (by omega)).box (by omega)).box (by omega)).box (by omega)).base (by omega) |>.top (by simp [World.setCell])
  · exact (below_box (below_box (below_box (below_box (below_box (below_box (below_box (below_box HQ.out (by omega)) (by omega)) (by omega)) (by omega)) (by omega)) (by omega)) (by omega)) (by omega))

end Go.Proofs.Ytlnfialfkipdjaa

namespace Go.Proofs.Ytlnfialfkipdjaa
open Go.RowKit
set_option linter.unusedVariables false

def selT (b : Bool) (ts : List (Int × Int)) : List (Int × Int) := if b then ts else []
def selI (b : Bool) (xs : List Int) : List Int := if b then xs else []
def selV (b : Bool) (x : Int) : Int := if b then x else 0
theorem sel_len3 (b : Bool) (X Y : List (Int × Int)) (Z : List Int) {M : Nat} (h : X.length + Y.length + Z.length ≤ M) : (selT b X).length + (selT b Y).length + (selI b Z).length ≤ M := by
  cases b
  · simp [selT, selI]
  · exact h
/-- A game, if there is one. -/
def RetGs (w : World) (F S : List (Int × Int)) (R : List Int) (t u : Int) (b : Bool) : Ending → World → Prop := RetGB w (selT b F) (selT b S) (selI b R) (selV b t) (selV b u) b
theorem retGs_no {w w' : World} {F S : List (Int × Int)} {R : List Int} {t u : Int} (hb : Below w.heap.size w w') : RetGs w F S R t u false (.returned (.tuple #[.agg #[.slice none 0 0, .slice none 0 0, .slice none 0 0, .int .i64 0, .int .i64 0], .bool false])) w' :=
  ⟨none, 0, none, 0, none, 0, rfl, OwnG.none_ _ _ _, hb⟩
theorem retGs_yes {w w' : World} {F S : List (Int × Int)} {R : List Int} {t u : Int} {AF : Option Addr} {cF : Nat} {AS : Option Addr} {cS : Nat} {AR : Option Addr} {cR : Nat}
    (ho : OwnG w' w.heap.size w'.heap.size (.slice AF F.length cF) F.length F (.slice AS S.length cS) S.length S (.slice AR R.length cR) R.length R) (hb : Below w.heap.size w w') : RetGs w F S R t u true (.returned (.tuple #[.agg #[.slice AF F.length cF, .slice AS S.length cS, .slice AR R.length cR, .int .i64 t, .int .i64 u], .bool true])) w' :=
  ⟨AF, cF, AS, cS, AR, cR, rfl, ho, hb⟩

end Go.Proofs.Ytlnfialfkipdjaa

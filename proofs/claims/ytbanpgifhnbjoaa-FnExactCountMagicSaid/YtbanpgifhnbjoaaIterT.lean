/- A range over an iterator, in the body of an iterator: what the outer one keeps in memory is told at the end. -/
import Derived.Test.YtbanpgifhnbjoaaIter
namespace Go.Proofs.Ytbanpgifhnbjoaa
open Go Go.RowKit
set_option linter.unusedVariables false

/-- wp_rangeIter, and the blocks that the iterator keeps are told at the end. -/
theorem wp_rangeIterT {P : Program} {n : Nat} {α : Type} {g : Operand} {ps : Array Tmp} {assign body : Code} {Q : Exit → Act → World → Prop} {a : Act} {w : World}
    {gf : Nat} {lb : Array Value} (hg : a.eval g = .func (.func gf) #[] lb) (eg : ∀ args w, (callFunc gf args).run P w = .ok (.enter gf args) w)
    {n₀ : Nat} {T0 : Nat → Prop} {Enc : α → Array Value → (Nat → Prop) → World → Prop} {xs : List α} (hit : Iters P n₀ T0 gf lb Enc xs w)
    (hn : n₀ ≤ w.heap.size) (hT0 : ∀ k, T0 k → n₀ ≤ k ∧ k < w.heap.size) (hps : ∀ x v T A, Enc x v T A → v.size = ps.size)
    (hE : ∀ x v T A B, Enc x v T A → A.heap.size ≤ B.heap.size → (∀ k, T k → B.heap[k]? = A.heap[k]?) → Enc x v T B)
    (I : (Nat → Prop) → List α → World → Prop) (Ix : Code → (Nat → Prop) → List α → World → Prop) (hI : AbT n₀ I) (hIx : ∀ c, AbT n₀ (Ix c)) (h0 : I T0 [] w) (a₁ : Array Value → Act)
    (hassign : ∀ (l m : Nat) (x : α) (v : Array Value) (T : Nat → Prop) (W : World) (K : Act → World → Prop), Enc x v T W → K (a₁ v) W →
      assign.wpIn (Fence.wide.inRound l) m P (Exit.then K (fun _ _ _ => False)) { tmps := (ps.zip v).foldl (fun t (p, v) => t.setIfInBounds p v) a.tmps, defers := [] } W)
    (hbody : ∀ (l m : Nat) (T Ti : Nat → Prop) (pre : List α) (x : α) (v : Array Value) (A : World), I T pre A → (pre ++ [x]) <+: xs → (∀ k, T k → n₀ ≤ k ∧ k < A.heap.size) → n₀ ≤ A.heap.size → (∀ k, Ti k → T k) → Enc x v Ti A →
      body.wpIn (Fence.wide.inRound l) m P (iterPost n₀ T I Ix (pre ++ [x]) A) (a₁ v) A)
    (hdone : ∀ (D : Nat) (T : Nat → Prop) (W : World), w.heap.size ≤ D → T D → I T xs W → w.heap.size ≤ W.heap.size → W.heap[D]? = some (.deferred (some [])) → (∀ k, T k → n₀ ≤ k ∧ k < W.heap.size) → Q .normal { a with defers := { target := .collected D, args := #[] } :: a.defers } W)
    (hstop : ∀ (D : Nat) (c : Code) (T : Nat → Prop) (pre : List α) (W : World), w.heap.size ≤ D → T D → pre <+: xs → Ix c T pre W → w.heap.size ≤ W.heap.size → W.heap[D]? = some (.deferred (some [])) → (∀ k, T k → n₀ ≤ k ∧ k < W.heap.size) → c.wpIn Fence.wide n P Q { a with defers := { target := .collected D, args := #[] } :: a.defers } W) :
    (Code.rangeFunc g ps assign body).wpIn Fence.wide n P Q a w := by
  refine wpIn_rangeFunc ?_
  intro fn hfn
  rw [show Fence.wide.round = none from rfl]
  obtain ⟨rec, hrec⟩ : ∃ rec : LoopState → Option Code → Loop, rec = fun st pe => { state := st, pending := pe, fn, tmps := a.tmps, params := ps, assign, body, defers := w.heap.size } := ⟨_, rfl⟩
  have rst : ∀ st pe, (rec st pe).state = st := fun _ _ => by rw [hrec]
  have rpe : ∀ st pe, (rec st pe).pending = pe := fun _ _ => by rw [hrec]
  have rto : ∀ st pe st' pe', ({ rec st pe with state := st', pending := pe' } : Loop) = rec st' pe' := fun _ _ _ _ => by rw [hrec]
  obtain ⟨D, hD⟩ : ∃ D, D = w.heap.size := ⟨_, rfl⟩
  obtain ⟨l, hl⟩ : ∃ l, l = w.heap.size + 1 := ⟨_, rfl⟩
  have hDl : D ≠ l := by omega
  obtain ⟨W1, hW1⟩ : ∃ W1, W1 = (w.alloc (.deferred (some []))).alloc (.loop (rec .ready none)) := ⟨_, rfl⟩
  have hL1 : W1.heap[l]? = some (.loop (rec .ready none)) := by
    have := World.alloc_heap_new (w.alloc (.deferred (some []))) (.loop (rec .ready none))
    rw [World.size_alloc] at this
    rw [hW1, hl]; exact this
  have hK1 : W1.heap[D]? = some (.deferred (some [])) := by
    rw [hW1, hD]; exact (Below.heap_alloc _ _ _ (by simp)).trans (World.alloc_heap_new w _)
  have hbw : Below w.heap.size w W1 := by rw [hW1]; exact ((Below.refl _ w).alloc (Nat.le_refl _) _).alloc (by simp) _
  have hs1 : W1.heap.size = w.heap.size + 2 := by rw [hW1]; simp
  refine ⟨l, [{ target := .collected D, args := #[] }], W1, { target := .fn (.func gf) lb, args := #[.func (.yield l) #[] #[]] }, W1, gf, #[.func (.yield l) #[] #[]] ++ lb, W1, ?_, ?_, fun f' hf' => trivial, ?_, fun h => (by cases h), ?_⟩
  · rw [hW1, hrec, hl, hD]; exact run_enterLoop_outer _ _ _ _ _
  · simp only [resolve, hg]
    simp [go_sem]
  · simp [invoke, go_sem, eg]
  refine (hit (n - 1) l
    (fun T pre A => I (fun k => T k ∨ k = l ∨ k = D) pre A ∧ A.heap[l]? = some (.loop (rec .ready none)) ∧ A.heap[D]? = some (.deferred (some [])) ∧ ¬ T l ∧ ¬ T D ∧ w.heap.size ≤ A.heap.size)
    (fun T pre A => ∃ c, Ix c (fun k => T k ∨ k = l ∨ k = D) pre A ∧ A.heap[l]? = some (.loop (rec .done (some c))) ∧ A.heap[D]? = some (.deferred (some [])) ∧ ¬ T l ∧ ¬ T D ∧ w.heap.size ≤ A.heap.size)
    W1 hbw ?_ ?_ ?_ ?_).mono ?_
  · -- the iterator's steps leave the caller's things
    rintro T T' s A B ⟨hi, hrl, hrd, hnl, hnd, hsz⟩ hT hnA ht hT'
    have lA := (Array.getElem?_eq_some_iff.1 hrl).1
    have dA := (Array.getElem?_eq_some_iff.1 hrd).1
    refine ⟨hI _ _ s A B hi ?_ hnA (ht.mono fun k _ h => .inl h) ?_, (ht.block l lA hnl).trans hrl, (ht.block D dA hnd).trans hrd, ?_, ?_, Nat.le_trans hsz ht.size⟩
    · rintro k (h | rfl | rfl)
      · exact hT k h
      · exact ⟨by omega, lA⟩
      · exact ⟨by omega, dA⟩
    · rintro k (h | h)
      · rcases hT' k h with h | h
        · exact .inl (.inl h)
        · exact .inr h
      · exact .inl (.inr h)
    · intro h; rcases hT' l h with h | h
      · exact hnl h
      · omega
    · intro h; rcases hT' D h with h | h
      · exact hnd h
      · omega
  · rintro T T' s A B ⟨c, hi, hrl, hrd, hnl, hnd, hsz⟩ hT hnA ht hT'
    have lA := (Array.getElem?_eq_some_iff.1 hrl).1
    have dA := (Array.getElem?_eq_some_iff.1 hrd).1
    refine ⟨c, hIx c _ _ s A B hi ?_ hnA (ht.mono fun k _ h => .inl h) ?_, (ht.block l lA hnl).trans hrl, (ht.block D dA hnd).trans hrd, ?_, ?_, Nat.le_trans hsz ht.size⟩
    · rintro k (h | rfl | rfl)
      · exact hT k h
      · exact ⟨by omega, lA⟩
      · exact ⟨by omega, dA⟩
    · rintro k (h | h)
      · rcases hT' k h with h | h
        · exact .inl (.inl h)
        · exact .inr h
      · exact .inl (.inr h)
    · intro h; rcases hT' l h with h | h
      · exact hnl h
      · omega
    · intro h; rcases hT' D h with h | h
      · exact hnd h
      · omega
  · -- one round
    rintro T pre x v A m ⟨hi, hrl, hrd, hnl, hnd, hsz⟩ hpre hT hnA henc
    have lA := (Array.getElem?_eq_some_iff.1 hrl).1
    have dA := (Array.getElem?_eq_some_iff.1 hrd).1
    have hy := run_yield (P := P) (args := v) hrl (by rw [hrec]; exact hps x v T A henc)
    have e1 : (rec .ready none).fn = fn ∧ (rec .ready none).assign = assign ∧ (rec .ready none).body = body ∧ (rec .ready none).params = ps ∧ (rec .ready none).tmps = a.tmps := by rw [hrec]; exact ⟨rfl, rfl, rfl, rfl, rfl⟩
    rw [e1.1, e1.2.1, e1.2.2.1, e1.2.2.2.1, e1.2.2.2.2] at hy
    refine ⟨fn, _, assign, body, hy, roundIn_of_wpIn hfn (hassign l _ x v T A _ henc ⟨_, run_beginRound hrl (rst _ _), ?_⟩)⟩
    clear hy
    rw [rto, rpe]
    obtain ⟨A2, hA2⟩ : ∃ A2, A2 = A.putObj l (.loop (rec .busy none)) := ⟨_, rfl⟩
    have t12 : Turn (fun k => k = l) A A2 := by rw [hA2]; exact Turn.putObj _ rfl
    have l2 : A2.heap[l]? = some (.loop (rec .busy none)) := by rw [hA2]; exact World.putObj_heap_same lA
    have hTp : ∀ k, (T k ∨ k = l ∨ k = D) → n₀ ≤ k ∧ k < A.heap.size := by
      rintro k (h | rfl | rfl)
      · exact hT k h
      · exact ⟨by omega, lA⟩
      · exact ⟨by omega, dA⟩
    have hi2 : I (fun k => T k ∨ k = l ∨ k = D) pre A2 := hI _ _ pre A A2 hi hTp hnA (t12.mono fun k _ h => .inr (.inl h)) fun k h => .inl h
    have hs2 : A2.heap.size = A.heap.size := by rw [hA2]; simp
    rw [← hA2]
    refine wpIn_mono (hbody l _ _ T pre x v A2 hi2 hpre (fun k hk => by rw [hs2]; exact hTp k hk) (by omega) (fun k hk => .inl hk) (hE x v T A A2 henc (by omega) fun k hk => t12.block k (hT k hk).2 fun e => hnl (e ▸ hk))) ?_
    -- behind the body
    have fin : ∀ (jump : Option Code) (A3 : World), Keep n₀ (fun k => T k ∨ k = l ∨ k = D) A2 A3 →
        ∃ A4, (Instr.endRound l jump).run P A3 = .ok (.bool jump.isNone) A4 ∧ A4.heap[l]? = some (.loop (rec (if jump.isNone then .ready else .done) jump)) ∧ A4.heap[D]? = some (.deferred (some [])) ∧
          Turn (fun k => k = l) A3 A4 ∧ Keep n₀ T A A4 ∧ w.heap.size ≤ A4.heap.size ∧ A.heap.size ≤ A3.heap.size := fun jump A3 hk => by
      have l3 : A3.heap[l]? = some (.loop (rec .busy none)) := (hk.block l (by omega) fun h => h.2 (.inr (.inl rfl))).trans l2
      have d3 : A3.heap[D]? = some (.deferred (some [])) := (hk.block D (by omega) fun h => h.2 (.inr (.inr rfl))).trans ((t12.block D dA hDl).trans hrd)
      have hr := run_endRound (P := P) jump l3
      rw [rto] at hr
      have t34 : Turn (fun k => k = l) A3 (A3.putObj l (.loop (rec (if jump.isNone then .ready else .done) jump))) := Turn.putObj _ rfl
      have hs3 := hk.size
      have hs4 := t34.size
      have lk : ∀ k, k < A.heap.size → k = l → n₀ ≤ k ∧ ¬ T k := fun k _ e => ⟨by omega, fun h => hnl (e ▸ h)⟩
      refine ⟨_, hr, World.putObj_heap_same (Array.getElem?_eq_some_iff.1 l3).1, (World.putObj_heap_other hDl).trans d3, t34, ?_, by omega, by omega⟩
      exact ((t12.mono lk).trans hk fun k _ h => ⟨h.1, fun hT => h.2 (.inl hT)⟩).trans t34 fun k hk h => lk k hk h
    have tk : ∀ {A3 A4 : World}, A.heap.size ≤ A3.heap.size → Turn (fun k => k = l) A3 A4 → (∀ k, (T k ∨ k = l ∨ k = D) → n₀ ≤ k ∧ k < A3.heap.size) ∧ n₀ ≤ A3.heap.size := fun hs _ => ⟨fun k hk => ⟨(hTp k hk).1, Nat.lt_of_lt_of_le (hTp k hk).2 hs⟩, by omega⟩
    rintro e a3 A3 hp
    cases e with
    | normal =>
      obtain ⟨hk3, hi3⟩ := hp
      obtain ⟨A4, hr, l4, d4, t34, hk4, hs4, hs3⟩ := fin none A3 hk3
      exact ⟨_, _, hr, .inl ⟨rfl, ⟨hI _ _ _ A3 A4 hi3 (tk hs3 t34).1 (tk hs3 t34).2 (t34.mono fun k _ h => .inr (.inl h)) fun k h => .inl h, l4, d4, hnl, hnd, hs4⟩, hk4⟩⟩
    | ret =>
      obtain ⟨hk3, hi3⟩ := hp
      obtain ⟨A4, hr, l4, d4, t34, hk4, hs4, hs3⟩ := fin (some .ret) A3 hk3
      exact ⟨_, _, hr, .inr ⟨rfl, ⟨.ret, hIx _ _ _ _ A3 A4 hi3 (tk hs3 t34).1 (tk hs3 t34).2 (t34.mono fun k _ h => .inr (.inl h)) fun k h => .inl h, l4, d4, hnl, hnd, hs4⟩, hk4⟩⟩
    | exit id =>
      obtain ⟨hk3, hi3⟩ := hp
      obtain ⟨A4, hr, l4, d4, t34, hk4, hs4, hs3⟩ := fin (some (.exit id)) A3 hk3
      exact ⟨_, _, hr, .inr ⟨rfl, ⟨.exit id, hIx _ _ _ _ A3 A4 hi3 (tk hs3 t34).1 (tk hs3 t34).2 (t34.mono fun k _ h => .inr (.inl h)) fun k h => .inl h, l4, d4, hnl, hnd, hs4⟩, hk4⟩⟩
    | goto t =>
      obtain ⟨hk3, hi3⟩ := hp
      obtain ⟨A4, hr, l4, d4, t34, hk4, hs4, hs3⟩ := fin (some (.goto t)) A3 hk3
      exact ⟨_, _, hr, .inr ⟨rfl, ⟨.goto t, hIx _ _ _ _ A3 A4 hi3 (tk hs3 t34).1 (tk hs3 t34).2 (t34.mono fun k _ h => .inr (.inl h)) fun k h => .inl h, l4, d4, hnl, hnd, hs4⟩, hk4⟩⟩
    | panic ch => exact hp.elim
    | outgrown => exact hp.elim
  · -- at the start
    exact ⟨hI T0 _ [] w W1 h0 hT0 hn (Turn.of_below hbw) fun k h => by
      rcases h with h | rfl | rfl
      · exact .inl h
      · exact .inr (by omega)
      · exact .inr (by omega), hL1, hK1, fun h => by have := (hT0 _ h).2; omega, fun h => by have := (hT0 _ h).2; omega, by omega⟩
  · -- behind the iterator
    rintro e W2 ⟨⟨u, rfl⟩, hsz, (⟨T, ⟨hi, hrl, hrd, hnl, hnd, hs⟩, hT⟩ | ⟨T, pre, hpre, ⟨c, hi, hrl, hrd, hnl, hnd, hs⟩, hT⟩)⟩
    · have lA := (Array.getElem?_eq_some_iff.1 hrl).1
      have dA := (Array.getElem?_eq_some_iff.1 hrd).1
      have hend := run_endLoop (P := P) hrl (by rw [rst]; simp)
      rw [rpe] at hend
      have hb : ∀ k, (T k ∨ k = l ∨ k = D) → n₀ ≤ k ∧ k < W2.heap.size := by
        rintro k (h | rfl | rfl)
        · exact hT k h
        · exact ⟨by omega, lA⟩
        · exact ⟨by omega, dA⟩
      exact ⟨none, _, hend, hdone D (fun k => T k ∨ k = l ∨ k = D) _ (by omega) (.inr (.inr rfl)) (hI _ _ xs W2 _ hi hb (by omega) (Turn.putObj _ (.inr (.inl rfl))) fun k h => .inl h) (by simp; omega) ((World.putObj_heap_other hDl).trans hrd) (fun k hk => ⟨(hb k hk).1, by simpa using (hb k hk).2⟩)⟩
    · have lA := (Array.getElem?_eq_some_iff.1 hrl).1
      have dA := (Array.getElem?_eq_some_iff.1 hrd).1
      have hend := run_endLoop (P := P) hrl (by rw [rst]; simp)
      rw [rpe] at hend
      have hb : ∀ k, (T k ∨ k = l ∨ k = D) → n₀ ≤ k ∧ k < W2.heap.size := by
        rintro k (h | rfl | rfl)
        · exact hT k h
        · exact ⟨by omega, lA⟩
        · exact ⟨by omega, dA⟩
      exact ⟨some c, _, hend, hstop D c (fun k => T k ∨ k = l ∨ k = D) pre _ (by omega) (.inr (.inr rfl)) hpre (hIx c _ _ pre W2 _ hi hb (by omega) (Turn.putObj _ (.inr (.inl rfl))) fun k h => .inl h) (by simp; omega) ((World.putObj_heap_other hDl).trans hrd) (fun k hk => ⟨(hb k hk).1, by simpa using (hb k hk).2⟩)⟩
end Go.Proofs.Ytbanpgifhnbjoaa

/- Layings of tiles one behind the other: all of them, in order; a board of marks; a row of numbers that grows by two and comes back. No function of the program is named here. -/
import Derived.Test.YtbanpgifhnbjoaaCsO
import Derived.Test.YtbanpgifhnbjoaaRegS
import Derived.Maps.AppendAt
namespace Go.Proofs.Ytbanpgifhnbjoaa
open Go.RowKit
set_option linter.unusedVariables false

/-- The marks without a tile. -/
def rmM (M : Nat → Nat → Bool) (a b x y : Nat) : Bool := if (x = a ∧ y = b) ∨ (x = b ∧ y = a) then false else M x y
/-- The ways to lay t tiles of those that are left, as lists of their numbers. -/
def wlL : Nat → (Nat → Nat → Bool) → List (List Int)
  | 0, _ => [[]]
  | t + 1, M => (List.range 100).flatMap fun p => if M (p / 10) (p % 10) then (wlL t (rmM M (p / 10) (p % 10))).map fun l => ((p / 10 : Nat) : Int) :: ((p % 10 : Nat) : Int) :: l else []
def wlJ (t : Nat) (M : Nat → Nat → Bool) (p : Nat) : List (List Int) := if M (p / 10) (p % 10) then (wlL t (rmM M (p / 10) (p % 10))).map fun l => ((p / 10 : Nat) : Int) :: ((p % 10 : Nat) : Int) :: l else []
theorem wlL_succ (t : Nat) (M : Nat → Nat → Bool) : wlL (t + 1) M = (List.range 100).flatMap (wlJ t M) := rfl
theorem wl_step {pre : List (List Int)} {g : Nat → List (List Int)} {xs : List Int} {k : Nat} {L : List (List Int)} {a b : Int} (e : g k = L.map fun l => a :: b :: l) :
    pre ++ ((List.range (k + 1)).flatMap g).map (xs ++ ·) = (pre ++ ((List.range k).flatMap g).map (xs ++ ·)) ++ L.map ((xs ++ [a, b]) ++ ·) := by
  rw [List.range_succ, List.flatMap_append, List.map_append, List.append_assoc]
  simp [e]
theorem wl_none {pre : List (List Int)} {g : Nat → List (List Int)} {xs : List Int} {k : Nat} (e : g k = []) :
    pre ++ ((List.range (k + 1)).flatMap g).map (xs ++ ·) = pre ++ ((List.range k).flatMap g).map (xs ++ ·) := by
  rw [List.range_succ, List.flatMap_append, List.map_append]
  simp [e]
theorem wl_pre {pre : List (List Int)} {g : Nat → List (List Int)} {xs : List Int} {k m : Nat} (h : k ≤ m) : (pre ++ ((List.range k).flatMap g).map (xs ++ ·)) <+: (pre ++ ((List.range m).flatMap g).map (xs ++ ·)) := by
  obtain ⟨d, rfl⟩ : ∃ d, m = k + d := ⟨m - k, by omega⟩
  induction d with
  | zero => exact List.prefix_refl _
  | succ d ih =>
    refine (ih (by omega)).trans ?_
    rw [show k + (d + 1) = (k + d) + 1 from rfl, List.range_succ, List.flatMap_append, List.map_append, ← List.append_assoc]
    exact List.prefix_append _ _

/-- A hundred marks. -/
structure Mk10 (w : World) (b : Nat) (M : Nat → Nat → Bool) : Prop where
  c : ∀ x y, x < 10 → y < 10 → w.cell? ⟨b, x * 10 + y, none⟩ = some (.bool (M x y))
  fz : ∀ m, w.frozen? ⟨b, m, none⟩ = false
section
variable {w w' : World} {b : Nat} {M : Nat → Nat → Bool}
theorem Mk10.lt (h : Mk10 w b M) : b < w.heap.size := block_lt (h.c 0 0 (by omega) (by omega))
theorem Mk10.blk (h : Mk10 w b M) (hb : w'.heap[b]? = w.heap[b]?) : Mk10 w' b M :=
  ⟨fun x y hx hy => (World.cell?_of_block (a := ⟨b, x * 10 + y, none⟩) hb).trans (h.c x y hx hy), fun m => (World.frozen?_of_block (a := ⟨b, m, none⟩) hb).trans (h.fz m)⟩
theorem Mk10.keep (h : Mk10 w b M) (hb : Below w.heap.size w w') : Mk10 w' b M := h.blk (hb.block b h.lt)
theorem Mk10.drew (h : Mk10 w b M) : Mk10 w.drew b M := ⟨h.c, h.fz⟩
theorem Mk10.range (h : Mk10 w b M) : w.rangeAt b 0 (mkL M) := by
  intro j v hv
  have hj : j < 100 := by
    have := (List.getElem?_eq_some_iff.1 hv).1
    rw [mkL_len] at this; exact this
  rw [mkL_get _ hj] at hv
  cases hv
  have := h.c (j / 10) (j % 10) (by omega) (by omega)
  rw [show j / 10 * 10 + j % 10 = j from by omega] at this
  rw [Nat.zero_add]
  exact this
theorem Mk10.there (h : Mk10 w b M) : w.there b 0 100 := by
  intro j hj
  have := h.c (j / 10) (j % 10) (by omega) (by omega)
  rw [show j / 10 * 10 + j % 10 = j from by omega] at this
  rw [Nat.zero_add]
  exact ⟨by rw [this]; rfl, h.fz j⟩
theorem Mk10.fresh (w : World) (M : Nat → Nat → Bool) (t : TypeId) : Mk10 (w.alloc (.cells (mkL M).toArray t)) w.heap.size M :=
  ⟨fun x y hx hy => by
    rw [cell_of_row _ _ _ _ _ _ (heap_alloc_new w _), List.getElem?_toArray, mkL_get _ (by omega), show (x * 10 + y) / 10 = x by omega, show (x * 10 + y) % 10 = y by omega], fun m => bx2_frozen w _ _ m⟩
theorem Mk10.of_range (h : w.rangeAt b 0 (mkL M)) (hf : ∀ m, w.frozen? ⟨b, m, none⟩ = false) : Mk10 w b M :=
  ⟨fun x y hx hy => by
    have := h (x * 10 + y) _ (mkL_get M (by omega))
    rw [Nat.zero_add, show (x * 10 + y) / 10 = x by omega, show (x * 10 + y) % 10 = y by omega] at this
    exact this, hf⟩
theorem Mk10.lose (h : Mk10 w b M) {x y : Nat} (hx : x < 10) (hy : y < 10) : Mk10 ((w.setCell ⟨b, x * 10 + y, none⟩ (.bool false)).setCell ⟨b, y * 10 + x, none⟩ (.bool false)).drew b (rmM M x y) := by
  refine Mk10.drew ⟨fun p q hp hq => ?_, fun m => by rw [World.frozen?_setCell, World.frozen?_setCell]; exact h.fz m⟩
  unfold rmM
  by_cases e2 : p * 10 + q = y * 10 + x
  · have e3 : p = y ∧ q = x := by omega
    rw [if_pos (.inr e3), e2]
    have hv : ∃ v, (w.setCell ⟨b, x * 10 + y, none⟩ (.bool false)).cell? ⟨b, y * 10 + x, none⟩ = some v := by
      by_cases e4 : y * 10 + x = x * 10 + y
      · rw [e4]
        exact ⟨_, World.cell?_setCell_same _ _ _ (h.c x y hx hy)⟩
      · rw [World.cell?_setCell_other _ _ _ _ (by simp <;> omega)]
        exact ⟨_, h.c y x hy hx⟩
    obtain ⟨v, hv⟩ := hv
    exact World.cell?_setCell_same _ _ _ hv
  · rw [World.cell?_setCell_other _ _ _ _ (by simp <;> omega)]
    by_cases e1 : p * 10 + q = x * 10 + y
    · have e3 : p = x ∧ q = y := by omega
      rw [if_pos (.inl e3), e1]
      exact World.cell?_setCell_same _ _ _ (h.c x y hx hy)
    · rw [World.cell?_setCell_other _ _ _ _ (by simp <;> omega), if_neg (by omega)]
      exact h.c p q hp hq
end
theorem range_keepN {w w' : World} {b : Nat} {cs : List Value} (hb : Below w.heap.size w w') (h : w.rangeAt b 0 cs) (hl : b < w.heap.size) : w'.rangeAt b 0 cs := fun j v hv =>
  (hb.cell (p := ⟨b, 0 + j, none⟩) hl).trans (h j v hv)
theorem range_blkN {w w' : World} {b : Nat} {cs : List Value} (hb : w'.heap[b]? = w.heap[b]?) (h : w.rangeAt b 0 cs) : w'.rangeAt b 0 cs := fun j v hv =>
  (World.cell?_of_block (a := ⟨b, 0 + j, none⟩) hb).trans (h j v hv)
theorem grown_setCellsN (b : Nat) : ∀ (vs : List Value) (o : Nat) (w : World), w.grownBy (w.setCells b o vs) (some b)
  | [], _, w => ⟨rfl, rfl, rfl, Nat.le_refl _, fun _ _ _ => rfl⟩
  | v :: vs, o, w => by
    have h1 := grown_set2 w b o v
    have h2 := grown_setCellsN b vs (o + 1) (w.setCell ⟨b, o, none⟩ v)
    exact ⟨h2.os.trans h1.os, h2.tape.trans h1.tape, h2.output.trans h1.output, Nat.le_trans h1.size h2.size, fun k hk hne => (h2.block k (Nat.lt_of_lt_of_le hk h1.size) hne).trans (h1.block k hk hne)⟩
theorem size_setCellsN (b : Nat) : ∀ (vs : List Value) (o : Nat) (w : World), (w.setCells b o vs).heap.size = w.heap.size
  | [], _, w => rfl
  | v :: vs, o, w => by
    rw [World.setCells, size_setCellsN b vs (o + 1)]
    simp [World.setCell]

theorem Try.info_marksN : (Try.prog.info? 102).map (·.size) = some 100 := by kernel_rfl
theorem mk_fresh0 (w : World) : Mk10 (w.alloc (.cells Try.zeroCells102 102)) w.heap.size (fun x y => decide (tile2 (x : Int) y ∈ ([] : List (Int × Int)))) := by
  have h := marks_fresh w
  exact ⟨fun x y hx hy => h.1 x y (by omega) (by omega), h.2⟩
/-- A whole board is stored. -/
theorem wp_store_mk {ops : Array Oper} {rest : List Oper} {op : Oper} {a : Act} {w : World} {Q : Exit → Act → World → Prop} (hgd : op.guard = none) (x y : Operand) (ho : op.op = .store 102 x y) (b : Nat) (hx : a.eval x = .pointer (some ⟨b, 0, none⟩)) (M M0 : Nat → Nat → Bool)
    (hy : a.eval y = .agg (mkL M).toArray) (h0 : Mk10 w b M0) (hK : ∀ w', Mk10 w' b M → w.grownBy w' (some b) → w'.heap.size = w.heap.size → wpList Try.prog ops Q rest (a.put op.dst undef) w') : wpList Try.prog ops Q (op :: rest) a w := by
  have hsz : ((mkL M).toArray).size = 100 := by simp [mkL_len]
  refine wpList_store_mid hgd 102 x y ho b 0 (mkL M).toArray hx hy (by rw [hsz]; exact h0.there) (by rw [hsz]; exact Try.info_marksN) (all_oneCell_toArray (mkL_one M)) ?_
  have hl : (mkL M).toArray.toList = mkL M := by simp
  rw [hl]
  have hrg := World.rangeAt_setCells_same w b 0 (mkL M) (by rw [mkL_len]; exact h0.there)
  exact hK _ (Mk10.of_range hrg (fun m => by rw [World.frozen?_setCells]; exact h0.fz m)) (grown_setCellsN _ _ _ _) (size_setCellsN _ _ _ _)
/-- A whole board is loaded, in a region that draws its order. -/
theorem reg_take_mk {ops : Array Oper} {Q : Exit → Act → World → Prop} {md : Region.Mode} {S : World → Prop} (i : Nat) {o : Oper} {fuel : Nat} {listed : Array Bool} {a : Act} {w : World} (hi : ops[i]? = some o)
    (hs : Region.noSelect ops = true) (hf : Region.free md ops listed i = true) (hr : (Region.ready md ops listed).contains i = true) (M : Nat → Nat → Bool) (b : Nat)
    (hQ : ∀ c a w, Q (.panic c) (a.put o.dst (.agg (mkL M).toArray)) w → Q (.panic c) a w) (hw : Region.wanted o (yielded ops a.tmps) = true) (x : Operand) (ho : o.op = .load 102 x) (hx : a.eval x = .pointer (some ⟨b, 0, none⟩)) (hSr : ∀ w, S w → w.rangeAt b 0 (mkL M)) (hS : S w)
    (h : wpAnyH Try.prog md ops Q S fuel (listed.setIfInBounds i true) (a.put o.dst (.agg (mkL M).toArray)) w) : wpAnyH Try.prog md ops Q S (fuel + 1) listed a w :=
  wpAnyH_take hi hs hf hr hQ (yieldsIf_load_mid hw 102 x ho b 0 hx (mkL M) _ hSr Try.underlying102 rfl (by rw [mkL_len]; exact Try.info_marksN)) hS h

/-- A list of numbers as it is handed out: a slice of the search's own row. -/
def EncN (x : List Int) (v : Array Value) (T : Nat → Prop) (A : World) : Prop := ∃ Ax cx, v = #[.slice Ax x.length cx] ∧ (x.length ≤ cx ∧ cx ≤ 9223372036854775807) ∧ RdI A Ax x ∧ (x ≠ [] → ∀ a, Ax = some a → T a.block)
theorem EncN.mono {x : List Int} {v : Array Value} {T U : Nat → Prop} {A : World} (h : EncN x v T A) (hU : ∀ k, T k → U k) : EncN x v U A := by
  obtain ⟨Ax, cx, e, hc, hr, hb⟩ := h
  exact ⟨Ax, cx, e, hc, hr, fun hx a ha => hU _ (hb hx a ha)⟩
theorem enc_keepN {x : List Int} {v : Array Value} {T : Nat → Prop} {A B : World} (h : EncN x v T A) (hs : A.heap.size ≤ B.heap.size) (hb : ∀ k, T k → B.heap[k]? = A.heap[k]?) : EncN x v T B := by
  obtain ⟨Ax, cx, e, hc, ⟨b, off, h1, h2⟩, ht⟩ := h
  refine ⟨Ax, cx, e, hc, ⟨b, off, h1, fun k hk => ?_⟩, ht⟩
  have hx : x ≠ [] := fun e => by rw [e] at hk; simp at hk
  exact (World.cell?_of_block (a := ⟨b, _, none⟩) (hb b (ht hx _ (h1 hx)))).trans (h2 k hk)

/-- A row of numbers of the search's own. -/
structure RowN (w : World) (T : Nat → Prop) (A : Option Addr) (c : Nat) (xs : List Int) : Prop where
  own : w.ownsRow 0 3 1 (.slice A xs.length c) xs.length (cellsI xs)
  mine : ∀ b, (Value.slice A xs.length c).ownBlock = some b → T b
theorem own_blockN {w w' : World} {base e size n : Nat} {v : Value} {cs : List Value} (h : w.ownsRow base e size v n cs) (hb : ∀ b, v.ownBlock = some b → w'.heap[b]? = w.heap[b]?) : w'.ownsRow base e size v n cs := by
  refine ⟨h.1, ?_⟩
  rcases h.2 with hn | ⟨g, cap, cur, rfl, hb', hgg, rest⟩
  · exact .inl hn
  · exact .inr ⟨g, cap, cur, rfl, hb', (hb g rfl).trans hgg, rest⟩
theorem RowN.blk {w w' : World} {T : Nat → Prop} {A : Option Addr} {c : Nat} {xs : List Int} (h : RowN w T A c xs) (hb : ∀ b, (Value.slice A xs.length c).ownBlock = some b → w'.heap[b]? = w.heap[b]?) : RowN w' T A c xs :=
  ⟨own_blockN h.own hb, h.mine⟩
theorem RowN.enc {w : World} {T : Nat → Prop} {A : Option Addr} {c : Nat} {xs : List Int} (h : RowN w T A c xs) : EncN xs #[.slice A xs.length c] T w := by
  have hcap : xs.length ≤ c ∧ c ≤ 9223372036854775807 := by
    obtain ⟨_, ⟨hv, hn⟩ | ⟨g', cap', cur, hv, hb, hh, hnc, hcm, _⟩⟩ := h.own
    · injection hv with e1 e2 e3
      omega
    · injection hv with e1 e2 e3
      unfold maxLen at hcm
      omega
  refine ⟨A, c, rfl, hcap, RdI.of_own h.own, fun hne a ha => ?_⟩
  subst ha
  exact h.mine _ rfl
theorem own_backN {w : World} {g cap : Nat} {xs : List Int} {x y : Int} (h : w.ownsRow 0 3 1 (.slice (some ⟨g, 0, none⟩) (xs.length + 2) cap) (xs.length + 2) (cellsI (xs ++ [x, y]))) :
    w.ownsRow 0 3 1 (.slice (some ⟨g, 0, none⟩) xs.length cap) xs.length (cellsI xs) := by
  obtain ⟨_, ⟨hv, hn⟩ | ⟨g', cap', cur, hv, hb, hh, hnc, hcm, hcs, ht⟩⟩ := h
  · cases hv
  · cases hv
    refine ⟨by rw [cellsI_length]; omega, .inr ⟨g, cap, cur, rfl, hb, hh, by omega, hcm, hcs, ?_⟩⟩
    have h1 := congrArg (List.take (xs.length * 1)) ht
    rw [List.take_take, Nat.min_eq_left (by omega), cellsI_append, List.take_left' (by rw [cellsI_length]; omega)] at h1
    exact h1
theorem grown_drewN (w : World) : w.grownBy w.drew none := ⟨rfl, rfl, rfl, Nat.le_refl _, fun _ _ _ => rfl⟩
theorem grown_alN {w a : World} {row : Option Nat} (h : w.grownBy a row) (o : Obj) : w.grownBy (a.alloc o) row :=
  ⟨h.os, h.tape, h.output, Nat.le_trans h.size (by simp), fun k hk hne => (Below.heap_alloc a o k (Nat.lt_of_lt_of_le hk h.size)).trans (h.block k hk hne)⟩

/-- Two numbers appended, at a step of a region that draws its order: in the row, which keeps its room, or in a new one. -/
theorem step_append_two_c {w : World} {ops : Array Oper} {o : Oper} {a : Act} {K : Act → World → Prop} {Q : Exit → Act → World → Prop} {E : Prop} (hgd : o.guard = none) (s x : Operand)
    (ho : o.op = .call { callee := .builtin .append, args := #[s, x], argTypes := #[39, 39] }) (A : Option Addr) (c : Nat) (ts : List Int) (hs : a.eval s = .slice A ts.length c)
    (hown : w.ownsRow 0 3 1 (.slice A ts.length c) ts.length (cellsI ts)) (p q : Int) (g : Nat) (hx : a.eval x = .slice (some ⟨g, 0, none⟩) 2 2)
    (h0 : w.cell? ⟨g, 0, none⟩ = some (.int .i64 p)) (h1 : w.cell? ⟨g, 1, none⟩ = some (.int .i64 q)) (hlen : ts.length ≤ 4194304)
    (h : ∀ B c' w', w'.ownsRow 0 3 1 (.slice (some ⟨B, 0, none⟩) (ts.length + 2) c') (ts.length + 2) (cellsI (ts ++ [p, q])) → ((A = some ⟨B, 0, none⟩ ∧ c' = c ∧ w.grownBy w' (some B)) ∨ (B = w.heap.size ∧ w.grownBy w' none)) → K (a.put o.dst (.slice (some ⟨B, 0, none⟩) (ts.length + 2) c')) w') :
    if Region.wanted o (yielded ops a.tmps) = true then Oper.wp Try.prog o a w K Q else E := by
  have hw : Region.wanted o (yielded ops a.tmps) = true := by simp [Region.wanted, hgd]
  rw [if_pos hw]
  obtain ⟨i0, hi, hz0, hz1, hz2⟩ := info_parts Try.info_int
  have hnews : ∀ (j : Nat) (u : Value), ([.int .i64 p, .int .i64 q] : List Value)[j]? = some u → w.cell? ((⟨g, 0, none⟩ : Addr).add j) = some u := by
    intro j u hj
    match j, hj with
    | 0, hj => simp at hj; subst hj; simpa [Addr.add] using h0
    | 1, hj => simp at hj; subst hj; simpa [Addr.add] using h1
  have hone : ∀ u ∈ ([.int .i64 p, .int .i64 q] : List Value), u.oneCell' = true := by
    intro u hu
    simp at hu
    rcases hu with rfl | rfl <;> rfl
  obtain ⟨v', w', hr, k2, k3, k4, k5⟩ := run_append_own_at (P := Try.prog) w 0 39 o.type 3 i0 _ 1 8 Try.underlying39 hi hz0 hz1 hz2 rfl (by decide) (.slice A ts.length c) ts.length (cellsI ts) (by simpa using hown) ⟨g, 0, none⟩ 2 2 [.int .i64 p, .int .i64 q] rfl hnews hone (by unfold maxLen; omega) (by omega) (Nat.zero_le _)
  unfold Oper.wp execOp
  simp only [ho, resolve, invoke, builtin, Sem.run_bind, Sem.run_pure, Result.andThen_ok, List.map_toArray, List.map_cons, List.map_nil, hs, hx, hr]
  have fin : ∀ B c', v' = .slice (some ⟨B, 0, none⟩) (ts.length + 2) c' → ((A = some ⟨B, 0, none⟩ ∧ c' = c ∧ w.grownBy w' (some B)) ∨ (B = w.heap.size ∧ w.grownBy w' none)) → K (a.put o.dst v') w' := by
    rintro B c' rfl hc
    refine h B c' w' ?_ hc
    rw [cellsI_append]
    exact k2
  rcases hown.2 with ⟨hv, hn⟩ | ⟨g', cap, cur, hv, hbg, hg, hnc, hcm, hcs, htake⟩
  · have hts : ts = [] := List.eq_nil_of_length_eq_zero hn
    subst hts
    cases hv
    have hr2 := run_append_nil (P := Try.prog) w 39 o.type 3 i0 _ Try.underlying39 hi hz0 ⟨g, 0, none⟩ 2 2 [.int .i64 p, .int .i64 q] (by rw [hz1]; rfl) hnews (by omega) (by omega) (by rw [hz2]; omega)
    rw [show ([] : List Int).length = 0 from rfl, hr2] at hr
    cases hr
    exact fin _ _ rfl (.inr ⟨rfl, grown_alN (grown_drewN w) _⟩)
  · cases hv
    by_cases hroom : ts.length + 2 ≤ c
    · have hr2 := run_append_room (P := Try.prog) w 39 o.type 3 i0 Try.underlying39 hi g' ts.length c cur hg ⟨g, 0, none⟩ 2 2 [.int .i64 p, .int .i64 q] (by rw [hz1]; rfl) hnews hone hroom (by rw [hz1, hcs]; simp; omega)
      rw [hr2] at hr
      cases hr
      exact fin _ _ rfl (.inl ⟨rfl, rfl, k3⟩)
    · have hr2 := run_append_grow (P := Try.prog) w 39 o.type 3 i0 _ Try.underlying39 hi hz0 ⟨g', 0, none⟩ ts.length c (cellsI ts) (by rw [hz1, cellsI_length]; omega) (hown.cells (g := g') rfl) ⟨g, 0, none⟩ 2 2 [.int .i64 p, .int .i64 q] (by rw [hz1]; rfl) hnews (by omega) (by omega) (growslice_fits (by omega) (by rw [hz2]; omega))
      rw [hr2] at hr
      cases hr
      exact fin _ _ rfl (.inr ⟨rfl, grown_alN (grown_drewN w) _⟩)
end Go.Proofs.Ytbanpgifhnbjoaa

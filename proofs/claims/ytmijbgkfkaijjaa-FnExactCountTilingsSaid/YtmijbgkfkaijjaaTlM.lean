/- Layouts: all of them, in order; a board of covered cells; a row of pairs that grows and comes back. No function of the program is named here. -/
import Derived.Test.YtmijbgkfkaijjaaTlN
import Derived.Test.YtmijbgkfkaijjaaIter
import Derived.Test.YtmijbgkfkaijjaaRegS
import Derived.Test.YtmijbgkfkaijjaaBx2
import Derived.Maps.AppendAt
namespace Go.Proofs.Ytmijbgkfkaijjaa
open Go.RowKit
set_option linter.unusedVariables false

def nearL (W n i : Nat) : List Nat := (if eastB W i then [i + 1] else []) ++ (if i + W < n then [i + W] else [])
theorem nearP_map (W n i : Nat) : nearP W n i = (nearL W n i).map fun j : Nat => ((i : Int), (j : Int)) := by
  unfold nearP nearL
  by_cases h1 : eastB W i = true <;> by_cases h2 : i + W < n <;> simp [h1, h2]
theorem nearL_len (W n i : Nat) : (nearL W n i).length ≤ 2 := by
  unfold nearL
  by_cases h1 : eastB W i = true <;> by_cases h2 : i + W < n <;> simp [h1, h2]
theorem nearL_bd {W n i H : Nat} (hW : 0 < W) (hn : n = H * W) (hi : i < n) {j : Nat} (hj : j ∈ nearL W n i) : i < j ∧ j < n := by
  unfold nearL at hj
  rcases List.mem_append.1 hj with h | h
  · by_cases he : eastB W i = true
    · rw [if_pos he] at h
      rw [List.mem_singleton.1 h]
      have h1 : (i + 1) % W ≠ 0 := by unfold eastB at he; exact of_decide_eq_true he
      refine ⟨by omega, Nat.lt_of_le_of_ne (by omega) fun e => h1 ?_⟩
      rw [e, hn]
      exact Nat.mul_mod_left H W
    · rw [if_neg he] at h; simp at h
  · by_cases hs : i + W < n
    · rw [if_pos hs] at h
      rw [List.mem_singleton.1 h]
      omega
    · rw [if_neg hs] at h; simp at h
def mk2 (F : Nat → Bool) (i j k : Nat) : Bool := if k = i ∨ k = j then true else F k
/-- The layouts of the cells from i on that are not covered, each as its pairs. -/
def lay (W n : Nat) : Nat → Nat → (Nat → Bool) → List (List (Int × Int))
  | 0, _, _ => []
  | f + 1, i, F => if n ≤ i then [[]] else if F i then lay W n f (i + 1) F else (nearL W n i).flatMap fun j => if F j then [] else (lay W n f (i + 1) (mk2 F i j)).map (((i : Int), (j : Int)) :: ·)
def layL (W n i : Nat) (F : Nat → Bool) : List (List (Int × Int)) := lay W n (n + 1 - i) i F
theorem layL_end (W n : Nat) (F : Nat → Bool) : layL W n n F = [[]] := by
  unfold layL
  rw [show n + 1 - n = 0 + 1 by omega]
  simp [lay]
theorem layL_skip {W n i : Nat} {F : Nat → Bool} (h : i < n) (hF : F i = true) : layL W n i F = layL W n (i + 1) F := by
  unfold layL
  rw [show n + 1 - i = (n + 1 - (i + 1)) + 1 by omega, lay, if_neg (by omega), if_pos hF]
/-- What is laid by one of the pairs. -/
def layJ (W n i : Nat) (F : Nat → Bool) (j : Nat) : List (List (Int × Int)) := if F j then [] else (layL W n (i + 1) (mk2 F i j)).map (((i : Int), (j : Int)) :: ·)
theorem layL_free {W n i : Nat} {F : Nat → Bool} (h : i < n) (hF : F i = false) : layL W n i F = (nearL W n i).flatMap (layJ W n i F) := by
  unfold layL
  rw [show n + 1 - i = (n + 1 - (i + 1)) + 1 by omega, lay, if_neg (by omega), if_neg (by simp [hF])]
  rfl
theorem flat_len {α β : Type} {l : List α} {g : α → List β} {B : Nat} (h : ∀ x ∈ l, (g x).length ≤ B) : (l.flatMap g).length ≤ l.length * B := by
  induction l with
  | nil => simp
  | cons a l ih =>
    have h1 := h a (by simp)
    have h2 := ih fun x hx => h x (by simp [hx])
    rw [List.flatMap_cons, List.length_append, List.length_cons, Nat.succ_mul]
    omega
theorem lay_len (W n : Nat) : ∀ f i F, (lay W n f i F).length ≤ 2 ^ (n - i)
  | 0, i, F => by simp [lay]
  | f + 1, i, F => by
    unfold lay
    split
    · simp; exact Nat.one_le_two_pow
    · rename_i hi
      have e : 2 ^ (n - i) = 2 * 2 ^ (n - (i + 1)) := by rw [show n - i = (n - (i + 1)) + 1 by omega, Nat.pow_succ]; omega
      split
      · have := lay_len W n f (i + 1) F
        omega
      · have h1 := flat_len (l := nearL W n i) (g := fun j => if F j then [] else (lay W n f (i + 1) (mk2 F i j)).map (((i : Int), (j : Int)) :: ·)) (B := 2 ^ (n - (i + 1))) (fun j _ => by
          split
          · simp
          · rw [List.length_map]; exact lay_len W n f (i + 1) _)
        have h2 := nearL_len W n i
        have h3 := Nat.mul_le_mul_right (2 ^ (n - (i + 1))) h2
        omega

theorem out_step {pre : List (List (Int × Int))} {NL : List Nat} {k j : Nat} {g : Nat → List (List (Int × Int))} {L : List (List (Int × Int))} {ps : List (Int × Int)} {x : Int × Int} (hlast : NL.take (k + 1) = NL.take k ++ [j]) (eJ : g j = L.map (x :: ·)) :
    pre ++ ((NL.take (k + 1)).flatMap g).map (ps ++ ·) = (pre ++ ((NL.take k).flatMap g).map (ps ++ ·)) ++ L.map ((ps ++ [x]) ++ ·) := by
  rw [hlast, List.flatMap_append, List.map_append, List.append_assoc]
  simp [eJ]
theorem out_pre {pre : List (List (Int × Int))} {NL : List Nat} {m : Nat} {g : Nat → List (List (Int × Int))} {ps : List (Int × Int)} : (pre ++ ((NL.take m).flatMap g).map (ps ++ ·)) <+: (pre ++ (NL.flatMap g).map (ps ++ ·)) := by
  refine ⟨((NL.drop m).flatMap g).map (ps ++ ·), ?_⟩
  rw [List.append_assoc, ← List.map_append, ← List.flatMap_append, List.take_append_drop]

/-- How many of the first n cells are free. -/
def freeN (F : Nat → Bool) : Nat → Nat
  | 0 => 0
  | n + 1 => freeN F n + if F n then 0 else 1
theorem freeN_all {F : Nat → Bool} : ∀ {n : Nat}, (∀ c, c < n → F c = true) → freeN F n = 0
  | 0, _ => rfl
  | n + 1, h => by
    unfold freeN
    rw [freeN_all fun c hc => h c (by omega), h n (by omega)]
    rfl
theorem freeN_same {F G : Nat → Bool} : ∀ {n : Nat}, (∀ c, c < n → F c = G c) → freeN F n = freeN G n
  | 0, _ => rfl
  | n + 1, h => by
    unfold freeN
    rw [freeN_same fun c hc => h c (by omega), h n (by omega)]
theorem freeN_one {F : Nat → Bool} {i : Nat} (hF : F i = false) : ∀ {n : Nat}, i < n → freeN F n = freeN (fun k => if k = i then true else F k) n + 1
  | 0, h => by omega
  | n + 1, h => by
    unfold freeN
    by_cases e : i = n
    · subst e
      rw [freeN_same (F := F) (G := fun k => if k = i then true else F k) (n := i) fun c hc => by simp [show c ≠ i by omega]]
      simp [hF]
    · rw [freeN_one hF (n := n) (by omega), if_neg (show ¬ n = i by omega)]
      omega
theorem freeN_two {F : Nat → Bool} {n i j : Nat} (hi : i < n) (hj : j < n) (hij : i ≠ j) (h1 : F i = false) (h2 : F j = false) : freeN F n = freeN (mk2 F i j) n + 2 := by
  rw [freeN_one h1 hi, freeN_one (F := fun k => if k = i then true else F k) (i := j) (by simp [Ne.symm hij, h2]) hj]
  have : freeN (mk2 F i j) n = freeN (fun k => if k = j then true else if k = i then true else F k) n := freeN_same fun c _ => by
    unfold mk2
    by_cases e1 : c = i <;> by_cases e2 : c = j <;> simp [e1, e2]
  omega
theorem lay_even {W n H : Nat} (hW : 0 < W) (hn : n = H * W) : ∀ f i F, i ≤ n → (∀ c, c < i → F c = true) → lay W n f i F ≠ [] → freeN F n % 2 = 0
  | 0, i, F, _, _, h => by simp [lay] at h
  | f + 1, i, F, hi, hc, h => by
    unfold lay at h
    split at h
    · rw [freeN_all fun c hcn => hc c (by omega)]
    · rename_i hin
      split at h
      · rename_i hF
        refine lay_even hW hn f (i + 1) F (by omega) (fun c hcn => ?_) h
        by_cases e : c = i
        · rw [e]; exact hF
        · exact hc c (by omega)
      · rename_i hF
        have hF0 : F i = false := by simpa using hF
        obtain ⟨x, hx⟩ := List.exists_mem_of_ne_nil _ h
        obtain ⟨j, hj, hxj⟩ := List.mem_flatMap.1 hx
        have hb := nearL_bd hW hn (by omega) hj
        by_cases hFj : F j = true
        · rw [if_pos hFj] at hxj; simp at hxj
        · rw [if_neg hFj] at hxj
          have hFj0 : F j = false := by simpa using hFj
          have hne : lay W n f (i + 1) (mk2 F i j) ≠ [] := fun e => by rw [e] at hxj; simp at hxj
          have := lay_even hW hn f (i + 1) (mk2 F i j) (by omega) (fun c hcn => by
            unfold mk2
            by_cases e : c = i
            · rw [if_pos (.inl e)]
            · by_cases e2 : c = j
              · rw [if_pos (.inr e2)]
              · rw [if_neg (by omega)]; exact hc c (by omega)) hne
          have h2 := freeN_two (n := n) (by omega) hb.2 (by omega) hF0 hFj0
          omega
theorem freeN_none : ∀ n, freeN (fun _ => false) n = n
  | 0 => rfl
  | n + 1 => by unfold freeN; rw [freeN_none n]; simp
theorem layL_odd {W n H : Nat} (hW : 0 < W) (hn : n = H * W) (ho : n % 2 = 1) : layL W n 0 (fun _ => false) = [] := by
  cases h : layL W n 0 (fun _ => false) with
  | nil => rfl
  | cons a l =>
    have := lay_even hW hn (n + 1 - 0) 0 (fun _ => false) (Nat.zero_le _) (fun c hc => by omega) (by unfold layL at h; rw [h]; simp)
    rw [freeN_none] at this
    omega

theorem grown_setCells (b : Nat) : ∀ (vs : List Value) (o : Nat) (w : World), w.grownBy (w.setCells b o vs) (some b)
  | [], _, w => ⟨rfl, rfl, rfl, Nat.le_refl _, fun _ _ _ => rfl⟩
  | v :: vs, o, w => by
    have h1 := grown_set2 w b o v
    have h2 := grown_setCells b vs (o + 1) (w.setCell ⟨b, o, none⟩ v)
    exact ⟨h2.os.trans h1.os, h2.tape.trans h1.tape, h2.output.trans h1.output, Nat.le_trans h1.size h2.size, fun k hk hne => (h2.block k (Nat.lt_of_lt_of_le hk h1.size) hne).trans (h1.block k hk hne)⟩
theorem size_setCells (b : Nat) : ∀ (vs : List Value) (o : Nat) (w : World), (w.setCells b o vs).heap.size = w.heap.size
  | [], _, w => rfl
  | v :: vs, o, w => by
    rw [World.setCells, size_setCells b vs (o + 1)]
    simp [World.setCell]

/-- Thirty cells of true and false. -/
def cvL (F : Nat → Bool) : List Value := (List.range 30).map fun k => .bool (F k)
theorem cvL_len (F : Nat → Bool) : (cvL F).length = 30 := by simp [cvL]
theorem cvL_get (F : Nat → Bool) {j : Nat} (hj : j < 30) : (cvL F)[j]? = some (.bool (F j)) := by simp [cvL, hj]
theorem cvL_one (F : Nat → Bool) : ∀ v ∈ cvL F, v.oneCell' = true := by
  intro v hv
  obtain ⟨i, _, rfl⟩ := List.mem_map.1 hv
  rfl
structure Cov (w : World) (b : Nat) (F : Nat → Bool) : Prop where
  c : ∀ k, k < 30 → w.cell? ⟨b, k, none⟩ = some (.bool (F k))
  fz : ∀ m, w.frozen? ⟨b, m, none⟩ = false
section
variable {w w' : World} {b : Nat} {F : Nat → Bool}
theorem Cov.lt (h : Cov w b F) : b < w.heap.size := block_lt (h.c 0 (by omega))
theorem Cov.blk (h : Cov w b F) (hb : w'.heap[b]? = w.heap[b]?) : Cov w' b F :=
  ⟨fun k hk => (World.cell?_of_block (a := ⟨b, k, none⟩) hb).trans (h.c k hk), fun m => (World.frozen?_of_block (a := ⟨b, m, none⟩) hb).trans (h.fz m)⟩
theorem Cov.keep (h : Cov w b F) (hb : Below w.heap.size w w') : Cov w' b F := h.blk (hb.block b h.lt)
theorem Cov.drew (h : Cov w b F) : Cov w.drew b F := ⟨h.c, h.fz⟩
theorem Cov.eq {F' : Nat → Bool} (h : Cov w b F) (e : ∀ k, F k = F' k) : Cov w b F' := ⟨fun k hk => by rw [← e]; exact h.c k hk, h.fz⟩
theorem Cov.range (h : Cov w b F) : w.rangeAt b 0 (cvL F) := by
  intro j v hv
  have hj : j < 30 := by
    have := (List.getElem?_eq_some_iff.1 hv).1
    rw [cvL_len] at this; exact this
  rw [cvL_get _ hj] at hv
  cases hv
  rw [Nat.zero_add]
  exact h.c j hj
theorem Cov.there (h : Cov w b F) : w.there b 0 30 := fun j hj => by
  rw [Nat.zero_add]
  exact ⟨by rw [h.c j hj]; rfl, h.fz j⟩
theorem Cov.fresh (w : World) (F : Nat → Bool) (t : TypeId) : Cov (w.alloc (.cells (cvL F).toArray t)) w.heap.size F :=
  ⟨fun k hk => by
    rw [cell_of_row _ _ _ _ _ _ (heap_alloc_new w _), List.getElem?_toArray, cvL_get _ hk], fun m => bx2_frozen w _ _ m⟩
theorem Cov.put (h : Cov w b F) {k : Nat} (hk : k < 30) : Cov (w.setCell ⟨b, k, none⟩ (.bool true)) b (fun m => if m = k then true else F m) :=
  ⟨fun m hm => by
    by_cases e : m = k
    · subst e
      rw [World.cell?_setCell_same _ _ _ (h.c m hm)]; simp
    · rw [World.cell?_setCell_other _ _ _ _ (by simp <;> omega), h.c m hm, if_neg e], fun m => by rw [World.frozen?_setCell]; exact h.fz m⟩
end

abbrev z30 : Array Value := #[.bool false, .bool false, .bool false, .bool false, .bool false, .bool false, .bool false, .bool false, .bool false, .bool false, .bool false, .bool false, .bool false, .bool false, .bool false, .bool false, .bool false, .bool false, .bool false, .bool false, .bool false, .bool false, .bool false, .bool false, .bool false, .bool false, .bool false, .bool false, .bool false, .bool false]
theorem z30_eq : (cvL fun _ => false).toArray = z30 := by simp [cvL, List.range, List.range.loop]
theorem cov_z30 (w : World) (b : Nat) (t : TypeId) (hb : b = w.heap.size) : Cov (w.alloc (.cells z30 t)) b (fun _ => false) := by
  subst hb
  rw [← z30_eq]
  exact Cov.fresh w _ t

theorem Try.info_cv : (Try.prog.info? 47).map (·.size) = some 30 := by kernel_rfl
/-- A whole board is loaded, in a region that draws its order. -/
theorem reg_take_cv {ops : Array Oper} {Q : Exit → Act → World → Prop} {md : Region.Mode} {S : World → Prop} (i : Nat) {o : Oper} {fuel : Nat} {listed : Array Bool} {a : Act} {w : World} (hi : ops[i]? = some o)
    (hs : Region.noSelect ops = true) (hf : Region.free md ops listed i = true) (hr : (Region.ready md ops listed).contains i = true) (F : Nat → Bool) (b : Nat)
    (hQ : ∀ c a w, Q (.panic c) (a.put o.dst (.agg (cvL F).toArray)) w → Q (.panic c) a w) (hw : Region.wanted o (yielded ops a.tmps) = true) (x : Operand) (ho : o.op = .load 47 x) (hx : a.eval x = .pointer (some ⟨b, 0, none⟩)) (hSr : ∀ w, S w → w.rangeAt b 0 (cvL F)) (hS : S w)
    (h : wpAnyH Try.prog md ops Q S fuel (listed.setIfInBounds i true) (a.put o.dst (.agg (cvL F).toArray)) w) : wpAnyH Try.prog md ops Q S (fuel + 1) listed a w :=
  wpAnyH_take hi hs hf hr hQ (yieldsIf_load_mid hw 47 x ho b 0 hx (cvL F) _ hSr Try.underlying47 rfl (by rw [cvL_len]; exact Try.info_cv)) hS h
/-- A whole board is stored. -/
theorem wp_store_cv {ops : Array Oper} {rest : List Oper} {op : Oper} {a : Act} {w : World} {Q : Exit → Act → World → Prop} (hgd : op.guard = none) (x y : Operand) (ho : op.op = .store 47 x y) (b : Nat) (hx : a.eval x = .pointer (some ⟨b, 0, none⟩)) (F F0 : Nat → Bool)
    (hy : a.eval y = .agg (cvL F).toArray) (h0 : Cov w b F0) (hK : ∀ w', Cov w' b F → w.grownBy w' (some b) → w'.heap.size = w.heap.size → wpList Try.prog ops Q rest (a.put op.dst undef) w') : wpList Try.prog ops Q (op :: rest) a w := by
  have hsz : ((cvL F).toArray).size = 30 := by simp [cvL_len]
  refine wpList_store_mid hgd 47 x y ho b 0 (cvL F).toArray hx hy (by rw [hsz]; exact h0.there) (by rw [hsz]; exact Try.info_cv) (all_oneCell_toArray (cvL_one F)) ?_
  have hl : (cvL F).toArray.toList = cvL F := by simp
  rw [hl]
  have hrg := World.rangeAt_setCells_same w b 0 (cvL F) (by rw [cvL_len]; exact h0.there)
  refine hK _ ⟨fun k hk => ?_, fun m => ?_⟩ ?_ ?_
  · have := hrg k _ (cvL_get F hk)
    rw [Nat.zero_add] at this
    exact this
  · rw [World.frozen?_setCells]; exact h0.fz m
  · exact grown_setCells _ _ _ _
  · exact size_setCells _ _ _ _

theorem range_keep {w w' : World} {b : Nat} {cs : List Value} (hb : Below w.heap.size w w') (h : w.rangeAt b 0 cs) (hl : b < w.heap.size) : w'.rangeAt b 0 cs := fun j v hv =>
  (hb.cell (p := ⟨b, 0 + j, none⟩) hl).trans (h j v hv)
theorem range_blk {w w' : World} {b : Nat} {cs : List Value} (hb : w'.heap[b]? = w.heap[b]?) (h : w.rangeAt b 0 cs) : w'.rangeAt b 0 cs := fun j v hv =>
  (World.cell?_of_block (a := ⟨b, 0 + j, none⟩) hb).trans (h j v hv)

/-- A list of pairs as it is handed out: a slice of the search's own row. -/
def EncP (x : List (Int × Int)) (v : Array Value) (T : Nat → Prop) (A : World) : Prop := ∃ Ax cx, v = #[.slice Ax x.length cx] ∧ RdT A Ax x ∧ (x ≠ [] → ∀ a, Ax = some a → T a.block)

/-- A row of pairs of the search's own. -/
structure RowP (w : World) (T : Nat → Prop) (A : Option Addr) (c : Nat) (ps : List (Int × Int)) : Prop where
  own : w.ownsRow 0 56 2 (.slice A ps.length c) ps.length (cellsT ps)
  mine : ∀ b, (Value.slice A ps.length c).ownBlock = some b → T b
theorem own_blockP {w w' : World} {base e size n : Nat} {v : Value} {cs : List Value} (h : w.ownsRow base e size v n cs) (hb : ∀ b, v.ownBlock = some b → w'.heap[b]? = w.heap[b]?) : w'.ownsRow base e size v n cs := by
  refine ⟨h.1, ?_⟩
  rcases h.2 with hn | ⟨g, cap, cur, rfl, hb', hgg, rest⟩
  · exact .inl hn
  · exact .inr ⟨g, cap, cur, rfl, hb', (hb g rfl).trans hgg, rest⟩
theorem RowP.blk {w w' : World} {T : Nat → Prop} {A : Option Addr} {c : Nat} {ps : List (Int × Int)} (h : RowP w T A c ps) (hb : ∀ b, (Value.slice A ps.length c).ownBlock = some b → w'.heap[b]? = w.heap[b]?) : RowP w' T A c ps :=
  ⟨own_blockP h.own hb, h.mine⟩
theorem RowP.enc {w : World} {T : Nat → Prop} {A : Option Addr} {c : Nat} {ps : List (Int × Int)} (h : RowP w T A c ps) : EncP ps #[.slice A ps.length c] T w := by
  refine ⟨A, c, rfl, RdT.of_own h.own, fun hne a ha => ?_⟩
  subst ha
  refine h.mine _ ?_
  rfl
theorem own_backP {w : World} {g cap : Nat} {ps : List (Int × Int)} {x : Int × Int} (h : w.ownsRow 0 56 2 (.slice (some ⟨g, 0, none⟩) (ps.length + 1) cap) (ps.length + 1) (cellsT (ps ++ [x]))) :
    w.ownsRow 0 56 2 (.slice (some ⟨g, 0, none⟩) ps.length cap) ps.length (cellsT ps) := by
  obtain ⟨_, ⟨hv, hn⟩ | ⟨g', cap', cur, hv, hb, hh, hnc, hcm, hcs, ht⟩⟩ := h
  · cases hv
  · cases hv
    refine ⟨by rw [cellsT_length], .inr ⟨g, cap, cur, rfl, hb, hh, by omega, hcm, hcs, ?_⟩⟩
    have h1 := congrArg (List.take (ps.length * 2)) ht
    rw [List.take_take, Nat.min_eq_left (by omega), cellsT_append, List.take_left' (by rw [cellsT_length])] at h1
    exact h1

theorem grown_drew0 (w : World) : w.grownBy w.drew none := ⟨rfl, rfl, rfl, Nat.le_refl _, fun _ _ _ => rfl⟩
theorem _root_.Go.World.grownBy.al {w a : World} {row : Option Nat} (h : w.grownBy a row) (o : Obj) : w.grownBy (a.alloc o) row :=
  ⟨h.os, h.tape, h.output, Nat.le_trans h.size (by simp), fun k hk hne => (Below.heap_alloc a o k (Nat.lt_of_lt_of_le hk h.size)).trans (h.block k hk hne)⟩
/-- One pair appended, at a step of a region that draws its order: in the row, which keeps its room, or in a new one. -/
theorem step_append_pair_c {w : World} {ops : Array Oper} {o : Oper} {a : Act} {K : Act → World → Prop} {Q : Exit → Act → World → Prop} {E : Prop} (hgd : o.guard = none) (s x : Operand)
    (ho : o.op = .call { callee := .builtin .append, args := #[s, x], argTypes := #[53, 53] }) (A : Option Addr) (c : Nat) (ts : List (Int × Int)) (hs : a.eval s = .slice A ts.length c)
    (hown : w.ownsRow 0 56 2 (.slice A ts.length c) ts.length (cellsT ts)) (p q : Int) (g : Nat) (hx : a.eval x = .slice (some ⟨g, 0, none⟩) 1 1)
    (h0 : w.cell? ⟨g, 0, none⟩ = some (.int .i64 p)) (h1 : w.cell? ⟨g, 1, none⟩ = some (.int .i64 q)) (hlen : ts.length ≤ 4194304)
    (h : ∀ B c' w', w'.ownsRow 0 56 2 (.slice (some ⟨B, 0, none⟩) (ts.length + 1) c') (ts.length + 1) (cellsT (ts ++ [(p, q)])) → ((A = some ⟨B, 0, none⟩ ∧ c' = c ∧ w.grownBy w' (some B)) ∨ (B = w.heap.size ∧ w.grownBy w' none)) → K (a.put o.dst (.slice (some ⟨B, 0, none⟩) (ts.length + 1) c')) w') :
    if Region.wanted o (yielded ops a.tmps) = true then Oper.wp Try.prog o a w K Q else E := by
  have hw : Region.wanted o (yielded ops a.tmps) = true := by simp [Region.wanted, hgd]
  rw [if_pos hw]
  obtain ⟨i0, hi, hz0, hz1, hz2⟩ := info_parts Try.info_pair
  have hnews : ∀ (j : Nat) (u : Value), ([.int .i64 p, .int .i64 q] : List Value)[j]? = some u → w.cell? ((⟨g, 0, none⟩ : Addr).add j) = some u := by
    intro j u hj
    match j, hj with
    | 0, hj => simp at hj; subst hj; simpa [Addr.add] using h0
    | 1, hj => simp at hj; subst hj; simpa [Addr.add] using h1
  have hone : ∀ u ∈ ([.int .i64 p, .int .i64 q] : List Value), u.oneCell' = true := by
    intro u hu
    simp at hu
    rcases hu with rfl | rfl <;> rfl
  obtain ⟨v', w', hr, k2, k3, k4, k5⟩ := run_append_own_at (P := Try.prog) w 0 53 o.type 56 i0 _ 2 16 Try.underlying53 hi hz0 hz1 hz2 rfl (by decide) (.slice A ts.length c) ts.length (cellsT ts) hown ⟨g, 0, none⟩ 1 1 [.int .i64 p, .int .i64 q] rfl hnews hone (by unfold maxLen; omega) (by omega) (Nat.zero_le _)
  unfold Oper.wp execOp
  simp only [ho, resolve, invoke, builtin, Sem.run_bind, Sem.run_pure, Result.andThen_ok, List.map_toArray, List.map_cons, List.map_nil, hs, hx, hr]
  have fin : ∀ B c', v' = .slice (some ⟨B, 0, none⟩) (ts.length + 1) c' → ((A = some ⟨B, 0, none⟩ ∧ c' = c ∧ w.grownBy w' (some B)) ∨ (B = w.heap.size ∧ w.grownBy w' none)) → K (a.put o.dst v') w' := by
    rintro B c' rfl hc
    refine h B c' w' ?_ hc
    rw [cellsT_append]
    exact k2
  rcases hown.2 with ⟨hv, hn⟩ | ⟨g', cap, cur, hv, hbg, hg, hnc, hcm, hcs, htake⟩
  · have hts : ts = [] := List.eq_nil_of_length_eq_zero hn
    subst hts
    cases hv
    have hr2 := run_append_nil (P := Try.prog) w 53 o.type 56 i0 _ Try.underlying53 hi hz0 ⟨g, 0, none⟩ 1 1 [.int .i64 p, .int .i64 q] (by rw [hz1]; rfl) hnews (by omega) (by omega) (by rw [hz2]; omega)
    rw [show ([] : List (Int × Int)).length = 0 from rfl, hr2] at hr
    cases hr
    exact fin _ _ rfl (.inr ⟨rfl, (grown_drew0 w).al _⟩)
  · cases hv
    by_cases hroom : ts.length + 1 ≤ c
    · have hr2 := run_append_room (P := Try.prog) w 53 o.type 56 i0 Try.underlying53 hi g' ts.length c cur hg ⟨g, 0, none⟩ 1 1 [.int .i64 p, .int .i64 q] (by rw [hz1]; rfl) hnews hone hroom (by rw [hz1, hcs]; simp; omega)
      rw [hr2] at hr
      cases hr
      exact fin _ _ rfl (.inl ⟨rfl, rfl, k3⟩)
    · have hr2 := run_append_grow (P := Try.prog) w 53 o.type 56 i0 _ Try.underlying53 hi hz0 ⟨g', 0, none⟩ ts.length c (cellsT ts) (by rw [hz1, cellsT_length]) (hown.cells (g := g') rfl) ⟨g, 0, none⟩ 1 1 [.int .i64 p, .int .i64 q] (by rw [hz1]; rfl) hnews (by omega) (by omega) (growslice_fits (by omega) (by rw [hz2]; omega))
      rw [hr2] at hr
      cases hr
      exact fin _ _ rfl (.inr ⟨rfl, (grown_drew0 w).al _⟩)

end Go.Proofs.Ytmijbgkfkaijjaa

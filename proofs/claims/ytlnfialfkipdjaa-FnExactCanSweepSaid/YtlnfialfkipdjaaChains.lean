/- Chains: lists of numbers, and their tiles. Lists of numbers appended whole, and put behind one another. Whether a list of numbers is a chain: the program's own answer. Lists appended whole. Rows of tiles: slices.Clone; slices.Grow; slices.Concat of any number of rows. A region that draws its order, taken operation by operation: those whose guard is false are passed over at once. Lists of numbers put behind one another by the program: slices.Concat. Chains turned: their tiles the same backwards. -/
import Derived.Test.YtlnfialfkipdjaaSets
import Derived.RegionTactic
import Derived.Test.YtlnfialfkipdjaaBase
import Derived.Lib.AppendZeros
import Derived.Lib.SliceRun
import Derived.Deep.RegionHeld3
namespace Go.Proofs.Ytlnfialfkipdjaa
open Go.RowKit
set_option linter.unusedVariables false

/-- The tile of two numbers. -/
def tile2 (a b : Int) : Int × Int := (min a b, max a b)
/-- The first k tiles of a list of numbers. -/
def tilesTo (xs : List Int) (k : Nat) : List (Int × Int) := (List.range k).map fun i => tile2 (xs.getD i 0) (xs.getD (i + 1) 0)
def tilesC (xs : List Int) : List (Int × Int) := tilesTo xs (xs.length - 1)
theorem tilesTo_len (xs : List Int) (k : Nat) : (tilesTo xs k).length = k := by simp [tilesTo]
theorem tilesC_len (xs : List Int) : (tilesC xs).length = xs.length - 1 := tilesTo_len _ _
theorem tilesTo_zero (xs : List Int) : tilesTo xs 0 = [] := rfl
theorem tilesTo_step {xs : List Int} {k : Nat} (h : k + 1 < xs.length) : tilesTo xs (k + 1) = tilesTo xs k ++ [tile2 (xs[k]'(by omega)) xs[k + 1]] := by
  unfold tilesTo
  rw [List.range_succ, List.map_append]
  simp [List.getD, h, show k < xs.length from by omega]
theorem tilesTo_get (xs : List Int) {k j : Nat} (hj : j < (tilesTo xs k).length) : (tilesTo xs k)[j] = tile2 (xs.getD j 0) (xs.getD (j + 1) 0) := by simp [tilesTo]
theorem tile2_comm (a b : Int) : tile2 a b = tile2 b a := by simp [tile2, Int.min_comm, Int.max_comm]
theorem tile2_good {a b : Int} (ha : numB a = true) (hb : numB b = true) : goodB (tile2 a b).1 (tile2 a b).2 = true := by
  have h : goodB (min a b) (max a b) = true := by
    simp only [numB, goodB, Bool.and_eq_true, decide_eq_true_eq] at *
    omega
  exact h
theorem tile2_eq {a b c d : Int} : tile2 a b = tile2 c d ↔ (a = c ∧ b = d) ∨ (a = d ∧ b = c) := by
  simp only [tile2, Prod.mk.injEq]
  constructor
  · rintro ⟨h1, h2⟩
    simp only [Int.min_def, Int.max_def] at h1 h2
    split at h1 <;> split at h1 <;> split at h2 <;> omega
  · rintro (⟨rfl, rfl⟩ | ⟨rfl, rfl⟩)
    · simp
    · simp [Int.min_comm, Int.max_comm]
/-- A list of numbers is a chain. -/
def chainP (xs : List Int) : Prop := 1 ≤ xs.length ∧ xs.length ≤ 56 ∧ (∀ x ∈ xs, numB x = true) ∧ (tilesC xs).Nodup
instance (xs : List Int) : Decidable (chainP xs) := by unfold chainP; infer_instance
def chainB (xs : List Int) : Bool := decide (chainP xs)
theorem numB_getD {xs : List Int} (hg : ∀ x ∈ xs, numB x = true) (i : Nat) : numB (xs.getD i 0) = true := by
  rcases Nat.lt_or_ge i xs.length with h | h
  · rw [List.getD_eq_getElem?_getD, List.getElem?_eq_getElem h]
    exact hg _ (List.getElem_mem h)
  · rw [List.getD_eq_getElem?_getD, List.getElem?_eq_none h]
    rfl
theorem tilesTo_good {xs : List Int} (hg : ∀ x ∈ xs, numB x = true) (k : Nat) : ∀ t ∈ tilesTo xs k, goodB t.1 t.2 = true := by
  intro t ht
  obtain ⟨i, _, rfl⟩ := List.mem_map.1 ht
  exact tile2_good (numB_getD hg _) (numB_getD hg _)
theorem nodup_len : ∀ (xs ys : List (Int × Int)), xs.Nodup → (∀ x ∈ xs, x ∈ ys) → xs.length ≤ ys.length
  | [], _, _, _ => by simp
  | x :: xs, ys, hn, hs => by
    have hx := hs x (by simp)
    rw [List.nodup_cons] at hn
    have := nodup_len xs (ys.erase x) hn.2 (fun z hz => (List.mem_erase_of_ne (fun e : z = x => hn.1 (e ▸ hz))).2 (hs z (by simp [hz])))
    rw [List.length_erase_of_mem hx] at this
    have := List.length_pos_of_mem hx
    simp only [List.length_cons]
    omega
theorem set_mem9 : ∀ a b : Fin 10, a.1 ≤ b.1 → ((a.1 : Int), (b.1 : Int)) ∈ setL 9 := by decide +kernel
theorem set_len9 : (setL 9).length = 55 := by decide +kernel
theorem good_mem9 {t : Int × Int} (h : goodB t.1 t.2 = true) : t ∈ setL 9 := by
  obtain ⟨p, q⟩ := t
  simp only [goodB, Bool.and_eq_true, decide_eq_true_eq] at h
  obtain ⟨a, ha, rfl⟩ := numB_nat h.1
  obtain ⟨b, hb, rfl⟩ := numB_nat h.2.1
  exact set_mem9 ⟨a, by omega⟩ ⟨b, by omega⟩ (by have := h.2.2; show a ≤ b; omega)
theorem good_len {ts : List (Int × Int)} (hg : ∀ t ∈ ts, goodB t.1 t.2 = true) (hn : ts.Nodup) : ts.length ≤ 55 := by
  have := nodup_len ts (setL 9) hn (fun t ht => good_mem9 (hg t ht))
  rw [set_len9] at this
  exact this
theorem chain_good {xs : List Int} (h0 : 1 ≤ xs.length) (hg : ∀ x ∈ xs, numB x = true) (hn : (tilesC xs).Nodup) : chainB xs = true := by
  have := good_len (tilesTo_good hg (xs.length - 1)) hn
  rw [tilesTo_len] at this
  exact decide_eq_true ⟨h0, by omega, hg, hn⟩
theorem chain_hand {xs : List Int} (h : chainB xs = true) : handB (tilesC xs) = true := by
  have h : chainP xs := of_decide_eq_true h
  exact decide_eq_true ⟨by rw [tilesC_len]; have := h.2.1; omega, tilesTo_good h.2.2.1 _, h.2.2.2⟩
theorem chain_len {xs : List Int} (h : chainB xs = true) : 1 ≤ xs.length ∧ xs.length ≤ 56 := by
  have h : chainP xs := of_decide_eq_true h
  exact ⟨h.1, h.2.1⟩
theorem chain_num {xs : List Int} (h : chainB xs = true) : ∀ x ∈ xs, numB x = true := by
  have h : chainP xs := of_decide_eq_true h
  exact h.2.2.1
theorem chain_nodup {xs : List Int} (h : chainB xs = true) : (tilesC xs).Nodup := by
  have h : chainP xs := of_decide_eq_true h
  exact h.2.2.2
theorem chain_empty {xs : List Int} (h : xs.length = 0) : chainB xs = false := decide_eq_false fun hp => by have := hp.1; omega
theorem chain_long {xs : List Int} (h : 56 < xs.length) : chainB xs = false := decide_eq_false fun hp => by have := hp.2.1; omega
theorem chain_bad {xs : List Int} {k : Nat} (hk : k < xs.length) (h : numB xs[k] = false) : chainB xs = false :=
  decide_eq_false fun hp => by have := hp.2.2.1 _ (List.getElem_mem hk); rw [h] at this; cases this
theorem chain_bad' {xs : List Int} (h : ¬ ∀ x ∈ xs, numB x = true) : chainB xs = false := decide_eq_false fun hp => h hp.2.2.1
/-- A tile that comes twice. -/
theorem chain_twice {xs : List Int} {k : Nat} (hk : k + 1 < xs.length) (h : tile2 (xs[k]'(by omega)) xs[k + 1] ∈ tilesTo xs k) : chainB xs = false := decide_eq_false fun hp => by
  have hn := hp.2.2.2
  have hs : (tilesTo xs (k + 1)).Sublist (tilesC xs) := by
    unfold tilesC tilesTo
    refine List.Sublist.map _ ?_
    exact List.range_sublist.2 (by omega)
  have h2 := hn.sublist hs
  rw [tilesTo_step hk, List.nodup_append] at h2
  exact h2.2.2 _ h _ (by simp) rfl
theorem chain_hand' {xs : List Int} (h0 : 1 ≤ xs.length) (h1 : xs.length ≤ 56) (hg : ∀ x ∈ xs, numB x = true) : handB (tilesC xs) = chainB xs := by
  rw [Bool.eq_iff_iff]
  exact ⟨fun h => decide_eq_true ⟨h0, h1, hg, (of_decide_eq_true h : handP _).2.2⟩, chain_hand⟩
theorem nodup_step {xs : List Int} {k : Nat} (hk : k + 1 < xs.length) (hn : (tilesTo xs k).Nodup) (h : tile2 (xs[k]'(by omega)) xs[k + 1] ∉ tilesTo xs k) : (tilesTo xs (k + 1)).Nodup := by
  rw [tilesTo_step hk, List.nodup_append]
  exact ⟨hn, by simp, fun a ha b hb => by rw [List.mem_singleton.1 hb]; rintro rfl; exact h ha⟩

theorem own_cap {w : World} {base e size n c : Nat} {A : Option Addr} {cs : List Value} (h : w.ownsRow base e size (.slice A n c) n cs) : n ≤ c := by
  obtain ⟨_, ⟨hv, hn⟩ | ⟨g, cap, cur, hv, _, _, hc, _⟩⟩ := h
  · omega
  · injection hv with h1 h2 h3
    omega

theorem belowN {B : Nat} {a w : World} (h : Below B a w) (n : Nat) : Below B a (w.drewN n) := h.trans ⟨rfl, rfl, rfl, Nat.le_refl _, fun _ _ => rfl⟩
theorem own_drew {w : World} {base e size n : Nat} {v : Value} {cs : List Value} (h : w.ownsRow base e size v n cs) : w.drew.ownsRow base e size v n cs := h
theorem g1d {w : World} (a : Addr) {v : Value} (h : w.cell? a = some v) : w.drew.cell? a = some v := h

/-- One tile appended, at a step of a region that draws its order. -/
theorem step_append_tile {w : World} {ops : Array Oper} {o : Oper} {a : Act} {K : Act → World → Prop} {Q : Exit → Act → World → Prop} {E : Prop} (hgd : o.guard = none) (s x : Operand)
    (ho : o.op = .call { callee := .builtin .append, args := #[s, x], argTypes := #[22, 22] }) (base : Nat) (v : Value) (ts : List (Int × Int)) (hs : a.eval s = v)
    (hown : w.ownsRow base 95 2 v ts.length (cellsT ts)) (p q : Int) (g : Nat) (hx : a.eval x = .slice (some ⟨g, 0, none⟩) 1 1)
    (h0 : w.cell? ⟨g, 0, none⟩ = some (.int .i64 p)) (h1 : w.cell? ⟨g, 1, none⟩ = some (.int .i64 q)) (hlen : ts.length ≤ 4194304) (hbase : base ≤ w.heap.size)
    (h : ∀ A c w', w'.ownsRow base 95 2 (.slice A (ts.length + 1) c) (ts.length + 1) (cellsT (ts ++ [(p, q)])) → w.grownBy w' v.ownBlock → K (a.put o.dst (.slice A (ts.length + 1) c)) w') :
    if Region.wanted o (yielded ops a.tmps) = true then Oper.wp Try.prog o a w K Q else E := by
  have hw : Region.wanted o (yielded ops a.tmps) = true := by simp [Region.wanted, hgd]
  rw [if_pos hw]
  obtain ⟨i0, hi, hz0, hz1, hz2⟩ := info_parts Try.info_tile
  refine wp_append_own w s x 22 ho base 95 i0 _ 2 16 Try.underlying22 hi hz0 hz1 hz2 rfl (by decide) v ts.length (cellsT ts) hs hown ⟨g, 0, none⟩ 1 1 [.int .i64 p, .int .i64 q] hx rfl ?_ ?_ (by unfold maxLen; omega) (by omega) hbase ?_
  · intro j u hj
    match j, hj with
    | 0, hj => simp at hj; subst hj; simpa [Addr.add] using h0
    | 1, hj => simp at hj; subst hj; simpa [Addr.add] using h1
  · intro u hu
    simp at hu
    rcases hu with rfl | rfl <;> rfl
  · intro v' w' h1 h2 _
    have h1' := h1
    obtain ⟨_, ⟨_, hn⟩ | ⟨g', cap, cur, rfl, _⟩⟩ := h1'
    · omega
    refine h _ _ w' ?_ h2
    rw [cellsT_append]
    exact h1
/-- One number appended, at a step of a region that draws its order. -/
theorem step_append_int {w : World} {ops : Array Oper} {o : Oper} {a : Act} {K : Act → World → Prop} {Q : Exit → Act → World → Prop} {E : Prop} (hgd : o.guard = none) (s x : Operand)
    (ho : o.op = .call { callee := .builtin .append, args := #[s, x], argTypes := #[36, 36] }) (base : Nat) (v : Value) (xs : List Int) (hs : a.eval s = v)
    (hown : w.ownsRow base 3 1 v xs.length (cellsI xs)) (p : Int) (g : Nat) (hx : a.eval x = .slice (some ⟨g, 0, none⟩) 1 1)
    (h0 : w.cell? ⟨g, 0, none⟩ = some (.int .i64 p)) (hlen : xs.length ≤ 4194304) (hbase : base ≤ w.heap.size)
    (h : ∀ A c w', w'.ownsRow base 3 1 (.slice A (xs.length + 1) c) (xs.length + 1) (cellsI (xs ++ [p])) → w.grownBy w' v.ownBlock → K (a.put o.dst (.slice A (xs.length + 1) c)) w') :
    if Region.wanted o (yielded ops a.tmps) = true then Oper.wp Try.prog o a w K Q else E := by
  have hw : Region.wanted o (yielded ops a.tmps) = true := by simp [Region.wanted, hgd]
  rw [if_pos hw]
  obtain ⟨i0, hi, hz0, hz1, hz2⟩ := info_parts Try.info_int
  refine wp_append_own w s x 36 ho base 3 i0 _ 1 8 Try.underlying36 hi hz0 hz1 hz2 rfl (by decide) v xs.length (cellsI xs) hs (by simpa using hown) ⟨g, 0, none⟩ 1 1 [.int .i64 p] hx rfl ?_ ?_ (by unfold maxLen; omega) (by omega) hbase ?_
  · intro j u hj
    match j, hj with
    | 0, hj => simp at hj; subst hj; simpa [Addr.add] using h0
  · intro u hu
    simp at hu
    rcases hu with rfl; rfl
  · intro v' w' h1 h2 _
    have h1' := h1
    obtain ⟨_, ⟨_, hn⟩ | ⟨g', cap, cur, rfl, _⟩⟩ := h1'
    · omega
    refine h _ _ w' ?_ h2
    rw [cellsI_append]
    exact h1

set_option maxRecDepth 100000 in
set_option maxHeartbeats 1000000 in
theorem c_l1All (A : Option Addr) (c : Nat) (xs : List Int) (w : World) (hr : RdI w A xs) (hl : xs.length ≤ 9223372036854775807) :
    Calls Try.prog 195 #[.slice A xs.length c, .int .i64 0, .int .i64 9] w fun e w' => e = .returned (.bool (decide (∀ x ∈ xs, numB x = true))) ∧ Below w.heap.size w w' := by
  go_enter Try.func195, Try.ntmps195
  go_wp2
  go_loopw [11] (fun i wr => ∃ k : Nat, k ≤ xs.length ∧ i = .int .i64 k ∧ (∀ j (hj : j < xs.length), j < k → numB xs[j] = true) ∧ Below w.heap.size w wr) (fun i _ => xs.length - (intOf i).toNat)
  case atStart => exact ⟨0, Nat.zero_le _, rfl, by omega, Below.refl _ _⟩
  case round =>
    obtain ⟨k, hk, rfl, hn, hb⟩ := hrel
    by_cases hlt : k < xs.length
    · obtain ⟨bk, off, rfl, hbk, hc⟩ := hr.at_ hlt
      have g1 := (hb.cell (p := ⟨bk, _, none⟩) hbk).trans (hc k hlt)
      have Hn := Lib.hid hn
      have Hb := Lib.hid hb
      have hz := hb.size
      clear hc hr hn hb
      have con : ∀ W, Calls Try.prog 111 #[.int .i64 xs[k], .int .i64 0, .int .i64 9] W fun e w' => e = .returned (.bool (numB xs[k])) ∧ W = w' := fun W => c_l1In xs[k] 0 9 W
      by_cases hg : numB xs[k] = true
      · go_wp2_with (go_at_call 111; refine (con _).mono ?_; rintro e w' ⟨rfl, rfl⟩)
        go_roundw
        case rel =>
          refine ⟨k + 1, by omega, by go_num, fun j hj hjk => ?_, Hb.out⟩
          rcases Nat.lt_succ_iff_lt_or_eq.1 hjk with h | rfl
          · exact Hn.out j hj h
          · exact hg
        case measure => simp [intOf]; omega
      · have hg' : numB xs[k] = false := (Bool.not_eq_true _).mp hg
        have Hd := Lib.hid (decide_eq_false (fun h => by have := h _ (List.getElem_mem hlt); rw [hg'] at this; cases this) : decide (∀ x ∈ xs, numB x = true) = false)
        clear hg
        go_wp2_with (go_at_call 111; refine (con _).mono ?_; rintro e w' ⟨rfl, rfl⟩)
        go_ret
        exact ⟨ret_b Hd.out.symm, Hb.out⟩
    · go_wp2
      go_ret
      refine ⟨ret_b ?_, hb⟩
      symm
      exact decide_eq_true fun x hx => by
        obtain ⟨j, hj, rfl⟩ := List.getElem_of_mem hx
        exact hn j hj (by omega)

set_option maxRecDepth 100000 in
set_option maxHeartbeats 1000000 in
theorem c_haTiles (A : Option Addr) (c : Nat) (xs : List Int) (w : World) (hr : RdI w A xs) (hl : xs.length ≤ 1048576) :
    Calls Try.prog 137 #[.slice A xs.length c] w (RetL w (tilesC xs)) := by
  go_enter Try.func137, Try.ntmps137
  go_wp2
  go_loopw [3, 4] (fun v i wr => ∃ (k : Nat) (A' : Option Addr) (c' : Nat), k ≤ xs.length - 1 ∧ i = .int .i64 (k + 1) ∧ v = .slice A' (tilesTo xs k).length c' ∧ wr.ownsRow w.heap.size 95 2 (.slice A' (tilesTo xs k).length c') (tilesTo xs k).length (cellsT (tilesTo xs k)) ∧ Below w.heap.size w wr) (fun _ i _ => xs.length - (intOf i).toNat)
  case atStart => exact ⟨0, none, 0, Nat.zero_le _, rfl, rfl, World.ownsRow_nil _ _ _ _, Below.refl _ _⟩
  case round =>
    obtain ⟨k, A', c', hk, rfl, rfl, hown, hb⟩ := hrel
    have hpl : (tilesTo xs k).length ≤ xs.length := by rw [tilesTo_len]; omega
    by_cases hlt : k + 1 < xs.length
    · obtain ⟨bk, off, rfl, hbk, hc⟩ := hr.at_ hlt
      have g1 := (hb.cell (p := ⟨bk, _, none⟩) hbk).trans (hc k (by omega))
      have g2 := (hb.cell (p := ⟨bk, _, none⟩) hbk).trans (hc (k + 1) hlt)
      have Hb := Lib.hid hb
      have Ho := Lib.hid hown
      have hsz := hb.size
      have hst := Lib.hid (tilesTo_step hlt)
      have iw : IntKind.i64.wrap ((k : Int) + 1 - 1) = (k : Int) := by rw [IntWalk.i64_in _ (by omega)]; omega
      have iw' : IntKind.i64.wrap (k : Int) = (k : Int) := IntWalk.i64_in _ (by omega)
      have i0 : (0 : Int) ≤ (k : Int) := by omega
      have i1 : (k : Int) < (xs.length : Int) := by omega
      have i2 : (0 : Int) ≤ (k : Int) + 1 := by omega
      have i3 : (k : Int) + 1 < (xs.length : Int) := by omega
      clear hc hr hb hown
      go_wp2
      go_region_held3 (fun w' => w'.cell? ⟨bk, off + k, none⟩ = some (.int .i64 (xs[k]'(by omega))) ∧ w'.cell? ⟨bk, off + (k + 1), none⟩ = some (.int .i64 xs[k + 1])) (first | exact ⟨z1, z2⟩ | exact ⟨y1, y2⟩ | go_keep) (first | (go_at_call 196; refine (c_tiOf _ _ _).mono ?_; rintro e w2 ⟨rfl, hb2⟩; have y1 := keepc hb2 (g1d _ g1); have y2 := keepc hb2 (g1d _ g2); have hz2 : wr.heap.size ≤ w2.heap.size := hb2.size; have Ho2 := Lib.hid ((own_keep (own_drew Ho.out) hb2).alloc (.cells #[.int .i64 (min (xs[k]'(by omega)) xs[k + 1]), .int .i64 (max (xs[k]'(by omega)) xs[k + 1])] 95))) | (refine step_append_tile rfl (.tmp 11) (.tmp 22) rfl w.heap.size (.slice A' (tilesTo xs k).length c') (tilesTo xs k) rfl Ho2.out (min (xs[k]'(by omega)) xs[k + 1]) (max (xs[k]'(by omega)) xs[k + 1]) w2.heap.size rfl ?ca ?cb ?cc ?cd ?ce; (case ca => simp); (case cb => simp); (case cc => omega); (case cd => rw [World.size_alloc]; omega); intro A2 c2 w3 hown3 hg3; have hbz := below_of_grown hg3 (B := w.heap.size) (by rw [World.size_alloc]; omega) (fun g hg => (Ho2.out.lt g hg).1); have z1 : w3.cell? ⟨bk, off + k, none⟩ = some (.int .i64 (xs[k]'(by omega))) := (hbz.cell (p := ⟨bk, off + k, none⟩) hbk).trans (keepc ((Below.refl _ w2).alloc (Nat.le_refl _) _) y1); have z2 : w3.cell? ⟨bk, off + (k + 1), none⟩ = some (.int .i64 xs[k + 1]) := (hbz.cell (p := ⟨bk, off + (k + 1), none⟩) hbk).trans (keepc ((Below.refl _ w2).alloc (Nat.le_refl _) _) y2)))
      go_wp2
      go_roundw
      case rel =>
        refine ⟨k + 1, A2, c2, by omega, by go_num, by rw [hst.out, List.length_append]; rfl, ?_, ?_⟩
        · rw [hst.out, List.length_append]; exact hown3
        · have hb3 : Below w.heap.size w w2 := bstep Hb.out.drew hb2
          have hz3 := hb3.size
          exact Below.grown (by go_grown) hg3 (by simp; omega) (fun g hg => (Ho2.out.lt g hg).1)
      case measure => simp [intOf]; omega
    · have e : tilesTo xs k = tilesC xs := by unfold tilesC; congr 1; omega
      rw [e] at hown ⊢
      go_wp2
      go_ret
      exact ⟨A', c', rfl, hown, hb⟩

set_option maxRecDepth 100000 in
set_option maxHeartbeats 1000000 in
theorem c_haGood (A : Option Addr) (c : Nat) (xs : List Int) (w : World) (hr : RdI w A xs) (hl : xs.length ≤ 9223372036854775807) :
    Calls Try.prog 136 #[.slice A xs.length c] w fun e w' => e = .returned (.bool (chainB xs)) ∧ Below w.heap.size w w' := by
  have conA := c_l1All A c xs w hr hl
  by_cases h0 : (1 : Int) ≤ xs.length
  · by_cases h1 : (xs.length : Int) ≤ 56
    · by_cases hg : ∀ x ∈ xs, numB x = true
      · have hB := chain_hand' (by omega) (by omega) hg
        have hx1 := tilesC_len xs
        have hd : decide (∀ x ∈ xs, numB x = true) = true := decide_eq_true hg
        rw [hd] at conA
        have conT := Lib.hid (fun W (hb : Below w.heap.size w W) => c_haTiles A c xs W (hr.below hb) (by omega))
        obtain ⟨ts, hts⟩ : ∃ ts, ts = tilesC xs := ⟨_, rfl⟩
        rw [← hts] at hB conT hx1
        have conH := Lib.hid (fun W A' c' (hr' : RdT W A' ts) (hc : ts.length ≤ c') => c_tiHand A' c' ts W hr' (by omega) hc)
        have ConA := Lib.hid conA
        have HB := Lib.hid hB
        clear hd hg hr hts conA hB hx1
        go_enter Try.func136, Try.ntmps136
        go_wp2_with (first | (go_at_call 111; refine (c_l1In _ _ _ _).mono ?_; rintro e w' ⟨rfl, rfl⟩) | (go_at_call 195; refine ConA.out.mono ?_; rintro e w1 ⟨rfl, hb1⟩) | (go_at_call 137; refine (conT.out _ hb1).mono ?_; rintro e w2 ⟨A2, c2, rfl, ho2, hb2⟩) | (go_at_call 129; refine (conH.out _ _ _ (RdT.of_own ho2) (own_cap ho2)).mono ?_; rintro e w3 ⟨rfl, hb3⟩))
        go_ret
        exact ⟨ret_b HB.out, bstep (bstep hb1 hb2) hb3⟩
      · have hB := chain_bad' hg
        have hd : decide (∀ x ∈ xs, numB x = true) = false := decide_eq_false hg
        rw [hd] at conA
        have ConA := Lib.hid conA
        have HB := Lib.hid hB
        clear hd hg hr conA hB
        go_enter Try.func136, Try.ntmps136
        go_wp2_with (first | (go_at_call 111; refine (c_l1In _ _ _ _).mono ?_; rintro e w' ⟨rfl, rfl⟩) | (go_at_call 195; refine ConA.out.mono ?_; rintro e w1 ⟨rfl, hb1⟩))
        go_ret
        exact ⟨ret_b HB.out.symm, hb1⟩
    · have HB := Lib.hid (chain_long (xs := xs) (by omega))
      clear conA hr
      go_enter Try.func136, Try.ntmps136
      go_wp2_with (first | (go_at_call 111; refine (c_l1In _ _ _ _).mono ?_; rintro e w' ⟨rfl, rfl⟩))
      go_ret
      exact ⟨ret_b HB.out.symm, Below.refl _ _⟩
  · have HB := Lib.hid (chain_empty (xs := xs) (by omega))
    clear conA hr
    go_enter Try.func136, Try.ntmps136
    go_wp2_with (first | (go_at_call 111; refine (c_l1In _ _ _ _).mono ?_; rintro e w' ⟨rfl, rfl⟩))
    go_ret
    exact ⟨ret_b HB.out.symm, Below.refl _ _⟩

set_option maxHeartbeats 400000 in
theorem c_specIsChain (A : Option Addr) (c : Nat) (xs : List Int) (w : World) (hr : RdI w A xs) (hl : xs.length ≤ 9223372036854775807) :
    Calls Try.prog 71 #[.slice A xs.length c] w fun e w' => e = .returned (.bool (chainB xs)) ∧ Below w.heap.size w w' := by
  have con := c_haGood A c xs w hr hl
  go_enter Try.func71, Try.ntmps71
  go_wp2_with (go_at_call 136; refine con.mono ?_; rintro e w' ⟨rfl, hb⟩)
  go_ret
  exact ⟨rfl, hb⟩

/-- The array of marks at block g holds just the marks of a list of tiles. -/
def Marks (g : Nat) (ts : List (Int × Int)) (w : World) : Prop :=
  (∀ a b : Nat, a ≤ 9 → b ≤ 9 → w.cell? ⟨g, a * 10 + b, none⟩ = some (.bool (decide (tile2 a b ∈ ts)))) ∧ ∀ m, w.frozen? ⟨g, m, none⟩ = false

set_option maxRecDepth 100000 in
set_option maxHeartbeats 2000000 in
theorem c_marksSet (g a b : Nat) (ha : a ≤ 9) (hb : b ≤ 9) (v u1 u2 : Bool) (w : World) (h1 : w.cell? ⟨g, a * 10 + b, none⟩ = some (.bool u1)) (h2 : w.cell? ⟨g, b * 10 + a, none⟩ = some (.bool u2)) (hf : ∀ m, w.frozen? ⟨g, m, none⟩ = false) :
    Calls Try.prog 141 #[.pointer (some ⟨g, 0, none⟩), .int .i64 a, .int .i64 b, .bool v] w fun e w' => e = .returned (.tuple #[]) ∧ w' = ((w.setCell ⟨g, a * 10 + b, none⟩ (.bool v)).setCell ⟨g, b * 10 + a, none⟩ (.bool v)).drew := by
  have i0 : (0 : Int) ≤ (a : Int) := by omega
  have i1 : (a : Int) < 10 := by omega
  have i2 : (0 : Int) ≤ (b : Int) := by omega
  have i3 : (b : Int) < 10 := by omega
  have f1 := hf (a * 10 + b)
  have f2 := hf (b * 10 + a)
  obtain ⟨v', hy⟩ := cell?_setCell_some (w := w.drew) (p := ⟨g, a * 10 + b, none⟩) (x := .bool v) (q := ⟨g, b * 10 + a, none⟩) (v := .bool u2) h2
  obtain ⟨v2, hy2⟩ := cell?_setCell_some (w := w) (p := ⟨g, a * 10 + b, none⟩) (x := .bool v) (q := ⟨g, b * 10 + a, none⟩) (v := .bool u2) h2
  go_enter Try.func141, Try.ntmps141
  go_wp2
  go_region
  all_goals
    go_end0
    exact ⟨rfl, rfl⟩
end Go.Proofs.Ytlnfialfkipdjaa

namespace Go.Proofs.Ytlnfialfkipdjaa
open Go.RowKit
set_option linter.unusedVariables false

/-- A list of numbers appended, from wherever it comes. -/
theorem wp_append_ints {w : World} {ops : Array Oper} {rest : List Oper} {o : Oper} {a : Act} {Q : Exit → Act → World → Prop} (hgd : o.guard = none) (s x : Operand)
    (ho : o.op = .call { callee := .builtin .append, args := #[s, x], argTypes := #[36, 36] }) (base : Nat) (v : Value) (ts : List Int) (hs : a.eval s = v)
    (hown : w.ownsRow base 3 1 v ts.length (cellsI ts)) (A : Option Addr) (c : Nat) (us : List Int) (hx : a.eval x = .slice A us.length c) (hr : RdI w A us)
    (hlen : ts.length ≤ 2097152) (hlen' : us.length ≤ 2097152) (hbase : base ≤ w.heap.size) (hv : ∃ A' c', v = .slice A' ts.length c')
    (h : ∀ A c w', w'.ownsRow base 3 1 (.slice A (ts ++ us).length c) (ts ++ us).length (cellsI (ts ++ us)) → w.grownBy w' v.ownBlock → wpList Try.prog ops Q rest (a.put o.dst (.slice A (ts ++ us).length c)) w') :
    wpList Try.prog ops Q (o :: rest) a w := by
  obtain ⟨i0, hi, hz0, hz1, hz2⟩ := info_parts Try.info_int
  by_cases hu : us = []
  · subst hu
    cases A with
    | none =>
      obtain ⟨A', c', rfl⟩ := hv
      refine wpList_plain hgd fun K hK => ?_
      have hrun : (Builtin.append_ #[36, 36] o.type #[.slice A' ts.length c', .slice none 0 c]).run Try.prog w = .ok (.slice A' ts.length c') w := by
        rcases hown.2 with ⟨hv, hn⟩ | ⟨g, cap, cur, hv, _, _, hnc, _⟩
        · simp only [Value.slice.injEq] at hv
          obtain ⟨rfl, h2, rfl⟩ := hv
          simp [Builtin.append_, run_underlying Try.underlying36, sizeOf, typeInfo, hi, Builtin.lenOf, Builtin.firstCells, h2]
        · simp only [Value.slice.injEq] at hv
          obtain ⟨rfl, _, rfl⟩ := hv
          simp [Builtin.append_, run_underlying Try.underlying36, sizeOf, typeInfo, hi, Builtin.lenOf, Builtin.firstCells, hnc, storeCells]
      unfold Oper.wp
      simp [execOp, ho, resolve, invoke, builtin, hs, hx, hrun, Result.andThen]
      exact hK _ _ (by simpa using h A' c' w (by simpa using hown) (World.grownBy.refl w _))
    | some ad =>
      refine wpList_append_own w hgd s x 36 ho base 3 i0 _ 1 8 Try.underlying36 hi hz0 hz1 hz2 rfl (by decide) v ts.length (cellsI ts) hs hown ad 0 c [] hx rfl (by simp) (by simp) (by unfold maxLen; omega) (by omega) hbase ?_
      intro v' w' h1 h2 h3
      obtain ⟨A', c', rfl⟩ := hv
      obtain ⟨A2, c2, rfl⟩ : ∃ A2 c2, v' = .slice A2 ts.length c2 := by
        rcases h1.2 with ⟨hv, hn⟩ | ⟨g, cap, cur, rfl, _⟩
        · subst hv
          have h0 : ts.length = 0 := by omega
          exact ⟨none, 0, by rw [h0]⟩
        · exact ⟨_, cap, rfl⟩
      have := h A2 c2 w' (by simpa using h1) h2
      simpa using this
  · have hpos : 0 < us.length := List.length_pos_iff.2 hu
    obtain ⟨b, off, rfl, _, hc⟩ := hr.at_ hpos
    refine wpList_append_own w hgd s x 36 ho base 3 i0 _ 1 8 Try.underlying36 hi hz0 hz1 hz2 rfl (by decide) v ts.length (cellsI ts) hs hown ⟨b, off, none⟩ us.length c (cellsI us) hx (by rw [cellsI_length, Nat.mul_one]) ?_ (cellsI_one us) (by unfold maxLen; omega) (by omega) hbase ?_
    · intro j u hj
      have hk : j < us.length := by
        have := (List.getElem?_eq_some_iff.1 hj).1
        rw [cellsI_length] at this
        exact this
      have hadd : (⟨b, off, none⟩ : Addr).add j = ⟨b, off + j, none⟩ := by
        unfold Addr.add
        split <;> simp_all
      rw [hadd, hc j hk]
      have e : (cellsI us)[j]? = some (.int .i64 us[j]) := by simp [cellsI, hk]
      rw [e] at hj
      exact hj
    · intro v' w' h1 h2 _
      rw [← cellsI_append, ← List.length_append] at h1
      obtain ⟨A2, c2, rfl⟩ : ∃ A2 c2, v' = .slice A2 (ts ++ us).length c2 := by
        rcases h1.2 with ⟨hv, hn⟩ | ⟨g, cap, cur, rfl, _⟩
        · rw [List.length_append] at hn; omega
        · exact ⟨_, cap, rfl⟩
      exact h A2 c2 w' h1 h2

theorem RdI.drop {w : World} {A : Option Addr} {xs : List Int} (h : RdI w A xs) (k : Nat) : ∃ b off, (xs.drop k ≠ [] → A = some ⟨b, off, none⟩) ∧ RdI w (some ⟨b, off + k, none⟩) (xs.drop k) := by
  obtain ⟨b, off, h1, h2⟩ := h
  refine ⟨b, off, fun hne => h1 (by rintro rfl; simp at hne), b, off + k, fun _ => rfl, fun j hj => ?_⟩
  simp only [List.length_drop] at hj
  rw [List.getElem_drop, Nat.add_assoc]
  exact h2 (k + j) (by omega)
theorem RdI.take {w : World} {A : Option Addr} {xs : List Int} (h : RdI w A xs) (k : Nat) : RdI w A (xs.take k) := by
  obtain ⟨b, off, h1, h2⟩ := h
  refine ⟨b, off, fun hne => h1 (by rintro rfl; simp at hne), fun j hj => ?_⟩
  rw [List.getElem_take]
  exact h2 j (by simp at hj; omega)

set_option maxHeartbeats 1000000 in
theorem c_l1Own (A : Option Addr) (c : Nat) (xs : List Int) (w : World) (hr : RdI w A xs) (hl : xs.length ≤ 1048576) :
    Calls Try.prog 148 #[.slice A xs.length c] w (RetN w xs) := by
  have ho0 : (w.alloc (.cells #[] 3)).ownsRow w.heap.size 3 1 (.slice (some ⟨w.heap.size, 0, none⟩) 0 0) 0 (cellsI []) := World.ownsRow_lit w #[] 0 (Nat.le_refl _) (by unfold maxLen; omega) rfl
  have hb0 : Below w.heap.size w (w.alloc (.cells #[] 3)) := (Below.refl _ _).alloc (Nat.le_refl _) _
  go_enter Try.func148, Try.ntmps148
  go_wp2_with (at_builtin; refine wp_append_ints rfl _ _ rfl w.heap.size _ [] rfl ho0 A c xs rfl (hr.below hb0) (by simp) (by omega) (by simp) ⟨_, _, rfl⟩ ?_; intro A4 c4 w4 ho4 hg4; have hb4 : Below w.heap.size w w4 := hb0.trans (below_of_grown hg4 hb0.size (fun g hg => by cases hg; exact Nat.le_refl _)); simp only [List.nil_append] at ho4)
  go_ret
  exact ⟨A4, c4, rfl, ho4, hb4⟩

end Go.Proofs.Ytlnfialfkipdjaa

namespace Go.Proofs.Ytlnfialfkipdjaa
open Go.RowKit
set_option linter.unusedVariables false

theorem marks_add {g : Nat} {ts : List (Int × Int)} {w : World} {a b : Nat} (ha : a ≤ 9) (hb : b ≤ 9) (h : Marks g ts w) :
    Marks g (ts ++ [tile2 a b]) ((w.setCell ⟨g, a * 10 + b, none⟩ (.bool true)).setCell ⟨g, b * 10 + a, none⟩ (.bool true)) := by
  obtain ⟨h1, h2⟩ := h
  refine ⟨fun p q hp hq => ?_, fun m => by simp [h2]⟩
  have c1 := h1 a b ha hb
  have c2 := h1 b a hb ha
  by_cases e2 : p * 10 + q = b * 10 + a
  · have ep : p = b := by omega
    have eq : q = a := by omega
    subst ep eq
    have c3 : ∃ v, (w.setCell ⟨g, q * 10 + p, none⟩ (.bool true)).cell? ⟨g, p * 10 + q, none⟩ = some v := by
      by_cases e : p * 10 + q = q * 10 + p
      · rw [e, World.cell?_setCell_same _ _ _ c1]; exact ⟨_, rfl⟩
      · rw [World.cell?_setCell_other _ _ _ _ (by first | (simp; omega) | simp)]; exact ⟨_, c2⟩
    obtain ⟨v, c3⟩ := c3
    rw [World.cell?_setCell_same _ _ _ c3]
    simp [tile2_comm]
  · rw [World.cell?_setCell_other _ _ _ _ (by first | (simp; omega) | simp)]
    by_cases e1 : p * 10 + q = a * 10 + b
    · have ep : p = a := by omega
      have eq : q = b := by omega
      subst ep eq
      rw [World.cell?_setCell_same _ _ _ c1]
      simp
    · rw [World.cell?_setCell_other _ _ _ _ (by first | (simp; omega) | simp), h1 p q hp hq]
      have : ¬ tile2 (p : Int) q = tile2 (a : Int) b := by
        rw [tile2_eq]
        omega
      simp [this]

theorem marks_drew {g : Nat} {ts : List (Int × Int)} {w : World} (h : Marks g ts w) : Marks g ts w.drew := h
theorem frozen_new (w : World) (cs : Array Value) (t : TypeId) (m : Nat) : (w.alloc (.cells cs t)).frozen? ⟨w.heap.size, m, none⟩ = false := by
  unfold World.frozen? World.alloc
  simp
theorem zero_marks : Try.zeroCells178 = Array.replicate 100 (.bool false) := by kernel_rfl
theorem marks_fresh (w : World) : Marks w.heap.size [] (w.alloc (.cells Try.zeroCells178 178)) := by
  refine ⟨fun a b ha hb => ?_, fun m => frozen_new _ _ _ m⟩
  rw [cell_of_row _ _ _ _ _ _ (heap_alloc_new w _), zero_marks, Array.getElem?_replicate, if_pos (by omega)]
  simp

set_option maxRecDepth 100000 in
set_option maxHeartbeats 4000000 in
theorem c_implIsChain (A : Option Addr) (c : Nat) (xs : List Int) (w : World) (hr : RdI w A xs) (hl : xs.length ≤ 9223372036854775807) :
    Calls Try.prog 70 #[.slice A xs.length c] w fun e w' => e = .returned (.bool (chainB xs)) ∧ Below w.heap.size w w' := by
  go_enter Try.func70, Try.ntmps70
  go_wp2
  go_loopw [9] (fun i wr => ∃ k : Nat, k ≤ xs.length ∧ i = .int .i64 k ∧ (∀ j (hj : j < xs.length), j < k → numB xs[j] = true) ∧ (tilesTo xs (k - 1)).Nodup ∧ Marks w.heap.size (tilesTo xs (k - 1)) wr ∧ Below w.heap.size w wr ∧ w.heap.size < wr.heap.size) (fun i _ => xs.length - (intOf i).toNat)
  case atStart =>
    exact ⟨0, Nat.zero_le _, rfl, by omega, by simp [tilesTo], marks_fresh w, by go_grown, by simp⟩
  case round =>
    obtain ⟨k, hk, rfl, hg, hnd, hm, hb, hz⟩ := hrel
    by_cases hlt : k < xs.length
    · obtain ⟨bk, off, rfl, hbk, hc⟩ := hr.at_ hlt
      have g1 := (hb.cell (p := ⟨bk, _, none⟩) hbk).trans (hc k hlt)
      have Hg := Lib.hid hg
      have Hb := Lib.hid hb
      have Hnd := Lib.hid hnd
      have Hm := Lib.hid hm
      by_cases hn : numB xs[k] = true
      · cases k with
        | zero =>
          have Hn := Lib.hid hn
          rw [Nat.add_zero] at g1
          clear hc hr hg hb hnd hm
          go_wp2_with (go_at_call 90; refine (c_isNumber _ _).mono ?_; rintro e w' ⟨rfl, rfl⟩)
          go_roundw
          case rel =>
            exact ⟨1, by omega, by go_num, fun j hj hjk => by obtain rfl : j = 0 := by omega
                                                              exact Hn.out, Hnd.out, Hm.out, Hb.out, hz⟩
          case measure => simp [intOf]; omega
        | succ k =>
          have g0 := (hb.cell (p := ⟨bk, _, none⟩) hbk).trans (hc k (by omega))
          have hn0 := hg k (by omega) (by omega)
          obtain ⟨q, hq, eq⟩ := numB_nat hn
          obtain ⟨p, hp, ep⟩ := numB_nat hn0
          have Ep := Lib.hid ep
          have Eq := Lib.hid eq
          have Hn := Lib.hid hn
          rw [eq] at g1 hn
          rw [ep] at g0
          have hcm := hm.1 p q hp hq
          have hcn := hm.1 q p hq hp
          have hfr := hm.2
          clear hc hr hg hb hnd hm hn0 ep eq
          have hk0 : ((k : Int) + 1 == 0) = false := by simp; omega
          by_cases hin : tile2 (p : Int) q ∈ tilesTo xs k
          · have hd : decide (tile2 (p : Int) q ∈ tilesTo xs (k + 1 - 1)) = true := decide_eq_true hin
            rw [hd] at hcm
            have Ha := Lib.hid (chain_twice (k := k) hlt (by rw [Eq.out, Ep.out]; exact hin))
            clear hd hin
            go_wp2_with (go_at_call 90; refine (c_isNumber _ _).mono ?_; rintro e w' ⟨rfl, rfl⟩)
            go_ret
            exact ⟨ret_b Ha.out.symm, Hb.out⟩
          · have hd : decide (tile2 (p : Int) q ∈ tilesTo xs (k + 1 - 1)) = false := decide_eq_false hin
            rw [hd] at hcm
            have Hin := Lib.hid hin
            clear hd hin
            go_wp2_with (first | (go_at_call 90; refine (c_isNumber _ _).mono ?_; rintro e w' ⟨rfl, rfl⟩) | (go_at_call 141; refine (c_marksSet _ p q hp hq true _ _ _ hcm hcn hfr).mono ?_; rintro e w' ⟨rfl, rfl⟩))
            go_roundw
            case rel =>
              have hst := tilesTo_step hlt
              rw [Ep.out, Eq.out] at hst
              refine ⟨k + 2, by omega, by go_num, fun j hj hjk => ?_, ?_, ?_, ((Hb.out.setCell (Nat.le_refl _) _).setCell (Nat.le_refl _) _).drew, by simpa using hz⟩
              · rcases Nat.lt_succ_iff_lt_or_eq.1 hjk with h | rfl
                · exact Hg.out j hj h
                · exact Hn.out
              · exact nodup_step hlt Hnd.out (by rw [Ep.out, Eq.out]; exact Hin.out)
              · show Marks _ (tilesTo xs (k + 1)) _
                rw [hst]
                exact marks_drew (marks_add hp hq Hm.out)
            case measure => simp [intOf]; omega
      · have hn' : numB xs[k] = false := (Bool.not_eq_true _).mp hn
        have Ha := Lib.hid (chain_bad hlt hn')
        clear hn hc hr hg hb hnd hm
        go_wp2_with (go_at_call 90; refine (c_isNumber _ _).mono ?_; rintro e w' ⟨rfl, rfl⟩)
        go_ret
        exact ⟨ret_b Ha.out.symm, Hb.out⟩
    · have e : tilesTo xs (k - 1) = tilesC xs := by unfold tilesC; congr 1; omega
      have hall : ∀ x ∈ xs, numB x = true := fun x hx => by
        obtain ⟨j, hj, rfl⟩ := List.getElem_of_mem hx
        exact hg j hj (by omega)
      rw [e] at hnd
      by_cases h0 : (0 : Int) < xs.length
      · have Ha := Lib.hid (chain_good (by omega) hall hnd)
        clear e hall hnd hg hm hr
        go_wp2
        go_ret
        exact ⟨ret_b (by rw [Ha.out]; exact decide_eq_true (by omega)), hb⟩
      · have Ha := Lib.hid (chain_empty (xs := xs) (by omega))
        clear e hall hnd hg hm hr
        go_wp2
        go_ret
        exact ⟨ret_b (by rw [Ha.out]; exact decide_eq_false (by omega)), hb⟩
end Go.Proofs.Ytlnfialfkipdjaa

namespace Go.Proofs.Ytlnfialfkipdjaa
open Go.RowKit
set_option linter.unusedVariables false

/-- A list of tiles appended, from wherever it comes. -/
theorem wp_append_tiles {w : World} {ops : Array Oper} {rest : List Oper} {o : Oper} {a : Act} {Q : Exit → Act → World → Prop} (hgd : o.guard = none) (s x : Operand)
    (ho : o.op = .call { callee := .builtin .append, args := #[s, x], argTypes := #[22, 22] }) (base : Nat) (v : Value) (ts : List (Int × Int)) (hs : a.eval s = v)
    (hown : w.ownsRow base 95 2 v ts.length (cellsT ts)) (A : Option Addr) (c : Nat) (us : List (Int × Int)) (hx : a.eval x = .slice A us.length c) (hr : RdT w A us)
    (hlen : ts.length ≤ 2097152) (hlen' : us.length ≤ 2097152) (hbase : base ≤ w.heap.size) (hv : ∃ A' c', v = .slice A' ts.length c')
    (h : ∀ A c w', w'.ownsRow base 95 2 (.slice A (ts ++ us).length c) (ts ++ us).length (cellsT (ts ++ us)) → w.grownBy w' v.ownBlock → wpList Try.prog ops Q rest (a.put o.dst (.slice A (ts ++ us).length c)) w') :
    wpList Try.prog ops Q (o :: rest) a w := by
  obtain ⟨i0, hi, hz0, hz1, hz2⟩ := info_parts Try.info_tile
  by_cases hu : us = []
  · subst hu
    cases A with
    | none =>
      obtain ⟨A', c', rfl⟩ := hv
      refine wpList_plain hgd fun K hK => ?_
      have hrun : (Builtin.append_ #[22, 22] o.type #[.slice A' ts.length c', .slice none 0 c]).run Try.prog w = .ok (.slice A' ts.length c') w := by
        rcases hown.2 with ⟨hv, hn⟩ | ⟨g, cap, cur, hv, _, _, hnc, _⟩
        · simp only [Value.slice.injEq] at hv
          obtain ⟨rfl, h2, rfl⟩ := hv
          simp [Builtin.append_, run_underlying Try.underlying22, sizeOf, typeInfo, hi, Builtin.lenOf, Builtin.firstCells, h2]
        · simp only [Value.slice.injEq] at hv
          obtain ⟨rfl, _, rfl⟩ := hv
          simp [Builtin.append_, run_underlying Try.underlying22, sizeOf, typeInfo, hi, Builtin.lenOf, Builtin.firstCells, hnc, storeCells]
      unfold Oper.wp
      simp [execOp, ho, resolve, invoke, builtin, hs, hx, hrun, Result.andThen]
      exact hK _ _ (by simpa using h A' c' w (by simpa using hown) (World.grownBy.refl w _))
    | some ad =>
      refine wpList_append_own w hgd s x 22 ho base 95 i0 _ 2 16 Try.underlying22 hi hz0 hz1 hz2 rfl (by decide) v ts.length (cellsT ts) hs hown ad 0 c [] hx rfl (by simp) (by simp) (by unfold maxLen; omega) (by omega) hbase ?_
      intro v' w' h1 h2 h3
      obtain ⟨A', c', rfl⟩ := hv
      obtain ⟨A2, c2, rfl⟩ : ∃ A2 c2, v' = .slice A2 ts.length c2 := by
        rcases h1.2 with ⟨hv, hn⟩ | ⟨g, cap, cur, rfl, _⟩
        · subst hv
          have h0 : ts.length = 0 := by omega
          exact ⟨none, 0, by rw [h0]⟩
        · exact ⟨_, cap, rfl⟩
      have := h A2 c2 w' (by simpa using h1) h2
      simpa using this
  · have hpos : 0 < us.length := List.length_pos_iff.2 hu
    obtain ⟨b, off, rfl, _, hc⟩ := hr.at_ hpos
    refine wpList_append_own w hgd s x 22 ho base 95 i0 _ 2 16 Try.underlying22 hi hz0 hz1 hz2 rfl (by decide) v ts.length (cellsT ts) hs hown ⟨b, off, none⟩ us.length c (cellsT us) hx (cellsT_length us) ?_ (cellsT_one us) (by unfold maxLen; omega) (by omega) hbase ?_
    · intro j u hj
      have hjl : j < us.length * 2 := by
        have := (List.getElem?_eq_some_iff.1 hj).1
        rw [cellsT_length] at this
        exact this
      have hk : j / 2 < us.length := by omega
      have hg := cellsT_get us (j / 2) hk
      have hcc := hc (j / 2) hk
      have hadd : (⟨b, off, none⟩ : Addr).add j = ⟨b, off + j, none⟩ := by
        unfold Addr.add
        split <;> simp_all
      rw [hadd]
      rcases (by omega : j % 2 = 0 ∨ j % 2 = 1) with h0 | h0
      · have e : j / 2 * 2 = j := by omega
        rw [e] at hg hcc
        rw [hcc.1]
        rw [hg.1] at hj
        exact hj
      · have e : j / 2 * 2 + 1 = j := by omega
        rw [e] at hg
        rw [Nat.add_assoc, e] at hcc
        rw [hcc.2]
        rw [hg.2] at hj
        exact hj
    · intro v' w' h1 h2 _
      rw [← cellsT_append, ← List.length_append] at h1
      obtain ⟨A2, c2, rfl⟩ : ∃ A2 c2, v' = .slice A2 (ts ++ us).length c2 := by
        rcases h1.2 with ⟨hv, hn⟩ | ⟨g, cap, cur, rfl, _⟩
        · rw [List.length_append] at hn; omega
        · exact ⟨_, cap, rfl⟩
      exact h A2 c2 w' h1 h2

end Go.Proofs.Ytlnfialfkipdjaa

namespace Go.Proofs.Ytlnfialfkipdjaa
open Go.RowKit
set_option linter.unusedVariables false

set_option maxRecDepth 100000 in
set_option maxHeartbeats 1000000 in
theorem c_cloneT (A : Option Addr) (c : Nat) (xs : List (Int × Int)) (w : World) (hr : RdT w A xs) (hl : xs.length ≤ 1048576) :
    Calls Try.prog 237 #[.slice A xs.length c] w (RetL w xs) := by
  have ho0 : (w.alloc (.cells #[] 95)).ownsRow w.heap.size 95 2 (.slice (some ⟨w.heap.size, 0, none⟩) 0 0) 0 (cellsT []) := World.ownsRow_lit w #[] 0 (Nat.le_refl _) (by unfold maxLen; omega) rfl
  have hb0 : Below w.heap.size w (w.alloc (.cells #[] 95)) := (Below.refl _ _).alloc (Nat.le_refl _) _
  have q : ∀ (w : World) (a : Option Addr) (n c n' c' : Nat), (binOp .eql 22 (.slice a n c) (.slice none n' c')).run Try.prog w = .ok (.bool a.isNone) w := fun w a n c n' c' => Lib.run_eql_slice_nil w _ _ a n c n' c' Try.underlying22
  cases A with
  | none =>
    have e0 : xs = [] := by
      cases xs with
      | nil => rfl
      | cons x r => obtain ⟨bk, off, h, _⟩ := hr.at_ (k := 0) (by simp); cases h
    subst e0
    go_enter Try.func237, Try.ntmps237
    go_wp2
    go_ret
    exact ⟨none, 0, rfl, World.ownsRow_nil _ _ _ _, Below.refl _ _⟩
  | some ad =>
    go_enter Try.func237, Try.ntmps237
    go_wp2_with (at_builtin; refine wp_append_tiles rfl _ _ rfl w.heap.size _ [] rfl ho0 _ c xs rfl (hr.below hb0) (by simp) (by omega) (by simp) ⟨_, _, rfl⟩ ?_; intro A4 c4 w4 ho4 hg4; have hb4 : Below w.heap.size w w4 := hb0.trans (below_of_grown hg4 hb0.size (fun g hg => by cases hg; exact Nat.le_refl _)); simp only [List.nil_append] at ho4)
    go_ret
    exact ⟨A4, c4, rfl, ho4, hb4⟩

set_option maxRecDepth 100000 in
set_option maxHeartbeats 1000000 in
theorem c_growT (n : Nat) (hn : n ≤ 2097152) (w : World) :
    Calls Try.prog 234 #[.slice none 0 0, .int .i64 n] w fun e w' => ∃ A c, e = .returned (.slice A 0 c) ∧ w'.ownsRow w.heap.size 95 2 (.slice A 0 c) 0 (cellsT []) ∧ Below w.heap.size w w' := by
  obtain ⟨i0, hi, hz0, hz1, hz2⟩ := info_parts Try.info_tile
  by_cases h0 : (0 : Int) < n
  · have hrun := Lib.hid (Lib.run_append_nil_zeros w 22 3 22 95 i0 (.agg #[.int .i64 0, .int .i64 0]) .i64 .i64 Try.underlying22 Try.underlying3 hi hz0 n (by omega) (by rw [hz1]; omega) (by omega) (by rw [hz2]; omega))
    obtain ⟨cp, hcp⟩ : ∃ cp, cp = grownCap w n 0 95 := ⟨_, rfl⟩
    have hge : n ≤ cp := by rw [hcp]; exact grownCap_ge _ _ _ _
    have hle : cp ≤ maxLen := by rw [hcp]; exact grownCap_le_maxLen _ _ _ _ (by unfold maxLen; omega)
    rw [← hcp] at hrun
    have hsz : (Builtin.zeroCells (Value.cells (.agg #[.int .i64 0, .int .i64 0])) n ++ Builtin.zeroCells (Value.cells (.agg #[.int .i64 0, .int .i64 0])) (cp - n)).size = cp * 2 := by
      rw [Array.size_append]
      simp [Builtin.zeroCells, Value.cells]
      omega
    generalize Builtin.zeroCells (Value.cells (.agg #[.int .i64 0, .int .i64 0])) n ++ Builtin.zeroCells (Value.cells (.agg #[.int .i64 0, .int .i64 0])) (cp - n) = cur at *
    have Hs := Lib.hid hsz
    have Hle := Lib.hid hle
    clear hz0 hz1 hz2 hi hsz hle hcp
    go_enter Try.func234, Try.ntmps234
    go_wp2_with (at_builtin; refine Lib.wpList_append_run w rfl _ _ _ _ rfl (.slice none 0 0) (.int .i64 n) rfl rfl _ _ hrun.out ?_)
    go_ret
    exact ⟨_, cp, rfl, own_keep (World.ownsRow_made w cur cp (Nat.le_refl _) Hle.out Hs.out) (Below.refl _ _).drew, by go_grown⟩
  · go_enter Try.func234, Try.ntmps234
    go_wp2
    go_ret
    exact ⟨none, 0, rfl, World.ownsRow_nil _ _ _ _, Below.refl _ _⟩

/-- The first k rows, put together. -/
def catT (tss : List (List (Int × Int))) (k : Nat) : List (Int × Int) := (tss.take k).flatten
theorem catT_zero (tss : List (List (Int × Int))) : catT tss 0 = [] := by simp [catT]
theorem catT_step {tss : List (List (Int × Int))} {k : Nat} (h : k < tss.length) : catT tss (k + 1) = catT tss k ++ tss.getD k [] := by
  unfold catT
  rw [List.take_succ_eq_append_getElem h, List.flatten_append]
  simp [h]
theorem catT_all (tss : List (List (Int × Int))) : catT tss tss.length = tss.flatten := by simp [catT]
theorem catT_le (tss : List (List (Int × Int))) (k : Nat) : (catT tss k).length ≤ tss.flatten.length := by
  have h : tss.flatten = catT tss k ++ (tss.drop k).flatten := by rw [catT, ← List.flatten_append, List.take_append_drop]
  rw [h, List.length_append]; omega

/-- Rows that lie one behind the other in a block. -/
def RowsAt (w : World) (g off : Nat) (tss : List (List (Int × Int))) : Prop :=
  ∀ k, k < tss.length → ∃ A c, w.cell? ⟨g, off + k, none⟩ = some (.slice A (tss.getD k []).length c) ∧ RdT w A (tss.getD k [])
theorem RowsAt.below {w w' : World} {g off : Nat} {tss : List (List (Int × Int))} (h : RowsAt w g off tss) (hb : Below w.heap.size w w') : RowsAt w' g off tss := fun k hk => by
  obtain ⟨A, c, h1, h2⟩ := h k hk
  exact ⟨A, c, keepc hb h1, h2.below hb⟩

set_option maxRecDepth 100000 in
set_option maxHeartbeats 2000000 in
theorem c_concatT (g off m : Nat) (tss : List (List (Int × Int))) (w : World) (hm : tss.length = m) (h : RowsAt w g off tss) (hlen : tss.flatten.length ≤ 2097152) (hn : m ≤ 100) (hpos : 0 < m) :
    Calls Try.prog 204 #[.slice (some ⟨g, off, none⟩) m m] w (RetL w tss.flatten) := by
  have hst : Hid (∀ k, k < m → ∃ A c us, w.cell? ⟨g, off + k, none⟩ = some (.slice A us.length c) ∧ RdT w A us ∧ us.length ≤ 2097152 ∧ catT tss (k + 1) = catT tss k ++ us ∧ (catT tss (k + 1)).length = (catT tss k).length + us.length) := Lib.hid (fun k hk => by
    subst hm
    obtain ⟨A, c, h1, h2⟩ := h k hk
    have hs := catT_step hk
    have := catT_le tss (k + 1)
    rw [hs, List.length_append] at this
    exact ⟨A, c, _, h1, h2, by omega, hs, by rw [hs, List.length_append]⟩)
  have hg : g < w.heap.size := by
    obtain ⟨A, c, us, h1, _⟩ := hst.out 0 hpos
    exact block_lt h1
  have e2 : Hid (catT tss m = tss.flatten) := Lib.hid (by rw [← hm]; exact catT_all tss)
  have hle : Hid (∀ k, (catT tss k).length ≤ 2097152) := Lib.hid (fun k => Nat.le_trans (catT_le tss k) hlen)
  have e0 : Hid (catT tss 0 = []) := Lib.hid (catT_zero tss)
  have conG := Lib.hid (fun W => c_growT (catT tss m).length (hle.out m) W)
  have i9 : (m : Int) ≤ 100 := by omega
  clear h hm hlen
  go_enter Try.func204, Try.ntmps204
  go_wp2
  go_loop [3, 11] (fun s i => ∃ k : Nat, k ≤ m ∧ i = .int .i64 k ∧ s = .int .i64 ((catT tss k).length : Int)) (fun _ i => m - (intOf i).toNat)
  case atStart => exact ⟨0, by omega, rfl, by rw [e0.out]; rfl⟩
  case round =>
    obtain ⟨k, hk, rfl, rfl⟩ := hrel
    have hcl := hle.out k
    obtain ⟨n, hn⟩ : ∃ n, n = (catT tss k).length := ⟨_, rfl⟩
    by_cases hlt : k < m
    · obtain ⟨A1, c1, us, hc1, _, hul, _, hs⟩ := hst.out k hlt
      rw [← hn] at hs hcl ⊢
      have Hs := Lib.hid hs
      clear hs hn
      have i1 : (k : Int) < (m : Int) := by omega
      go_wp2
      all_goals
        go_round
        case rel => exact ⟨k + 1, by omega, by go_num, by have := Hs.out; go_num⟩
        case measure => simp [intOf]; omega
    · obtain rfl : k = m := by omega
      clear hn
      go_wp2_with (go_at_call 234; refine (conG.out _).mono ?_; rintro e w1 ⟨A1, c1, rfl, ho1, hb1⟩)
      go_loopw [6, 27] (fun v i wr => ∃ (j : Nat) (A' : Option Addr) (c' : Nat), j ≤ k ∧ i = .int .i64 j ∧ v = .slice A' (catT tss j).length c' ∧ wr.ownsRow w.heap.size 95 2 (.slice A' (catT tss j).length c') (catT tss j).length (cellsT (catT tss j)) ∧ Below w.heap.size w wr) (fun _ i _ => k - (intOf i).toNat)
      case atStart => exact ⟨0, A1, c1, by omega, rfl, by rw [e0.out]; rfl, by rw [e0.out]; exact ho1, hb1⟩
      case round =>
        clear ho1 hb1
        obtain ⟨j, A', c', hj, rfl, rfl, hown, hb⟩ := hrel
        by_cases hlt : j < k
        · obtain ⟨A1, c1, us, hc1, hru, hul, hcat, _⟩ := hst.out j hlt
          have g1 := (hb.cell (p := ⟨g, _, none⟩) hg).trans hc1
          have hru' := Lib.hid (hru.below hb)
          have Hc := Lib.hid hcat
          have Hb := Lib.hid hb
          have Ho := Lib.hid hown
          have hz := hb.size
          have hcl := hle.out j
          have i1 : (j : Int) < (k : Int) := by omega
          clear hc1 hru hcat hb hown
          go_wp2_with (at_builtin; refine wp_append_tiles rfl _ _ rfl w.heap.size _ (catT tss j) rfl Ho.out _ _ us rfl hru'.out (by omega) (by omega) (by omega) ⟨_, _, rfl⟩ ?_; intro A4 c4 w4 ho4 hg4)
          go_roundw
          case rel =>
            refine ⟨j + 1, A4, c4, by omega, by go_num, by rw [Hc.out, List.length_append], by rw [Hc.out]; exact ho4, ?_⟩
            have hb0 := Hb.out
            exact Below.grown hb0 hg4 (by omega) (fun g hg => (Ho.out.lt g hg).1)
          case measure => simp [intOf]; omega
        · obtain rfl : j = k := by omega
          rw [e2.out] at hown ⊢
          go_wp2
          go_ret
          exact ⟨A', c', rfl, hown, hb⟩
end Go.Proofs.Ytlnfialfkipdjaa

namespace Go.Proofs.Ytlnfialfkipdjaa
open Go.RowKit
set_option linter.unusedVariables false

theorem reg_skip {ops : Array Oper} {Q : Exit → Act → World → Prop} {md : Region.Mode} {S : World → Prop} (i : Nat) {o : Oper} {fuel : Nat} {listed : Array Bool} {a : Act} {w : World} (hi : ops[i]? = some o)
    (hs : Region.noSelect ops = true) (hf : Region.free md ops listed i = true) (hr : (Region.ready md ops listed).contains i = true)
    (hQ : ∀ c a w, Q (.panic c) (a.put o.dst undef) w → Q (.panic c) a w) (hw : Region.wanted o (yielded ops a.tmps) = false) (hS : S w)
    (h : wpAnyH Try.prog md ops Q S fuel (listed.setIfInBounds i true) (a.put o.dst undef) w) : wpAnyH Try.prog md ops Q S (fuel + 1) listed a w :=
  wpAnyH_take hi hs hf hr hQ (Or.inr ⟨hw, rfl⟩) hS h
theorem reg_take {ops : Array Oper} {Q : Exit → Act → World → Prop} {md : Region.Mode} {S : World → Prop} (i : Nat) {o : Oper} {v : Value} {fuel : Nat} {listed : Array Bool} {a : Act} {w : World} (hi : ops[i]? = some o)
    (hs : Region.noSelect ops = true) (hf : Region.free md ops listed i = true) (hr : (Region.ready md ops listed).contains i = true)
    (hQ : ∀ c a w, Q (.panic c) (a.put o.dst v) w → Q (.panic c) a w) (hw : Region.wanted o (yielded ops a.tmps) = true) (hv : ∀ w, S w → (execOp a.eval o).run Try.prog w = .ok (.value v) w) (hS : S w)
    (h : wpAnyH Try.prog md ops Q S fuel (listed.setIfInBounds i true) (a.put o.dst v) w) : wpAnyH Try.prog md ops Q S (fuel + 1) listed a w :=
  wpAnyH_take hi hs hf hr hQ (Or.inl ⟨hw, hv⟩) hS h
end Go.Proofs.Ytlnfialfkipdjaa

namespace Go.Proofs.Ytlnfialfkipdjaa
open Go.RowKit
set_option linter.unusedVariables false

theorem own_at {w : World} {base e size n c : Nat} {A : Option Addr} {cs : List Value} (h : w.ownsRow base e size (.slice A n c) n cs) (hn : 0 < n) : ∃ g, A = some ⟨g, 0, none⟩ := by
  obtain ⟨_, ⟨hv, hz⟩ | ⟨g, cap, cur, hv, _⟩⟩ := h
  · omega
  · injection hv with h1 h2 h3
    exact ⟨g, h1⟩

theorem own_cut {w : World} {base e size g n c k : Nat} {cs : List Value} (h : w.ownsRow base e size (.slice (some ⟨g, 0, none⟩) n c) n cs) (hk : k ≤ n) :
    w.ownsRow base e size (.slice (some ⟨g, 0, none⟩) k c) k (cs.take (k * size)) := by
  obtain ⟨h0, ⟨hv, hn⟩ | ⟨g', cap, cur, hv, hg, hh, hc, hm, hs, ht⟩⟩ := h
  · cases hv
  · injection hv with e1 e2 e3
    injection e1 with e1
    injection e1 with e1
    subst e1 e3
    refine ⟨?_, .inr ⟨g, c, cur, rfl, hg, hh, by omega, hm, hs, ?_⟩⟩
    · rw [List.length_take, h0]
      exact Nat.min_eq_left (Nat.mul_le_mul_right _ hk)
    · rw [← ht, List.take_take, Nat.min_eq_left (Nat.mul_le_mul_right _ hk)]

set_option maxRecDepth 100000 in
set_option maxHeartbeats 1000000 in
theorem c_grow (n : Nat) (hn : n ≤ 2097152) (w : World) :
    Calls Try.prog 233 #[.slice none 0 0, .int .i64 n] w fun e w' => ∃ A c, e = .returned (.slice A 0 c) ∧ w'.ownsRow w.heap.size 3 1 (.slice A 0 c) 0 (cellsI []) ∧ Below w.heap.size w w' := by
  obtain ⟨i0, hi, hz0, hz1, hz2⟩ := info_parts Try.info_int
  by_cases h0 : (0 : Int) < n
  · have hrun := Lib.hid (Lib.run_append_nil_zeros w 36 3 36 3 i0 (.int .i64 0) .i64 .i64 Try.underlying36 Try.underlying3 hi hz0 n (by omega) (by rw [hz1]; omega) (by omega) (by rw [hz2]; omega))
    obtain ⟨cp, hcp⟩ : ∃ cp, cp = grownCap w n 0 3 := ⟨_, rfl⟩
    have hge : n ≤ cp := by rw [hcp]; exact grownCap_ge _ _ _ _
    have hle : cp ≤ maxLen := by rw [hcp]; exact grownCap_le_maxLen _ _ _ _ (by unfold maxLen; omega)
    rw [← hcp] at hrun
    have hsz : (Builtin.zeroCells (Value.int .i64 0).cells n ++ Builtin.zeroCells (Value.int .i64 0).cells (cp - n)).size = cp * 1 := by
      rw [Array.size_append]
      simp [Builtin.zeroCells, Value.cells]
      omega
    generalize Builtin.zeroCells (Value.int .i64 0).cells n ++ Builtin.zeroCells (Value.int .i64 0).cells (cp - n) = cur at *
    have Hs := Lib.hid hsz
    have Hle := Lib.hid hle
    clear hz0 hz1 hz2 hi hsz hle hcp
    go_enter Try.func233, Try.ntmps233
    go_wp2_with (at_builtin; refine Lib.wpList_append_run w rfl _ _ _ _ rfl (.slice none 0 0) (.int .i64 n) rfl rfl _ _ hrun.out ?_)
    go_ret
    exact ⟨_, cp, rfl, own_drew (World.ownsRow_made w cur cp (Nat.le_refl _) Hle.out Hs.out), by go_grown⟩
  · go_enter Try.func233, Try.ntmps233
    go_wp2
    go_ret
    exact ⟨none, 0, rfl, World.ownsRow_nil _ _ _ _, Below.refl _ _⟩

/-- A list of numbers appended, as one operation. -/
theorem op_append_ints {w : World} {o : Oper} {a : Act} {K : Act → World → Prop} {Q : Exit → Act → World → Prop} (s x : Operand)
    (ho : o.op = .call { callee := .builtin .append, args := #[s, x], argTypes := #[36, 36] }) (base : Nat) (v : Value) (ts : List Int) (hs : a.eval s = v)
    (hown : w.ownsRow base 3 1 v ts.length (cellsI ts)) (A : Option Addr) (c : Nat) (us : List Int) (hx : a.eval x = .slice A us.length c) (hr : RdI w A us)
    (hlen : ts.length ≤ 2097152) (hlen' : us.length ≤ 2097152) (hbase : base ≤ w.heap.size) (hv : ∃ A' c', v = .slice A' ts.length c')
    (h : ∀ A c w', w'.ownsRow base 3 1 (.slice A (ts ++ us).length c) (ts ++ us).length (cellsI (ts ++ us)) → w.grownBy w' v.ownBlock → K (a.put o.dst (.slice A (ts ++ us).length c)) w') :
    o.wp Try.prog a w K Q := by
  obtain ⟨i0, hi, hz0, hz1, hz2⟩ := info_parts Try.info_int
  by_cases hu : us = []
  · subst hu
    cases A with
    | none =>
      obtain ⟨A', c', rfl⟩ := hv
      have hrun : (Builtin.append_ #[36, 36] o.type #[.slice A' ts.length c', .slice none 0 c]).run Try.prog w = .ok (.slice A' ts.length c') w := by
        rcases hown.2 with ⟨hv, hn⟩ | ⟨g, cap, cur, hv, _, _, hnc, _⟩
        · simp only [Value.slice.injEq] at hv
          obtain ⟨rfl, h2, rfl⟩ := hv
          simp [Builtin.append_, run_underlying Try.underlying36, sizeOf, typeInfo, hi, Builtin.lenOf, Builtin.firstCells, h2]
        · simp only [Value.slice.injEq] at hv
          obtain ⟨rfl, _, rfl⟩ := hv
          simp [Builtin.append_, run_underlying Try.underlying36, sizeOf, typeInfo, hi, Builtin.lenOf, Builtin.firstCells, hnc, storeCells]
      unfold Oper.wp
      simp [execOp, ho, resolve, invoke, builtin, hs, hx, hrun, Result.andThen]
      have := h A' c' w (by simpa using hown) (World.grownBy.refl w _)
      rw [List.append_nil] at this
      exact this
    | some ad =>
      refine wp_append_own w s x 36 ho base 3 i0 _ 1 8 Try.underlying36 hi hz0 hz1 hz2 rfl (by decide) v ts.length (cellsI ts) hs hown ad 0 c [] hx rfl (by simp) (by simp) (by unfold maxLen; omega) (by omega) hbase ?_
      intro v' w' h1 h2 h3
      obtain ⟨A', c', rfl⟩ := hv
      obtain ⟨A2, c2, rfl⟩ : ∃ A2 c2, v' = .slice A2 ts.length c2 := by
        rcases h1.2 with ⟨hv, hn⟩ | ⟨g, cap, cur, rfl, _⟩
        · subst hv
          have h0 : ts.length = 0 := by omega
          exact ⟨none, 0, by rw [h0]⟩
        · exact ⟨_, cap, rfl⟩
      have := h A2 c2 w' (by simpa using h1) h2
      simpa using this
  · have hpos : 0 < us.length := List.length_pos_iff.2 hu
    obtain ⟨b, off, rfl, _, hc⟩ := hr.at_ hpos
    refine wp_append_own w s x 36 ho base 3 i0 _ 1 8 Try.underlying36 hi hz0 hz1 hz2 rfl (by decide) v ts.length (cellsI ts) hs hown ⟨b, off, none⟩ us.length c (cellsI us) hx (by rw [cellsI_length, Nat.mul_one]) ?_ (cellsI_one us) (by unfold maxLen; omega) (by omega) hbase ?_
    · intro j u hj
      have hk : j < us.length := by
        have := (List.getElem?_eq_some_iff.1 hj).1
        rw [cellsI_length] at this
        exact this
      have hadd : (⟨b, off, none⟩ : Addr).add j = ⟨b, off + j, none⟩ := by
        unfold Addr.add
        split <;> simp_all
      rw [hadd, hc j hk]
      have e : (cellsI us)[j]? = some (.int .i64 us[j]) := by simp [cellsI, hk]
      rw [e] at hj
      exact hj
    · intro v' w' h1 h2 _
      rw [← cellsI_append, ← List.length_append] at h1
      obtain ⟨A2, c2, rfl⟩ : ∃ A2 c2, v' = .slice A2 (ts ++ us).length c2 := by
        rcases h1.2 with ⟨hv, hn⟩ | ⟨g, cap, cur, rfl, _⟩
        · rw [List.length_append] at hn; omega
        · exact ⟨_, cap, rfl⟩
      exact h A2 c2 w' h1 h2
/-- .. at a step of a region that draws its order. -/
theorem step_append_ints {w : World} {ops : Array Oper} {o : Oper} {a : Act} {K : Act → World → Prop} {Q : Exit → Act → World → Prop} {E : Prop} (hgd : o.guard = none) (s x : Operand)
    (ho : o.op = .call { callee := .builtin .append, args := #[s, x], argTypes := #[36, 36] }) (base : Nat) (v : Value) (ts : List Int) (hs : a.eval s = v)
    (hown : w.ownsRow base 3 1 v ts.length (cellsI ts)) (A : Option Addr) (c : Nat) (us : List Int) (hx : a.eval x = .slice A us.length c) (hr : RdI w A us)
    (hlen : ts.length ≤ 2097152) (hlen' : us.length ≤ 2097152) (hbase : base ≤ w.heap.size) (hv : ∃ A' c', v = .slice A' ts.length c')
    (h : ∀ A c w', w'.ownsRow base 3 1 (.slice A (ts ++ us).length c) (ts ++ us).length (cellsI (ts ++ us)) → w.grownBy w' v.ownBlock → K (a.put o.dst (.slice A (ts ++ us).length c)) w') :
    if Region.wanted o (yielded ops a.tmps) = true then o.wp Try.prog a w K Q else E := by
  have hw : Region.wanted o (yielded ops a.tmps) = true := by simp [Region.wanted, hgd]
  rw [if_pos hw]
  exact op_append_ints s x ho base v ts hs hown A c us hx hr hlen hlen' hbase hv h

/-- The first k of two lists, put together. -/
def catTo (xs ys : List Int) (k : Nat) : List Int := if k = 0 then [] else if k = 1 then xs else xs ++ ys
def catLen (n m k : Nat) : Nat := if k = 0 then 0 else if k = 1 then n else n + m
theorem cat_step {w : World} {g off c d : Nat} {A B : Option Addr} {xs ys : List Int} (h0 : w.cell? ⟨g, off + 0, none⟩ = some (.slice A xs.length c)) (h1 : w.cell? ⟨g, off + 1, none⟩ = some (.slice B ys.length d)) (hrx : RdI w A xs) (hry : RdI w B ys) {k : Nat} (hk : k < 2) :
    ∃ A' c' us, w.cell? ⟨g, off + k, none⟩ = some (.slice A' us.length c') ∧ RdI w A' us ∧ us.length ≤ xs.length + ys.length ∧ catTo xs ys (k + 1) = catTo xs ys k ++ us ∧ catLen xs.length ys.length (k + 1) = catLen xs.length ys.length k + us.length ∧ (us = xs ∨ us = ys) := by
  obtain rfl | rfl : k = 0 ∨ k = 1 := by omega
  · exact ⟨A, c, xs, h0, hrx, by omega, by simp [catTo], by simp [catLen], .inl rfl⟩
  · exact ⟨B, d, ys, h1, hry, by omega, by simp [catTo], by simp [catLen], .inr rfl⟩
theorem catLen_le (n m k : Nat) : catLen n m k ≤ n + m := by unfold catLen; split; omega; split <;> omega
theorem catTo_len (xs ys : List Int) (k : Nat) : (catTo xs ys k).length ≤ xs.length + ys.length := by unfold catTo; split; simp; split <;> simp
theorem catTo_two (xs ys : List Int) : catTo xs ys 2 = xs ++ ys := by simp [catTo]

set_option maxRecDepth 100000 in
set_option maxHeartbeats 2000000 in
theorem c_concat (g off : Nat) (A : Option Addr) (c : Nat) (xs : List Int) (B : Option Addr) (d : Nat) (ys : List Int) (w : World) (h0 : w.cell? ⟨g, off + 0, none⟩ = some (.slice A xs.length c)) (h1 : w.cell? ⟨g, off + 1, none⟩ = some (.slice B ys.length d)) (hrx : RdI w A xs) (hry : RdI w B ys) (lx : xs.length ≤ 1048576) (ly : ys.length ≤ 1048576) :
    Calls Try.prog 198 #[.slice (some ⟨g, off, none⟩) 2 2] w (RetN w (xs ++ ys)) := by
  have hst := Lib.hid (fun k hk => cat_step h0 h1 hrx hry (k := k) hk)
  have hg : g < w.heap.size := block_lt h0
  have e2 := Lib.hid (catTo_two xs ys)
  have l2 : catLen xs.length ys.length 2 = xs.length + ys.length := by simp [catLen]
  have conG := Lib.hid (fun W => c_grow (catLen xs.length ys.length 2) (by rw [l2]; omega) W)
  clear h0 h1 hrx hry l2
  go_enter Try.func198, Try.ntmps198
  go_wp2
  go_loop [3, 11] (fun s i => ∃ k : Nat, k ≤ 2 ∧ i = .int .i64 k ∧ s = .int .i64 (catLen xs.length ys.length k)) (fun _ i => 2 - (intOf i).toNat)
  case atStart => exact ⟨0, by omega, rfl, by go_num⟩
  case round =>
    obtain ⟨k, hk, rfl, rfl⟩ := hrel
    have hcl := catLen_le xs.length ys.length k
    by_cases hlt : k < 2
    · obtain ⟨A1, c1, us, hc1, _, hul, _, hs, _⟩ := hst.out k hlt
      have Hs := Lib.hid hs
      clear hs
      go_wp2
      all_goals
        go_round
        case rel => exact ⟨k + 1, by omega, by go_num, by have := Hs.out; go_num⟩
        case measure => simp [intOf]; omega
    · obtain rfl : k = 2 := by omega
      go_wp2_with (go_at_call 233; refine (conG.out _).mono ?_; rintro e w1 ⟨A1, c1, rfl, ho1, hb1⟩)
      go_loopw [6, 27] (fun v i wr => ∃ (k : Nat) (A' : Option Addr) (c' : Nat), k ≤ 2 ∧ i = .int .i64 k ∧ v = .slice A' (catTo xs ys k).length c' ∧ wr.ownsRow w.heap.size 3 1 (.slice A' (catTo xs ys k).length c') (catTo xs ys k).length (cellsI (catTo xs ys k)) ∧ Below w.heap.size w wr) (fun _ i _ => 2 - (intOf i).toNat)
      case atStart => exact ⟨0, A1, c1, by omega, rfl, rfl, ho1, hb1⟩
      case round =>
        clear ho1 hb1
        obtain ⟨k, A', c', hk, rfl, rfl, hown, hb⟩ := hrel
        by_cases hlt : k < 2
        · obtain ⟨A1, c1, us, hc1, hru, hul, hcat, _, _⟩ := hst.out k hlt
          have g1 := (hb.cell (p := ⟨g, _, none⟩) hg).trans hc1
          have hru' := Lib.hid (hru.below hb)
          have Hc := Lib.hid hcat
          have Hb := Lib.hid hb
          have Ho := Lib.hid hown
          have hz := hb.size
          have hcl := catTo_len xs ys k
          clear hc1 hru hcat hb hown
          go_wp2_with (at_builtin; refine wp_append_ints rfl _ _ rfl w.heap.size _ (catTo xs ys k) rfl Ho.out _ _ us rfl hru'.out (by omega) (by omega) (by omega) ⟨_, _, rfl⟩ ?_; intro A4 c4 w4 ho4 hg4)
          go_roundw
          case rel =>
            refine ⟨k + 1, A4, c4, by omega, by go_num, by rw [Hc.out, List.length_append], by rw [Hc.out]; exact ho4, ?_⟩
            have hb0 := Hb.out
            exact Below.grown hb0 hg4 (by omega) (fun g hg => (Ho.out.lt g hg).1)
          case measure => simp [intOf]; omega
        · obtain rfl : k = 2 := by omega
          rw [e2.out] at hown ⊢
          go_wp2
          go_ret
          exact ⟨A', c', rfl, hown, hb⟩

def layL (xs ys : List Int) : List Int := if chainB (xs ++ ys) then xs ++ ys else []
theorem layL_len (xs ys : List Int) : (layL xs ys).length ≤ 110 := by
  unfold layL
  split
  · rename_i h
    have := chain_len h
    omega
  · simp

set_option maxRecDepth 100000 in
set_option maxHeartbeats 1000000 in
theorem c_layNumbers (A : Option Addr) (c : Nat) (xs : List Int) (B : Option Addr) (d : Nat) (ys : List Int) (w : World) (hrx : RdI w A xs) (hry : RdI w B ys) (lx : xs.length ≤ 1048576) (ly : ys.length ≤ 1048576) :
    Calls Try.prog 144 #[.slice A xs.length c, .slice B ys.length d] w (RetI w (layL xs ys) (chainB (xs ++ ys))) := by
  have conC := Lib.hid (fun W (hb : Below w.heap.size w W) g h0 h1 => c_concat g 0 A c xs B d ys W h0 h1 (hrx.below hb) (hry.below hb) lx ly)
  have hl : (xs ++ ys).length ≤ 2097152 := by simp; omega
  have e1 : layL xs ys = if chainB (xs ++ ys) then xs ++ ys else [] := rfl
  rw [e1]
  obtain ⟨zs, hzs⟩ : ∃ zs, zs = xs ++ ys := ⟨_, rfl⟩
  rw [← hzs] at conC hl ⊢
  have conI := Lib.hid (fun W A' c' (hr : RdI W A' zs) => c_implIsChain A' c' zs W hr (by omega))
  clear e1 hzs hrx hry
  cases hc : chainB zs
  · rw [hc] at conI
    clear hc
    go_enter Try.func144, Try.ntmps144
    go_wp2_with (first | (go_at_call 198; refine (conC.out _ (by go_grown) w.heap.size (by simp) (by simp)).mono ?_; rintro e w2 ⟨A2, c2, rfl, ho2, hb2⟩) | (go_at_call 70; refine (conI.out _ _ _ (RdI.of_own ho2)).mono ?_; rintro e w3 ⟨rfl, hb3⟩))
    go_ret2
    exact ⟨none, 0, rfl, World.ownsRow_nil _ _ _ _, bstep (bstep (by go_grown) hb2) hb3⟩
  · rw [hc] at conI
    clear hc
    go_enter Try.func144, Try.ntmps144
    go_wp2_with (first | (go_at_call 198; refine (conC.out _ (by go_grown) w.heap.size (by simp) (by simp)).mono ?_; rintro e w2 ⟨A2, c2, rfl, ho2, hb2⟩) | (go_at_call 70; refine (conI.out _ _ _ (RdI.of_own ho2)).mono ?_; rintro e w3 ⟨rfl, hb3⟩))
    go_ret2
    exact ⟨A2, c2, rfl, own_base (own_keep ho2 hb3) (by simp), bstep (bstep (by go_grown) hb2) hb3⟩
end Go.Proofs.Ytlnfialfkipdjaa

namespace Go.Proofs.Ytlnfialfkipdjaa
open Go.RowKit
set_option linter.unusedVariables false

theorem tilesC_nil : tilesC [] = [] := rfl
theorem tilesC_one (x : Int) : tilesC [x] = [] := rfl
theorem tilesC_cons (x y : Int) (r : List Int) : tilesC (x :: y :: r) = tile2 x y :: tilesC (y :: r) := by
  apply List.ext_getElem
  · simp only [tilesC_len, List.length_cons]; omega
  · intro i h1 h2
    cases i with
    | zero => simp only [tilesC, tilesTo_get, List.getElem_cons_zero]; rfl
    | succ i => simp only [tilesC, tilesTo_get, List.getElem_cons_succ]; rfl
theorem tilesC_join : ∀ (xs : List Int) (p : Int) (ys : List Int), tilesC (xs ++ p :: ys) = tilesC (xs ++ [p]) ++ tilesC (p :: ys)
  | [], p, ys => by simp [tilesC_one]
  | [x], p, ys => by simp [tilesC_cons, tilesC_one]
  | x :: y :: r, p, ys => by
    have := tilesC_join (y :: r) p ys
    simp only [List.cons_append, tilesC_cons] at this ⊢
    rw [this]
theorem tilesC_reverse : ∀ (xs : List Int), tilesC xs.reverse = (tilesC xs).reverse
  | [] => rfl
  | [x] => rfl
  | x :: y :: r => by
    have := tilesC_reverse (y :: r)
    rw [tilesC_cons, List.reverse_cons, List.reverse_cons, List.reverse_cons, ← this, List.append_assoc, List.reverse_cons, List.singleton_append, tilesC_join, tilesC_cons, tilesC_one, tile2_comm]
theorem chain_of_perm {xs ys : List Int} (h : chainB xs = true) (hl : ys.length = xs.length) (hm : ∀ y ∈ ys, y ∈ xs) (hp : (tilesC ys).Perm (tilesC xs)) : chainB ys = true := by
  have hc : chainP xs := of_decide_eq_true h
  exact decide_eq_true ⟨by have := hc.1; omega, by have := hc.2.1; omega, fun y hy => hc.2.2.1 y (hm y hy), hp.nodup_iff.2 hc.2.2.2⟩
theorem chain_reverse {xs : List Int} (h : chainB xs = true) : chainB xs.reverse = true :=
  chain_of_perm h (by simp) (fun y hy => by simpa using hy) (by rw [tilesC_reverse]; exact List.reverse_perm _)
/-- A ring that begins at another number is a chain. -/
theorem chain_spin {xs : List Int} (h : chainB xs = true) (he : xs.getD 0 0 = xs.getD (xs.length - 1) 0) {k : Nat} (hk : k + 1 < xs.length) : chainB (xs.drop k ++ (xs.drop 1).take k) = true := by
  rcases Nat.eq_zero_or_pos k with rfl | hk0
  · simpa using h
  · obtain ⟨a, r, rfl⟩ : ∃ a r, xs = a :: r := by
      cases xs with
      | nil => simp at hk
      | cons a r => exact ⟨a, r, rfl⟩
    obtain ⟨k, rfl⟩ : ∃ j, k = j + 1 := ⟨k - 1, by omega⟩
    simp only [List.length_cons] at hk he
    -- r = pre ++ p :: post
    have hkr : k < r.length := by omega
    have hr : r = r.take k ++ r[k] :: r.drop (k + 1) := by
      conv => lhs; rw [← List.take_append_drop k r]
      rw [List.drop_eq_getElem_cons hkr]
    have hpos : (r.drop (k + 1)) ≠ [] := by
      intro e
      have := congrArg List.length e
      simp at this
      omega
    obtain ⟨post, b, hpost⟩ : ∃ post b, r.drop (k + 1) = post ++ [b] := ⟨_, _, (List.dropLast_concat_getLast hpos).symm⟩
    have hb : b = a := by
      obtain ⟨M, hM⟩ : ∃ M, r = M ++ [b] := ⟨r.take k ++ r[k] :: post, by
        conv => lhs; rw [hr, hpost]
        simp⟩
      have h1 : (a :: r).getD r.length 0 = b := by
        rw [hM]
        simp
      simp only [Nat.add_sub_cancel] at he
      rw [h1] at he
      simpa using he.symm
    have e1 : (a :: r).drop (k + 1) = r[k] :: (post ++ [a]) := by
      rw [List.drop_succ_cons, List.drop_eq_getElem_cons hkr, hpost, hb]
    have e2 : ((a :: r).drop 1).take (k + 1) = r.take k ++ [r[k]] := by
      rw [List.drop_succ_cons, List.drop_zero, List.take_succ_eq_append_getElem hkr]
    have e3 : a :: r = (a :: r.take k) ++ r[k] :: (post ++ [a]) := by
      conv => lhs; rw [hr, hpost, hb]
      simp
    refine chain_of_perm h ?_ ?_ ?_
    · simp only [List.length_append, List.length_drop, List.length_take, List.length_cons]
      omega
    · intro y hy
      rcases List.mem_append.1 hy with h | h
      · exact List.mem_of_mem_drop h
      · exact List.mem_of_mem_drop (List.mem_of_mem_take h)
    · have t1 : tilesC (r[k] :: (post ++ [a]) ++ (r.take k ++ [r[k]])) = tilesC (r[k] :: (post ++ [a])) ++ tilesC (a :: (r.take k ++ [r[k]])) := by
        have := tilesC_join (r[k] :: post) a (r.take k ++ [r[k]])
        simp only [List.cons_append, List.append_assoc, List.nil_append] at this ⊢
        exact this
      have t2 : tilesC (a :: r) = tilesC (a :: (r.take k ++ [r[k]])) ++ tilesC (r[k] :: (post ++ [a])) := by
        have := tilesC_join (a :: r.take k) r[k] (post ++ [a])
        rw [← e3] at this
        exact this
      rw [e1, e2, t1, t2]
      exact List.perm_append_comm

def turnHL (xs : List Int) : List Int := if chainB xs then xs.reverse else []
theorem turnHL_len (xs : List Int) : (turnHL xs).length ≤ 110 := by
  unfold turnHL
  split
  · rename_i h
    have := chain_len h
    simp
    omega
  · simp
/-- The last k numbers, backwards. -/
def revTo (xs : List Int) (k : Nat) : List Int := xs.reverse.take k
theorem revTo_len {xs : List Int} {k : Nat} (h : k ≤ xs.length) : (revTo xs k).length = k := by simp [revTo]; omega
theorem revTo_step {xs : List Int} {k : Nat} (h : k < xs.length) : revTo xs (k + 1) = revTo xs k ++ [xs[xs.length - 1 - k]'(by omega)] := by
  unfold revTo
  rw [List.take_succ_eq_append_getElem (by simpa using h), List.getElem_reverse]
theorem revTo_all (xs : List Int) : revTo xs xs.length = xs.reverse := by
  unfold revTo
  rw [show xs.length = xs.reverse.length from by simp, List.take_length]

set_option maxRecDepth 100000 in
set_option maxHeartbeats 1000000 in
theorem c_haTurn (A : Option Addr) (c : Nat) (xs : List Int) (w : World) (hr : RdI w A xs) (hl : xs.length ≤ 1048576) :
    Calls Try.prog 139 #[.slice A xs.length c] w (RetN w xs.reverse) := by
  rw [← revTo_all]
  go_enter Try.func139, Try.ntmps139
  go_wp2
  go_loopw [3, 4] (fun v i wr => ∃ (k : Nat) (A' : Option Addr) (c' : Nat), k ≤ xs.length ∧ i = .int .i64 ((xs.length : Int) - 1 - k) ∧ v = .slice A' (revTo xs k).length c' ∧ wr.ownsRow w.heap.size 3 1 (.slice A' (revTo xs k).length c') (revTo xs k).length (cellsI (revTo xs k)) ∧ Below w.heap.size w wr) (fun _ i _ => (intOf i + 1).toNat)
  case atStart => exact ⟨0, none, 0, Nat.zero_le _, by go_num, rfl, World.ownsRow_nil _ _ _ _, Below.refl _ _⟩
  case round =>
    obtain ⟨k, A', c', hk, rfl, rfl, hown, hb⟩ := hrel
    have hpl : (revTo xs k).length ≤ xs.length := by rw [revTo_len hk]; exact hk
    by_cases hlt : k < xs.length
    · obtain ⟨n, hn⟩ : ∃ n : Nat, n = xs.length - 1 - k := ⟨_, rfl⟩
      have en : (xs.length : Int) - 1 - k = n := by omega
      obtain ⟨bk, off, rfl, hbk, hc⟩ := hr.at_ hlt
      have g1 := (hb.cell (p := ⟨bk, _, none⟩) hbk).trans (hc (xs.length - 1 - k) (by omega))
      have hst := Lib.hid (revTo_step hlt)
      have Hm := Lib.hid en
      rw [en]
      generalize xs[xs.length - 1 - k]'(by omega) = p at g1 hst
      rw [← hn] at g1
      have Hb := Lib.hid hb
      have Ho := Lib.hid hown
      have hsz := hb.size
      have i0 : (0 : Int) ≤ (n : Int) := by omega
      have i1 : (n : Int) < (xs.length : Int) := by omega
      have Hn := Lib.hid hn
      clear hc hr hb hown en hn
      have Ho2 := Lib.hid (Ho.out.alloc (.cells #[.int .i64 p] 3))
      go_wp2_with (first | (at_builtin; refine wp_append_int rfl _ _ rfl w.heap.size _ _ rfl Ho2.out p wr.heap.size rfl (by simp) (by omega) (by simp; omega) ?_; intro A2 c2 w3 hown3 hg3))
      go_roundw
      case rel =>
        refine ⟨k + 1, A2, c2, by omega, by have := Hm.out; go_num, by rw [hst.out, List.length_append]; rfl, ?_, ?_⟩
        · rw [hst.out, List.length_append]; exact hown3
        · have hb0 := Hb.out
          exact Below.grown (by go_grown) hg3 (by simp; omega) (fun g hg => (Ho2.out.lt g hg).1)
      case measure => first | (simp [intOf]; done) | (simp [intOf]; omega)
    · have e : k = xs.length := by omega
      subst e
      have i1 : ¬ ((0 : Int) ≤ (xs.length : Int) - 1 - (xs.length : Int)) := by omega
      go_wp2
      go_ret
      exact ⟨A', c', rfl, hown, hb⟩

set_option maxRecDepth 100000 in
set_option maxHeartbeats 1000000 in
theorem c_specTurn (A : Option Addr) (c : Nat) (xs : List Int) (w : World) (hr : RdI w A xs) (hl : xs.length ≤ 1048576) :
    Calls Try.prog 65 #[.slice A xs.length c] w (RetI w (turnHL xs) (chainB xs)) := by
  have con := Lib.hid (c_haGood A c xs w hr (by omega))
  have conT := Lib.hid (fun W (hb : Below w.heap.size w W) => c_haTurn A c xs W (hr.below hb) hl)
  clear hr
  cases hc : chainB xs
  · have e1 : turnHL xs = [] := by simp [turnHL, hc]
    rw [e1]
    rw [hc] at con
    clear e1 hc
    go_enter Try.func65, Try.ntmps65
    go_wp2_with (go_at_call 136; refine con.out.mono ?_; rintro e w1 ⟨rfl, hb1⟩)
    go_ret2
    exact ⟨none, 0, rfl, World.ownsRow_nil _ _ _ _, hb1⟩
  · have e1 : turnHL xs = xs.reverse := by simp [turnHL, hc]
    rw [e1]
    rw [hc] at con
    obtain ⟨ys, hys⟩ : ∃ ys, ys = xs.reverse := ⟨_, rfl⟩
    rw [← hys] at conT ⊢
    clear e1 hc hys
    go_enter Try.func65, Try.ntmps65
    go_wp2_with (first | (go_at_call 136; refine con.out.mono ?_; rintro e w1 ⟨rfl, hb1⟩) | (go_at_call 139; refine (conT.out _ hb1).mono ?_; rintro e w2 ⟨A2, c2, rfl, ho2, hb2⟩))
    go_ret2
    exact ⟨A2, c2, rfl, own_base ho2 hb1.size, bstep hb1 hb2⟩

set_option maxRecDepth 100000 in
set_option maxHeartbeats 1000000 in
theorem c_clone (A : Option Addr) (c : Nat) (xs : List Int) (w : World) (hr : RdI w A xs) (hl : xs.length ≤ 1048576) (hne : 0 < xs.length) :
    Calls Try.prog 128 #[.slice A xs.length c] w (RetN w xs) := by
  have ho0 : (w.alloc (.cells #[] 3)).ownsRow w.heap.size 3 1 (.slice (some ⟨w.heap.size, 0, none⟩) 0 0) 0 (cellsI []) := World.ownsRow_lit w #[] 0 (Nat.le_refl _) (by unfold maxLen; omega) rfl
  have hb0 : Below w.heap.size w (w.alloc (.cells #[] 3)) := (Below.refl _ _).alloc (Nat.le_refl _) _
  obtain ⟨bk, off, rfl, _, _⟩ := hr.at_ hne
  have q : ∀ (w : World) (a : Option Addr) (n c n' c' : Nat), (binOp .eql 36 (.slice a n c) (.slice none n' c')).run Try.prog w = .ok (.bool a.isNone) w := fun w a n c n' c' => Lib.run_eql_slice_nil w _ _ a n c n' c' Try.underlying36
  go_enter Try.func128, Try.ntmps128
  go_wp2_with (at_builtin; refine wp_append_ints rfl _ _ rfl w.heap.size _ [] rfl ho0 _ c xs rfl (hr.below hb0) (by simp) (by omega) (by simp) ⟨_, _, rfl⟩ ?_; intro A4 c4 w4 ho4 hg4; have hb4 : Below w.heap.size w w4 := hb0.trans (below_of_grown hg4 hb0.size (fun g hg => by cases hg; exact Nat.le_refl _)); simp only [List.nil_append] at ho4)
  go_ret
  exact ⟨A4, c4, rfl, ho4, hb4⟩

theorem rev_pairs {xs zs : List Int} (hl : zs.length = xs.length) (h : ∀ t, t < xs.length → zs.getD t 0 = xs.getD (xs.length - 1 - t) 0) : zs = xs.reverse := by
  apply List.ext_getElem
  · simp [hl]
  · intro i h1 h2
    have h3 : i < xs.length := by omega
    have := h i h3
    rw [List.getD_eq_getElem?_getD, List.getD_eq_getElem?_getD, List.getElem?_eq_getElem h1, List.getElem?_eq_getElem (by omega)] at this
    rw [List.getElem_reverse]
    simpa using this
theorem cellsI_get {zs : List Int} {t : Nat} (h : t < zs.length) : (cellsI zs)[t]? = some (.int .i64 (zs.getD t 0)) := by
  simp [cellsI, h]
theorem cellsI_set (zs : List Int) (i : Nat) (p : Int) : (cellsI zs).set i (.int .i64 p) = cellsI (zs.set i p) := by
  simp [cellsI, List.map_set]
theorem getD_set {zs : List Int} {i : Nat} (hi : i < zs.length) (p : Int) (t : Nat) : (zs.set i p).getD t 0 = if t = i then p else zs.getD t 0 := by
  by_cases e : t = i
  · subst e
    simp [hi]
  · rw [if_neg e, List.getD_eq_getElem?_getD, List.getElem?_set_ne (by omega)]
    rfl

set_option maxRecDepth 100000 in
set_option maxHeartbeats 2000000 in
theorem c_reverse (base c : Nat) (A : Option Addr) (xs : List Int) (w : World) (hne : 0 < xs.length) (hl : xs.length ≤ 1048576) (ho : w.ownsRow base 3 1 (.slice A xs.length c) xs.length (cellsI xs)) :
    Calls Try.prog 138 #[.slice A xs.length c] w fun e w' => e = .returned (.tuple #[]) ∧ w'.ownsRow base 3 1 (.slice A xs.length c) xs.length (cellsI xs.reverse) ∧ Below base w w' := by
  obtain ⟨n, hn⟩ : ∃ n, xs.length = n + 1 := ⟨xs.length - 1, by omega⟩
  obtain ⟨g, rfl⟩ : ∃ g, A = some ⟨g, 0, none⟩ := by
    obtain ⟨_, ⟨hv, hz⟩ | ⟨g, cap, cur, hv, _⟩⟩ := ho
    · omega
    · injection hv with h1 h2 h3
      exact ⟨g, h1⟩
  have hbase := (ho.lt g rfl).1
  have Hn := Lib.hid hn
  have hl' : n ≤ 1048576 := by omega
  rw [hn] at ho ⊢
  clear hne hl hn
  go_enter Try.func138, Try.ntmps138
  go_wp2
  go_loopw [2, 3] (fun i j wr => ∃ (k m : Nat) (zs : List Int), k + m = n ∧ k ≤ m + 1 ∧ i = .int .i64 k ∧ j = .int .i64 m ∧ zs.length = n + 1 ∧ (∀ t, t < n + 1 → zs.getD t 0 = if t < k ∨ m < t then xs.getD (n - t) 0 else xs.getD t 0) ∧
      wr.ownsRow base 3 1 (.slice (some ⟨g, 0, none⟩) (n + 1) c) (n + 1) (cellsI zs) ∧ Below base w wr) (fun i _ _ => n + 1 - (intOf i).toNat)
  case atStart => exact ⟨0, n, xs, by omega, by omega, rfl, by go_num, Hn.out, fun t ht => by rw [if_neg (by omega)], ho, Below.refl _ _⟩
  case round =>
    clear ho
    obtain ⟨k, m, zs, hkm, hk, rfl, rfl, hz, hv, hown, hb⟩ := hrel
    by_cases hlt : k < m
    · have x1 := (hown.cellAt k (by omega)).trans (cellsI_get (zs := zs) (t := k) (by omega))
      have x2 := (hown.cellAt m (by omega)).trans (cellsI_get (zs := zs) (t := m) (by omega))
      have f1 := hown.frozenAt k
      have f2 := hown.frozenAt m
      have Hv := Lib.hid hv
      have Hz := Lib.hid hz
      have Hb := Lib.hid hb
      have Ho := Lib.hid hown
      have Hkm := Lib.hid hkm
      have i0 : (0 : Int) ≤ (k : Int) := by omega
      have i1 : (k : Int) < (n : Int) + 1 := by omega
      have i2 : (0 : Int) ≤ (m : Int) := by omega
      have i3 : (m : Int) < (n : Int) + 1 := by omega
      have i4 : (k : Int) < (m : Int) := by omega
      generalize hp : zs.getD k 0 = p at x1
      generalize hq : zs.getD m 0 = q at x2
      have Hp := Lib.hid hp
      have Hq := Lib.hid hq
      obtain ⟨v', hy⟩ := cell?_setCell_some (w := wr.drew) (p := ⟨g, k, none⟩) (x := .int .i64 q) (q := ⟨g, m, none⟩) (v := .int .i64 q) x2
      clear hv hz hown hb hkm hp hq
      go_wp2
      go_region
      go_wp2
      go_roundw
      case rel =>
        have hkm := Hkm.out
        have hz := Hz.out
        refine ⟨k + 1, m - 1, (zs.set k q).set m p, by omega, by omega, by go_num, by go_num, by simp [hz], fun t ht => ?_, ?_, ((Hb.out.setCell hbase _).setCell hbase _).drew⟩
        · rw [getD_set (by simp; omega), getD_set (by omega)]
          have h1 := Hv.out t ht
          have h2 := Hv.out k (by omega)
          have h3 := Hv.out m (by omega)
          rw [Hp.out, if_neg (by omega)] at h2
          rw [Hq.out, if_neg (by omega)] at h3
          by_cases e1 : t = m
          · rw [if_pos e1, if_pos (by omega), h2]
            congr 1
            omega
          · rw [if_neg e1]
            by_cases e2 : t = k
            · rw [if_pos e2, if_pos (by omega), h3]
              congr 1
              omega
            · rw [if_neg e2, h1]
              by_cases e3 : t < k ∨ m < t
              · rw [if_pos e3, if_pos (by omega)]
              · rw [if_neg e3, if_neg (by omega)]
        · rw [← cellsI_set, ← cellsI_set]
          exact own_drew (World.ownsRow.stored (Ho.out.stored _ _).1 _ _).1
      case measure => simp [intOf]; omega
    · have i4 : ¬ (k : Int) < (m : Int) := by omega
      have e : zs = xs.reverse := rev_pairs (by rw [hz, Hn.out]) (fun t ht => by
        have hl := Hn.out
        rw [hv t (by omega), show xs.length - 1 - t = n - t from by omega]
        split
        · rfl
        · rw [show n - t = t from by omega])
      subst e
      clear hv hz
      go_wp2
      go_end0
      exact ⟨rfl, hown, hb⟩

set_option maxRecDepth 100000 in
set_option maxHeartbeats 1000000 in
theorem c_implTurn (A : Option Addr) (c : Nat) (xs : List Int) (w : World) (hr : RdI w A xs) (hl : xs.length ≤ 1048576) :
    Calls Try.prog 64 #[.slice A xs.length c] w (RetI w (turnHL xs) (chainB xs)) := by
  have con := Lib.hid (c_implIsChain A c xs w hr (by omega))
  cases hc : chainB xs
  · have e1 : turnHL xs = [] := by simp [turnHL, hc]
    rw [e1]
    rw [hc] at con
    clear e1 hc hr
    go_enter Try.func64, Try.ntmps64
    go_wp2_with (go_at_call 70; refine con.out.mono ?_; rintro e w1 ⟨rfl, hb1⟩)
    go_ret2
    exact ⟨none, 0, rfl, World.ownsRow_nil _ _ _ _, hb1⟩
  · have e1 : turnHL xs = xs.reverse := by simp [turnHL, hc]
    have hpos := (chain_len hc).1
    have conC := Lib.hid (fun W (hb : Below w.heap.size w W) => c_clone A c xs W (hr.below hb) hl (by omega))
    have conR := Lib.hid (fun W base A' c' ho => c_reverse base c' A' xs W (by omega) hl ho)
    rw [e1]
    rw [hc] at con
    have Hlen := Lib.hid (by simp : xs.reverse.length = xs.length)
    clear e1 hc hr
    go_enter Try.func64, Try.ntmps64
    go_wp2_with (first | (go_at_call 70; refine con.out.mono ?_; rintro e w1 ⟨rfl, hb1⟩) | (go_at_call 128; refine (conC.out _ hb1).mono ?_; rintro e w2 ⟨A2, c2, rfl, ho2, hb2⟩) | (go_at_call 138; refine (conR.out _ _ _ _ ho2).mono ?_; rintro e w3 ⟨rfl, ho3, hb3⟩))
    go_ret2
    refine ⟨A2, c2, by rw [Hlen.out]; rfl, ?_, ?_⟩
    · rw [Hlen.out]
      exact own_base ho3 hb1.size
    · exact (bstep hb1 hb2).trans (hb3.mono hb1.size)

end Go.Proofs.Ytlnfialfkipdjaa

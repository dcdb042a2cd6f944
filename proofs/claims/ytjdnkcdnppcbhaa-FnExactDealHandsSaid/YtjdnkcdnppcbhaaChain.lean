/- Chains: lists of numbers, and their tiles. -/
import Derived.Test.YtjdnkcdnppcbhaaSet
import Derived.Test.YtjdnkcdnppcbhaaHand
import Derived.RegionTactic
namespace Go.Proofs.Ytjdnkcdnppcbhaa
open Go.RowKit
set_option linter.unusedVariables false

/-- The tile of two numbers. -/
def tile2 (a b : Int) : Int × Int := (min a b, max a b)
/-- The first k tiles of a list of numbers. -/
def tilesTo (xs : List Int) (k : Nat) : List (Int × Int) := (List.range k).map fun i => tile2 (xs.getD i 0) (xs.getD (i + 1) 0)
def tilesC (xs : List Int) : List (Int × Int) := tilesTo xs (xs.length - 1)
theorem tilesTo_len (xs : List Int) (k : Nat) : (tilesTo xs k).length = k := by simp [tilesTo]
theorem tilesC_len (xs : List Int) : (tilesC xs).length = xs.length - 1 := tilesTo_len _ _
theorem tilesTo_zero (xs : List Int) : tilesTo xs 0 = [] := rfl
theorem tilesTo_step {xs : List Int} {k : Nat} (h : k + 1 < xs.length) : tilesTo xs (k + 1) = tilesTo xs k ++ [tile2 (xs[k]'(by omega)) xs[k + 1]] := by
  unfold tilesTo
  rw [List.range_succ, List.map_append]
  simp [List.getD, h, show k < xs.length from by omega]
theorem tilesTo_get (xs : List Int) {k j : Nat} (hj : j < (tilesTo xs k).length) : (tilesTo xs k)[j] = tile2 (xs.getD j 0) (xs.getD (j + 1) 0) := by simp [tilesTo]
theorem tile2_comm (a b : Int) : tile2 a b = tile2 b a := by simp [tile2, Int.min_comm, Int.max_comm]
theorem tile2_good {a b : Int} (ha : numB a = true) (hb : numB b = true) : goodB (tile2 a b).1 (tile2 a b).2 = true := by
  have h : goodB (min a b) (max a b) = true := by
    simp only [numB, goodB, Bool.and_eq_true, decide_eq_true_eq] at *
    omega
  exact h
theorem tile2_eq {a b c d : Int} : tile2 a b = tile2 c d ↔ (a = c ∧ b = d) ∨ (a = d ∧ b = c) := by
  simp only [tile2, Prod.mk.injEq]
  constructor
  · rintro ⟨h1, h2⟩
    simp only [Int.min_def, Int.max_def] at h1 h2
    split at h1 <;> split at h1 <;> split at h2 <;> omega
  · rintro (⟨rfl, rfl⟩ | ⟨rfl, rfl⟩)
    · simp
    · simp [Int.min_comm, Int.max_comm]
/-- A list of numbers is a chain. -/
def chainP (xs : List Int) : Prop := 1 ≤ xs.length ∧ xs.length ≤ 56 ∧ (∀ x ∈ xs, numB x = true) ∧ (tilesC xs).Nodup
instance (xs : List Int) : Decidable (chainP xs) := by unfold chainP; infer_instance
def chainB (xs : List Int) : Bool := decide (chainP xs)
theorem numB_getD {xs : List Int} (hg : ∀ x ∈ xs, numB x = true) (i : Nat) : numB (xs.getD i 0) = true := by
  rcases Nat.lt_or_ge i xs.length with h | h
  · rw [List.getD_eq_getElem?_getD, List.getElem?_eq_getElem h]
    exact hg _ (List.getElem_mem h)
  · rw [List.getD_eq_getElem?_getD, List.getElem?_eq_none h]
    rfl
theorem tilesTo_good {xs : List Int} (hg : ∀ x ∈ xs, numB x = true) (k : Nat) : ∀ t ∈ tilesTo xs k, goodB t.1 t.2 = true := by
  intro t ht
  obtain ⟨i, _, rfl⟩ := List.mem_map.1 ht
  exact tile2_good (numB_getD hg _) (numB_getD hg _)
theorem nodup_len : ∀ (xs ys : List (Int × Int)), xs.Nodup → (∀ x ∈ xs, x ∈ ys) → xs.length ≤ ys.length
  | [], _, _, _ => by simp
  | x :: xs, ys, hn, hs => by
    have hx := hs x (by simp)
    rw [List.nodup_cons] at hn
    have := nodup_len xs (ys.erase x) hn.2 (fun z hz => (List.mem_erase_of_ne (fun e : z = x => hn.1 (e ▸ hz))).2 (hs z (by simp [hz])))
    rw [List.length_erase_of_mem hx] at this
    have := List.length_pos_of_mem hx
    simp only [List.length_cons]
    omega
theorem set_mem9 : ∀ a b : Fin 10, a.1 ≤ b.1 → ((a.1 : Int), (b.1 : Int)) ∈ setL 9 := by decide +kernel
theorem set_len9 : (setL 9).length = 55 := by decide +kernel
theorem good_mem9 {t : Int × Int} (h : goodB t.1 t.2 = true) : t ∈ setL 9 := by
  obtain ⟨p, q⟩ := t
  simp only [goodB, Bool.and_eq_true, decide_eq_true_eq] at h
  obtain ⟨a, ha, rfl⟩ := numB_nat h.1
  obtain ⟨b, hb, rfl⟩ := numB_nat h.2.1
  exact set_mem9 ⟨a, by omega⟩ ⟨b, by omega⟩ (by have := h.2.2; show a ≤ b; omega)
theorem good_len {ts : List (Int × Int)} (hg : ∀ t ∈ ts, goodB t.1 t.2 = true) (hn : ts.Nodup) : ts.length ≤ 55 := by
  have := nodup_len ts (setL 9) hn (fun t ht => good_mem9 (hg t ht))
  rw [set_len9] at this
  exact this
theorem chain_good {xs : List Int} (h0 : 1 ≤ xs.length) (hg : ∀ x ∈ xs, numB x = true) (hn : (tilesC xs).Nodup) : chainB xs = true := by
  have := good_len (tilesTo_good hg (xs.length - 1)) hn
  rw [tilesTo_len] at this
  exact decide_eq_true ⟨h0, by omega, hg, hn⟩
theorem chain_hand {xs : List Int} (h : chainB xs = true) : handB (tilesC xs) = true := by
  have h : chainP xs := of_decide_eq_true h
  exact decide_eq_true ⟨by rw [tilesC_len]; have := h.2.1; omega, tilesTo_good h.2.2.1 _, h.2.2.2⟩
theorem chain_len {xs : List Int} (h : chainB xs = true) : 1 ≤ xs.length ∧ xs.length ≤ 56 := by
  have h : chainP xs := of_decide_eq_true h
  exact ⟨h.1, h.2.1⟩
theorem chain_num {xs : List Int} (h : chainB xs = true) : ∀ x ∈ xs, numB x = true := by
  have h : chainP xs := of_decide_eq_true h
  exact h.2.2.1
theorem chain_nodup {xs : List Int} (h : chainB xs = true) : (tilesC xs).Nodup := by
  have h : chainP xs := of_decide_eq_true h
  exact h.2.2.2
theorem chain_empty {xs : List Int} (h : xs.length = 0) : chainB xs = false := decide_eq_false fun hp => by have := hp.1; omega
theorem chain_long {xs : List Int} (h : 56 < xs.length) : chainB xs = false := decide_eq_false fun hp => by have := hp.2.1; omega
theorem chain_bad {xs : List Int} {k : Nat} (hk : k < xs.length) (h : numB xs[k] = false) : chainB xs = false :=
  decide_eq_false fun hp => by have := hp.2.2.1 _ (List.getElem_mem hk); rw [h] at this; cases this
theorem chain_bad' {xs : List Int} (h : ¬ ∀ x ∈ xs, numB x = true) : chainB xs = false := decide_eq_false fun hp => h hp.2.2.1
/-- A tile that comes twice. -/
theorem chain_twice {xs : List Int} {k : Nat} (hk : k + 1 < xs.length) (h : tile2 (xs[k]'(by omega)) xs[k + 1] ∈ tilesTo xs k) : chainB xs = false := decide_eq_false fun hp => by
  have hn := hp.2.2.2
  have hs : (tilesTo xs (k + 1)).Sublist (tilesC xs) := by
    unfold tilesC tilesTo
    refine List.Sublist.map _ ?_
    exact List.range_sublist.2 (by omega)
  have h2 := hn.sublist hs
  rw [tilesTo_step hk, List.nodup_append] at h2
  exact h2.2.2 _ h _ (by simp) rfl
theorem chain_hand' {xs : List Int} (h0 : 1 ≤ xs.length) (h1 : xs.length ≤ 56) (hg : ∀ x ∈ xs, numB x = true) : handB (tilesC xs) = chainB xs := by
  rw [Bool.eq_iff_iff]
  exact ⟨fun h => decide_eq_true ⟨h0, h1, hg, (of_decide_eq_true h : handP _).2.2⟩, chain_hand⟩
theorem nodup_step {xs : List Int} {k : Nat} (hk : k + 1 < xs.length) (hn : (tilesTo xs k).Nodup) (h : tile2 (xs[k]'(by omega)) xs[k + 1] ∉ tilesTo xs k) : (tilesTo xs (k + 1)).Nodup := by
  rw [tilesTo_step hk, List.nodup_append]
  exact ⟨hn, by simp, fun a ha b hb => by rw [List.mem_singleton.1 hb]; rintro rfl; exact h ha⟩

theorem own_cap {w : World} {base e size n c : Nat} {A : Option Addr} {cs : List Value} (h : w.ownsRow base e size (.slice A n c) n cs) : n ≤ c := by
  obtain ⟨_, ⟨hv, hn⟩ | ⟨g, cap, cur, hv, _, _, hc, _⟩⟩ := h
  · omega
  · injection hv with h1 h2 h3
    omega

theorem belowN {B : Nat} {a w : World} (h : Below B a w) (n : Nat) : Below B a (w.drewN n) := h.trans ⟨rfl, rfl, rfl, Nat.le_refl _, fun _ _ => rfl⟩
theorem own_drew {w : World} {base e size n : Nat} {v : Value} {cs : List Value} (h : w.ownsRow base e size v n cs) : w.drew.ownsRow base e size v n cs := h
theorem g1d {w : World} (a : Addr) {v : Value} (h : w.cell? a = some v) : w.drew.cell? a = some v := h

/-- One tile appended, at a step of a region that draws its order. -/
theorem step_append_tile {w : World} {ops : Array Oper} {o : Oper} {a : Act} {K : Act → World → Prop} {Q : Exit → Act → World → Prop} {E : Prop} (hgd : o.guard = none) (s x : Operand)
    (ho : o.op = .call { callee := .builtin .append, args := #[s, x], argTypes := #[28, 28] }) (base : Nat) (v : Value) (ts : List (Int × Int)) (hs : a.eval s = v)
    (hown : w.ownsRow base 82 2 v ts.length (cellsT ts)) (p q : Int) (g : Nat) (hx : a.eval x = .slice (some ⟨g, 0, none⟩) 1 1)
    (h0 : w.cell? ⟨g, 0, none⟩ = some (.int .i64 p)) (h1 : w.cell? ⟨g, 1, none⟩ = some (.int .i64 q)) (hlen : ts.length ≤ 4194304) (hbase : base ≤ w.heap.size)
    (h : ∀ A c w', w'.ownsRow base 82 2 (.slice A (ts.length + 1) c) (ts.length + 1) (cellsT (ts ++ [(p, q)])) → w.grownBy w' v.ownBlock → K (a.put o.dst (.slice A (ts.length + 1) c)) w') :
    if Region.wanted o (yielded ops a.tmps) = true then Oper.wp Try.prog o a w K Q else E := by
  have hw : Region.wanted o (yielded ops a.tmps) = true := by simp [Region.wanted, hgd]
  rw [if_pos hw]
  obtain ⟨i0, hi, hz0, hz1, hz2⟩ := info_parts Try.info_tile
  refine wp_append_own w s x 28 ho base 82 i0 _ 2 16 Try.underlying28 hi hz0 hz1 hz2 rfl (by decide) v ts.length (cellsT ts) hs hown ⟨g, 0, none⟩ 1 1 [.int .i64 p, .int .i64 q] hx rfl ?_ ?_ (by unfold maxLen; omega) (by omega) hbase ?_
  · intro j u hj
    match j, hj with
    | 0, hj => simp at hj; subst hj; simpa [Addr.add] using h0
    | 1, hj => simp at hj; subst hj; simpa [Addr.add] using h1
  · intro u hu
    simp at hu
    rcases hu with rfl | rfl <;> rfl
  · intro v' w' h1 h2 _
    have h1' := h1
    obtain ⟨_, ⟨_, hn⟩ | ⟨g', cap, cur, rfl, _⟩⟩ := h1'
    · omega
    refine h _ _ w' ?_ h2
    rw [cellsT_append]
    exact h1
/-- One number appended, at a step of a region that draws its order. -/
theorem step_append_int {w : World} {ops : Array Oper} {o : Oper} {a : Act} {K : Act → World → Prop} {Q : Exit → Act → World → Prop} {E : Prop} (hgd : o.guard = none) (s x : Operand)
    (ho : o.op = .call { callee := .builtin .append, args := #[s, x], argTypes := #[23, 23] }) (base : Nat) (v : Value) (xs : List Int) (hs : a.eval s = v)
    (hown : w.ownsRow base 3 1 v xs.length (cellsI xs)) (p : Int) (g : Nat) (hx : a.eval x = .slice (some ⟨g, 0, none⟩) 1 1)
    (h0 : w.cell? ⟨g, 0, none⟩ = some (.int .i64 p)) (hlen : xs.length ≤ 4194304) (hbase : base ≤ w.heap.size)
    (h : ∀ A c w', w'.ownsRow base 3 1 (.slice A (xs.length + 1) c) (xs.length + 1) (cellsI (xs ++ [p])) → w.grownBy w' v.ownBlock → K (a.put o.dst (.slice A (xs.length + 1) c)) w') :
    if Region.wanted o (yielded ops a.tmps) = true then Oper.wp Try.prog o a w K Q else E := by
  have hw : Region.wanted o (yielded ops a.tmps) = true := by simp [Region.wanted, hgd]
  rw [if_pos hw]
  obtain ⟨i0, hi, hz0, hz1, hz2⟩ := info_parts Try.info_int
  refine wp_append_own w s x 23 ho base 3 i0 _ 1 8 Try.underlying23 hi hz0 hz1 hz2 rfl (by decide) v xs.length (cellsI xs) hs (by simpa using hown) ⟨g, 0, none⟩ 1 1 [.int .i64 p] hx rfl ?_ ?_ (by unfold maxLen; omega) (by omega) hbase ?_
  · intro j u hj
    match j, hj with
    | 0, hj => simp at hj; subst hj; simpa [Addr.add] using h0
  · intro u hu
    simp at hu
    rcases hu with rfl; rfl
  · intro v' w' h1 h2 _
    have h1' := h1
    obtain ⟨_, ⟨_, hn⟩ | ⟨g', cap, cur, rfl, _⟩⟩ := h1'
    · omega
    refine h _ _ w' ?_ h2
    rw [cellsI_append]
    exact h1

set_option maxRecDepth 100000 in
set_option maxHeartbeats 1000000 in
theorem c_l1All (A : Option Addr) (c : Nat) (xs : List Int) (w : World) (hr : RdI w A xs) (hl : xs.length ≤ 9223372036854775807) :
    Calls Try.prog 87 #[.slice A xs.length c, .int .i64 0, .int .i64 9] w fun e w' => e = .returned (.bool (decide (∀ x ∈ xs, numB x = true))) ∧ Below w.heap.size w w' := by
  go_enter Try.func87, Try.ntmps87
  go_wp2
  go_loopw [11] (fun i wr => ∃ k : Nat, k ≤ xs.length ∧ i = .int .i64 k ∧ (∀ j (hj : j < xs.length), j < k → numB xs[j] = true) ∧ Below w.heap.size w wr) (fun i _ => xs.length - (intOf i).toNat)
  case atStart => exact ⟨0, Nat.zero_le _, rfl, by omega, Below.refl _ _⟩
  case round =>
    obtain ⟨k, hk, rfl, hn, hb⟩ := hrel
    by_cases hlt : k < xs.length
    · obtain ⟨bk, off, rfl, hbk, hc⟩ := hr.at_ hlt
      have g1 := (hb.cell (p := ⟨bk, _, none⟩) hbk).trans (hc k hlt)
      have Hn := Lib.hid hn
      have Hb := Lib.hid hb
      have hz := hb.size
      clear hc hr hn hb
      have con : ∀ W, Calls Try.prog 79 #[.int .i64 xs[k], .int .i64 0, .int .i64 9] W fun e w' => e = .returned (.bool (numB xs[k])) ∧ W = w' := fun W => c_l1In xs[k] 0 9 W
      by_cases hg : numB xs[k] = true
      · go_wp2_with (go_at_call 79; refine (con _).mono ?_; rintro e w' ⟨rfl, rfl⟩)
        go_roundw
        case rel =>
          refine ⟨k + 1, by omega, by go_num, fun j hj hjk => ?_, Hb.out⟩
          rcases Nat.lt_succ_iff_lt_or_eq.1 hjk with h | rfl
          · exact Hn.out j hj h
          · exact hg
        case measure => simp [intOf]; omega
      · have hg' : numB xs[k] = false := (Bool.not_eq_true _).mp hg
        have Hd := Lib.hid (decide_eq_false (fun h => by have := h _ (List.getElem_mem hlt); rw [hg'] at this; cases this) : decide (∀ x ∈ xs, numB x = true) = false)
        clear hg
        go_wp2_with (go_at_call 79; refine (con _).mono ?_; rintro e w' ⟨rfl, rfl⟩)
        go_ret
        exact ⟨ret_b Hd.out.symm, Hb.out⟩
    · go_wp2
      go_ret
      refine ⟨ret_b ?_, hb⟩
      symm
      exact decide_eq_true fun x hx => by
        obtain ⟨j, hj, rfl⟩ := List.getElem_of_mem hx
        exact hn j hj (by omega)

set_option maxRecDepth 100000 in
set_option maxHeartbeats 1000000 in
theorem c_haTiles (A : Option Addr) (c : Nat) (xs : List Int) (w : World) (hr : RdI w A xs) (hl : xs.length ≤ 1048576) :
    Calls Try.prog 68 #[.slice A xs.length c] w (RetL w (tilesC xs)) := by
  go_enter Try.func68, Try.ntmps68
  go_wp2
  go_loopw [3, 4] (fun v i wr => ∃ (k : Nat) (A' : Option Addr) (c' : Nat), k ≤ xs.length - 1 ∧ i = .int .i64 (k + 1) ∧ v = .slice A' (tilesTo xs k).length c' ∧ wr.ownsRow w.heap.size 82 2 (.slice A' (tilesTo xs k).length c') (tilesTo xs k).length (cellsT (tilesTo xs k)) ∧ Below w.heap.size w wr) (fun _ i _ => xs.length - (intOf i).toNat)
  case atStart => exact ⟨0, none, 0, Nat.zero_le _, rfl, rfl, World.ownsRow_nil _ _ _ _, Below.refl _ _⟩
  case round =>
    obtain ⟨k, A', c', hk, rfl, rfl, hown, hb⟩ := hrel
    have hpl : (tilesTo xs k).length ≤ xs.length := by rw [tilesTo_len]; omega
    by_cases hlt : k + 1 < xs.length
    · obtain ⟨bk, off, rfl, hbk, hc⟩ := hr.at_ hlt
      have g1 := (hb.cell (p := ⟨bk, _, none⟩) hbk).trans (hc k (by omega))
      have g2 := (hb.cell (p := ⟨bk, _, none⟩) hbk).trans (hc (k + 1) hlt)
      have Hb := Lib.hid hb
      have Ho := Lib.hid hown
      have hsz := hb.size
      have hst := Lib.hid (tilesTo_step hlt)
      have iw : IntKind.i64.wrap ((k : Int) + 1 - 1) = (k : Int) := by rw [IntWalk.i64_in _ (by omega)]; omega
      have iw' : IntKind.i64.wrap (k : Int) = (k : Int) := IntWalk.i64_in _ (by omega)
      have i0 : (0 : Int) ≤ (k : Int) := by omega
      have i1 : (k : Int) < (xs.length : Int) := by omega
      have i2 : (0 : Int) ≤ (k : Int) + 1 := by omega
      have i3 : (k : Int) + 1 < (xs.length : Int) := by omega
      clear hc hr hb hown
      go_wp2
      go_region_held3 (fun w' => w'.cell? ⟨bk, off + k, none⟩ = some (.int .i64 (xs[k]'(by omega))) ∧ w'.cell? ⟨bk, off + (k + 1), none⟩ = some (.int .i64 xs[k + 1])) (first | exact ⟨z1, z2⟩ | exact ⟨y1, y2⟩ | go_keep) (first | (go_at_call 89; refine (c_tiOf _ _ _).mono ?_; rintro e w2 ⟨rfl, hb2⟩; have y1 := keepc hb2 (g1d _ g1); have y2 := keepc hb2 (g1d _ g2); have hz2 : wr.heap.size ≤ w2.heap.size := hb2.size; have Ho2 := Lib.hid ((own_keep (own_drew Ho.out) hb2).alloc (.cells #[.int .i64 (min (xs[k]'(by omega)) xs[k + 1]), .int .i64 (max (xs[k]'(by omega)) xs[k + 1])] 82))) | (refine step_append_tile rfl (.tmp 11) (.tmp 22) rfl w.heap.size (.slice A' (tilesTo xs k).length c') (tilesTo xs k) rfl Ho2.out (min (xs[k]'(by omega)) xs[k + 1]) (max (xs[k]'(by omega)) xs[k + 1]) w2.heap.size rfl ?ca ?cb ?cc ?cd ?ce; (case ca => simp); (case cb => simp); (case cc => omega); (case cd => rw [World.size_alloc]; omega); intro A2 c2 w3 hown3 hg3; have hbz := below_of_grown hg3 (B := w.heap.size) (by rw [World.size_alloc]; omega) (fun g hg => (Ho2.out.lt g hg).1); have z1 : w3.cell? ⟨bk, off + k, none⟩ = some (.int .i64 (xs[k]'(by omega))) := (hbz.cell (p := ⟨bk, off + k, none⟩) hbk).trans (keepc ((Below.refl _ w2).alloc (Nat.le_refl _) _) y1); have z2 : w3.cell? ⟨bk, off + (k + 1), none⟩ = some (.int .i64 xs[k + 1]) := (hbz.cell (p := ⟨bk, off + (k + 1), none⟩) hbk).trans (keepc ((Below.refl _ w2).alloc (Nat.le_refl _) _) y2)))
      go_wp2
      go_roundw
      case rel =>
        refine ⟨k + 1, A2, c2, by omega, by go_num, by rw [hst.out, List.length_append]; rfl, ?_, ?_⟩
        · rw [hst.out, List.length_append]; exact hown3
        · have hb3 : Below w.heap.size w w2 := bstep Hb.out.drew hb2
          have hz3 := hb3.size
          exact Below.grown (by go_grown) hg3 (by simp; omega) (fun g hg => (Ho2.out.lt g hg).1)
      case measure => simp [intOf]; omega
    · have e : tilesTo xs k = tilesC xs := by unfold tilesC; congr 1; omega
      rw [e] at hown ⊢
      go_wp2
      go_ret
      exact ⟨A', c', rfl, hown, hb⟩

set_option maxRecDepth 100000 in
set_option maxHeartbeats 1000000 in
theorem c_haGood (A : Option Addr) (c : Nat) (xs : List Int) (w : World) (hr : RdI w A xs) (hl : xs.length ≤ 9223372036854775807) :
    Calls Try.prog 66 #[.slice A xs.length c] w fun e w' => e = .returned (.bool (chainB xs)) ∧ Below w.heap.size w w' := by
  have conA := c_l1All A c xs w hr hl
  by_cases h0 : (1 : Int) ≤ xs.length
  · by_cases h1 : (xs.length : Int) ≤ 56
    · by_cases hg : ∀ x ∈ xs, numB x = true
      · have hB := chain_hand' (by omega) (by omega) hg
        have hx1 := tilesC_len xs
        have hd : decide (∀ x ∈ xs, numB x = true) = true := decide_eq_true hg
        rw [hd] at conA
        have conT := Lib.hid (fun W (hb : Below w.heap.size w W) => c_haTiles A c xs W (hr.below hb) (by omega))
        obtain ⟨ts, hts⟩ : ∃ ts, ts = tilesC xs := ⟨_, rfl⟩
        rw [← hts] at hB conT hx1
        have conH := Lib.hid (fun W A' c' (hr' : RdT W A' ts) (hc : ts.length ≤ c') => c_tiHand A' c' ts W hr' (by omega) hc)
        have ConA := Lib.hid conA
        have HB := Lib.hid hB
        clear hd hg hr hts conA hB hx1
        go_enter Try.func66, Try.ntmps66
        go_wp2_with (first | (go_at_call 79; refine (c_l1In _ _ _ _).mono ?_; rintro e w' ⟨rfl, rfl⟩) | (go_at_call 87; refine ConA.out.mono ?_; rintro e w1 ⟨rfl, hb1⟩) | (go_at_call 68; refine (conT.out _ hb1).mono ?_; rintro e w2 ⟨A2, c2, rfl, ho2, hb2⟩) | (go_at_call 114; refine (conH.out _ _ _ (RdT.of_own ho2) (own_cap ho2)).mono ?_; rintro e w3 ⟨rfl, hb3⟩))
        go_ret
        exact ⟨ret_b HB.out, bstep (bstep hb1 hb2) hb3⟩
      · have hB := chain_bad' hg
        have hd : decide (∀ x ∈ xs, numB x = true) = false := decide_eq_false hg
        rw [hd] at conA
        have ConA := Lib.hid conA
        have HB := Lib.hid hB
        clear hd hg hr conA hB
        go_enter Try.func66, Try.ntmps66
        go_wp2_with (first | (go_at_call 79; refine (c_l1In _ _ _ _).mono ?_; rintro e w' ⟨rfl, rfl⟩) | (go_at_call 87; refine ConA.out.mono ?_; rintro e w1 ⟨rfl, hb1⟩))
        go_ret
        exact ⟨ret_b HB.out.symm, hb1⟩
    · have HB := Lib.hid (chain_long (xs := xs) (by omega))
      clear conA hr
      go_enter Try.func66, Try.ntmps66
      go_wp2_with (first | (go_at_call 79; refine (c_l1In _ _ _ _).mono ?_; rintro e w' ⟨rfl, rfl⟩))
      go_ret
      exact ⟨ret_b HB.out.symm, Below.refl _ _⟩
  · have HB := Lib.hid (chain_empty (xs := xs) (by omega))
    clear conA hr
    go_enter Try.func66, Try.ntmps66
    go_wp2_with (first | (go_at_call 79; refine (c_l1In _ _ _ _).mono ?_; rintro e w' ⟨rfl, rfl⟩))
    go_ret
    exact ⟨ret_b HB.out.symm, Below.refl _ _⟩

/-- The array of marks at block g holds just the marks of a list of tiles. -/
def Marks (g : Nat) (ts : List (Int × Int)) (w : World) : Prop :=
  (∀ a b : Nat, a ≤ 9 → b ≤ 9 → w.cell? ⟨g, a * 10 + b, none⟩ = some (.bool (decide (tile2 a b ∈ ts)))) ∧ ∀ m, w.frozen? ⟨g, m, none⟩ = false

set_option maxRecDepth 100000 in
set_option maxHeartbeats 2000000 in
theorem c_marksSet (g a b : Nat) (ha : a ≤ 9) (hb : b ≤ 9) (v u1 u2 : Bool) (w : World) (h1 : w.cell? ⟨g, a * 10 + b, none⟩ = some (.bool u1)) (h2 : w.cell? ⟨g, b * 10 + a, none⟩ = some (.bool u2)) (hf : ∀ m, w.frozen? ⟨g, m, none⟩ = false) :
    Calls Try.prog 119 #[.pointer (some ⟨g, 0, none⟩), .int .i64 a, .int .i64 b, .bool v] w fun e w' => e = .returned (.tuple #[]) ∧ w' = ((w.setCell ⟨g, a * 10 + b, none⟩ (.bool v)).setCell ⟨g, b * 10 + a, none⟩ (.bool v)).drew := by
  have i0 : (0 : Int) ≤ (a : Int) := by omega
  have i1 : (a : Int) < 10 := by omega
  have i2 : (0 : Int) ≤ (b : Int) := by omega
  have i3 : (b : Int) < 10 := by omega
  have f1 := hf (a * 10 + b)
  have f2 := hf (b * 10 + a)
  obtain ⟨v', hy⟩ := cell?_setCell_some (w := w.drew) (p := ⟨g, a * 10 + b, none⟩) (x := .bool v) (q := ⟨g, b * 10 + a, none⟩) (v := .bool u2) h2
  obtain ⟨v2, hy2⟩ := cell?_setCell_some (w := w) (p := ⟨g, a * 10 + b, none⟩) (x := .bool v) (q := ⟨g, b * 10 + a, none⟩) (v := .bool u2) h2
  go_enter Try.func119, Try.ntmps119
  go_wp2
  go_region
  all_goals
    go_end0
    exact ⟨rfl, rfl⟩
end Go.Proofs.Ytjdnkcdnppcbhaa

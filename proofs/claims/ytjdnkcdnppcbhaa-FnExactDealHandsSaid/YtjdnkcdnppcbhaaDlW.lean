/- Hands dealt: what both functions keep while they deal, and what they give back. -/
import Derived.Test.YtjdnkcdnppcbhaaDealM
import Derived.Test.YtjdnkcdnppcbhaaBx2
import Derived.Test.YtjdnkcdnppcbhaaPzB
import Derived.Test.YtjdnkcdnppcbhaaPzM
import Derived.Maps.AppendAt
namespace Go.Proofs.Ytjdnkcdnppcbhaa
open Go.RowKit
set_option linter.unusedVariables false

def dlEach (n : Nat) (e : Int) : Bool := decide (0 ≤ e) && decide (2 * e ≤ ((setL n).length : Int))
def dealB (h e z : Int) : Bool := numB h && (dlEach h.toNat e && (decide (0 ≤ z) && decide (z ≤ 9999)))
def dlS (n : Nat) (z : Int) (k : Nat) : Dl := dlN { left := setL n, z := z, h0 := [], h1 := [] } k
def dealT0 (h e z : Int) : List (Int × Int) := if dealB h e z then sortL (dlS h.toNat z (2 * e).toNat).h0 else []
def dealT1 (h e z : Int) : List (Int × Int) := if dealB h e z then sortL (dlS h.toNat z (2 * e).toNat).h1 else []
theorem set_facts9 : ∀ n : Fin 10, handB (setL n.1) = true := by decide +kernel
theorem set_hand9 {n : Nat} (h : n ≤ 9) : handB (setL n) = true := set_facts9 ⟨n, by omega⟩
theorem tri_facts : ∀ n : Fin 10, ((n.1 : Int) + 1) * ((n.1 : Int) + 2) ≤ 110 ∧ 2 ≤ ((n.1 : Int) + 1) * ((n.1 : Int) + 2) ∧ (((n.1 : Int) + 1) * ((n.1 : Int) + 2)).tdiv 2 = ((setL n.1).length : Int) ∧ (setL n.1).length ≤ 55 ∧ 3 ≤ (setL n.1).length + 2 := by decide +kernel
theorem dlStep_left (k : Nat) (d : Dl) : (dlStep k d).left = d.left.eraseIdx (dlAt d) := rfl
theorem dlStep_z (k : Nat) (d : Dl) : (dlStep k d).z = dlZ d.z := rfl
theorem dlStep_ev0 {k : Nat} (h : k % 2 = 0) (d : Dl) (hk : dlAt d < d.left.length) : (dlStep k d).h0 = d.h0 ++ [d.left[dlAt d]] := by
  show (if k % 2 = 0 then d.h0 ++ [d.left.getD (dlAt d) (0, 0)] else d.h0) = _
  rw [if_pos h, List.getD_eq_getElem?_getD, List.getElem?_eq_getElem hk]
  rfl
theorem dlStep_ev1 {k : Nat} (h : k % 2 = 0) (d : Dl) : (dlStep k d).h1 = d.h1 := if_pos h
theorem dlStep_od0 {k : Nat} (h : ¬ k % 2 = 0) (d : Dl) : (dlStep k d).h0 = d.h0 := if_neg h
theorem dlStep_od1 {k : Nat} (h : ¬ k % 2 = 0) (d : Dl) (hk : dlAt d < d.left.length) : (dlStep k d).h1 = d.h1 ++ [d.left[dlAt d]] := by
  show (if k % 2 = 0 then d.h1 else d.h1 ++ [d.left.getD (dlAt d) (0, 0)]) = _
  rw [if_neg h, List.getD_eq_getElem?_getD, List.getElem?_eq_getElem hk]
  rfl
theorem dlN_z (d : Dl) (h : 0 ≤ d.z ∧ d.z ≤ 10006) : ∀ (k : Nat), 0 ≤ (dlN d k).z ∧ (dlN d k).z ≤ 10006
  | 0 => h
  | k + 1 => dlZ_bd _
theorem erase_perm : ∀ (ts : List (Int × Int)) (k : Nat) (hk : k < ts.length), (ts[k] :: ts.eraseIdx k).Perm ts
  | x :: xs, 0, _ => List.Perm.refl _
  | x :: xs, k + 1, hk => by
    have hk2 : k < xs.length := by simpa using hk
    exact (List.Perm.swap x xs[k] (xs.eraseIdx k)).trans (List.Perm.cons x (erase_perm xs k hk2))
theorem dlStep_perm (k : Nat) (d : Dl) (hk : dlAt d < d.left.length) : ((dlStep k d).h0 ++ (dlStep k d).h1 ++ (dlStep k d).left).Perm (d.h0 ++ d.h1 ++ d.left) := by
  have hp := erase_perm d.left _ hk
  rw [dlStep_left]
  refine List.Perm.trans ?_ (List.Perm.append_left _ hp)
  by_cases h : k % 2 = 0
  · rw [dlStep_ev0 h d hk, dlStep_ev1 h]
    refine List.perm_iff_count.2 fun a => ?_
    simp only [List.count_append, List.count_cons, List.count_nil]
    omega
  · rw [dlStep_od0 h, dlStep_od1 h d hk]
    refine List.perm_iff_count.2 fun a => ?_
    simp only [List.count_append, List.count_cons, List.count_nil]
    omega
theorem dlN_perm (d : Dl) : ∀ (k : Nat), k ≤ d.left.length → ((dlN d k).h0 ++ (dlN d k).h1 ++ (dlN d k).left).Perm (d.h0 ++ d.h1 ++ d.left)
  | 0, _ => List.Perm.refl _
  | k + 1, h => (dlStep_perm k (dlN d k) (dlAt_lt (by rw [dlN_len d k (by omega)]; omega))).trans (dlN_perm d k (by omega))
theorem dlS_len {n : Nat} {z : Int} {k : Nat} (h : k ≤ (setL n).length) : (dlS n z k).left.length = (setL n).length - k := dlN_len _ k h
theorem sub_hand {ts us vs : List (Int × Int)} (h : handB ts = true) (hp : (us ++ vs).Perm ts) : handB us = true := by
  have h1 : handP ts := of_decide_eq_true h
  have hl := hp.length_eq
  rw [List.length_append] at hl
  refine decide_eq_true ⟨by have := h1.1; omega, fun t ht => h1.2.1 t (hp.subset (List.mem_append_left _ ht)), ?_⟩
  exact (List.nodup_append.1 (hp.nodup_iff.2 h1.2.2)).1
theorem dlS_hand0 {n : Nat} (hn : n ≤ 9) {z : Int} {k : Nat} (h : k ≤ (setL n).length) : handB (dlS n z k).h0 = true := by
  have hp : ((dlS n z k).h0 ++ (dlS n z k).h1 ++ (dlS n z k).left).Perm (setL n) := dlN_perm _ k h
  rw [List.append_assoc] at hp
  exact sub_hand (set_hand9 hn) hp
theorem dlS_hand1 {n : Nat} (hn : n ≤ 9) {z : Int} {k : Nat} (h : k ≤ (setL n).length) : handB (dlS n z k).h1 = true := by
  have hp : ((dlS n z k).h0 ++ (dlS n z k).h1 ++ (dlS n z k).left).Perm (setL n) := dlN_perm _ k h
  refine sub_hand (vs := (dlS n z k).h0 ++ (dlS n z k).left) (set_hand9 hn) (List.Perm.trans ?_ hp)
  refine List.perm_iff_count.2 fun a => ?_
  simp only [List.count_append]
  omega
theorem dlS_nodup {n : Nat} (hn : n ≤ 9) (z : Int) (k : Nat) : (dlS n z k).left.Nodup := dlN_nodup _ (of_decide_eq_true (set_hand9 hn) : handP (setL n)).2.2 k
theorem deal_len (h e z : Int) : (dealT0 h e z).length ≤ 55 ∧ (dealT1 h e z).length ≤ 55 := by
  unfold dealT0 dealT1
  cases hb : dealB h e z
  · simp
  · simp only [if_true]
    unfold dealB dlEach at hb
    simp only [Bool.and_eq_true, decide_eq_true_eq] at hb
    obtain ⟨h1, ⟨h2, h3⟩, _⟩ := hb
    obtain ⟨n, hn, rfl⟩ := numB_nat h1
    have hk : (2 * e).toNat ≤ (setL n).length := by
      have : ((n : Int).toNat) = n := rfl
      rw [this] at h3
      omega
    have g0 := dlS_hand0 hn (z := z) hk
    have g1 := dlS_hand1 hn (z := z) hk
    have l0 := sortP_len g0
    have l1 := sortP_len g1
    have m0 := (of_decide_eq_true g0 : handP _).1
    have m1 := (of_decide_eq_true g1 : handP _).1
    exact ⟨by show (sortL (dlS n z (2 * e).toNat).h0).length ≤ 55; omega, by show (sortL (dlS n z (2 * e).toNat).h1).length ≤ 55; omega⟩

/-- Two new slices of tiles, apart, and a bool come back. -/
def RetTT (w : World) (T0 T1 : List (Int × Int)) (ok : Bool) (e : Ending) (w' : World) : Prop :=
  ∃ A0 c0 A1 c1, e = .returned (.tuple #[.slice A0 T0.length c0, .slice A1 T1.length c1, .bool ok]) ∧ w'.ownsRow w.heap.size 82 2 (.slice A0 T0.length c0) T0.length (cellsT T0) ∧ w'.ownsRow w.heap.size 82 2 (.slice A1 T1.length c1) T1.length (cellsT T1) ∧ ApG (.slice A0 T0.length c0) (.slice A1 T1.length c1) ∧ Below w.heap.size w w'

/-- The box of the two rows, the two rows, and the list that loses, no two of them in one block. -/
structure DlW (lo nb : Nat) (w : World) (A9 : Option Addr) (c9 : Nat) (L : List (Int × Int)) (A0 : Option Addr) (c0 : Nat) (H0 : List (Int × Int)) (A1 : Option Addr) (c1 : Nat) (H1 : List (Int × Int)) : Prop where
  bx : Bx2 w nb (.slice A0 H0.length c0) (.slice A1 H1.length c1)
  o9 : w.ownsRow lo 82 2 (.slice A9 L.length c9) L.length (cellsT L)
  o0 : w.ownsRow (nb + 1) 82 2 (.slice A0 H0.length c0) H0.length (cellsT H0)
  o1 : w.ownsRow (nb + 1) 82 2 (.slice A1 H1.length c1) H1.length (cellsT H1)
  a01 : ApG (.slice A0 H0.length c0) (.slice A1 H1.length c1)
  a90 : ApG (.slice A9 L.length c9) (.slice A0 H0.length c0)
  a91 : ApG (.slice A9 L.length c9) (.slice A1 H1.length c1)
  n9 : ∀ g, (Value.slice A9 L.length c9).ownBlock = some g → g ≠ nb

section
variable {lo nb : Nat} {w w' : World} {A9 A0 A1 A : Option Addr} {c9 c0 c1 c : Nat} {L H0 H1 H : List (Int × Int)}
theorem own_base1 {n c : Nat} {A : Option Addr} {ts : List (Int × Int)} (h : w.ownsRow (nb + 1) 82 2 (.slice A n c) n (cellsT ts)) : ∀ g, (Value.slice A n c).ownBlock = some g → g ≠ nb := fun g hg e => by have := (h.lt g hg).1; omega
theorem DlW.keep (h : DlW lo nb w A9 c9 L A0 c0 H0 A1 c1 H1) (hb : Below w.heap.size w w') : DlW lo nb w' A9 c9 L A0 c0 H0 A1 c1 H1 :=
  { h with bx := h.bx.keep hb, o9 := own_keep h.o9 hb, o0 := own_keep h.o0 hb, o1 := own_keep h.o1 hb }
theorem DlW.drew (h : DlW lo nb w A9 c9 L A0 c0 H0 A1 c1 H1) : DlW lo nb w.drew A9 c9 L A0 c0 H0 A1 c1 H1 :=
  { h with bx := h.bx.drew, o9 := h.o9, o0 := h.o0, o1 := h.o1 }
theorem DlW.push0 (h : DlW lo nb w A9 c9 L A0 c0 H0 A1 c1 H1) (own : w'.ownsRow (nb + 1) 82 2 (.slice A H.length c) H.length (cellsT H)) (hg : w.grownBy w' (Value.slice A0 H0.length c0).ownBlock)
    (hat : (Value.slice A H.length c).ownBlock = (Value.slice A0 H0.length c0).ownBlock ∨ (Value.slice A H.length c).ownBlock = some w.heap.size) :
    DlW lo nb (w'.setCell ⟨nb, 0, none⟩ (.slice A H.length c)) A9 c9 L A c H A1 c1 H1 where
  bx := (h.bx.of_block (hg.block nb h.bx.lt (fun e => by have := (h.o0.lt _ e.symm).1; omega))).set0 _
  o9 := own_off2 (h.o9.kept hg h.a90.kept) h.n9
  o0 := own_box own (by omega)
  o1 := own_box (h.o1.kept hg h.a01.symm.kept) (by omega)
  a01 := fun g h1 h2 => by
    rcases hat with e | e
    · exact h.a01 g (e.symm.trans h1) h2
    · have := (h.o1.lt g h2).2; have := Option.some.inj (e.symm.trans h1); omega
  a90 := fun g h1 h2 => by
    rcases hat with e | e
    · exact h.a90 g h1 (e.symm.trans h2)
    · have := (h.o9.lt g h1).2; have := Option.some.inj (e.symm.trans h2); omega
  a91 := h.a91
  n9 := h.n9
theorem DlW.push1 (h : DlW lo nb w A9 c9 L A0 c0 H0 A1 c1 H1) (own : w'.ownsRow (nb + 1) 82 2 (.slice A H.length c) H.length (cellsT H)) (hg : w.grownBy w' (Value.slice A1 H1.length c1).ownBlock)
    (hat : (Value.slice A H.length c).ownBlock = (Value.slice A1 H1.length c1).ownBlock ∨ (Value.slice A H.length c).ownBlock = some w.heap.size) :
    DlW lo nb (w'.setCell ⟨nb, 1, none⟩ (.slice A H.length c)) A9 c9 L A0 c0 H0 A c H where
  bx := (h.bx.of_block (hg.block nb h.bx.lt (fun e => by have := (h.o1.lt _ e.symm).1; omega))).set1 _
  o9 := own_off2 (h.o9.kept hg h.a91.kept) h.n9
  o0 := own_box (h.o0.kept hg h.a01.kept) (by omega)
  o1 := own_box own (by omega)
  a01 := fun g h1 h2 => by
    rcases hat with e | e
    · exact h.a01 g h1 (e.symm.trans h2)
    · have := (h.o0.lt g h1).2; have := Option.some.inj (e.symm.trans h2); omega
  a90 := h.a90
  a91 := fun g h1 h2 => by
    rcases hat with e | e
    · exact h.a91 g h1 (e.symm.trans h2)
    · have := (h.o9.lt g h1).2; have := Option.some.inj (e.symm.trans h2); omega
  n9 := h.n9
/-- Another list, made anew. -/
theorem DlW.anew (h : DlW lo nb w A9 c9 L A0 c0 H0 A1 c1 H1) (hb : Below w.heap.size w w') (hlo : lo ≤ w.heap.size) (own : w'.ownsRow w.heap.size 82 2 (.slice A H.length c) H.length (cellsT H)) : DlW lo nb w' A c H A0 c0 H0 A1 c1 H1 :=
  { bx := h.bx.keep hb, o9 := own_base own hlo, o0 := own_keep h.o0 hb, o1 := own_keep h.o1 hb, a01 := h.a01,
    a90 := fun g h1 h2 => by have := (own.lt g h1).1; have := (h.o0.lt g h2).2; omega,
    a91 := fun g h1 h2 => by have := (own.lt g h1).1; have := (h.o1.lt g h2).2; omega,
    n9 := fun g h1 e => by have := (own.lt g h1).1; have := h.bx.lt; omega }
theorem own_any {A : Option Addr} {n m c : Nat} : (Value.slice A n c).ownBlock = (Value.slice A m c).ownBlock := by cases A <;> rfl
/-- The list loses in place. -/
theorem DlW.lose (h : DlW lo nb w A9 c9 L A0 c0 H0 A1 c1 H1) (hg : w.grownBy w' (Value.slice A9 L.length c9).ownBlock) (own : w'.ownsRow lo 82 2 (.slice A9 H.length c9) H.length (cellsT H)) : DlW lo nb w' A9 c9 H A0 c0 H0 A1 c1 H1 :=
  { bx := h.bx.of_block (hg.block nb h.bx.lt (fun e => h.n9 _ e.symm rfl)), o9 := own, o0 := h.o0.kept hg h.a90.symm.kept, o1 := h.o1.kept hg h.a91.symm.kept, a01 := h.a01, a90 := fun g h1 h2 => h.a90 g (own_any.trans h1) h2, a91 := fun g h1 h2 => h.a91 g (own_any.trans h1) h2, n9 := fun g h1 => h.n9 g (own_any.trans h1) }
end

/-- One tile appended, at a step of a region that draws its order; and where the row lies. -/
theorem step_append_tile_at {w : World} {ops : Array Oper} {o : Oper} {a : Act} {K : Act → World → Prop} {Q : Exit → Act → World → Prop} {E : Prop} (hgd : o.guard = none) (s x : Operand)
    (ho : o.op = .call { callee := .builtin .append, args := #[s, x], argTypes := #[28, 28] }) (base : Nat) (v : Value) (ts : List (Int × Int)) (hs : a.eval s = v)
    (hown : w.ownsRow base 82 2 v ts.length (cellsT ts)) (p q : Int) (g : Nat) (hx : a.eval x = .slice (some ⟨g, 0, none⟩) 1 1)
    (h0 : w.cell? ⟨g, 0, none⟩ = some (.int .i64 p)) (h1 : w.cell? ⟨g, 1, none⟩ = some (.int .i64 q)) (hlen : ts.length ≤ 4194304) (hbase : base ≤ w.heap.size)
    (h : ∀ A c w', w'.ownsRow base 82 2 (.slice A (ts.length + 1) c) (ts.length + 1) (cellsT (ts ++ [(p, q)])) → w.grownBy w' v.ownBlock → ((Value.slice A (ts.length + 1) c).ownBlock = v.ownBlock ∨ (Value.slice A (ts.length + 1) c).ownBlock = some w.heap.size) → K (a.put o.dst (.slice A (ts.length + 1) c)) w') :
    if Region.wanted o (yielded ops a.tmps) = true then Oper.wp Try.prog o a w K Q else E := by
  have hw : Region.wanted o (yielded ops a.tmps) = true := by simp [Region.wanted, hgd]
  rw [if_pos hw]
  obtain ⟨i0, hi, hz0, hz1, hz2⟩ := info_parts Try.info_tile
  obtain ⟨v', w', hr, k2, k3, k4, k5⟩ := run_append_own_at (P := Try.prog) w base 28 o.type 82 i0 _ 2 16 Try.underlying28 hi hz0 hz1 hz2 rfl (by decide) v ts.length (cellsT ts) hown ⟨g, 0, none⟩ 1 1 [.int .i64 p, .int .i64 q] rfl (by
    intro j u hj
    match j, hj with
    | 0, hj => simp at hj; subst hj; simpa [Addr.add] using h0
    | 1, hj => simp at hj; subst hj; simpa [Addr.add] using h1) (by
    intro u hu
    simp at hu
    rcases hu with rfl | rfl <;> rfl) (by unfold maxLen; omega) (by omega) hbase
  unfold Oper.wp execOp
  simp only [ho, resolve, invoke, builtin, Sem.run_bind, Sem.run_pure, Result.andThen_ok, List.map_toArray, List.map_cons, List.map_nil, hs, hx, hr]
  have k2' := k2
  obtain ⟨_, ⟨_, hn⟩ | ⟨g', cap, cur, rfl, _⟩⟩ := k2'
  · omega
  refine h _ _ w' ?_ k3 k5
  rw [cellsT_append]
  exact k2
end Go.Proofs.Ytjdnkcdnppcbhaa

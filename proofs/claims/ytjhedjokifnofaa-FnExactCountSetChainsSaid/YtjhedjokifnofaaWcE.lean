/- A region that draws its order: an operation that yields in whatever world is taken first. In how many ways doubles can be put into a chain: the program's function. The whole chains of a set: the program's function. The whole chains of a set: the specification's function. -/
import Derived.Test.YtjhedjokifnofaaRegR
import Derived.Test.YtjhedjokifnofaaWcX
import Derived.Test.YtjhedjokifnofaaLeasts
import Derived.Test.YtjhedjokifnofaaWcK
import Derived.Test.YtjhedjokifnofaaDoubles
namespace Go.Proofs.Ytjhedjokifnofaa
open Go
set_option linter.unusedVariables false

section
variable {P : Program} {ops : Array Oper} {Q : Exit → Act → World → Prop} {md : Region.Mode} {S : World → Prop} {k0 : Nat}
theorem anyK_free {i : Nat} {oi : Oper} {v : Value} (hi : ops[i]? = some oi) (hsel : ∀ (j : Nat) (o : Oper) cs b, ops[j]? = some o → o.op ≠ .select cs b)
    (hQ : ∀ c a w, Q (.panic c) (a.put oi.dst v) w → Q (.panic c) a w) (hne : k0 ≠ i) :
    ∀ (n : Nat) (ls : Array Bool) (a : Act) (w : World),
      (∀ j oj, ops[j]? = some oj → j ≠ i → ls.getD j true = false → (∀ e ∈ oj.after, Region.binds md e = true → e.on ≠ i) → oi.apart ops oj = true) →
      i ∈ Region.ready md ops ls → YieldsIf P ops (fun _ => True) oi v a → (ls.getD k0 true = false → S w) →
      AnyK P md ops Q k0 S n (ls.setIfInBounds i true) (a.put oi.dst v) w → AnyK P md ops Q k0 S (n + 1) ls a w := by
  intro n
  induction n with
  | zero =>
    intro ls a w _ hr hy hS H
    refine ⟨fun h => (by rw [h] at hr; cases hr), fun j hj => ?_⟩
    by_cases hji : j = i
    · subst hji; exact hy.wpOp hi trivial ⟨fun h => hS (by rwa [getD_set_ne true (Ne.symm hne)] at h), H⟩
    · have := ready_mono hj hji
      rw [H.1] at this
      cases this
  | succ n ih =>
    intro ls a w hfree hr hy hS H
    refine ⟨fun h => (by rw [h] at hr; cases hr), fun j hj => ?_⟩
    by_cases hji : j = i
    · subst hji; exact hy.wpOp hi trivial ⟨fun h => hS (by rwa [getD_set_ne true (Ne.symm hne)] at h), H⟩
    · have h1 := H.2 j (ready_mono hj hji)
      obtain ⟨hjun, oj, hoj, hall⟩ := mem_ready.1 hj
      have hnot := unready hr hj hoj
      have h2 := wpOp_putIf hoj (hfree j oj hoj hji hjun hnot) (fun cs b => hsel i oi cs b hi) (fun cs b => hsel j oj cs b hoj) hQ hy h1
      have hfree' : ∀ k o, ops[k]? = some o → k ≠ i → (ls.setIfInBounds j true).getD k true = false → (∀ e ∈ o.after, Region.binds md e = true → e.on ≠ i) → oi.apart ops o = true := fun k o ho hki hun hno => by
        refine hfree k o ho hki ?_ hno
        by_cases hjk : j = k
        · subst hjk; exact hjun
        · rw [getD_set_ne true hjk] at hun; exact hun
      refine wpOp_mono (fun a' w' h3 => ?_) h2
      have hS' : (ls.setIfInBounds j true).getD k0 true = false → S w' := fun hu => h3.2.1 (by
        rw [Array.setIfInBounds_comm _ _ (Ne.symm hji), getD_set_ne true (Ne.symm hne)]; exact hu)
      refine ⟨hS', ih (ls.setIfInBounds j true) a' w' hfree' (ready_mono hr (Ne.symm hji)) h3.1 hS' ?_⟩
      rw [Array.setIfInBounds_comm _ _ hji]
      exact h3.2.2
/-- An operation that yields in whatever world is taken first. -/
theorem regK_free (i : Nat) {oi : Oper} {v : Value} {n : Nat} {ls : Array Bool} {a : Act} {w : World} (hi : ops[i]? = some oi)
    (hs : Region.noSelect ops = true) (hf : Region.free md ops ls i = true) (hr : (Region.ready md ops ls).contains i = true) (hne : k0 ≠ i)
    (hQ : ∀ c a w, Q (.panic c) (a.put oi.dst v) w → Q (.panic c) a w) (hw : Region.wanted oi (yielded ops a.tmps) = true) (hv : ∀ w, True → (execOp a.eval oi).run P w = .ok (.value v) w) (hS : S w)
    (h : AnyK P md ops Q k0 S n (ls.setIfInBounds i true) (a.put oi.dst v) w) : AnyK P md ops Q k0 S (n + 1) ls a w :=
  anyK_free hi (Region.noSelect_spec hs) hQ hne n ls a w (Region.free_spec hi hf) (by simpa using hr) (Or.inl ⟨hw, hv⟩) (fun _ => hS) h
end
end Go.Proofs.Ytjhedjokifnofaa

namespace Go.Proofs.Ytjhedjokifnofaa
open Go.RowKit
set_option linter.unusedVariables false

theorem waysN_step {ds : List Int} {k : Nat} (h : k < ds.length) (c : List Int) : waysN (ds.take (k + 1)) c = waysN (ds.take k) c * c.count ds[k] := by
  unfold waysN
  rw [List.take_succ_eq_append_getElem h, List.foldl_append]
  rfl
theorem count_step {xs : List Int} {k : Nat} (h : k < xs.length) (d : Int) : (xs.take (k + 1)).count d = (xs.take k).count d + (if xs[k] = d then 1 else 0) := by
  rw [List.take_succ_eq_append_getElem h, List.count_append, List.count_singleton]
  by_cases e : xs[k] = d
  · rw [if_pos e]; simp [e]
  · rw [if_neg e]; simp [e]

set_option maxRecDepth 100000 in
set_option maxHeartbeats 4000000 in
theorem c_waysToPut (Ad : Option Addr) (cd : Nat) (ds : List Int) (Ac : Option Addr) (cc : Nat) (xs : List Int) (w : World) (hd : RdI w Ad ds) (hc : RdI w Ac xs) (hdn : ∀ d ∈ ds, numB d = true) (hxn : ∀ x ∈ xs, numB x = true) (hdl : ds.length ≤ 10) (hxl : xs.length ≤ 13) :
    Calls Try.prog 52 #[.slice Ad ds.length cd, .slice Ac xs.length cc] w fun e w' => e = .returned (.int .i64 (waysN ds xs : Int)) ∧ Below w.heap.size w w' := by
  have hwl : ∀ k, waysN (ds.take k) xs ≤ 137858491849 := fun k => by
    have h1 := waysN_le (ds := ds.take k) (c := xs) (m := 13) (fun d _ => Nat.le_trans List.count_le_length hxl)
    refine Nat.le_trans h1 (Nat.le_trans (Nat.pow_le_pow_right (by omega) (show (ds.take k).length ≤ 10 by rw [List.length_take]; omega)) (by decide))
  have HWL := Lib.hid hwl
  have HD := Lib.hid hd
  have HDN := Lib.hid hdn
  have HXN := Lib.hid hxn
  have HC := Lib.hid hc
  clear hwl hd hdn hxn hc
  go_enter Try.func52, Try.ntmps52
  go_wp2
  go_loopw [13] (fun i wr => ∃ k : Nat, k ≤ xs.length ∧ i = .int .i64 k ∧ Ten wr w.heap.size (fun d => ((xs.take k).count d : Int)) ∧ Below w.heap.size w wr) (fun i _ => xs.length - (intOf i).toNat)
  case atStart => exact ⟨0, Nat.zero_le _, rfl, (ten_new w _).congr (fun m _ => by simp), (Below.refl _ _).alloc (Nat.le_refl _) _⟩
  case round =>
    obtain ⟨k, hk, rfl, hT, hb⟩ := hrel
    by_cases hlt : k < xs.length
    · obtain ⟨bk, off, hA, hbk, hcell⟩ := HC.out.at_ hlt
      have g1 := (hb.cell (p := ⟨bk, _, none⟩) hbk).trans (hcell k hlt)
      obtain ⟨m, hm9, hm⟩ := numB_nat (HXN.out xs[k] (List.getElem_mem hlt))
      rw [hm] at g1
      have g2 := hT.1 m (by omega)
      have g3 := hT.2 m
      have hcl : (xs.take k).count (m : Int) ≤ 13 := Nat.le_trans List.count_le_length (by rw [List.length_take]; omega)
      have j1 : (0 : Int) ≤ (m : Int) := by omega
      have j2 : (m : Int) < 10 := by omega
      have j3 : IntKind.i64.wrap (((xs.take k).count (m : Int) : Int) + 1) = ((xs.take k).count (m : Int) : Int) + 1 := IntWalk.i64_in _ (by omega)
      have HT := Lib.hid hT
      have HB := Lib.hid hb
      have HM := Lib.hid hm
      have ST := Lib.hid (fun d => count_step (d := d) hlt)
      subst hA
      clear hT hb hm hcell
      go_wp2
      go_roundw
      case rel =>
        refine ⟨k + 1, by omega, by go_num, HT.out.set (f' := fun d => ((xs.take (k + 1)).count d : Int)) (by omega) _ ?_ ?_, HB.out.setCell (Nat.le_refl _) _⟩
        · show ((xs.take (k + 1)).count (m : Int) : Int) = _
          rw [ST.out, HM.out, if_pos rfl]
          push_cast
          rfl
        · intro m2 h2 hne
          show ((xs.take (k + 1)).count (m2 : Int) : Int) = ((xs.take k).count (m2 : Int) : Int)
          rw [ST.out, HM.out, if_neg (by omega), Nat.add_zero]
      case measure => simp [intOf]; omega
    · have e : k = xs.length := by omega
      subst e
      have hT2 : Ten wr w.heap.size (fun d => (xs.count d : Int)) := hT.congr (fun m _ => by rw [List.take_length])
      have HB := Lib.hid hb
      have HT2 := Lib.hid hT2
      have hcn := fun d : Int => (List.count_le_length : xs.count d ≤ xs.length)
      clear hT hb hT2
      rename World => wo
      go_wp2
      go_loopw [8, 25] (fun v i wr => ∃ k : Nat, k ≤ ds.length ∧ i = .int .i64 k ∧ v = .int .i64 (waysN (ds.take k) xs : Int) ∧ wr = wo) (fun _ i _ => ds.length - (intOf i).toNat)
      case atStart => exact ⟨0, Nat.zero_le _, rfl, rfl, rfl⟩
      case round =>
        obtain ⟨k, hk, rfl, rfl, rfl⟩ := hrel
        by_cases hlt : k < ds.length
        · obtain ⟨bk, off, hA, hbk, hcell⟩ := HD.out.at_ hlt
          have g1 := (HB.out.cell (p := ⟨bk, _, none⟩) hbk).trans (hcell k hlt)
          obtain ⟨m, hm9, hm⟩ := numB_nat (HDN.out ds[k] (List.getElem_mem hlt))
          rw [hm] at g1
          have g2 := HT2.out.1 m (by omega)
          have j1 : (0 : Int) ≤ (m : Int) := by omega
          have j2 : (m : Int) < 10 := by omega
          have hst := waysN_step hlt xs
          rw [hm] at hst
          have hbd := HWL.out (k + 1)
          rw [hst] at hbd
          have j3 : IntKind.i64.wrap ((waysN (ds.take k) xs : Int) * (xs.count (m : Int) : Int)) = (waysN (ds.take k) xs : Int) * (xs.count (m : Int) : Int) := IntWalk.i64_in _ (by rw [← Int.natCast_mul]; omega)
          have ST := Lib.hid hst
          subst hA
          clear hm hcell hst hbd
          go_wp2
          go_roundw
          case rel => exact ⟨k + 1, by omega, by go_num, by rw [ST.out, Int.natCast_mul], by first | rfl | trivial⟩
          case measure => simp [intOf]; omega
        · have e : k = ds.length := by omega
          subst e
          rw [List.take_length]
          go_wp2
          go_ret
          exact ⟨rfl, HB.out⟩

end Go.Proofs.Ytjhedjokifnofaa

namespace Go.Proofs.Ytjhedjokifnofaa
open Go Go.RowKit
set_option linter.unusedVariables false

/-- As many whole chains have the sets. -/
def csN (n : Nat) : Nat := match n with
  | 0 => 1
  | 1 => 2
  | 2 => 12
  | 4 => 126720
  | _ => 0
theorem set_handC {n : Nat} (h : n ≤ 5) : handB (setL n) = true := by
  match n, h with
  | 0, _ => decide
  | 1, _ => decide
  | 2, _ => decide
  | 3, _ => decide
  | 4, _ => decide
  | 5, _ => decide
theorem set_small {n : Nat} (h : n ≤ 5) : (wdL (setL n)).length ≤ 15 ∧ (∀ d ∈ doublesL (setL n), numB d = true) ∧ (doublesL (setL n)).length ≤ 6 := by
  match n, h with
  | 0, _ => decide
  | 1, _ => decide
  | 2, _ => decide
  | 3, _ => decide
  | 4, _ => decide
  | 5, _ => decide
theorem set_can {n : Nat} (h : n ≤ 5) (hc : canV (wdL (setL n)) false = true) : (wdL (setL n)).length ≤ 12 := by
  match n, h, hc with
  | 0, _, _ => decide
  | 1, _, _ => decide
  | 2, _, _ => decide
  | 3, _, _ => decide
  | 4, _, _ => decide
  | 5, _, hc => revert hc; decide +kernel
theorem set_sum {n : Nat} (h : n ≤ 5) : sumW (doublesL (setL n)) (everyL (wdL (setL n))) = csN n := by
  match n, h with
  | 0, _ => decide +kernel
  | 1, _ => decide +kernel
  | 2, _ => decide +kernel
  | 3, _ =>
    have : canV (wdL (setL 3)) false = false := by decide +kernel
    unfold everyL
    rw [this]
    rfl
  | 4, _ =>
    have e1 : doublesL (setL 4) = [0, 1, 2, 3, 4] := by decide
    have e2 : wdL (setL 4) = k5L := by decide
    have hh : handB k5L = true := by decide
    rw [e1, e2, sumW_same _ (fun c hc => k5_ways hc), every_len hh, k5_all]
    rfl
  | 5, _ =>
    have : canV (wdL (setL 5)) false = false := by decide +kernel
    unfold everyL
    rw [this]
    rfl
theorem sumW_pre {ds : List Int} {L M : List (List Int)} (h : L <+: M) : sumW ds L ≤ sumW ds M := by
  obtain ⟨R, rfl⟩ := h
  unfold sumW
  rw [List.map_append, List.sum_append]
  omega
theorem csN_le (n : Nat) : csN n ≤ 126720 := by
  unfold csN
  split <;> omega
def csB (x : Int) : Bool := decide (0 ≤ x) && decide (x ≤ 5)
def csV (x : Int) : Int := if csB x then (csN x.toNat : Int) else 0

/-- What is kept between two rounds: the count. -/
structure DsI (gb : Nat) (ds : List Int) (w : World) (T : Nat → Prop) (pre : List (List Int)) (A : World) : Prop where
  nt : ¬ T gb
  bl : Below gb w A
  fz : ∀ m, A.frozen? ⟨gb, m, none⟩ = false
  c : A.cell? ⟨gb, 0, none⟩ = some (.int .i64 (sumW ds pre : Int))
theorem DsI.abides (gb : Nat) (ds : List Int) (w : World) : AbT gb (DsI gb ds w) := by
  rintro T T' s A B h hT hnA ht hT'
  have lt : gb < A.heap.size := block_lt h.c
  have eb : B.heap[gb]? = A.heap[gb]? := ht.block gb lt h.nt
  refine ⟨fun hk => ?_, h.bl.trans (ht.below hnA (fun k hk => (hT k hk).1)), fun m => (frozen_of_blk eb).trans (h.fz m), ht.cell h.nt h.c⟩
  rcases hT' _ hk with hk | hk
  · exact h.nt hk
  · omega
def csAct (n : Nat) (A1 : Option Addr) (m1 c1 : Nat) (A2 : Option Addr) (m2 c2 : Nat) (A5 : Option Addr) (m5 c5 g6 gb B : Nat) (v : Array Value) : Act :=
  { tmps := #[.int .i64 (n : Int), undef, .int .i64 0, .bool false, .slice A1 m1 c1, .bool true, .pointer (some ⟨g6, 0, none⟩), .bool true, .pointer (some ⟨gb, 0, none⟩), v.getD 0 undef, .int .i64 (n : Int), .bool false, .bool false, .int .i64 (n : Int), .bool false, .bool false,
      .tuple #[.slice A1 m1 c1, .bool true], .int .i64 (n : Int), .tuple #[.slice A1 m1 c1, .bool true], .slice A1 m1 c1, .bool true, .tuple #[.slice A2 m2 c2, .bool true], .slice A1 m1 c1, .tuple #[.slice A2 m2 c2, .bool true], .slice A2 m2 c2, .bool true, .slice A1 m1 c1, .slice A5 m5 c5,
      .func (.func 70) #[] #[.pointer (some ⟨B, 0, none⟩)], v.getD 0 undef, undef, undef, undef, undef, undef, undef], defers := [] }

set_option maxRecDepth 100000 in
set_option maxHeartbeats 4000000 in
theorem c_implSetChains (x : Int) (w : World) :
    Calls Try.prog 30 #[.int .i64 x] w fun e w' => e = .returned (.tuple #[.int .i64 (csV x), .bool (csB x)]) ∧ Below w.heap.size w w' := by
  by_cases h0 : x < 0
  · have e1 : csB x = false := by unfold csB; rw [decide_eq_false (by omega)]; rfl
    have e2 : csV x = 0 := by unfold csV; rw [e1]; rfl
    rw [e1, e2]
    clear e1 e2
    go_enter Try.func30, Try.ntmps30
    go_wp2
    go_ret2
    exact ⟨rfl, Below.refl _ _⟩
  by_cases h5 : 5 < x
  · have e1 : csB x = false := by unfold csB; rw [decide_eq_true (by omega : 0 ≤ x), decide_eq_false (by omega)]; rfl
    have e2 : csV x = 0 := by unfold csV; rw [e1]; rfl
    rw [e1, e2]
    clear e1 e2
    go_enter Try.func30, Try.ntmps30
    go_wp2
    go_ret2
    exact ⟨rfl, Below.refl _ _⟩
  obtain ⟨n, rfl⟩ : ∃ n : Nat, x = (n : Int) := ⟨x.toNat, by omega⟩
  have hn : n ≤ 5 := by omega
  have e1 : csB (n : Int) = true := by unfold csB; rw [decide_eq_true (by omega : (0 : Int) ≤ (n : Int)), decide_eq_true (by omega)]; rfl
  have e2 : csV (n : Int) = (csN n : Int) := by unfold csV; rw [e1]; rfl
  have e3 : numB (n : Int) = true := by unfold numB; simp; omega
  have e4 : setOfL (n : Int) = setL n := by unfold setOfL; rw [e3]; rfl
  rw [e1, e2]
  have conS := c_implSetOf (n : Int) w
  rw [e4, e3] at conS
  obtain ⟨S, hS⟩ : ∃ S, S = setL n := ⟨_, rfl⟩
  have hh : handB S = true := hS ▸ set_handC hn
  have hsm := set_small hn
  have hcan := set_can hn
  have hsum := set_sum hn
  rw [← hS] at conS hsm hcan hsum
  obtain ⟨ds, hds⟩ : ∃ ds, ds = doublesL S := ⟨_, rfl⟩
  rw [← hds] at hsm hsum
  have conD := fun (W : World) (A : Option Addr) (c : Nat) (h : RdT W A S) => c_implDoublesOf A c S W h (by have := (of_decide_eq_true hh : handP S).1; omega)
  rw [← hds, hh] at conD
  have conW := fun (W : World) (A : Option Addr) (c : Nat) (h : RdT W A S) => c_withoutDoubles A c S W h (by have := (of_decide_eq_true hh : handP S).1; omega)
  have hwh := hand_wd hh
  obtain ⟨P, hP⟩ : ∃ P, P = wdL S := ⟨_, rfl⟩
  rw [← hP] at conW hwh hsm hcan hsum
  have ConS := Lib.hid conS
  have ConD := Lib.hid conD
  have ConW := Lib.hid conW
  have HSUM := Lib.hid hsum
  have HSM := Lib.hid hsm
  have HCAN := Lib.hid hcan
  have HCS := Lib.hid (csN_le n)
  clear conS conD conW e1 e2 e3 e4 hS hds hP hh hsm hcan hsum
  refine (callsIn_wide (n := 5)).1 ?_
  refine callsIn_of_wp_marks Try.func30 rfl trivial ?_
  simp only [Try.ntmps30, List.size_toArray, List.length_cons, List.length_nil, Nat.reduceAdd, Nat.reduceSub, Array.replicate_succ, Array.replicate_zero, List.push_toArray, List.append_toArray, List.nil_append, List.cons_append]
  gi_wp2_with fail
  refine ⟨trivial, callsIn_wide.2 (ConS.out.mono ?_)⟩
  rintro e w1 ⟨A1, c1, rfl, o1, h1⟩
  have hr1 := RdT.of_own o1
  gi_wp2_with fail
  refine ⟨trivial, callsIn_wide.2 ((ConD.out w1 A1 c1 hr1).mono ?_)⟩
  rintro e w2 ⟨A2, c2, rfl, o2, h2⟩
  have hr2 := hr1.below h2
  gi_wp2_with fail
  obtain ⟨w3, hw3⟩ : ∃ w3, w3 = w2.alloc (.cells #[.slice A2 ds.length c2] 34) := ⟨_, rfl⟩
  obtain ⟨w4, hw4⟩ : ∃ w4, w4 = w3.alloc (.cells #[.int .i64 0] 3) := ⟨_, rfl⟩
  rw [← hw3, ← hw4]
  have b23 : Below w2.heap.size w2 w3 := by rw [hw3]; exact (Below.refl _ _).alloc (Nat.le_refl _) _
  have b34 : Below w3.heap.size w3 w4 := by rw [hw4]; exact (Below.refl _ _).alloc (Nat.le_refl _) _
  have s3 : w3.heap.size = w2.heap.size + 1 := by rw [hw3]; simp
  have s4 : w4.heap.size = w3.heap.size + 1 := by rw [hw4]; simp
  have hr4 := (hr2.below b23).below b34
  have HW3 := Lib.hid hw3
  have HW4 := Lib.hid hw4
  clear hw3 hw4
  refine ⟨trivial, callsIn_wide.2 ((ConW.out w4 A1 c1 hr4).mono ?_)⟩
  rintro e w5 ⟨A5, c5, rfl, o5, h5'⟩
  have hr5 := RdT.of_own o5
  gi_wp2_with fail
  refine ⟨trivial, callsIn_wide.2 ((c_everyWhole A5 P.length c5 w5).mono ?_)⟩
  rintro e w6 ⟨rfl, hw6⟩
  have HW6 := Lib.hid hw6
  clear hw6
  gi_wp2_with fail
  have hw3 := HW3.out
  have hw4 := HW4.out
  have hw6 := HW6.out
  clear HW3 HW4 HW6
  obtain ⟨g6, hg6⟩ : ∃ g6, g6 = w2.heap.size := ⟨_, rfl⟩
  obtain ⟨gb, hgb⟩ : ∃ gb, gb = w2.heap.size + 1 := ⟨_, rfl⟩
  obtain ⟨B, hB⟩ : ∃ B, B = w5.heap.size := ⟨_, rfl⟩
  have e3 : gb = w3.heap.size := by omega
  have z6 : w3.cell? ⟨g6, 0, none⟩ = some (.slice A2 ds.length c2) := by rw [hw3, hg6]; simp
  have x4 : w4.cell? ⟨gb, 0, none⟩ = some (.int .i64 0) := by rw [hw4, e3]; simp
  have fz4 : ∀ m, w4.frozen? ⟨gb, m, none⟩ = false := fun m => by rw [hw4, e3]; exact frozen_new w3 _ _ m
  have rd3 : RdI w3 A2 ds := (RdI.of_own o2).below b23
  have b56 : Below w5.heap.size w5 w6 := by rw [hw6]; exact (Below.refl _ _).alloc (Nat.le_refl _) _
  have s6 : w6.heap.size = w5.heap.size + 1 := by rw [hw6]; simp
  have xB : w6.cell? ⟨B, 0, none⟩ = some (.slice A5 P.length c5) := by rw [hw6, hB]; simp
  have hr6 := hr5.below b56
  have b46 : Below w4.heap.size w4 w6 := bstep h5' b56
  have x6 := keepc b46 x4
  have s46 := b46.size
  have fz6 : ∀ m, w6.frozen? ⟨gb, m, none⟩ = false := fun m => (b46.frozen (p := ⟨gb, m, none⟩) (show gb < _ by omega)).trans (fz4 m)
  have b36 : Below gb w3 w6 := by rw [e3]; exact bstep b34 b46
  have b03 : Below w.heap.size w w3 := bstep (bstep h1 h2) b23
  have sz5 := h5'.size
  have hgb2 : gb = g6 + 1 := by omega
  rw [← hg6, ← hgb2, ← hB]
  have f2 : gb < B := by omega
  have f3 : B < w6.heap.size := by omega
  have f4 : w.heap.size ≤ gb := by have := b03.size; omega
  have f5 : g6 < gb := by omega
  have E3 := Lib.hid e3
  have Z6 := Lib.hid z6
  have RD3 := Lib.hid rd3
  have B03 := Lib.hid b03
  clear hw3 hw4 hw6 b23 b34 b46 b56 x4 fz4 hr1 hr2 hr4 hr5 hg6 hgb hB s3 s4 s6 s46 sz5 o1 o2 o5 h1 h2 h5' e3 z6 rd3 b03 hgb2 ConS ConD ConW
  refine wp_rangeIter (gf := 70) (lb := #[.pointer (some ⟨B, 0, none⟩)]) rfl (fun args w => enters_every args w) (n₀ := gb) (T0 := fun k => k = B) (iters_every w6 gb B A5 c5 P xB (by omega) (by omega) hr6 hwh) (by omega) (by rintro k rfl; omega) ?hps ?hE
    (DsI gb ds w3) (fun _ _ _ _ => False) (DsI.abides _ _ _) (fun _ _ _ _ _ _ h _ _ _ _ => h.elim) ⟨by omega, b36, fz6, x6⟩ (csAct n A1 S.length c1 A2 ds.length c2 A5 P.length c5 g6 gb B) ?hassign ?hbody ?hdone ?hstop
  case hps => rintro x v T A ⟨_, _, rfl, _⟩; rfl
  case hE => exact fun x v T A B h1 h2 h3 => enc_keep h1 h2 h3
  case hassign =>
    rintro l m x v T W K ⟨Ax, cx, rfl, _⟩ hK
    gi_wp2_with (rw [Oper.semAt_eq _ _ _ (fun c h => by cases h)]; go_simp; try go_bits)
    exact hK
  case hstop => exact fun _ _ _ _ _ _ _ _ h => h.elim
  case hbody =>
    rintro l m T Ti pre x v A3 ⟨h1, h4, hf, h5⟩ hp hT hn _ ⟨Ax, cx, rfl, hrx, htx⟩
    have hmem : x ∈ everyL P := hp.subset (by simp)
    have hcv : canV P false = true := by
      cases hcv : canV P false with
      | true => rfl
      | false => unfold everyL at hmem; rw [hcv] at hmem; simp at hmem
    have hp12 := HCAN.out hcv
    have hfu : x ∈ fullL P.length (allC P) := by unfold everyL at hmem; rw [if_pos hcv] at hmem; exact hmem
    obtain ⟨hox, hxl⟩ := full_ok hfu
    have hsp := sumW_pre (ds := ds) hp
    rw [sumW_snoc, HSUM.out] at hsp
    have hcs := HCS.out
    have jw : IntKind.i64.wrap ((sumW ds pre : Int) + (waysN ds x : Int)) = (sumW ds pre : Int) + (waysN ds x : Int) := IntWalk.i64_in _ (by have := csN_le n; omega)
    have y6 : A3.drew.cell? ⟨g6, 0, none⟩ = some (.slice A2 ds.length c2) := (h4.cell (p := ⟨g6, 0, none⟩) f5).trans Z6.out
    have rd : RdI A3.drew A2 ds := RD3.out.below (by have h7 : Below gb w3 A3.drew := h4.trans ⟨rfl, rfl, rfl, Nat.le_refl _, fun _ _ => rfl⟩; rw [E3.out] at h7; exact h7)
    have con := c_waysToPut A2 c2 ds Ax cx x A3.drew rd hrx HSM.out.2.1 hox.num (by have := HSM.out.2.2; omega) (by omega)
    have Con := Lib.hid con
    have H4 := Lib.hid h4
    have HF := Lib.hid hf
    have hbd : Below A3.heap.size A3 A3.drew := ⟨rfl, rfl, rfl, Nat.le_refl _, fun _ _ => rfl⟩
    have SN := Lib.hid (sumW_snoc ds pre x)
    have f0 := hf 0
    have zz : gb < A3.heap.size := block_lt h5
    clear h4 hf hp hmem hfu hsp hcs rd con hox hcv hxl hp12
    unfold csAct
    gi_wp2_with (rw [Oper.semAt_eq _ _ _ (fun c h => by cases h)]; go_simp; try go_bits)
    refine wpIn_regK (k0 := 4) (S := fun w' => w'.cell? ⟨gb, 0, none⟩ = some (.int .i64 (sumW ds pre : Int))) (by kernel_rfl) (by kernel_rfl) (fun ⟨_, _, h⟩ => h) h5 (fun hH0 => ?_)
    refine regK_take 0 rfl (by kernel_rfl) (by kernel_rfl) (by kernel_rfl) (by kernel_rfl) (by kernel_rfl) (fun _ _ _ h => h) (by rfl) (fun w hSw => by (try dsimp only at hSw); first | (go_simp; done) | (go_simp; with_reducible rfl)) (by assumption) ?_
    try simp only [Act.put, List.setIfInBounds_toArray, List.set_cons_zero, List.set_cons_succ, List.getElem_toArray, List.getElem_cons_zero]
    refine regK_free 2 rfl (by kernel_rfl) (by kernel_rfl) (by kernel_rfl) (by decide) (fun _ _ _ h => h) (by rfl) (fun w _ => by first | (go_simp; done) | (go_simp; with_reducible rfl)) (by assumption) ?_
    try simp only [Act.put, List.setIfInBounds_toArray, List.set_cons_zero, List.set_cons_succ, List.getElem_toArray, List.getElem_cons_zero, List.getElem_cons_succ]
    refine regK_one 1 rfl (by kernel_rfl) (fun K hK => ?_)
    go_simp
    refine regK_go hK hH0 (fun hH1 => ?_)
    clear hK K
    try simp only [Act.put, List.setIfInBounds_toArray, List.set_cons_zero, List.set_cons_succ, List.getElem_toArray, List.getElem_cons_zero, List.getElem_cons_succ]
    refine regK_one 3 rfl (by kernel_rfl) (fun K hK => ?_)
    go_simp
    refine Con.out.mono ?_
    rintro e w7 ⟨rfl, h7⟩
    have y7 : w7.cell? ⟨gb, 0, none⟩ = some (.int .i64 (sumW ds pre : Int)) := keepc h7 hH0
    have f7 : w7.frozen? ⟨gb, 0, none⟩ = false := (h7.frozen (p := ⟨gb, 0, none⟩) zz).trans f0
    refine regK_go hK y7 (fun hH2 => ?_)
    clear hK K
    try simp only [Act.put, List.setIfInBounds_toArray, List.set_cons_zero, List.set_cons_succ, List.getElem_toArray, List.getElem_cons_zero, List.getElem_cons_succ]
    refine regK_one 4 rfl (by kernel_rfl) (fun K hK => ?_)
    go_simp
    refine regK_on hK (by kernel_rfl) ?_
    clear hK K
    try simp only [Act.put, List.setIfInBounds_toArray, List.set_cons_zero, List.set_cons_succ, List.getElem_toArray, List.getElem_cons_zero, List.getElem_cons_succ]
    refine regK_one 5 rfl (by kernel_rfl) (fun K hK => ?_)
    go_simp
    refine regK_on hK (by kernel_rfl) ?_
    clear hK K
    try simp only [Act.put, List.setIfInBounds_toArray, List.set_cons_zero, List.set_cons_succ, List.getElem_toArray, List.getElem_cons_zero, List.getElem_cons_succ]
    refine regK_done (by kernel_rfl) ?_ _
    gi_wp2
    have b37 : Below A3.heap.size A3 w7 := hbd.trans h7
    exact ⟨(Turn.of_below b37).trans (Turn.setCell _ _ ⟨Nat.le_refl _, h1⟩) (fun k _ h => h), h1, (H4.out.trans (b37.mono hn)).setCell (Nat.le_refl _) _, fun m => by simp [(b37.frozen (p := ⟨gb, m, none⟩) zz).trans (HF.out m)], by rw [SN.out]; push_cast; exact World.cell?_setCell_same _ _ _ y7⟩
  case hdone =>
    rintro D T W hD hTD ⟨h1, h4, hf, h5⟩ hz hK
    rw [HSUM.out] at h5
    gi_wp2
    refine ⟨by simp, .inl ⟨_, _, rfl, run_takeDeferred hK, ?_⟩⟩
    have hb : Below w.heap.size w W := B03.out.trans (h4.mono f4)
    exact ⟨_, results_tmp2 rfl _ _ _, rfl, hb.grown (grownBy_putObj' _ _ _) hb.size (fun k e => by cases e; omega)⟩

end Go.Proofs.Ytjhedjokifnofaa

namespace Go.Proofs.Ytjhedjokifnofaa
open Go.RowKit
set_option linter.unusedVariables false

set_option maxRecDepth 100000 in
set_option maxHeartbeats 4000000 in
theorem c_specSetEven (n h T : Nat) (hn : n = 2 * h) (h2 : h ≤ 2) (Q : List (Int × Int)) (hQ : pnL (sortL (setL n)) = Q) (hq : handB Q = true) (hl : Q.length ≤ 12) (hT : trl Q.length Q 0 = T) (hTb : T ≤ 528) (w : World) :
    Calls Try.prog 29 #[.int .i64 (n : Int)] w fun e w' => e = .returned (.tuple #[.int .i64 (((n + 1) * T * (h + 1) * h ^ n : Nat) : Int), .bool true]) ∧ Below w.heap.size w w' := by
  have conI := c_l1In (n : Int) 0 5 w
  rw [decide_eq_true (by omega : (0 : Int) ≤ (n : Int)), decide_eq_true (by omega : (n : Int) ≤ 5)] at conI
  have conS := fun (W : World) => c_tiSet n (by omega) W
  have hsl : (setL n).length ≤ 1048576 := by
    have := (set_small (n := n) (by omega)).1
    have h7 := (of_decide_eq_true (set_handC (n := n) (by omega)) : handP (setL n)).1
    omega
  have conP := fun (W : World) (A : Option Addr) (c : Nat) (h : RdT W A (setL n)) => c_whPlain A c (setL n) W h hsl
  rw [hQ] at conP
  have conC : ∀ (W : World) (A : Option Addr) (c : Nat), RdT W A Q → Calls Try.prog 47 #[.slice A Q.length c, .int .i64 0] W fun e w' => e = .returned (.int .i64 (T : Int)) ∧ Below W.heap.size W w' := fun W A c h => by
    have h7 := c_whCount Q.length Q 0 A c W (Nat.le_refl _) hl hq (by omega) h
    have e0 : (((0 : Nat) : Int)) = 0 := rfl
    rw [e0, hT] at h7
    exact h7
  obtain ⟨S, hS⟩ : ∃ S, S = setL n := ⟨_, rfl⟩
  rw [← hS] at conP
  simp only [← hS] at conS
  have ConI := Lib.hid conI
  have ConS := Lib.hid conS
  have ConP := Lib.hid conP
  have ConC := Lib.hid conC
  obtain ⟨b, hb⟩ : ∃ b, b = (n + 1) * T * (h + 1) := ⟨_, rfl⟩
  rw [← hb]
  have k1 : (n + 1) * T ≤ 5 * 528 := Nat.mul_le_mul (by omega) hTb
  have hb1 : b ≤ 5 * 528 * 3 := by rw [hb]; exact Nat.mul_le_mul k1 (by omega)
  have hpow : ∀ k, k ≤ 4 → h ^ k ≤ 16 := fun k hk => Nat.le_trans (Nat.pow_le_pow_left h2 k) (Nat.le_trans (Nat.pow_le_pow_right (by omega) hk) (by decide))
  have hbk : ∀ k, k ≤ 4 → b * h ^ k ≤ 5 * 528 * 3 * 16 := fun k hk => Nat.mul_le_mul hb1 (hpow k hk)
  have j1 : ((n : Int) == 1) = false := by rw [beq_eq_false_iff_ne]; omega
  have jm : (n : Int).tmod 2 = 0 := by rw [tmod2 (by omega)]; omega
  have jq : (n : Int).tdiv 2 = (h : Int) := by rw [Int.tdiv_eq_ediv_of_nonneg (by omega)]; omega
  have jqw : IntKind.i64.wrap (h : Int) = (h : Int) := IntWalk.i64_in _ (by omega)
  have HBK := Lib.hid hbk
  have hst : IntKind.i64.wrap (IntKind.i64.wrap (((n : Int) + 1) * (T : Int)) * ((h : Int) + 1)) = (b : Int) := by
    have q1 : ((n : Int) + 1) * (T : Int) = (((n + 1) * T : Nat) : Int) := by push_cast; rfl
    have q2 : (((n + 1) * T : Nat) : Int) * ((h : Int) + 1) = (b : Int) := by rw [hb]; push_cast; rfl
    rw [q1, IntWalk.i64_in (((n + 1) * T : Nat) : Int) (by omega), q2, IntWalk.i64_in _ (by omega)]
  have HST := Lib.hid hst
  have hn5 : n ≤ 4 := by omega
  clear conI conS conP conC hsl hb hT hQ hS k1 hb1 hpow hbk hn hst
  go_enter Try.func29, Try.ntmps29
  go_wp2_with (first | (go_at_call 46; refine ConI.out.mono ?_; rintro e w1 ⟨rfl, h1⟩) | (go_at_call 48; refine (ConS.out _).mono ?_; rintro e w2 ⟨A2, c2, rfl, o2, h2'⟩) | (go_at_call 41; refine (ConP.out _ _ _ (RdT.of_own o2)).mono ?_; rintro e w3 ⟨A3, c3, rfl, o3, h3⟩) | (go_at_call 47; refine (ConC.out _ _ _ (RdT.of_own o3)).mono ?_; rintro e w4 ⟨rfl, h4⟩))
  have B4 := Lib.hid (((h1 ▸ h2' : Below w.heap.size w w2).trans (h3.mono (h1 ▸ h2' : Below w.heap.size w w2).size)).trans (h4.mono (Nat.le_trans (h1 ▸ h2' : Below w.heap.size w w2).size h3.size)))
  rename World => wo
  go_loopw [4, 5] (fun v i wr => ∃ k : Nat, k ≤ n ∧ i = .int .i64 k ∧ v = .int .i64 ((b * h ^ k : Nat) : Int) ∧ Below w.heap.size w wr) (fun _ i _ => n - (intOf i).toNat)
  case atStart => exact ⟨0, Nat.zero_le _, rfl, by rw [Nat.pow_zero, Nat.mul_one]; have h7 := HST.out; rw [IntWalk.i64_left, IntWalk.i64_left] at h7; exact congrArg (Value.int .i64) h7, B4.out⟩
  case round =>
    obtain ⟨k, hk, rfl, rfl, hb⟩ := hrel
    have HB := Lib.hid hb
    clear hb
    by_cases hlt : k < n
    · have j5 : IntKind.i64.wrap ((b : Int) * (h : Int) ^ k * (h : Int)) = ((b * h ^ (k + 1) : Nat) : Int) := by
        have h7 := HBK.out (k + 1) (by omega)
        have e : (b : Int) * (h : Int) ^ k * (h : Int) = ((b * h ^ (k + 1) : Nat) : Int) := by push_cast; rw [Int.pow_succ, Int.mul_assoc]
        rw [e, IntWalk.i64_in _ (by omega)]
      have J5 := Lib.hid j5
      clear j5
      have j6 : (k : Int) < (n : Int) := by omega
      go_wp2
      go_roundw
      case rel => exact ⟨k + 1, by omega, by go_num, (by have h7 := J5.out; rw [IntWalk.i64_left] at h7; exact congrArg (Value.int .i64) h7), HB.out⟩
      case measure => simp [intOf]; omega
    · have e : k = n := by omega
      subst e
      go_wp2
      go_ret2
      exact ⟨by push_cast; rfl, HB.out⟩

set_option maxRecDepth 100000 in
set_option maxHeartbeats 2000000 in
theorem c_specSetChains (x : Int) (w : World) :
    Calls Try.prog 29 #[.int .i64 x] w fun e w' => e = .returned (.tuple #[.int .i64 (csV x), .bool (csB x)]) ∧ Below w.heap.size w w' := by
  by_cases hb : csB x = true
  · have hb2 := hb
    unfold csB at hb2
    rw [Bool.and_eq_true, decide_eq_true_eq, decide_eq_true_eq] at hb2
    have e2 : csV x = (csN x.toNat : Int) := by unfold csV; rw [hb]; rfl
    rw [e2, hb]
    obtain ⟨n, rfl⟩ : ∃ n : Nat, x = (n : Int) := ⟨x.toNat, by omega⟩
    have hn : n ≤ 5 := by omega
    rw [Int.toNat_natCast]
    clear hb hb2 e2
    have odd : ∀ (y : Int) (v : Int), (y = 1 ∧ v = 2) ∨ (y = 3 ∧ v = 0) ∨ (y = 5 ∧ v = 0) → Calls Try.prog 29 #[.int .i64 y] w fun e w' => e = .returned (.tuple #[.int .i64 v, .bool true]) ∧ Below w.heap.size w w' := by
      rintro y v (⟨rfl, rfl⟩ | ⟨rfl, rfl⟩ | ⟨rfl, rfl⟩)
      all_goals
        go_enter Try.func29, Try.ntmps29
        go_wp2_with (go_at_call 46; refine (c_l1In _ _ _ _).mono ?_; rintro e w1 ⟨rfl, h1⟩; subst h1)
        go_ret2
        exact ⟨rfl, Below.refl _ _⟩
    match n, hn with
    | 0, _ => exact c_specSetEven 0 0 1 rfl (by omega) [] (by decide) (by decide) (by decide) (by decide) (by omega) w
    | 1, _ => exact odd 1 2 (.inl ⟨rfl, rfl⟩)
    | 2, _ => exact c_specSetEven 2 1 2 rfl (by omega) [(0, 1), (0, 2), (1, 2)] (by decide) (by decide) (by decide) (by decide +kernel) (by omega) w
    | 3, _ => exact odd 3 0 (.inr (.inl ⟨rfl, rfl⟩))
    | 4, _ => exact c_specSetEven 4 2 528 rfl (by omega) k5L (by decide) (by decide) (by decide) k5_one (by omega) w
    | 5, _ => exact odd 5 0 (.inr (.inr ⟨rfl, rfl⟩))
  · have hb2 : csB x = false := by simpa using hb
    have e2 : csV x = 0 := by unfold csV; rw [hb2]; rfl
    rw [e2, hb2]
    have conI := c_l1In x 0 5 w
    unfold csB at hb2
    rw [hb2] at conI
    have ConI := Lib.hid conI
    clear conI hb hb2 e2
    go_enter Try.func29, Try.ntmps29
    go_wp2_with (go_at_call 46; refine ConI.out.mono ?_; rintro e w1 ⟨rfl, h1⟩; subst h1)
    go_ret2
    exact ⟨rfl, Below.refl _ _⟩

end Go.Proofs.Ytjhedjokifnofaa

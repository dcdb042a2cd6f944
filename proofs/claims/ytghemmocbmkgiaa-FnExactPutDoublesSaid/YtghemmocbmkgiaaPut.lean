/- Doubles put into a chain. -/
import Derived.Test.YtghemmocbmkgiaaFit
import Derived.Test.YtghemmocbmkgiaaDoubles
import Derived.Test.YtghemmocbmkgiaaInts
import Derived.Test.YtghemmocbmkgiaaDrop
import Derived.Shelf.Slices.Turned
import Derived.Shelf.Spec.SlicesInsertGrow
namespace Go.Proofs.Ytghemmocbmkgiaa
open Go.RowKit
set_option linter.unusedVariables false

/-- A number put in at its first place. -/
def insF (l : List Int) (n : Int) : List Int := if n ∈ l then l.take (l.idxOf n) ++ n :: l.drop (l.idxOf n) else l
theorem insF_len (l : List Int) (n : Int) : (insF l n).length ≤ l.length + 1 := by
  unfold insF
  split
  · simp; omega
  · omega
theorem insF_no {l : List Int} {n : Int} (h : n ∉ l) : insF l n = l := by unfold insF; rw [if_neg h]
theorem insF_mem {l : List Int} {n : Int} (x : Int) (h : n ∈ l) : insF (l ++ [x]) n = insF l n ++ [x] := by
  have hi : l.idxOf n < l.length := List.idxOf_lt_length_iff.2 h
  unfold insF
  rw [if_pos h, if_pos (by simp [h]), List.idxOf_append, if_pos h, List.take_append_of_le_length (Nat.le_of_lt hi), List.drop_append_of_le_length (Nat.le_of_lt hi)]
  simp
theorem insF_new {l : List Int} {n : Int} (h : n ∉ l) : insF (l ++ [n]) n = insF l n ++ [n] ++ [n] := by
  rw [insF_no h]
  unfold insF
  rw [if_pos (by simp), List.idxOf_append, if_neg h]
  simp
theorem insF_other {l : List Int} {n x : Int} (h : n ∉ l) (hx : x ≠ n) : insF (l ++ [x]) n = insF l n ++ [x] := by
  rw [insF_no h, insF_no]
  simp only [List.mem_append, List.mem_singleton, not_or]
  exact ⟨h, fun e => hx e.symm⟩
theorem insF_in (l : List Int) (n m : Int) : m ∈ insF l n ↔ m ∈ l := by
  unfold insF
  split
  · rename_i h
    have e : l.take (l.idxOf n) ++ l.drop (l.idxOf n) = l := List.take_append_drop _ _
    constructor
    · intro hm
      rcases List.mem_append.1 hm with hm | hm
      · exact List.mem_of_mem_take hm
      · rcases List.mem_cons.1 hm with rfl | hm
        · exact h
        · exact List.mem_of_mem_drop hm
    · intro hm
      rw [← e] at hm
      rcases List.mem_append.1 hm with hm | hm
      · exact List.mem_append.2 (.inl hm)
      · exact List.mem_append.2 (.inr (List.mem_cons_of_mem _ hm))
  · rfl
theorem insF_zero (n : Int) : insF [] n = [] := by simp [insF]
/-- The doubles below k of a hand that are not laid. -/
def dblB (hand laid : List (Int × Int)) (i : Nat) : Bool := decide (((i : Int), (i : Int)) ∈ hand) && decide (((i : Int), (i : Int)) ∉ laid)
def putTo (xs : List Int) (hand laid : List (Int × Int)) (k : Nat) : List Int := ((List.range k).filter (dblB hand laid)).foldl (fun l (i : Nat) => insF l i) xs
theorem putTo_zero (xs : List Int) (hand laid : List (Int × Int)) : putTo xs hand laid 0 = xs := rfl
theorem putTo_yes {xs : List Int} {hand laid : List (Int × Int)} {k : Nat} (h : dblB hand laid k = true) : putTo xs hand laid (k + 1) = insF (putTo xs hand laid k) k := by
  unfold putTo
  rw [List.range_succ, List.filter_append, List.foldl_append]
  simp [h]
theorem putTo_no {xs : List Int} {hand laid : List (Int × Int)} {k : Nat} (h : dblB hand laid k = false) : putTo xs hand laid (k + 1) = putTo xs hand laid k := by
  unfold putTo
  rw [List.range_succ, List.filter_append, List.foldl_append]
  simp [h]
theorem putTo_in (xs : List Int) (hand laid : List (Int × Int)) (m : Int) : ∀ k, m ∈ putTo xs hand laid k ↔ m ∈ xs
  | 0 => by rw [putTo_zero]
  | k + 1 => by
    cases h : dblB hand laid k
    · rw [putTo_no h]; exact putTo_in xs hand laid m k
    · rw [putTo_yes h, insF_in]; exact putTo_in xs hand laid m k
theorem putTo_len (xs : List Int) (hand laid : List (Int × Int)) : ∀ k, (putTo xs hand laid k).length ≤ xs.length + k
  | 0 => by rw [putTo_zero]; omega
  | k + 1 => by
    have ih := putTo_len xs hand laid k
    cases h : dblB hand laid k
    · rw [putTo_no h]; omega
    · rw [putTo_yes h]
      have := insF_len (putTo xs hand laid k) k
      omega
theorem putTo_skip {xs : List Int} {hand laid : List (Int × Int)} {k : Nat} (h : (k : Int) ∉ xs) : putTo xs hand laid (k + 1) = putTo xs hand laid k := by
  cases hd : dblB hand laid k
  · exact putTo_no hd
  · rw [putTo_yes hd, insF_no (by rw [putTo_in]; exact h)]
/-- The numbers put in one after the other. -/
def putsTo (xs ds : List Int) (k : Nat) : List Int := (ds.take k).foldl insF xs
theorem putsTo_step {xs ds : List Int} {k : Nat} (h : k < ds.length) : putsTo xs ds (k + 1) = insF (putsTo xs ds k) ds[k] := by
  unfold putsTo
  rw [List.take_succ_eq_append_getElem h, List.foldl_append]
  rfl
theorem putsTo_len (xs ds : List Int) : ∀ k, k ≤ ds.length → (putsTo xs ds k).length ≤ xs.length + k
  | 0, _ => by simp [putsTo]
  | k + 1, h => by
    rw [putsTo_step h]
    have := insF_len (putsTo xs ds k) ds[k]
    have := putsTo_len xs ds k (by omega)
    omega
theorem thoseL_mem {hand laid : List (Int × Int)} (hg : ∀ t ∈ hand, goodB t.1 t.2 = true) (t : Int × Int) : t ∈ thoseL hand laid false ↔ t ∈ hand ∧ t ∉ laid := by
  unfold thoseL
  rw [List.mem_filter, mem_sortL hg]
  unfold pickB
  by_cases h : t ∈ laid <;> simp [h]
theorem puts_two {xs : List Int} {hand laid : List (Int × Int)} (hg : ∀ t ∈ hand, goodB t.1 t.2 = true) : putsTo xs (dblsTo (thoseL hand laid false) 10) (dblsTo (thoseL hand laid false) 10).length = putTo xs hand laid 10 := by
  unfold putsTo putTo
  rw [List.take_length]
  unfold dblsTo
  rw [List.foldl_map]
  congr 1
  refine List.filter_congr fun i _ => ?_
  unfold dblB
  rw [Bool.eq_iff_iff, Bool.and_eq_true, decide_eq_true_eq, decide_eq_true_eq, decide_eq_true_eq, thoseL_mem hg]
def putHL (xs : List Int) (ts : List (Int × Int)) : List Int := if besB xs ts then putTo xs ts (tilesC xs) 10 else []
theorem putHL_len (xs : List Int) (ts : List (Int × Int)) : (putHL xs ts).length ≤ 110 := by
  unfold putHL
  split
  · rename_i h
    unfold besB at h
    rw [Bool.and_eq_true] at h
    have := chain_len h.1
    have := putTo_len xs ts (tilesC xs) 10
    omega
  · simp

set_option maxRecDepth 100000 in
set_option maxHeartbeats 1000000 in
theorem c_haPut (A : Option Addr) (c : Nat) (xs : List Int) (m : Int) (w : World) (hr : RdI w A xs) (hl : xs.length ≤ 1048576) :
    Calls Try.prog 75 #[.slice A xs.length c, .int .i64 m] w (RetN w (insF xs m)) := by
  have e1 : insF xs m = insF (xs.take xs.length) m := by rw [List.take_length]
  rw [e1]
  clear e1
  go_enter Try.func75, Try.ntmps75
  go_wp2
  go_loopw [5, 6, 11] (fun v dn i wr => ∃ (k : Nat) (A' : Option Addr) (c' : Nat), k ≤ xs.length ∧ i = .int .i64 k ∧ v = .slice A' (insF (xs.take k) m).length c' ∧ dn = .bool (decide (m ∈ xs.take k)) ∧ wr.ownsRow w.heap.size 3 1 (.slice A' (insF (xs.take k) m).length c') (insF (xs.take k) m).length (cellsI (insF (xs.take k) m)) ∧ Below w.heap.size w wr) (fun _ _ i _ => xs.length - (intOf i).toNat)
  case atStart => exact ⟨0, none, 0, Nat.zero_le _, rfl, by simp [insF], by simp, by rw [List.take_zero, insF_zero]; exact World.ownsRow_nil _ _ _ _, Below.refl _ _⟩
  case round =>
    obtain ⟨k, A', c', hk, rfl, rfl, rfl, hown, hb⟩ := hrel
    have hpl : (insF (xs.take k) m).length ≤ 1048577 := by
      have := insF_len (xs.take k) m
      simp at this
      omega
    by_cases hlt : k < xs.length
    · obtain ⟨bk, off, rfl, hbk, hc⟩ := hr.at_ hlt
      have g1 := (hb.cell (p := ⟨bk, _, none⟩) hbk).trans (hc k hlt)
      have hts := Lib.hid (List.take_succ_eq_append_getElem hlt)
      have Hb := Lib.hid hb
      have Ho := Lib.hid hown
      have hsz := hb.size
      obtain ⟨x, hx⟩ : ∃ x, x = xs[k] := ⟨_, rfl⟩
      rw [← hx] at g1 hts
      have Ho2 := Lib.hid (Ho.out.alloc (.cells #[.int .i64 x] 3))
      clear hc hr hb hown hx
      by_cases he : x = m
      · by_cases hin : m ∈ xs.take k
        · have hst := Lib.hid (insF_mem x hin)
          have hd : decide (m ∈ xs.take k) = true := decide_eq_true hin
          have hd2 := Lib.hid (decide_eq_true (by rw [hts.out]; simp [hin]) : decide (m ∈ xs.take (k + 1)) = true)
          have h1 : (x == m) = true := by simp [he]
          generalize insF (xs.take k) m = L at *
          clear hin he
          go_wp2_with (at_builtin; refine wp_append_int rfl _ _ rfl w.heap.size _ _ rfl Ho2.out x wr.heap.size rfl (by simp) (by omega) (by simp; omega) ?_; intro A2 c2 w3 hown3 hg3)
          go_roundw
          case rel =>
            refine ⟨k + 1, A2, c2, by omega, by go_num, by rw [hts.out, hst.out, List.length_append]; rfl, by rw [hd2.out], ?_, ?_⟩
            · rw [hts.out, hst.out, List.length_append]; exact hown3
            · have hb0 := Hb.out
              exact Below.grown (by go_grown) hg3 (by simp; omega) (fun g hg => (Ho2.out.lt g hg).1)
          case measure => simp [intOf]; omega
        · have hst := Lib.hid (show insF (xs.take k ++ [x]) m = insF (xs.take k) m ++ [x] ++ [x] from by rw [he]; exact insF_new hin)
          have hd : decide (m ∈ xs.take k) = false := decide_eq_false hin
          have hd2 := Lib.hid (decide_eq_true (by rw [hts.out]; simp [he]) : decide (m ∈ xs.take (k + 1)) = true)
          have h1 : (x == m) = true := by simp [he]
          generalize insF (xs.take k) m = L at *
          clear hin he
          go_wp2_with (first | (at_builtin; refine wp_append_int rfl _ _ rfl w.heap.size _ _ rfl Ho2.out x wr.heap.size rfl (by simp) (by omega) (by simp; omega) ?_; intro A2 c2 w3 hown3 hg3; have hz3 : w.heap.size ≤ w3.heap.size := Nat.le_trans (Nat.le_trans hsz (by simp)) hg3.size; have Ho3 := Lib.hid (hown3.alloc (.cells #[.int .i64 x] 3))) | (at_builtin; refine wp_append_int rfl _ _ rfl w.heap.size _ (L ++ [x]) rfl (by rw [List.length_append]; exact Ho3.out) x w3.heap.size rfl (by simp) (by simp; omega) (by simp; omega) ?_; intro A4 c4 w5 hown5 hg5))
          go_roundw
          case rel =>
            refine ⟨k + 1, A4, c4, by omega, by go_num, by rw [hts.out, hst.out, List.length_append, List.length_append]; rfl, by rw [hd2.out], ?_, ?_⟩
            · rw [hts.out, hst.out, List.length_append, List.length_append]; rw [List.length_append] at hown5; exact hown5
            · have hb0 := Hb.out
              have hb3 : Below w.heap.size w w3 := Below.grown (by go_grown) hg3 (by simp; omega) (fun g hg => (Ho2.out.lt g hg).1)
              exact Below.grown (hb3.alloc hz3 _) hg5 (by simp; omega) (fun g hg => (Ho3.out.lt g hg).1)
          case measure => simp [intOf]; omega
      · have hst := Lib.hid (show insF (xs.take k ++ [x]) m = insF (xs.take k) m ++ [x] from by
          by_cases hin : m ∈ xs.take k
          · exact insF_mem x hin
          · exact insF_other hin he)
        have hd2 := Lib.hid (show decide (m ∈ xs.take (k + 1)) = decide (m ∈ xs.take k) from by
          rw [hts.out]
          by_cases hin : m ∈ xs.take k
          · simp [hin]
          · have : ¬ m = x := fun e => he e.symm
            simp [hin, this])
        have h1 : (x == m) = false := by simp [he]
        generalize insF (xs.take k) m = L at *
        generalize decide (m ∈ xs.take k) = dd at *
        clear he
        go_wp2_with (at_builtin; refine wp_append_int rfl _ _ rfl w.heap.size _ _ rfl Ho2.out x wr.heap.size rfl (by simp) (by omega) (by simp; omega) ?_; intro A2 c2 w3 hown3 hg3)
        go_roundw
        case rel =>
          refine ⟨k + 1, A2, c2, by omega, by go_num, by rw [hts.out, hst.out, List.length_append]; rfl, by rw [hd2.out], ?_, ?_⟩
          · rw [hts.out, hst.out, List.length_append]; exact hown3
          · have hb0 := Hb.out
            exact Below.grown (by go_grown) hg3 (by simp; omega) (fun g hg => (Ho2.out.lt g hg).1)
        case measure => simp [intOf]; omega
    · obtain rfl : k = xs.length := by omega
      go_wp2
      go_ret
      exact ⟨A', c', rfl, hown, hb⟩

set_option maxRecDepth 100000 in
set_option maxHeartbeats 2000000 in
theorem c_specPut (A : Option Addr) (c : Nat) (xs : List Int) (B : Option Addr) (d : Nat) (ts : List (Int × Int)) (w : World) (hrx : RdI w A xs) (lx : xs.length ≤ 1048576) (hr : RdT w B ts) (hl : ts.length ≤ 1048576) (hcap : ts.length ≤ d) :
    Calls Try.prog 47 #[.slice A xs.length c, .slice B ts.length d] w (RetI w (putHL xs ts) (besB xs ts)) := by
  have conX := Lib.hid (c_haGood A c xs w hrx (by omega))
  have conH := Lib.hid (fun W (hb : Below w.heap.size w W) => c_tiHand B d ts W (hr.below hb) (by omega) hcap)
  cases hc : chainB xs
  · have e1 : besB xs ts = false := by simp [besB, hc]
    have e2 : putHL xs ts = [] := by simp [putHL, e1]
    rw [e1, e2]
    rw [hc] at conX
    clear e1 e2 hc hrx hr
    go_enter Try.func47, Try.ntmps47
    go_wp2_with (go_at_call 58; refine conX.out.mono ?_; rintro e w1 ⟨rfl, hb1⟩)
    go_ret2
    exact ⟨none, 0, rfl, World.ownsRow_nil _ _ _ _, hb1⟩
  · rw [hc] at conX
    cases hh : handB ts
    · have e1 : besB xs ts = false := by simp [besB, hh]
      have e2 : putHL xs ts = [] := by simp [putHL, e1]
      rw [e1, e2]
      rw [hh] at conH
      clear e1 e2 hc hh hrx hr
      go_enter Try.func47, Try.ntmps47
      go_wp2_with (first | (go_at_call 58; refine conX.out.mono ?_; rintro e w1 ⟨rfl, hb1⟩) | (go_at_call 49; refine (conH.out _ hb1).mono ?_; rintro e w2 ⟨rfl, hb2⟩))
      go_ret2
      exact ⟨none, 0, rfl, World.ownsRow_nil _ _ _ _, bstep hb1 hb2⟩
    · rw [hh] at conH
      have e1 : besB xs ts = true := by simp [besB, hc, hh]
      have e2 : putHL xs ts = putTo xs ts (tilesC xs) 10 := by unfold putHL; rw [if_pos e1]
      have hx56 := (chain_len hc).2
      have htl : (tilesC xs).length ≤ 1048576 := by rw [tilesC_len]; omega
      have conL := Lib.hid (fun W (hb : Below w.heap.size w W) => c_haTiles A c xs W (hrx.below hb) lx)
      have conO := Lib.hid (fun W (hb : Below w.heap.size w W) => c_l1Own A c xs W (hrx.below hb) lx)
      have conM := Lib.hid (fun (m : Int) W (hb : Below w.heap.size w W) => c_l1Has A c xs m W (hrx.below hb) (by omega))
      have Hr := Lib.hid (fun W (hb : Below w.heap.size w W) => hr.below hb)
      rw [e1, e2]
      generalize tilesC xs = laid at *
      clear e1 e2 hc hh hrx hr
      go_enter Try.func47, Try.ntmps47
      go_wp2_with (first | (go_at_call 58; refine conX.out.mono ?_; rintro e wa ⟨rfl, hba⟩) | (go_at_call 49; refine (conH.out _ hba).mono ?_; rintro e wb ⟨rfl, hbb⟩; have hbab := bstep hba hbb) | (go_at_call 67; refine (conO.out _ hbab).mono ?_; rintro e w1 ⟨L, cL, rfl, ho1, hbc⟩; have hb1 := bstep hbab hbc))
      have hs1 : w.heap.size ≤ wb.heap.size := hbab.size
      clear hba hbb hbab conX conH conO
      go_loopw [6, 7] (fun v i wr => ∃ (k : Nat) (A' : Option Addr) (c' : Nat), k ≤ 10 ∧ i = .int .i64 k ∧ v = .slice A' (putTo xs ts laid k).length c' ∧ wr.ownsRow wb.heap.size 3 1 (.slice A' (putTo xs ts laid k).length c') (putTo xs ts laid k).length (cellsI (putTo xs ts laid k)) ∧ Below w.heap.size w wr ∧ wb.heap.size ≤ wr.heap.size) (fun _ i _ => 10 - (intOf i).toNat)
      case atStart => exact ⟨0, L, cL, by omega, rfl, rfl, ho1, hb1, hbc.size⟩
      case round =>
        clear ho1 hb1 hbc
        obtain ⟨k, A', c', hk, rfl, rfl, hown, hb, hbs⟩ := hrel
        have hpl := putTo_len xs ts laid k
        by_cases hlt : k ≤ 9
        · have Hb := Lib.hid hb
          have Ho := Lib.hid hown
          have hP := Lib.hid (placeI_nonneg (ts := ts) (t := ((k : Int), (k : Int))))
          have hQ := Lib.hid (placeI_nonneg (ts := laid) (t := ((k : Int), (k : Int))))
          have hyes := Lib.hid (fun h => putTo_yes (xs := xs) (hand := ts) (laid := laid) (k := k) h)
          have hno := Lib.hid (fun h => putTo_no (xs := xs) (hand := ts) (laid := laid) (k := k) h)
          have hskip := Lib.hid (fun h => putTo_skip (xs := xs) (hand := ts) (laid := laid) (k := k) h)
          have hb0 := hb
          clear hb hown
          go_wp2_with (go_at_call 51; refine (c_tiOf _ _ _).mono ?_; rintro e wt ⟨rfl, hbt⟩)
          clear hb0
          have hbw := bstep Hb.out hbt
          have s0 : (wt.alloc (.cells #[.int .i64 k, .int .i64 k] 49)).cell? ⟨wt.heap.size, 0, none⟩ = some (.int .i64 k) := by simp
          have s1 : (wt.alloc (.cells #[.int .i64 k, .int .i64 k] 49)).cell? ⟨wt.heap.size, 1, none⟩ = some (.int .i64 k) := by simp
          have hbq : Below w.heap.size w (wt.alloc (.cells #[.int .i64 k, .int .i64 k] 49)) := hbw.alloc hbw.size _
          have Ho1 := Lib.hid ((own_keep Ho.out hbt).alloc (.cells #[.int .i64 k, .int .i64 k] 49))
          have hbt0 := hbt.size
          clear hbw hbt
          trace_state
          obtain ⟨wq, hwq⟩ : ∃ wq, wq = wt.alloc (.cells #[.int .i64 k, .int .i64 k] 49) := ⟨_, rfl⟩
          rw [← hwq] at hbq Ho1 s0 s1 ⊢
          obtain ⟨G, hG⟩ : ∃ G, G = wt.heap.size := ⟨_, rfl⟩
          rw [← hG] at s0 s1 ⊢
          have Hbq := Lib.hid hbq
          have hsq : wb.heap.size ≤ wq.drew.heap.size := Nat.le_trans hbs (show wr.heap.size ≤ wq.heap.size from by rw [hwq]; exact Nat.le_trans hbt0 (by simp))
          clear hwq hG hbq
          by_cases hin : ((k : Int), (k : Int)) ∈ ts
          · have hd : decide (0 ≤ placeI ts ((k : Int), (k : Int))) = true := decide_eq_true (hP.out.2 hin)
            by_cases hl2 : ((k : Int), (k : Int)) ∈ laid
            · have hd1 : decide (placeI laid ((k : Int), (k : Int)) < 0) = false := decide_eq_false (by have := hQ.out.2 hl2; omega)
              have hst := Lib.hid (hno.out (by simp [dblB, hin, hl2]))
              clear hin hl2 hyes hno hskip
              refine wp_region_held_drew (S := fun w' => w'.cell? ⟨G, 0, none⟩ = some (.int .i64 k) ∧ w'.cell? ⟨G, 1, none⟩ = some (.int .i64 k)) (by kernel_rfl) ⟨s0, s1⟩ (fun hH0 => ?_)
              refine reg_take 0 rfl (by kernel_rfl) (by kernel_rfl) (by kernel_rfl) (fun _ _ _ h => h) (by rfl) (fun w _ => by first | (go_simp; done) | (go_simp; with_reducible rfl)) (by assumption) ?_
              try simp only [Act.put, List.setIfInBounds_toArray, List.set_cons_zero, List.set_cons_succ, List.getElem_toArray, List.getElem_cons_zero, List.getElem_cons_succ]
              refine reg_take 1 rfl (by kernel_rfl) (by kernel_rfl) (by kernel_rfl) (fun _ _ _ h => h) (by rfl) (fun w hSw => by (try dsimp only at hSw); first | (go_simp; done) | (go_simp; with_reducible rfl)) (by assumption) ?_
              try simp only [Act.put, List.setIfInBounds_toArray, List.set_cons_zero, List.set_cons_succ, List.getElem_toArray, List.getElem_cons_zero, List.getElem_cons_succ]
              refine wpAnyH_ready (rs := [2]) (by kernel_rfl) (by simp) ?_
              refine AllReadyH.cons (i := 2) rfl (fun K hK => ?_) AllReadyH.nil
              go_simp
              refine (c_tiPlace B d ts k k _ (Hr.out _ Hbq.out.drew) (by omega)).mono ?_
              rintro e w5 ⟨rfl, hb5⟩
              have s50 := keepc hb5 (g1d _ s0)
              have s51 := keepc hb5 (g1d _ s1)
              refine hK.out _ _ ⟨s50, s51⟩ (fun hH2 => ?_)
              clear hK K
              try simp only [Act.put, List.setIfInBounds_toArray, List.set_cons_zero, List.set_cons_succ, List.getElem_toArray, List.getElem_cons_zero, List.getElem_cons_succ]
              refine reg_take 3 rfl (by kernel_rfl) (by kernel_rfl) (by kernel_rfl) (fun _ _ _ h => h) (by rfl) (fun w _ => by first | (go_simp; done) | (go_simp; with_reducible rfl)) (by assumption) ?_
              try simp only [Act.put, List.setIfInBounds_toArray, List.set_cons_zero, List.set_cons_succ, List.getElem_toArray, List.getElem_cons_zero, List.getElem_cons_succ]
              refine reg_take 4 rfl (by kernel_rfl) (by kernel_rfl) (by kernel_rfl) (fun _ _ _ h => h) (by rfl) (fun w _ => by first | (go_simp; done) | (go_simp; with_reducible rfl)) (by assumption) ?_
              try simp only [Act.put, List.setIfInBounds_toArray, List.set_cons_zero, List.set_cons_succ, List.getElem_toArray, List.getElem_cons_zero, List.getElem_cons_succ]
              refine reg_take 5 rfl (by kernel_rfl) (by kernel_rfl) (by kernel_rfl) (fun _ _ _ h => h) (by rfl) (fun w _ => by first | (go_simp; done) | (go_simp; with_reducible rfl)) (by assumption) ?_
              try simp only [Act.put, List.setIfInBounds_toArray, List.set_cons_zero, List.set_cons_succ, List.getElem_toArray, List.getElem_cons_zero, List.getElem_cons_succ]
              refine reg_take 7 rfl (by kernel_rfl) (by kernel_rfl) (by kernel_rfl) (fun _ _ _ h => h) (by rfl) (fun w hSw => by (try dsimp only at hSw); first | (go_simp; done) | (go_simp; with_reducible rfl)) (by assumption) ?_
              try simp only [Act.put, List.setIfInBounds_toArray, List.set_cons_zero, List.set_cons_succ, List.getElem_toArray, List.getElem_cons_zero, List.getElem_cons_succ]
              refine wpAnyH_ready (rs := [6]) (by kernel_rfl) (by simp) ?_
              refine AllReadyH.cons (i := 6) rfl (fun K hK => ?_) AllReadyH.nil
              go_simp
              refine (conL.out _ (bstep Hbq.out.drew hb5)).mono ?_
              rintro e w6 ⟨A6, c6, rfl, ho6, hb6⟩
              have s60 := keepc hb6 s50
              have s61 := keepc hb6 s51
              refine hK.out _ _ ⟨s60, s61⟩ (fun hH6 => ?_)
              clear hK K
              try simp only [Act.put, List.setIfInBounds_toArray, List.set_cons_zero, List.set_cons_succ, List.getElem_toArray, List.getElem_cons_zero, List.getElem_cons_succ]
              refine wpAnyH_ready (rs := [8]) (by kernel_rfl) (by simp) ?_
              refine AllReadyH.cons (i := 8) rfl (fun K hK => ?_) AllReadyH.nil
              go_simp
              refine (c_tiPlace A6 c6 laid k k _ (RdT.of_own ho6) (by omega)).mono ?_
              rintro e w7 ⟨rfl, hb7⟩
              have s70 := keepc hb7 s60
              have s71 := keepc hb7 s61
              refine hK.out _ _ ⟨s70, s71⟩ (fun hH8 => ?_)
              clear hK K
              try simp only [Act.put, List.setIfInBounds_toArray, List.set_cons_zero, List.set_cons_succ, List.getElem_toArray, List.getElem_cons_zero, List.getElem_cons_succ]
              refine reg_take 9 rfl (by kernel_rfl) (by kernel_rfl) (by kernel_rfl) (fun _ _ _ h => h) (by rfl) (fun w _ => by first | (go_simp; done) | (go_simp; with_reducible rfl)) (by assumption) ?_
              try simp only [Act.put, List.setIfInBounds_toArray, List.set_cons_zero, List.set_cons_succ, List.getElem_toArray, List.getElem_cons_zero, List.getElem_cons_succ]
              refine reg_take 10 rfl (by kernel_rfl) (by kernel_rfl) (by kernel_rfl) (fun _ _ _ h => h) (by rfl) (fun w _ => by first | (go_simp; done) | (go_simp; with_reducible rfl)) (by assumption) ?_
              try simp only [Act.put, List.setIfInBounds_toArray, List.set_cons_zero, List.set_cons_succ, List.getElem_toArray, List.getElem_cons_zero, List.getElem_cons_succ]
              refine reg_take 11 rfl (by kernel_rfl) (by kernel_rfl) (by kernel_rfl) (fun _ _ _ h => h) (by rfl) (fun w _ => by first | (go_simp; done) | (go_simp; with_reducible rfl)) (by assumption) ?_
              try simp only [Act.put, List.setIfInBounds_toArray, List.set_cons_zero, List.set_cons_succ, List.getElem_toArray, List.getElem_cons_zero, List.getElem_cons_succ]
              refine reg_skip 12 rfl (by kernel_rfl) (by kernel_rfl) (by kernel_rfl) (fun _ _ _ h => h) (by rfl) (by assumption) ?_
              try simp only [Act.put, List.setIfInBounds_toArray, List.set_cons_zero, List.set_cons_succ, List.getElem_toArray, List.getElem_cons_zero, List.getElem_cons_succ]
              refine reg_skip 13 rfl (by kernel_rfl) (by kernel_rfl) (by kernel_rfl) (fun _ _ _ h => h) (by rfl) (by assumption) ?_
              try simp only [Act.put, List.setIfInBounds_toArray, List.set_cons_zero, List.set_cons_succ, List.getElem_toArray, List.getElem_cons_zero, List.getElem_cons_succ]
              refine reg_skip 14 rfl (by kernel_rfl) (by kernel_rfl) (by kernel_rfl) (fun _ _ _ h => h) (by rfl) (by assumption) ?_
              try simp only [Act.put, List.setIfInBounds_toArray, List.set_cons_zero, List.set_cons_succ, List.getElem_toArray, List.getElem_cons_zero, List.getElem_cons_succ]
              refine reg_take 15 rfl (by kernel_rfl) (by kernel_rfl) (by kernel_rfl) (fun _ _ _ h => h) (by rfl) (fun w _ => by first | (go_simp; done) | (go_simp; with_reducible rfl)) (by assumption) ?_
              try simp only [Act.put, List.setIfInBounds_toArray, List.set_cons_zero, List.set_cons_succ, List.getElem_toArray, List.getElem_cons_zero, List.getElem_cons_succ]
              refine wpAnyH_done (by kernel_rfl) ?_ _
              go_wp2
              go_roundw
              case rel => exact ⟨k + 1, A', c', by omega, by go_num, by rw [hst.out], by rw [hst.out]; exact own_keep (own_keep (own_keep (own_drew Ho1.out) hb5) hb6) hb7, bstep (bstep (bstep Hbq.out.drew hb5) hb6) hb7, Nat.le_trans hsq (bstep (bstep hb5 hb6) hb7).size⟩
              case measure => simp [intOf]; omega
            · have hd1 : decide (placeI laid ((k : Int), (k : Int)) < 0) = true := decide_eq_true (by have := mt hQ.out.1 hl2; omega)
              by_cases hm : (k : Int) ∈ xs
              · have hd2 : decide ((k : Int) ∈ xs) = true := decide_eq_true hm
                have conM' := Lib.hid (fun W hb => conM.out k W hb)
                rw [hd2] at conM'
                have hst := Lib.hid (hyes.out (by simp [dblB, hin, hl2]))
                generalize putTo xs ts laid k = P at *
                have hpl' : P.length ≤ 1048576 := by omega
                clear hin hl2 hm hyes hno hskip hd2
                refine wp_region_held_drew (S := fun w' => w'.cell? ⟨G, 0, none⟩ = some (.int .i64 k) ∧ w'.cell? ⟨G, 1, none⟩ = some (.int .i64 k)) (by kernel_rfl) ⟨s0, s1⟩ (fun hH0 => ?_)
                refine reg_take 0 rfl (by kernel_rfl) (by kernel_rfl) (by kernel_rfl) (fun _ _ _ h => h) (by rfl) (fun w _ => by first | (go_simp; done) | (go_simp; with_reducible rfl)) (by assumption) ?_
                try simp only [Act.put, List.setIfInBounds_toArray, List.set_cons_zero, List.set_cons_succ, List.getElem_toArray, List.getElem_cons_zero, List.getElem_cons_succ]
                refine reg_take 1 rfl (by kernel_rfl) (by kernel_rfl) (by kernel_rfl) (fun _ _ _ h => h) (by rfl) (fun w hSw => by (try dsimp only at hSw); first | (go_simp; done) | (go_simp; with_reducible rfl)) (by assumption) ?_
                try simp only [Act.put, List.setIfInBounds_toArray, List.set_cons_zero, List.set_cons_succ, List.getElem_toArray, List.getElem_cons_zero, List.getElem_cons_succ]
                refine wpAnyH_ready (rs := [2]) (by kernel_rfl) (by simp) ?_
                refine AllReadyH.cons (i := 2) rfl (fun K hK => ?_) AllReadyH.nil
                go_simp
                refine (c_tiPlace B d ts k k _ (Hr.out _ Hbq.out.drew) (by omega)).mono ?_
                rintro e w5 ⟨rfl, hb5⟩
                have s50 := keepc hb5 (g1d _ s0)
                have s51 := keepc hb5 (g1d _ s1)
                refine hK.out _ _ ⟨s50, s51⟩ (fun hH2 => ?_)
                clear hK K
                try simp only [Act.put, List.setIfInBounds_toArray, List.set_cons_zero, List.set_cons_succ, List.getElem_toArray, List.getElem_cons_zero, List.getElem_cons_succ]
                refine reg_take 3 rfl (by kernel_rfl) (by kernel_rfl) (by kernel_rfl) (fun _ _ _ h => h) (by rfl) (fun w _ => by first | (go_simp; done) | (go_simp; with_reducible rfl)) (by assumption) ?_
                try simp only [Act.put, List.setIfInBounds_toArray, List.set_cons_zero, List.set_cons_succ, List.getElem_toArray, List.getElem_cons_zero, List.getElem_cons_succ]
                refine reg_take 4 rfl (by kernel_rfl) (by kernel_rfl) (by kernel_rfl) (fun _ _ _ h => h) (by rfl) (fun w _ => by first | (go_simp; done) | (go_simp; with_reducible rfl)) (by assumption) ?_
                try simp only [Act.put, List.setIfInBounds_toArray, List.set_cons_zero, List.set_cons_succ, List.getElem_toArray, List.getElem_cons_zero, List.getElem_cons_succ]
                refine reg_take 5 rfl (by kernel_rfl) (by kernel_rfl) (by kernel_rfl) (fun _ _ _ h => h) (by rfl) (fun w _ => by first | (go_simp; done) | (go_simp; with_reducible rfl)) (by assumption) ?_
                try simp only [Act.put, List.setIfInBounds_toArray, List.set_cons_zero, List.set_cons_succ, List.getElem_toArray, List.getElem_cons_zero, List.getElem_cons_succ]
                refine reg_take 7 rfl (by kernel_rfl) (by kernel_rfl) (by kernel_rfl) (fun _ _ _ h => h) (by rfl) (fun w hSw => by (try dsimp only at hSw); first | (go_simp; done) | (go_simp; with_reducible rfl)) (by assumption) ?_
                try simp only [Act.put, List.setIfInBounds_toArray, List.set_cons_zero, List.set_cons_succ, List.getElem_toArray, List.getElem_cons_zero, List.getElem_cons_succ]
                refine wpAnyH_ready (rs := [6]) (by kernel_rfl) (by simp) ?_
                refine AllReadyH.cons (i := 6) rfl (fun K hK => ?_) AllReadyH.nil
                go_simp
                refine (conL.out _ (bstep Hbq.out.drew hb5)).mono ?_
                rintro e w6 ⟨A6, c6, rfl, ho6, hb6⟩
                have s60 := keepc hb6 s50
                have s61 := keepc hb6 s51
                refine hK.out _ _ ⟨s60, s61⟩ (fun hH6 => ?_)
                clear hK K
                try simp only [Act.put, List.setIfInBounds_toArray, List.set_cons_zero, List.set_cons_succ, List.getElem_toArray, List.getElem_cons_zero, List.getElem_cons_succ]
                refine wpAnyH_ready (rs := [8]) (by kernel_rfl) (by simp) ?_
                refine AllReadyH.cons (i := 8) rfl (fun K hK => ?_) AllReadyH.nil
                go_simp
                refine (c_tiPlace A6 c6 laid k k _ (RdT.of_own ho6) (by omega)).mono ?_
                rintro e w7 ⟨rfl, hb7⟩
                have s70 := keepc hb7 s60
                have s71 := keepc hb7 s61
                refine hK.out _ _ ⟨s70, s71⟩ (fun hH8 => ?_)
                clear hK K
                try simp only [Act.put, List.setIfInBounds_toArray, List.set_cons_zero, List.set_cons_succ, List.getElem_toArray, List.getElem_cons_zero, List.getElem_cons_succ]
                refine reg_take 9 rfl (by kernel_rfl) (by kernel_rfl) (by kernel_rfl) (fun _ _ _ h => h) (by rfl) (fun w _ => by first | (go_simp; done) | (go_simp; with_reducible rfl)) (by assumption) ?_
                try simp only [Act.put, List.setIfInBounds_toArray, List.set_cons_zero, List.set_cons_succ, List.getElem_toArray, List.getElem_cons_zero, List.getElem_cons_succ]
                refine reg_take 10 rfl (by kernel_rfl) (by kernel_rfl) (by kernel_rfl) (fun _ _ _ h => h) (by rfl) (fun w _ => by first | (go_simp; done) | (go_simp; with_reducible rfl)) (by assumption) ?_
                try simp only [Act.put, List.setIfInBounds_toArray, List.set_cons_zero, List.set_cons_succ, List.getElem_toArray, List.getElem_cons_zero, List.getElem_cons_succ]
                refine reg_take 11 rfl (by kernel_rfl) (by kernel_rfl) (by kernel_rfl) (fun _ _ _ h => h) (by rfl) (fun w _ => by first | (go_simp; done) | (go_simp; with_reducible rfl)) (by assumption) ?_
                try simp only [Act.put, List.setIfInBounds_toArray, List.set_cons_zero, List.set_cons_succ, List.getElem_toArray, List.getElem_cons_zero, List.getElem_cons_succ]
                refine reg_take 12 rfl (by kernel_rfl) (by kernel_rfl) (by kernel_rfl) (fun _ _ _ h => h) (by rfl) (fun w _ => by first | (go_simp; done) | (go_simp; with_reducible rfl)) (by assumption) ?_
                try simp only [Act.put, List.setIfInBounds_toArray, List.set_cons_zero, List.set_cons_succ, List.getElem_toArray, List.getElem_cons_zero, List.getElem_cons_succ]
                refine reg_take 13 rfl (by kernel_rfl) (by kernel_rfl) (by kernel_rfl) (fun _ _ _ h => h) (by rfl) (fun w _ => by first | (go_simp; done) | (go_simp; with_reducible rfl)) (by assumption) ?_
                try simp only [Act.put, List.setIfInBounds_toArray, List.set_cons_zero, List.set_cons_succ, List.getElem_toArray, List.getElem_cons_zero, List.getElem_cons_succ]
                refine wpAnyH_ready (rs := [14]) (by kernel_rfl) (by simp) ?_
                refine AllReadyH.cons (i := 14) rfl (fun K hK => ?_) AllReadyH.nil
                go_simp
                refine (conM'.out _ (bstep (bstep (bstep Hbq.out.drew hb5) hb6) hb7)).mono ?_
                rintro e w8 ⟨rfl, hb8⟩
                have s80 := keepc hb8 s70
                have s81 := keepc hb8 s71
                refine hK.out _ _ ⟨s80, s81⟩ (fun hH14 => ?_)
                clear hK K
                try simp only [Act.put, List.setIfInBounds_toArray, List.set_cons_zero, List.set_cons_succ, List.getElem_toArray, List.getElem_cons_zero, List.getElem_cons_succ]
                refine reg_take 15 rfl (by kernel_rfl) (by kernel_rfl) (by kernel_rfl) (fun _ _ _ h => h) (by rfl) (fun w _ => by first | (go_simp; done) | (go_simp; with_reducible rfl)) (by assumption) ?_
                try simp only [Act.put, List.setIfInBounds_toArray, List.set_cons_zero, List.set_cons_succ, List.getElem_toArray, List.getElem_cons_zero, List.getElem_cons_succ]
                refine wpAnyH_done (by kernel_rfl) ?_ _
                have Ho8 := Lib.hid (own_keep (own_keep (own_keep (own_keep (own_drew Ho1.out) hb5) hb6) hb7) hb8)
                have hbz := bstep (bstep (bstep (bstep Hbq.out.drew hb5) hb6) hb7) hb8
                go_wp2_with (go_at_call 75; refine (c_haPut _ _ P k _ (RdI.of_own Ho8.out) hpl').mono ?_; rintro e w9 ⟨A9, c9, rfl, ho9, hb9⟩)
                go_roundw
                case rel => exact ⟨k + 1, A9, c9, by omega, by go_num, by rw [hst.out], by rw [hst.out]; exact own_base ho9 (Nat.le_trans hsq (bstep (bstep (bstep hb5 hb6) hb7) hb8).size), bstep hbz hb9, Nat.le_trans hsq (bstep (bstep (bstep (bstep hb5 hb6) hb7) hb8) hb9).size⟩
                case measure => simp [intOf]; omega
              · have hd2 : decide ((k : Int) ∈ xs) = false := decide_eq_false hm
                have conM' := Lib.hid (fun W hb => conM.out k W hb)
                rw [hd2] at conM'
                have hst := Lib.hid (hskip.out hm)
                clear hin hl2 hm hyes hno hskip hd2
                refine wp_region_held_drew (S := fun w' => w'.cell? ⟨G, 0, none⟩ = some (.int .i64 k) ∧ w'.cell? ⟨G, 1, none⟩ = some (.int .i64 k)) (by kernel_rfl) ⟨s0, s1⟩ (fun hH0 => ?_)
                refine reg_take 0 rfl (by kernel_rfl) (by kernel_rfl) (by kernel_rfl) (fun _ _ _ h => h) (by rfl) (fun w _ => by first | (go_simp; done) | (go_simp; with_reducible rfl)) (by assumption) ?_
                try simp only [Act.put, List.setIfInBounds_toArray, List.set_cons_zero, List.set_cons_succ, List.getElem_toArray, List.getElem_cons_zero, List.getElem_cons_succ]
                refine reg_take 1 rfl (by kernel_rfl) (by kernel_rfl) (by kernel_rfl) (fun _ _ _ h => h) (by rfl) (fun w hSw => by (try dsimp only at hSw); first | (go_simp; done) | (go_simp; with_reducible rfl)) (by assumption) ?_
                try simp only [Act.put, List.setIfInBounds_toArray, List.set_cons_zero, List.set_cons_succ, List.getElem_toArray, List.getElem_cons_zero, List.getElem_cons_succ]
                refine wpAnyH_ready (rs := [2]) (by kernel_rfl) (by simp) ?_
                refine AllReadyH.cons (i := 2) rfl (fun K hK => ?_) AllReadyH.nil
                go_simp
                refine (c_tiPlace B d ts k k _ (Hr.out _ Hbq.out.drew) (by omega)).mono ?_
                rintro e w5 ⟨rfl, hb5⟩
                have s50 := keepc hb5 (g1d _ s0)
                have s51 := keepc hb5 (g1d _ s1)
                refine hK.out _ _ ⟨s50, s51⟩ (fun hH2 => ?_)
                clear hK K
                try simp only [Act.put, List.setIfInBounds_toArray, List.set_cons_zero, List.set_cons_succ, List.getElem_toArray, List.getElem_cons_zero, List.getElem_cons_succ]
                refine reg_take 3 rfl (by kernel_rfl) (by kernel_rfl) (by kernel_rfl) (fun _ _ _ h => h) (by rfl) (fun w _ => by first | (go_simp; done) | (go_simp; with_reducible rfl)) (by assumption) ?_
                try simp only [Act.put, List.setIfInBounds_toArray, List.set_cons_zero, List.set_cons_succ, List.getElem_toArray, List.getElem_cons_zero, List.getElem_cons_succ]
                refine reg_take 4 rfl (by kernel_rfl) (by kernel_rfl) (by kernel_rfl) (fun _ _ _ h => h) (by rfl) (fun w _ => by first | (go_simp; done) | (go_simp; with_reducible rfl)) (by assumption) ?_
                try simp only [Act.put, List.setIfInBounds_toArray, List.set_cons_zero, List.set_cons_succ, List.getElem_toArray, List.getElem_cons_zero, List.getElem_cons_succ]
                refine reg_take 5 rfl (by kernel_rfl) (by kernel_rfl) (by kernel_rfl) (fun _ _ _ h => h) (by rfl) (fun w _ => by first | (go_simp; done) | (go_simp; with_reducible rfl)) (by assumption) ?_
                try simp only [Act.put, List.setIfInBounds_toArray, List.set_cons_zero, List.set_cons_succ, List.getElem_toArray, List.getElem_cons_zero, List.getElem_cons_succ]
                refine reg_take 7 rfl (by kernel_rfl) (by kernel_rfl) (by kernel_rfl) (fun _ _ _ h => h) (by rfl) (fun w hSw => by (try dsimp only at hSw); first | (go_simp; done) | (go_simp; with_reducible rfl)) (by assumption) ?_
                try simp only [Act.put, List.setIfInBounds_toArray, List.set_cons_zero, List.set_cons_succ, List.getElem_toArray, List.getElem_cons_zero, List.getElem_cons_succ]
                refine wpAnyH_ready (rs := [6]) (by kernel_rfl) (by simp) ?_
                refine AllReadyH.cons (i := 6) rfl (fun K hK => ?_) AllReadyH.nil
                go_simp
                refine (conL.out _ (bstep Hbq.out.drew hb5)).mono ?_
                rintro e w6 ⟨A6, c6, rfl, ho6, hb6⟩
                have s60 := keepc hb6 s50
                have s61 := keepc hb6 s51
                refine hK.out _ _ ⟨s60, s61⟩ (fun hH6 => ?_)
                clear hK K
                try simp only [Act.put, List.setIfInBounds_toArray, List.set_cons_zero, List.set_cons_succ, List.getElem_toArray, List.getElem_cons_zero, List.getElem_cons_succ]
                refine wpAnyH_ready (rs := [8]) (by kernel_rfl) (by simp) ?_
                refine AllReadyH.cons (i := 8) rfl (fun K hK => ?_) AllReadyH.nil
                go_simp
                refine (c_tiPlace A6 c6 laid k k _ (RdT.of_own ho6) (by omega)).mono ?_
                rintro e w7 ⟨rfl, hb7⟩
                have s70 := keepc hb7 s60
                have s71 := keepc hb7 s61
                refine hK.out _ _ ⟨s70, s71⟩ (fun hH8 => ?_)
                clear hK K
                try simp only [Act.put, List.setIfInBounds_toArray, List.set_cons_zero, List.set_cons_succ, List.getElem_toArray, List.getElem_cons_zero, List.getElem_cons_succ]
                refine reg_take 9 rfl (by kernel_rfl) (by kernel_rfl) (by kernel_rfl) (fun _ _ _ h => h) (by rfl) (fun w _ => by first | (go_simp; done) | (go_simp; with_reducible rfl)) (by assumption) ?_
                try simp only [Act.put, List.setIfInBounds_toArray, List.set_cons_zero, List.set_cons_succ, List.getElem_toArray, List.getElem_cons_zero, List.getElem_cons_succ]
                refine reg_take 10 rfl (by kernel_rfl) (by kernel_rfl) (by kernel_rfl) (fun _ _ _ h => h) (by rfl) (fun w _ => by first | (go_simp; done) | (go_simp; with_reducible rfl)) (by assumption) ?_
                try simp only [Act.put, List.setIfInBounds_toArray, List.set_cons_zero, List.set_cons_succ, List.getElem_toArray, List.getElem_cons_zero, List.getElem_cons_succ]
                refine reg_take 11 rfl (by kernel_rfl) (by kernel_rfl) (by kernel_rfl) (fun _ _ _ h => h) (by rfl) (fun w _ => by first | (go_simp; done) | (go_simp; with_reducible rfl)) (by assumption) ?_
                try simp only [Act.put, List.setIfInBounds_toArray, List.set_cons_zero, List.set_cons_succ, List.getElem_toArray, List.getElem_cons_zero, List.getElem_cons_succ]
                refine reg_take 12 rfl (by kernel_rfl) (by kernel_rfl) (by kernel_rfl) (fun _ _ _ h => h) (by rfl) (fun w _ => by first | (go_simp; done) | (go_simp; with_reducible rfl)) (by assumption) ?_
                try simp only [Act.put, List.setIfInBounds_toArray, List.set_cons_zero, List.set_cons_succ, List.getElem_toArray, List.getElem_cons_zero, List.getElem_cons_succ]
                refine reg_take 13 rfl (by kernel_rfl) (by kernel_rfl) (by kernel_rfl) (fun _ _ _ h => h) (by rfl) (fun w _ => by first | (go_simp; done) | (go_simp; with_reducible rfl)) (by assumption) ?_
                try simp only [Act.put, List.setIfInBounds_toArray, List.set_cons_zero, List.set_cons_succ, List.getElem_toArray, List.getElem_cons_zero, List.getElem_cons_succ]
                refine wpAnyH_ready (rs := [14]) (by kernel_rfl) (by simp) ?_
                refine AllReadyH.cons (i := 14) rfl (fun K hK => ?_) AllReadyH.nil
                go_simp
                refine (conM'.out _ (bstep (bstep (bstep Hbq.out.drew hb5) hb6) hb7)).mono ?_
                rintro e w8 ⟨rfl, hb8⟩
                have s80 := keepc hb8 s70
                have s81 := keepc hb8 s71
                refine hK.out _ _ ⟨s80, s81⟩ (fun hH14 => ?_)
                clear hK K
                try simp only [Act.put, List.setIfInBounds_toArray, List.set_cons_zero, List.set_cons_succ, List.getElem_toArray, List.getElem_cons_zero, List.getElem_cons_succ]
                refine reg_take 15 rfl (by kernel_rfl) (by kernel_rfl) (by kernel_rfl) (fun _ _ _ h => h) (by rfl) (fun w _ => by first | (go_simp; done) | (go_simp; with_reducible rfl)) (by assumption) ?_
                try simp only [Act.put, List.setIfInBounds_toArray, List.set_cons_zero, List.set_cons_succ, List.getElem_toArray, List.getElem_cons_zero, List.getElem_cons_succ]
                refine wpAnyH_done (by kernel_rfl) ?_ _
                go_wp2
                go_roundw
                case rel => exact ⟨k + 1, A', c', by omega, by go_num, by rw [hst.out], by rw [hst.out]; exact own_keep (own_keep (own_keep (own_keep (own_drew Ho1.out) hb5) hb6) hb7) hb8, bstep (bstep (bstep (bstep Hbq.out.drew hb5) hb6) hb7) hb8, Nat.le_trans hsq (bstep (bstep (bstep hb5 hb6) hb7) hb8).size⟩
                case measure => simp [intOf]; omega
          · have hd : decide (0 ≤ placeI ts ((k : Int), (k : Int))) = false := decide_eq_false (fun h => hin (hP.out.1 h))
            have hst := Lib.hid (hno.out (by simp [dblB, hin]))
            clear hin hyes hno hskip
            refine wp_region_held_drew (S := fun w' => w'.cell? ⟨G, 0, none⟩ = some (.int .i64 k) ∧ w'.cell? ⟨G, 1, none⟩ = some (.int .i64 k)) (by kernel_rfl) ⟨s0, s1⟩ (fun hH0 => ?_)
            refine reg_take 0 rfl (by kernel_rfl) (by kernel_rfl) (by kernel_rfl) (fun _ _ _ h => h) (by rfl) (fun w _ => by first | (go_simp; done) | (go_simp; with_reducible rfl)) (by assumption) ?_
            try simp only [Act.put, List.setIfInBounds_toArray, List.set_cons_zero, List.set_cons_succ, List.getElem_toArray, List.getElem_cons_zero, List.getElem_cons_succ]
            refine reg_take 1 rfl (by kernel_rfl) (by kernel_rfl) (by kernel_rfl) (fun _ _ _ h => h) (by rfl) (fun w hSw => by (try dsimp only at hSw); first | (go_simp; done) | (go_simp; with_reducible rfl)) (by assumption) ?_
            try simp only [Act.put, List.setIfInBounds_toArray, List.set_cons_zero, List.set_cons_succ, List.getElem_toArray, List.getElem_cons_zero, List.getElem_cons_succ]
            refine wpAnyH_ready (rs := [2]) (by kernel_rfl) (by simp) ?_
            refine AllReadyH.cons (i := 2) rfl (fun K hK => ?_) AllReadyH.nil
            go_simp
            refine (c_tiPlace B d ts k k _ (Hr.out _ Hbq.out.drew) (by omega)).mono ?_
            rintro e w5 ⟨rfl, hb5⟩
            have s50 := keepc hb5 (g1d _ s0)
            have s51 := keepc hb5 (g1d _ s1)
            refine hK.out _ _ ⟨s50, s51⟩ (fun hH2 => ?_)
            clear hK K
            try simp only [Act.put, List.setIfInBounds_toArray, List.set_cons_zero, List.set_cons_succ, List.getElem_toArray, List.getElem_cons_zero, List.getElem_cons_succ]
            refine reg_take 3 rfl (by kernel_rfl) (by kernel_rfl) (by kernel_rfl) (fun _ _ _ h => h) (by rfl) (fun w _ => by first | (go_simp; done) | (go_simp; with_reducible rfl)) (by assumption) ?_
            try simp only [Act.put, List.setIfInBounds_toArray, List.set_cons_zero, List.set_cons_succ, List.getElem_toArray, List.getElem_cons_zero, List.getElem_cons_succ]
            refine reg_take 4 rfl (by kernel_rfl) (by kernel_rfl) (by kernel_rfl) (fun _ _ _ h => h) (by rfl) (fun w _ => by first | (go_simp; done) | (go_simp; with_reducible rfl)) (by assumption) ?_
            try simp only [Act.put, List.setIfInBounds_toArray, List.set_cons_zero, List.set_cons_succ, List.getElem_toArray, List.getElem_cons_zero, List.getElem_cons_succ]
            refine reg_skip 5 rfl (by kernel_rfl) (by kernel_rfl) (by kernel_rfl) (fun _ _ _ h => h) (by rfl) (by assumption) ?_
            try simp only [Act.put, List.setIfInBounds_toArray, List.set_cons_zero, List.set_cons_succ, List.getElem_toArray, List.getElem_cons_zero, List.getElem_cons_succ]
            refine reg_skip 6 rfl (by kernel_rfl) (by kernel_rfl) (by kernel_rfl) (fun _ _ _ h => h) (by rfl) (by assumption) ?_
            try simp only [Act.put, List.setIfInBounds_toArray, List.set_cons_zero, List.set_cons_succ, List.getElem_toArray, List.getElem_cons_zero, List.getElem_cons_succ]
            refine reg_skip 7 rfl (by kernel_rfl) (by kernel_rfl) (by kernel_rfl) (fun _ _ _ h => h) (by rfl) (by assumption) ?_
            try simp only [Act.put, List.setIfInBounds_toArray, List.set_cons_zero, List.set_cons_succ, List.getElem_toArray, List.getElem_cons_zero, List.getElem_cons_succ]
            refine reg_skip 8 rfl (by kernel_rfl) (by kernel_rfl) (by kernel_rfl) (fun _ _ _ h => h) (by rfl) (by assumption) ?_
            try simp only [Act.put, List.setIfInBounds_toArray, List.set_cons_zero, List.set_cons_succ, List.getElem_toArray, List.getElem_cons_zero, List.getElem_cons_succ]
            refine reg_skip 9 rfl (by kernel_rfl) (by kernel_rfl) (by kernel_rfl) (fun _ _ _ h => h) (by rfl) (by assumption) ?_
            try simp only [Act.put, List.setIfInBounds_toArray, List.set_cons_zero, List.set_cons_succ, List.getElem_toArray, List.getElem_cons_zero, List.getElem_cons_succ]
            refine reg_take 10 rfl (by kernel_rfl) (by kernel_rfl) (by kernel_rfl) (fun _ _ _ h => h) (by rfl) (fun w _ => by first | (go_simp; done) | (go_simp; with_reducible rfl)) (by assumption) ?_
            try simp only [Act.put, List.setIfInBounds_toArray, List.set_cons_zero, List.set_cons_succ, List.getElem_toArray, List.getElem_cons_zero, List.getElem_cons_succ]
            refine reg_take 11 rfl (by kernel_rfl) (by kernel_rfl) (by kernel_rfl) (fun _ _ _ h => h) (by rfl) (fun w _ => by first | (go_simp; done) | (go_simp; with_reducible rfl)) (by assumption) ?_
            try simp only [Act.put, List.setIfInBounds_toArray, List.set_cons_zero, List.set_cons_succ, List.getElem_toArray, List.getElem_cons_zero, List.getElem_cons_succ]
            refine reg_skip 12 rfl (by kernel_rfl) (by kernel_rfl) (by kernel_rfl) (fun _ _ _ h => h) (by rfl) (by assumption) ?_
            try simp only [Act.put, List.setIfInBounds_toArray, List.set_cons_zero, List.set_cons_succ, List.getElem_toArray, List.getElem_cons_zero, List.getElem_cons_succ]
            refine reg_skip 13 rfl (by kernel_rfl) (by kernel_rfl) (by kernel_rfl) (fun _ _ _ h => h) (by rfl) (by assumption) ?_
            try simp only [Act.put, List.setIfInBounds_toArray, List.set_cons_zero, List.set_cons_succ, List.getElem_toArray, List.getElem_cons_zero, List.getElem_cons_succ]
            refine reg_skip 14 rfl (by kernel_rfl) (by kernel_rfl) (by kernel_rfl) (fun _ _ _ h => h) (by rfl) (by assumption) ?_
            try simp only [Act.put, List.setIfInBounds_toArray, List.set_cons_zero, List.set_cons_succ, List.getElem_toArray, List.getElem_cons_zero, List.getElem_cons_succ]
            refine reg_take 15 rfl (by kernel_rfl) (by kernel_rfl) (by kernel_rfl) (fun _ _ _ h => h) (by rfl) (fun w _ => by first | (go_simp; done) | (go_simp; with_reducible rfl)) (by assumption) ?_
            try simp only [Act.put, List.setIfInBounds_toArray, List.set_cons_zero, List.set_cons_succ, List.getElem_toArray, List.getElem_cons_zero, List.getElem_cons_succ]
            refine wpAnyH_done (by kernel_rfl) ?_ _
            go_wp2
            go_roundw
            case rel => exact ⟨k + 1, A', c', by omega, by go_num, by rw [hst.out], by rw [hst.out]; exact own_keep (own_drew Ho1.out) hb5, bstep Hbq.out.drew hb5, Nat.le_trans hsq hb5.size⟩
            case measure => simp [intOf]; omega
        · obtain rfl : k = 10 := by omega
          go_wp2
          go_ret2
          exact ⟨A', c', rfl, own_base hown hs1, hb⟩

end Go.Proofs.Ytghemmocbmkgiaa

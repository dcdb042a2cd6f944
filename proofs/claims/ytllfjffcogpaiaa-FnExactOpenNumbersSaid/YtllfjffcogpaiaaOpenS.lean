/- The numbers at the ends: the specification's. -/
import Derived.Test.YtllfjffcogpaiaaLySp
import Derived.Test.YtllfjffcogpaiaaOpenM
namespace Go.Proofs.Ytllfjffcogpaiaa
open Go.RowKit
set_option linter.unusedVariables false

set_option maxRecDepth 100000 in
set_option maxHeartbeats 1000000 in
theorem c_l1HasO (A : Option Addr) (c : Nat) (xs : List Int) (n : Int) (w : World) (hr : RdI w A xs) (hl : xs.length ≤ 9223372036854775807) :
    Calls Try.prog 64 #[.slice A xs.length c, .int .i64 n] w fun e w' => e = .returned (.bool (decide (n ∈ xs))) ∧ Below w.heap.size w w' := by
  go_enter Try.func64, Try.ntmps64
  go_wp2
  go_loopw [9] (fun i wr => ∃ k : Nat, k ≤ xs.length ∧ i = .int .i64 k ∧ (∀ j (hj : j < xs.length), j < k → xs[j] ≠ n) ∧ Below w.heap.size w wr) (fun i _ => xs.length - (intOf i).toNat)
  case atStart => exact ⟨0, Nat.zero_le _, rfl, by omega, Below.refl _ _⟩
  case round =>
    obtain ⟨k, hk, rfl, hn, hb⟩ := hrel
    by_cases hlt : k < xs.length
    · obtain ⟨bk, off, rfl, hbk, hc⟩ := hr.at_ hlt
      have g1 := (hb.cell (p := ⟨bk, _, none⟩) hbk).trans (hc k hlt)
      have Hn := Lib.hid hn
      have Hb := Lib.hid hb
      have hz := hb.size
      clear hc hr hn hb
      by_cases heq : (xs[k] == n) = true
      · have Hin := Lib.hid (decide_eq_true (beq_iff_eq.1 heq ▸ List.getElem_mem hlt) : decide (n ∈ xs) = true)
        go_wp2
        go_ret
        exact ⟨ret_b Hin.out.symm, by have hb := Hb.out; go_grown⟩
      · have heq' : (xs[k] == n) = false := (Bool.not_eq_true _).mp heq
        have Hne := Lib.hid (fun e => heq (beq_iff_eq.2 e) : xs[k] = n → False)
        clear heq
        go_wp2
        go_roundw
        case rel =>
          refine ⟨k + 1, by omega, by go_num, fun j hj hjk => ?_, by have hb := Hb.out; go_grown⟩
          rcases Nat.lt_succ_iff_lt_or_eq.1 hjk with h | rfl
          · exact Hn.out j hj h
          · exact Hne.out
        case measure => simp [intOf]; omega
    · go_wp2
      go_ret
      refine ⟨ret_b ?_, hb⟩
      symm
      exact decide_eq_false fun h => by
        obtain ⟨j, hj, e⟩ := List.getElem_of_mem h
        exact hn j hj (by omega) e

def endsA (arms : List (Int × Bool × Bool)) : List Int := arms.map fun a => a.1
theorem endsA_len (arms : List (Int × Bool × Bool)) : (endsA arms).length = arms.length := by simp [endsA]
theorem endsA_get {arms : List (Int × Bool × Bool)} {k : Nat} (h : k < arms.length) : (endsA arms)[k]'(by rw [endsA_len]; exact h) = arms[k].1 := by simp [endsA]
def openHL (ps : List (Int × Int × Int)) : List Int := numsL (endsA (brdD ps).arms) 10
theorem openHL_len (ps : List (Int × Int × Int)) : (openHL ps).length ≤ 110 := by have := numsL_len (endsA (brdD ps).arms) 10; unfold openHL; omega

set_option maxRecDepth 100000 in
set_option maxHeartbeats 1000000 in
theorem c_specOpen (A : Option Addr) (c : Nat) (ps : List (Int × Int × Int)) (w : World) (hr : RdP w A ps) (hl : ps.length ≤ 1048576) :
    Calls Try.prog 33 #[.slice A ps.length c] w (RetI w (openHL ps) (okL ps)) := by
  have con := Lib.hid (c_lyRead A c ps w hr hl)
  cases hok : okL ps
  · have e1 : openHL ps = [] := by unfold openHL; rw [brdD_no hok]; simp [endsA, Brd.none, numsL]
    rw [hok] at con
    rw [e1]
    clear e1 hok hr
    go_enter Try.func33, Try.ntmps33
    go_wp2_with (go_at_call 56; refine con.out.mono ?_; rintro e w1 ⟨g, S, rfl, hs, hb1⟩; clear hs)
    go_ret2
    exact ⟨none, 0, rfl, World.ownsRow_nil _ _ _ _, hb1⟩
  · rw [hok] at con
    have h4 := (brdD_ok ps).four
    unfold openHL
    generalize hB : brdD ps = B at con h4 ⊢
    clear hok hr hB
    obtain ⟨es, hes⟩ : ∃ es, es = endsA B.arms := ⟨_, rfl⟩
    have hel : es.length = B.arms.length := by rw [hes]; exact endsA_len _
    have heg : ∀ k (h' : k < es.length) (h : k < B.arms.length), es[k] = B.arms[k].1 := fun k h' h => by subst hes; exact endsA_get h
    rw [← hes]
    have Hel := Lib.hid hel
    have Heg := Lib.hid heg
    clear hes hel heg
    go_enter Try.func33, Try.ntmps33
    go_wp2_with (go_at_call 56; refine con.out.mono ?_; rintro e w1 ⟨g, S, rfl, hs, hb1⟩; obtain ⟨⟨A1, c1, B1, d1, hv⟩, hR⟩ := hs rfl; clear hs; have k0 := hv.c0; have ho := hv.ao; rw [hR.arms] at k0 ho; have Ho := Lib.hid (RdA.of_own ho); clear hv ho hR)
    go_loopw [6, 7] (fun o i wr => ∃ (n : Nat) (A2 : Option Addr) (c2 : Nat), n ≤ 10 ∧ i = .int .i64 n ∧ o = .slice A2 (numsL es n).length c2 ∧ wr.ownsRow w1.heap.size 3 1 (.slice A2 (numsL es n).length c2) (numsL es n).length (cellsI (numsL es n)) ∧ Below w1.heap.size w1 wr) (fun _ i _ => 10 - (intOf i).toNat)
    case atStart => exact ⟨0, none, 0, by omega, rfl, rfl, World.ownsRow_nil _ _ _ _, Below.refl _ _⟩
    case round =>
      obtain ⟨n, A2, c2, hn, rfl, rfl, ho2, hb2⟩ := hrel
      have k2 := keepc hb2 k0
      by_cases hlt : n < 10
      · have i1 : (n : Int) ≤ 9 := by omega
        go_wp2
        go_loopw [6, 26] (fun o i wr2 => ∃ (j : Nat) (A3 : Option Addr) (c3 : Nat), j ≤ B.arms.length ∧ i = .int .i64 j ∧ o = .slice A3 (numsJ es n j).length c3 ∧ wr2.ownsRow w1.heap.size 3 1 (.slice A3 (numsJ es n j).length c3) (numsJ es n j).length (cellsI (numsJ es n j)) ∧ Below w1.heap.size w1 wr2) (fun _ i _ => B.arms.length - (intOf i).toNat)
        case atStart => exact ⟨0, A2, c2, Nat.zero_le _, rfl, by rw [numsJ_zero], by rw [numsJ_zero]; exact ho2, hb2⟩
        case round =>
          clear ho2 hb2
          obtain ⟨j, A3, c3, hj, rfl, rfl, ho3, hb3⟩ := hrel
          by_cases hjl : j < B.arms.length
          · obtain ⟨bk, off, rfl, hbk, hc⟩ := Ho.out.at_ hjl
            have g0 := (hb3.cell (p := ⟨bk, _, none⟩) hbk).trans (hc j hjl).1
            have g1 := (hb3.cell (p := ⟨bk, _, none⟩) hbk).trans (hc j hjl).2.1
            have g2 := (hb3.cell (p := ⟨bk, _, none⟩) hbk).trans (hc j hjl).2.2
            have hej : j < es.length := by rw [Hel.out]; exact hjl
            have hx0 := Heg.out j hej hjl
            obtain ⟨x, hx⟩ : ∃ x, B.arms[j].1 = x := ⟨_, rfl⟩
            obtain ⟨y, hy⟩ : ∃ y, B.arms[j].2.1 = y := ⟨_, rfl⟩
            obtain ⟨z, hz⟩ : ∃ z, B.arms[j].2.2 = z := ⟨_, rfl⟩
            rw [hx] at g0 hx0
            rw [hy] at g1
            rw [hz] at g2
            have Hb3 := Lib.hid hb3
            have Ho3 := Lib.hid ho3
            have hz3 := hb3.size
            have hlen := numsJ_len es n j
            clear hc hx hy hz hb3 ho3
            by_cases hq : x = (n : Int)
            · have hq' : (x == (n : Int)) = true := beq_iff_eq.2 hq
              have conL := Lib.hid (fun W (hb : Below wr.heap.size wr W) => c_l1HasO A3 c3 (numsJ es n j) (n : Int) W ((RdI.of_own Ho3.out).below hb) (by omega))
              have hbA : Below wr.heap.size wr (wr.alloc (.cells #[.int .i64 x, .bool y, .bool z] 80)) := (Below.refl _ _).alloc (Nat.le_refl _) _
              have hnew := Lib.hid (fun h => numsJ_new (n := n) hej (hx0.trans hq) h)
              have hhad := Lib.hid (fun h => numsJ_had (n := n) hej h)
              clear hx0 hq
              cases hm : decide ((n : Int) ∈ numsJ es n j)
              · rw [hm] at conL
                have Hnew := Lib.hid (hnew.out (of_decide_eq_false hm))
                clear hm hnew hhad
                go_wp2_with (first | (go_at_call 64; refine (conL.out _ hbA).mono ?_; rintro e w4 ⟨rfl, hb4⟩; have Ho4 := Lib.hid (own_keep (own_keep Ho3.out hbA) hb4); have Hb4 := Lib.hid (bstep (bstep Hb3.out hbA) hb4); have hz4 := Hb4.out.size; clear hb4) | (at_builtin; refine wp_append_int rfl _ _ rfl w1.heap.size _ (numsJ es n j) rfl (Ho4.out.alloc _) (n : Int) (w4.heap.size) rfl (by simp) (by omega) (by simp; omega) ?_; intro A5 c5 w5 ho5 hg5))
                go_roundw
                case rel => exact ⟨j + 1, A5, c5, by omega, by go_num, by rw [Hnew.out, List.length_append]; rfl, by rw [Hnew.out, List.length_append]; exact ho5, Below.grown (by have hb0 := Hb4.out; go_grown) hg5 (by simp; omega) (fun g hg => (Ho4.out.lt g hg).1)⟩
                case measure => simp [intOf]; omega
              · rw [hm] at conL
                have Hhad := Lib.hid (hhad.out (of_decide_eq_true hm))
                clear hm hnew hhad
                go_wp2_with (go_at_call 64; refine (conL.out _ hbA).mono ?_; rintro e w4 ⟨rfl, hb4⟩)
                go_roundw
                case rel => exact ⟨j + 1, A3, c3, by omega, by go_num, by rw [Hhad.out], by rw [Hhad.out]; exact own_keep (own_keep Ho3.out hbA) hb4, bstep (bstep Hb3.out hbA) hb4⟩
                case measure => simp [intOf]; omega
            · have hq' : (x == (n : Int)) = false := beq_eq_false_iff_ne.2 hq
              have Hoth := Lib.hid (numsJ_other (n := n) hej (fun h => hq (hx0.symm.trans h)))
              have hbA : Below wr.heap.size wr (wr.alloc (.cells #[.int .i64 x, .bool y, .bool z] 80)) := (Below.refl _ _).alloc (Nat.le_refl _) _
              clear hx0 hq
              go_wp2
              go_roundw
              case rel => exact ⟨j + 1, A3, c3, by omega, by go_num, by rw [Hoth.out], by rw [Hoth.out]; exact own_keep Ho3.out hbA, bstep Hb3.out hbA⟩
              case measure => simp [intOf]; omega
          · have hje : j = B.arms.length := by omega
            subst hje
            have hall : numsJ es n B.arms.length = numsL es (n + 1) := by rw [← Hel.out]; exact numsJ_all es n
            rw [hall] at ho3 ⊢
            have Ho3 := Lib.hid ho3
            have Hb3 := Lib.hid hb3
            clear hall ho3 hb3
            go_wp2
            go_roundw
            case rel => exact ⟨n + 1, A3, c3, by omega, by go_num, rfl, Ho3.out, Hb3.out⟩
            case measure => simp [intOf]; omega
      · have hn10 : n = 10 := by omega
        subst hn10
        go_wp2
        go_ret2
        exact ⟨A2, c2, rfl, own_base ho2 hb1.size, bstep hb1 hb2⟩
end Go.Proofs.Ytllfjffcogpaiaa

/- Puzzles: the program's IsPuzzle and CountGaps. -/
import Derived.Test.YtjdnkcdnppcbhabDoorPzM
import Derived.Test.YtjdnkcdnppcbhabDoorPzB
import Derived.Test.YtjdnkcdnppcbhabDoorSortM
import Derived.Test.YtjdnkcdnppcbhabDoorMap
import Derived.Deep.Cut
import Derived.BigQuiet
namespace Go.Proofs.YtjdnkcdnppcbhabDoor
open Go.RowKit
set_option linter.unusedVariables false

theorem g1dM {w : World} (a : Addr) {v : Value} (h : w.cell? a = some v) : w.drew.cell? a = some v := h
/-- No neighbours from place m on stand the wrong way. -/
def upFrom (ts : List (Int × Int)) (m : Nat) : Prop := ∀ k (hk : k + 1 < ts.length), m ≤ k + 1 → ¬ ltT ts[k + 1] ts[k]

set_option maxRecDepth 100000 in
set_option maxHeartbeats 2000000 in
theorem c_isSorted (A : Option Addr) (c : Nat) (ts : List (Int × Int)) (w : World) (hr : RdT w A ts) (hh : handB ts = true) :
    Calls Tryd.prog 41 #[.slice A ts.length c, .func (.func 42) #[] #[]] w fun e w' => e = .returned (.bool (decide (sortL ts = ts))) ∧ Below w.heap.size w w' := by
  have hl55 : ts.length ≤ 55 := (of_decide_eq_true hh : handP ts).1
  have Up := Lib.hid (fun (h : upFrom ts 1) => decide_eq_true (adj_sorted hh (fun k hk => h k hk (by omega))))
  have Dn := Lib.hid (fun k (hk : k + 1 < ts.length) (h : ltT ts[k + 1] ts[k]) => (decide_eq_false (fun e => sorted_adj e k hk h) : decide (sortL ts = ts) = false))
  generalize decide (sortL ts = ts) = res at *
  clear hh
  have i7 : IntKind.i64.wrap ((ts.length : Int) - 1) = (ts.length : Int) - 1 := IntWalk.i64_in _ (by omega)
  go_enter Tryd.func41, Tryd.ntmps41
  go_wp2
  go_loopw [5] (fun i wr => ∃ m : Int, -1 ≤ m ∧ m < ts.length ∧ i = .int .i64 m ∧ upFrom ts (m + 1).toNat ∧ Below w.heap.size w wr) (fun i _ => (intOf i + 1).toNat)
  case atStart => exact ⟨(ts.length : Int) - 1, by omega, by omega, rfl, fun k hk h => by omega, Below.refl _ _⟩
  case round =>
    obtain ⟨m, hm0, hm1, rfl, hu, hb⟩ := hrel
    by_cases hpos : 0 < m
    · obtain ⟨k, rfl⟩ : ∃ k : Nat, m = (k : Int) + 1 := ⟨(m - 1).toNat, by omega⟩
      have hlt : k + 1 < ts.length := by omega
      have hk0 : k < ts.length := by omega
      obtain ⟨bk, off, rfl, hbk, hc⟩ := hr.at_ hlt
      have g1 := keepc hb (hc (k + 1) hlt).1
      have g2 := keepc hb (hc (k + 1) hlt).2
      have g3 := keepc hb (hc k hk0).1
      have g4 := keepc hb (hc k hk0).2
      have Con := Lib.hid (fun W => c_compareTilesB ts[k + 1] (ts[k]'hk0) W)
      have Hu := Lib.hid hu
      have Hb := Lib.hid hb
      have hz := hb.size
      have Dk := Lib.hid (Dn.out k hlt)
      have i0 : IntKind.i64.wrap ((k : Int) + 1 - 1) = (k : Int) := by rw [IntWalk.i64_in _ (by omega)]; omega
      have i1 : (0 : Int) ≤ (k : Int) := by omega
      have i2 : (k : Int) < (ts.length : Int) := by omega
      have i3 : (k : Int) + 1 < (ts.length : Int) := by omega
      have i4 : (0 : Int) ≤ (k : Int) + 1 := by omega
      have i5 : (k : Int) + 1 - 1 = (k : Int) := by omega
      have i6 : (0 : Int) < (k : Int) + 1 := by omega
      have i8 : IntKind.i64.wrap (k : Int) = (k : Int) := IntWalk.i64_in _ (by omega)
      have Cl := Lib.hid (cmpT_lt ts[k + 1] (ts[k]'hk0))
      obtain ⟨z, hz0⟩ : ∃ z, cmpT ts[k + 1] (ts[k]'hk0) = z := ⟨_, rfl⟩
      have con2 := Con.out
      simp only [hz0] at con2
      have cl2 := Cl.out
      rw [hz0] at cl2
      obtain ⟨p, hp⟩ : ∃ p, ts[k + 1].1 = p := ⟨_, rfl⟩
      obtain ⟨q, hq⟩ : ∃ q, ts[k + 1].2 = q := ⟨_, rfl⟩
      obtain ⟨r, hr1⟩ : ∃ r, (ts[k]'hk0).1 = r := ⟨_, rfl⟩
      obtain ⟨s, hs⟩ : ∃ s, (ts[k]'hk0).2 = s := ⟨_, rfl⟩
      rw [hp] at g1
      rw [hq] at g2
      rw [hr1] at g3
      rw [hs] at g4
      simp only [hp, hq, hr1, hs] at con2
      have Con2 := Lib.hid con2
      have n0 := block_lt g1
      clear hc hr hu hb Con hz0 con2 Cl hp hq hr1 hs
      by_cases hzn : z < 0
      · have hres := Lib.hid (Dk.out (of_decide_eq_true (by rw [← cl2]; exact decide_eq_true hzn)))
        clear cl2
        go_wp2
        go_region_held3 (fun w' => w'.cell? ⟨bk, off + (k + 1) * 2, none⟩ = some (.int .i64 p) ∧ w'.cell? ⟨bk, off + (k + 1) * 2 + 1, none⟩ = some (.int .i64 q) ∧ w'.cell? ⟨bk, off + k * 2, none⟩ = some (.int .i64 r) ∧ w'.cell? ⟨bk, off + k * 2 + 1, none⟩ = some (.int .i64 s)) (first | exact ⟨y1, y2, y3, y4⟩ | exact ⟨g1, g2, g3, g4⟩ | go_keep) (first | (go_at_call 42; refine (Con2.out _).mono ?_; rintro e w2 ⟨rfl, hb2⟩; have y1 := keepc hb2 (g1dM _ g1); have y2 := keepc hb2 (g1dM _ g2); have y3 := keepc hb2 (g1dM _ g3); have y4 := keepc hb2 (g1dM _ g4)))
        go_wp2
        go_ret
        exact ⟨ret_b hres.out.symm, bstep Hb.out.drew hb2⟩
      · have HN := Lib.hid (of_decide_eq_false (by rw [← cl2]; exact decide_eq_false hzn) : ¬ ltT ts[k + 1] (ts[k]'hk0))
        clear cl2
        go_wp2
        go_region_held3 (fun w' => w'.cell? ⟨bk, off + (k + 1) * 2, none⟩ = some (.int .i64 p) ∧ w'.cell? ⟨bk, off + (k + 1) * 2 + 1, none⟩ = some (.int .i64 q) ∧ w'.cell? ⟨bk, off + k * 2, none⟩ = some (.int .i64 r) ∧ w'.cell? ⟨bk, off + k * 2 + 1, none⟩ = some (.int .i64 s)) (first | exact ⟨y1, y2, y3, y4⟩ | exact ⟨g1, g2, g3, g4⟩ | go_keep) (first | (go_at_call 42; refine (Con2.out _).mono ?_; rintro e w2 ⟨rfl, hb2⟩; have y1 := keepc hb2 (g1dM _ g1); have y2 := keepc hb2 (g1dM _ g2); have y3 := keepc hb2 (g1dM _ g3); have y4 := keepc hb2 (g1dM _ g4)))
        go_wp2
        go_roundw
        case rel =>
          refine ⟨(k : Int), by omega, by omega, by go_num, fun j hj hjk => ?_, bstep Hb.out.drew hb2⟩
          by_cases hjk2 : j = k
          · subst hjk2; exact HN.out
          · exact Hu.out j hj (by omega)
        case measure => simp [intOf]; omega
    · have Hu := Lib.hid hu
      clear hu
      go_wp2
      go_ret
      exact ⟨ret_b (Up.out (fun k hk h => Hu.out k hk (by omega))).symm, hb⟩

set_option maxRecDepth 100000 in
set_option maxHeartbeats 2000000 in
theorem c_implIsPuzzle (AT : Option Addr) (cT : Nat) (T : List (Int × Int)) (AC : Option Addr) (cC : Nat) (C : List Int) (w : World) (hT : RdT w AT T) (hC : RdI w AC C) (lT : T.length + C.length ≤ 1048576) :
    Calls Tryd.prog 20 #[.agg #[.slice AT T.length cT, .slice AC C.length cC]] w fun e w' => e = .returned (.bool (pzB T C)) ∧ Below w.heap.size w w' := by
  have con2 := fun W (hb : Below w.heap.size w W) => c_implIsHand AT cT T W (hT.below hb) (by omega)
  have con5 := fun (h : handB T = true) W (hb : Below w.heap.size w W) => c_isSorted AT cT T W (hT.below hb) h
  have hpz : pzB T C = (decide (1 ≤ (T.length : Int)) && (decide ((T.length : Int) ≤ 9) && (decide ((C.length : Int) = (T.length : Int) + 1) && (decide (∀ x ∈ C, gapB x = true) && (handB T && decide (sortL T = T)))))) := by
    unfold pzB inPz
    cases handB T <;> cases decide ((C.length : Int) = (T.length : Int) + 1) <;> cases decide (∀ x ∈ C, gapB x = true) <;> simp [Bool.and_assoc]
  rw [hpz]
  clear hpz
  cases h1 : decide (1 ≤ (T.length : Int))
  · simp only [Bool.false_and]
    have i1 : (T.length : Int) < 1 := by have := of_decide_eq_false h1; omega
    clear h1 hT hC con2 con5
    go_enter Tryd.func20, Tryd.ntmps20
    go_wp2
    go_ret
    exact ⟨rfl, by go_grown⟩
  have i1 : ¬ (T.length : Int) < 1 := by have := of_decide_eq_true h1; omega
  cases h2 : decide ((T.length : Int) ≤ 9)
  · simp only [Bool.false_and, Bool.true_and]
    have i2 : (9 : Int) < (T.length : Int) := by have := of_decide_eq_false h2; omega
    clear h1 h2 hT hC con2 con5
    go_enter Tryd.func20, Tryd.ntmps20
    go_wp2
    go_ret
    exact ⟨rfl, by go_grown⟩
  have i2 : ¬ (9 : Int) < (T.length : Int) := by have := of_decide_eq_true h2; omega
  have hl9 : T.length ≤ 9 := by omega
  cases h3 : decide ((C.length : Int) = (T.length : Int) + 1)
  · simp only [Bool.false_and, Bool.true_and]
    have i3 : ((C.length : Int) != (T.length : Int) + 1) = true := by rw [bne_iff_ne]; exact of_decide_eq_false h3
    clear h1 h2 h3 hT hC con2 con5
    go_enter Tryd.func20, Tryd.ntmps20
    go_wp2
    go_ret
    exact ⟨rfl, by go_grown⟩
  have i3 : ((C.length : Int) != (T.length : Int) + 1) = false := by rw [bne_eq_false_iff_eq]; exact of_decide_eq_true h3
  have hc10 : C.length ≤ 10 := by have := of_decide_eq_true h3; omega
  simp only [Bool.true_and]
  clear h1 h2 h3
  obtain ⟨res, hres⟩ : ∃ res, (decide (∀ x ∈ C, gapB x = true) && (handB T && decide (sortL T = T))) = res := ⟨_, rfl⟩
  rw [hres]
  have Hres := Lib.hid hres
  clear hres
  go_enter Tryd.func20, Tryd.ntmps20
  go_wp2
  obtain ⟨w0, hw0⟩ : ∃ w0, w0 = w.alloc (.cells #[.slice AT T.length cT, .slice AC C.length cC] 31) := ⟨_, rfl⟩
  rw [← hw0]
  have ba0 : Bx2 w0 w.heap.size (.slice AT T.length cT) (.slice AC C.length cC) := by rw [hw0]; exact Bx2.fresh w _ _ _
  have hb0 : Below w.heap.size w w0 := by rw [hw0]; go_grown
  clear hw0
  have x1 := ba0.c1
  have hCw := hC.below hb0
  go_loopw [28] (fun i wr => ∃ k : Nat, k ≤ C.length ∧ i = .int .i64 k ∧ (∀ j (hj : j < C.length), j < k → gapB C[j] = true) ∧ Below w0.heap.size w0 wr) (fun i _ => C.length - (intOf i).toNat)
  case atStart => exact ⟨0, Nat.zero_le _, rfl, by omega, Below.refl _ _⟩
  case round =>
    obtain ⟨k, hk, rfl, hn, hb⟩ := hrel
    by_cases hlt : k < C.length
    · obtain ⟨bk, off, rfl, hbk, hc⟩ := hCw.at_ hlt
      have g1 := keepc hb (hc k hlt)
      have hor := gap_or (x := C[k])
      have Hn := Lib.hid hn
      have Hb := Lib.hid hb
      have Bad := Lib.hid (fun (h : gapB C[k] = false) => (decide_eq_false (fun h2 => by have := h2 _ (List.getElem_mem hlt); rw [h] at this; cases this) : decide (∀ x ∈ C, gapB x = true) = false))
      obtain ⟨x, hx⟩ : ∃ x, C[k] = x := ⟨_, rfl⟩
      rw [hx] at g1 hor Bad
      have Hx := Lib.hid hx
      have con := fun W => c_isNumber x W
      clear hc hn hb hCw hx con2 con5 hT hC
      by_cases hm : x = -1
      · have ie : (x != (-1 : Int)) = false := by rw [bne_eq_false_iff_eq]; exact hm
        have hgo : gapB x = true := by rw [hor]; simp [hm]
        clear hm hor
        go_wp2
        go_roundw
        case rel =>
          refine ⟨k + 1, by omega, by go_num, fun j hj hjk => ?_, Hb.out⟩
          rcases Nat.lt_succ_iff_lt_or_eq.1 hjk with h | rfl
          · exact Hn.out j hj h
          · rw [Hx.out]; exact hgo
        case measure => simp [intOf]; omega
      · have ie : (x != (-1 : Int)) = true := by rw [bne_iff_ne]; exact hm
        have hgo : gapB x = numB x := by rw [hor]; simp [hm]
        clear hm hor
        cases hnb : numB x
        · have Hd := Lib.hid (Bad.out (hgo.trans hnb))
          simp only [hnb] at con
          clear hgo hnb
          go_wp2_with (go_at_call 39; refine (con _).mono ?_; rintro e w' ⟨rfl, rfl⟩)
          go_ret
          exact ⟨ret_b (by rw [← Hres.out, Hd.out]; rfl), bstep hb0 Hb.out⟩
        · have Hd := Lib.hid (hgo.trans hnb)
          simp only [hnb] at con
          clear hgo hnb
          go_wp2_with (go_at_call 39; refine (con _).mono ?_; rintro e w' ⟨rfl, rfl⟩)
          go_roundw
          case rel =>
            refine ⟨k + 1, by omega, by go_num, fun j hj hjk => ?_, Hb.out⟩
            rcases Nat.lt_succ_iff_lt_or_eq.1 hjk with h | rfl
            · exact Hn.out j hj h
            · rw [Hx.out]; exact Hd.out
          case measure => simp [intOf]; omega
    · have : k = C.length := by omega
      subst this
      have h4 : decide (∀ x ∈ C, gapB x = true) = true := decide_eq_true fun x hx => by
        obtain ⟨j, hj, rfl⟩ := List.getElem_of_mem hx
        exact hn j hj hj
      have hr4 := Hres.out
      rw [h4, Bool.true_and] at hr4
      have hb5 := bstep hb0 hb
      have ba5 := ba0.keep hb
      have x5 := ba5.c0
      have q2 := con2 wr hb5
      clear h4 hn hCw hC hT con2
      cases h5 : handB T
      · rw [h5] at q2 hr4
        have Q2 := Lib.hid q2
        have HR := Lib.hid hr4
        clear q2 con5 h5 hr4 Hres
        go_wp2_with fail
        refine Q2.out.mono ?_
        rintro e w2 ⟨rfl, hb2⟩
        go_wp2
        go_ret
        exact ⟨ret_b HR.out, bstep hb5 hb2⟩
      · rw [h5] at q2 hr4
        have HR := Lib.hid hr4
        have Q2 := Lib.hid q2
        have Q5 := Lib.hid (con5 h5)
        clear q2 con5 h5 hr4 Hres
        go_wp2_with fail
        refine Q2.out.mono ?_
        rintro e w2 ⟨rfl, hb2⟩
        have hb6 := bstep hb5 hb2
        have ba6 := ba5.keep hb2
        have x6 := ba6.c0
        clear x5 x1
        go_wp2_with fail
        refine (Q5.out _ hb6).mono ?_
        rintro e w3 ⟨rfl, hb3⟩
        go_wp2
        go_ret
        exact ⟨ret_b (by rw [← HR.out, Bool.true_and]), bstep hb6 hb3⟩

end Go.Proofs.YtjdnkcdnppcbhabDoor

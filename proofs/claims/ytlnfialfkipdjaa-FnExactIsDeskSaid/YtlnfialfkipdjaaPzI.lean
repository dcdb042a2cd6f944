/- Puzzles: the program's IsPuzzle and CountGaps. -/
import Derived.Test.YtlnfialfkipdjaaSrtA
import Derived.Test.YtlnfialfkipdjaaPzA
import Derived.Test.YtlnfialfkipdjaaSets
import Derived.Deep.Cut
import Derived.BigQuiet
namespace Go.Proofs.Ytlnfialfkipdjaa
open Go.RowKit
set_option linter.unusedVariables false

theorem g1dM {w : World} (a : Addr) {v : Value} (h : w.cell? a = some v) : w.drew.cell? a = some v := h
/-- No neighbours from place m on stand the wrong way. -/
def upFrom (ts : List (Int × Int)) (m : Nat) : Prop := ∀ k (hk : k + 1 < ts.length), m ≤ k + 1 → ¬ ltT ts[k + 1] ts[k]

set_option maxRecDepth 100000 in
set_option maxHeartbeats 2000000 in
theorem c_isSorted (A : Option Addr) (c : Nat) (ts : List (Int × Int)) (w : World) (hr : RdT w A ts) (hh : handB ts = true) :
    Calls Try.prog 91 #[.slice A ts.length c, .func (.func 92) #[] #[]] w fun e w' => e = .returned (.bool (decide (sortL ts = ts))) ∧ Below w.heap.size w w' := by
  have hl55 : ts.length ≤ 55 := (of_decide_eq_true hh : handP ts).1
  have Up := Lib.hid (fun (h : upFrom ts 1) => decide_eq_true (adj_sorted hh (fun k hk => h k hk (by omega))))
  have Dn := Lib.hid (fun k (hk : k + 1 < ts.length) (h : ltT ts[k + 1] ts[k]) => (decide_eq_false (fun e => sorted_adj e k hk h) : decide (sortL ts = ts) = false))
  generalize decide (sortL ts = ts) = res at *
  clear hh
  have i7 : IntKind.i64.wrap ((ts.length : Int) - 1) = (ts.length : Int) - 1 := IntWalk.i64_in _ (by omega)
  go_enter Try.func91, Try.ntmps91
  go_wp2
  go_loopw [5] (fun i wr => ∃ m : Int, -1 ≤ m ∧ m < ts.length ∧ i = .int .i64 m ∧ upFrom ts (m + 1).toNat ∧ Below w.heap.size w wr) (fun i _ => (intOf i + 1).toNat)
  case atStart => exact ⟨(ts.length : Int) - 1, by omega, by omega, rfl, fun k hk h => by omega, Below.refl _ _⟩
  case round =>
    obtain ⟨m, hm0, hm1, rfl, hu, hb⟩ := hrel
    by_cases hpos : 0 < m
    · obtain ⟨k, rfl⟩ : ∃ k : Nat, m = (k : Int) + 1 := ⟨(m - 1).toNat, by omega⟩
      have hlt : k + 1 < ts.length := by omega
      have hk0 : k < ts.length := by omega
      obtain ⟨bk, off, rfl, hbk, hc⟩ := hr.at_ hlt
      have g1 := keepc hb (hc (k + 1) hlt).1
      have g2 := keepc hb (hc (k + 1) hlt).2
      have g3 := keepc hb (hc k hk0).1
      have g4 := keepc hb (hc k hk0).2
      have Con := Lib.hid (fun W => c_compareTilesB ts[k + 1] (ts[k]'hk0) W)
      have Hu := Lib.hid hu
      have Hb := Lib.hid hb
      have hz := hb.size
      have Dk := Lib.hid (Dn.out k hlt)
      have i0 : IntKind.i64.wrap ((k : Int) + 1 - 1) = (k : Int) := by rw [IntWalk.i64_in _ (by omega)]; omega
      have i1 : (0 : Int) ≤ (k : Int) := by omega
      have i2 : (k : Int) < (ts.length : Int) := by omega
      have i3 : (k : Int) + 1 < (ts.length : Int) := by omega
      have i4 : (0 : Int) ≤ (k : Int) + 1 := by omega
      have i5 : (k : Int) + 1 - 1 = (k : Int) := by omega
      have i6 : (0 : Int) < (k : Int) + 1 := by omega
      have i8 : IntKind.i64.wrap (k : Int) = (k : Int) := IntWalk.i64_in _ (by omega)
      have Cl := Lib.hid (cmpT_lt ts[k + 1] (ts[k]'hk0))
      obtain ⟨z, hz0⟩ : ∃ z, cmpT ts[k + 1] (ts[k]'hk0) = z := ⟨_, rfl⟩
      have con2 := Con.out
      simp only [hz0] at con2
      have cl2 := Cl.out
      rw [hz0] at cl2
      obtain ⟨p, hp⟩ : ∃ p, ts[k + 1].1 = p := ⟨_, rfl⟩
      obtain ⟨q, hq⟩ : ∃ q, ts[k + 1].2 = q := ⟨_, rfl⟩
      obtain ⟨r, hr1⟩ : ∃ r, (ts[k]'hk0).1 = r := ⟨_, rfl⟩
      obtain ⟨s, hs⟩ : ∃ s, (ts[k]'hk0).2 = s := ⟨_, rfl⟩
      rw [hp] at g1
      rw [hq] at g2
      rw [hr1] at g3
      rw [hs] at g4
      simp only [hp, hq, hr1, hs] at con2
      have Con2 := Lib.hid con2
      have n0 := block_lt g1
      clear hc hr hu hb Con hz0 con2 Cl hp hq hr1 hs
      by_cases hzn : z < 0
      · have hres := Lib.hid (Dk.out (of_decide_eq_true (by rw [← cl2]; exact decide_eq_true hzn)))
        clear cl2
        go_wp2
        go_region_held3 (fun w' => w'.cell? ⟨bk, off + (k + 1) * 2, none⟩ = some (.int .i64 p) ∧ w'.cell? ⟨bk, off + (k + 1) * 2 + 1, none⟩ = some (.int .i64 q) ∧ w'.cell? ⟨bk, off + k * 2, none⟩ = some (.int .i64 r) ∧ w'.cell? ⟨bk, off + k * 2 + 1, none⟩ = some (.int .i64 s)) (first | exact ⟨y1, y2, y3, y4⟩ | exact ⟨g1, g2, g3, g4⟩ | go_keep) (first | (go_at_call 92; refine (Con2.out _).mono ?_; rintro e w2 ⟨rfl, hb2⟩; have y1 := keepc hb2 (g1dM _ g1); have y2 := keepc hb2 (g1dM _ g2); have y3 := keepc hb2 (g1dM _ g3); have y4 := keepc hb2 (g1dM _ g4)))
        go_wp2
        go_ret
        exact ⟨ret_b hres.out.symm, bstep Hb.out.drew hb2⟩
      · have HN := Lib.hid (of_decide_eq_false (by rw [← cl2]; exact decide_eq_false hzn) : ¬ ltT ts[k + 1] (ts[k]'hk0))
        clear cl2
        go_wp2
        go_region_held3 (fun w' => w'.cell? ⟨bk, off + (k + 1) * 2, none⟩ = some (.int .i64 p) ∧ w'.cell? ⟨bk, off + (k + 1) * 2 + 1, none⟩ = some (.int .i64 q) ∧ w'.cell? ⟨bk, off + k * 2, none⟩ = some (.int .i64 r) ∧ w'.cell? ⟨bk, off + k * 2 + 1, none⟩ = some (.int .i64 s)) (first | exact ⟨y1, y2, y3, y4⟩ | exact ⟨g1, g2, g3, g4⟩ | go_keep) (first | (go_at_call 92; refine (Con2.out _).mono ?_; rintro e w2 ⟨rfl, hb2⟩; have y1 := keepc hb2 (g1dM _ g1); have y2 := keepc hb2 (g1dM _ g2); have y3 := keepc hb2 (g1dM _ g3); have y4 := keepc hb2 (g1dM _ g4)))
        go_wp2
        go_roundw
        case rel =>
          refine ⟨(k : Int), by omega, by omega, by go_num, fun j hj hjk => ?_, bstep Hb.out.drew hb2⟩
          by_cases hjk2 : j = k
          · subst hjk2; exact HN.out
          · exact Hu.out j hj (by omega)
        case measure => simp [intOf]; omega
    · have Hu := Lib.hid hu
      clear hu
      go_wp2
      go_ret
      exact ⟨ret_b (Up.out (fun k hk h => Hu.out k hk (by omega))).symm, hb⟩

end Go.Proofs.Ytlnfialfkipdjaa

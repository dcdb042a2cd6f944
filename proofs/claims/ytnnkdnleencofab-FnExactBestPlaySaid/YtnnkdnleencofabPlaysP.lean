/- The plays of a hand that fit: the program's PlaysFor, CanPlay. -/
import Derived.Test.YtnnkdnleencofabPlaysI
import Derived.Test.YtnnkdnleencofabBrdO
namespace Go.Proofs.Ytnnkdnleencofab
open Go.RowKit
set_option linter.unusedVariables false

def RetBH (w : World) (B : Brd) (ts : List (Int × Int)) (ok : Bool) (e : Ending) (w' : World) : Prop :=
  ∃ A c D d T t, e = .returned (.tuple #[.agg #[.slice A B.ps.length c, .slice D B.arms.length d, .int .i64 B.fives], .slice T ts.length t, .bool ok]) ∧
    w'.ownsRow w.heap.size 32 3 (.slice A B.ps.length c) B.ps.length (cellsP B.ps) ∧ w'.ownsRow w.heap.size 141 3 (.slice D B.arms.length d) B.arms.length (cellsA B.arms) ∧ w'.ownsRow w.heap.size 30 2 (.slice T ts.length t) ts.length (cellsT ts) ∧ Below w.heap.size w w'

set_option maxRecDepth 100000 in
set_option maxHeartbeats 1000000 in
theorem c_boardAndHand (A : Option Addr) (c : Nat) (ps : List (Int × Int × Int)) (T : Option Addr) (m : Nat) (ts : List (Int × Int)) (w : World) (hr : RdP w A ps) (hl : ps.length ≤ 1048576) (ht : RdT w T ts) (hl2 : ts.length ≤ 1048576) :
    Calls Try.prog 61 #[.slice A ps.length c, .slice T ts.length m] w (RetBH w (brdD ps) (sortHL ts) (okL ps && handB ts)) := by
  have con := Lib.hid (fun W (hb : Below w.heap.size w W) => c_boardOf A c ps W (hr.below hb) hl)
  have conH := Lib.hid (fun W (hb : Below w.heap.size w W) => c_implSortHand T m ts W (ht.below hb) hl2)
  have hbA : Below w.heap.size w (w.alloc (.cells #[.slice none 0 0, .slice none 0 0, .int .i64 0] 94)) := by go_grown
  have r0 : (w.alloc (.cells #[.slice none 0 0, .slice none 0 0, .int .i64 0] 94)).cell? ⟨w.heap.size, 0, none⟩ = some (.slice none 0 0) := by simp [go_sem]
  have fr0 : (w.alloc (.cells #[.slice none 0 0, .slice none 0 0, .int .i64 0] 94)).frozen? ⟨w.heap.size, 0, none⟩ = false := frozen_freshB _ _ _ _
  have r1 : (w.alloc (.cells #[.slice none 0 0, .slice none 0 0, .int .i64 0] 94)).cell? ⟨w.heap.size, 1, none⟩ = some (.slice none 0 0) := by simp [go_sem]
  have fr1 : (w.alloc (.cells #[.slice none 0 0, .slice none 0 0, .int .i64 0] 94)).frozen? ⟨w.heap.size, 1, none⟩ = false := frozen_freshB _ _ _ _
  have r2 : (w.alloc (.cells #[.slice none 0 0, .slice none 0 0, .int .i64 0] 94)).cell? ⟨w.heap.size, 2, none⟩ = some (.int .i64 0) := by simp [go_sem]
  have fr2 : (w.alloc (.cells #[.slice none 0 0, .slice none 0 0, .int .i64 0] 94)).frozen? ⟨w.heap.size, 2, none⟩ = false := frozen_freshB _ _ _ _
  clear hr ht
  cases hok : okL ps
  · have e0 : (false && handB ts) = false := rfl
    rw [e0]
    rw [hok] at con
    clear hok e0
    go_enter Try.func61, Try.ntmps61
    go_wp2_with (first | (go_at_call 103; refine (con.out _ hbA).mono ?_; rintro e w1 ⟨A1, c1, D1, d1, rfl, ho1, ha1, hb1⟩; have hbw := bstep hbA hb1; have hbx : Below w1.heap.size w1 (w1.alloc (.cells #[.slice A1 (brdD ps).ps.length c1, .slice D1 (brdD ps).arms.length d1, .int .i64 (brdD ps).fives] 94)) := (Below.refl _ _).alloc (Nat.le_refl _) _; have n0 : (w1.alloc (.cells #[.slice A1 (brdD ps).ps.length c1, .slice D1 (brdD ps).arms.length d1, .int .i64 (brdD ps).fives] 94)).cell? ⟨w1.heap.size, 0, none⟩ = some (.slice A1 (brdD ps).ps.length c1) := (by simp); have n1 : (w1.alloc (.cells #[.slice A1 (brdD ps).ps.length c1, .slice D1 (brdD ps).arms.length d1, .int .i64 (brdD ps).fives] 94)).cell? ⟨w1.heap.size, 1, none⟩ = some (.slice D1 (brdD ps).arms.length d1) := (by simp); have n2 : (w1.alloc (.cells #[.slice A1 (brdD ps).ps.length c1, .slice D1 (brdD ps).arms.length d1, .int .i64 (brdD ps).fives] 94)).cell? ⟨w1.heap.size, 2, none⟩ = some (.int .i64 (brdD ps).fives) := (by simp); have s0 := keepc hbx (keepc hb1 r0); have s1 := keepc hbx (keepc hb1 r1); have s2 := keepc hbx (keepc hb1 r2); have hzw := block_lt s0; have f0 := (hbx.frozen (p := ⟨w.heap.size, 0, none⟩) (block_lt (keepc hb1 r0))).trans ((hb1.frozen (p := ⟨w.heap.size, 0, none⟩) (block_lt r0)).trans fr0); have f1 := (hbx.frozen (p := ⟨w.heap.size, 1, none⟩) (block_lt (keepc hb1 r1))).trans ((hb1.frozen (p := ⟨w.heap.size, 1, none⟩) (block_lt r1)).trans fr1); have f2 := (hbx.frozen (p := ⟨w.heap.size, 2, none⟩) (block_lt (keepc hb1 r2))).trans ((hb1.frozen (p := ⟨w.heap.size, 2, none⟩) (block_lt r2)).trans fr2); have Hbx := Lib.hid (bstep hbw hbx); have Ho1 := Lib.hid (own_keep ho1 hbx); have Ha1 := Lib.hid (own_keep ha1 hbx); clear ho1 ha1 hb1 hbw hbx) | (go_at_call 104; refine (conH.out _ Hbx.out).mono ?_; rintro e w2 ⟨T2, e2, rfl, ot2, hb2⟩; have m0 := keepc hb2 n0; have m1 := keepc hb2 n1; have m2 := keepc hb2 n2; have u0 := keepc hb2 s0; have u1 := keepc hb2 s1; have u2 := keepc hb2 s2; have hzu := block_lt u0; have hzm := block_lt m0; have hzn := block_lt n0; have v0 := (hb2.frozen (p := ⟨w.heap.size, 0, none⟩) hzw).trans f0; have v1 := (hb2.frozen (p := ⟨w.heap.size, 1, none⟩) hzw).trans f1; have v2 := (hb2.frozen (p := ⟨w.heap.size, 2, none⟩) hzw).trans f2; have Hb2 := Lib.hid hb2; clear hb2))
    have hlz : w.heap.size < (w.alloc (.cells #[.slice none 0 0, .slice none 0 0, .int .i64 0] 94)).heap.size := block_lt r0
    refine bodyPost_ret (v := .tuple #[.agg #[.slice A1 (brdD ps).ps.length c1, .slice D1 (brdD ps).arms.length d1, .int .i64 (brdD ps).fives], .slice T2 (sortHL ts).length e2, .bool false]) (by simp [results, Try.results61, go_sem, u0, u1, u2]) rfl ?_
    have hbw2 := bstep Hbx.out Hb2.out
    have hzx := Hbx.out.size
    refine ⟨A1, c1, D1, d1, T2, e2, rfl, ?_, ?_, ?_, ?_⟩
    · exact own_base (own_set3 (own_keep Ho1.out Hb2.out) (fun g hg => by have := (Ho1.out.lt g hg).1; omega) _ _ _) (by omega)
    · exact own_base (own_set3 (own_keep Ha1.out Hb2.out) (fun g hg => by have := (Ha1.out.lt g hg).1; omega) _ _ _) (by omega)
    · exact own_base (own_set3 ot2 (fun g hg => by have := (ot2.lt g hg).1; omega) _ _ _) (by omega)
    · exact ((hbw2.setCell (p := ⟨w.heap.size, 0, none⟩) (Nat.le_refl _) _).setCell (p := ⟨w.heap.size, 1, none⟩) (Nat.le_refl _) _).setCell (p := ⟨w.heap.size, 2, none⟩) (Nat.le_refl _) _
  · have e0 : (true && handB ts) = handB ts := rfl
    rw [e0]
    rw [hok] at con
    clear hok e0
    go_enter Try.func61, Try.ntmps61
    go_wp2_with (first | (go_at_call 103; refine (con.out _ hbA).mono ?_; rintro e w1 ⟨A1, c1, D1, d1, rfl, ho1, ha1, hb1⟩; have hbw := bstep hbA hb1; have hbx : Below w1.heap.size w1 (w1.alloc (.cells #[.slice A1 (brdD ps).ps.length c1, .slice D1 (brdD ps).arms.length d1, .int .i64 (brdD ps).fives] 94)) := (Below.refl _ _).alloc (Nat.le_refl _) _; have n0 : (w1.alloc (.cells #[.slice A1 (brdD ps).ps.length c1, .slice D1 (brdD ps).arms.length d1, .int .i64 (brdD ps).fives] 94)).cell? ⟨w1.heap.size, 0, none⟩ = some (.slice A1 (brdD ps).ps.length c1) := (by simp); have n1 : (w1.alloc (.cells #[.slice A1 (brdD ps).ps.length c1, .slice D1 (brdD ps).arms.length d1, .int .i64 (brdD ps).fives] 94)).cell? ⟨w1.heap.size, 1, none⟩ = some (.slice D1 (brdD ps).arms.length d1) := (by simp); have n2 : (w1.alloc (.cells #[.slice A1 (brdD ps).ps.length c1, .slice D1 (brdD ps).arms.length d1, .int .i64 (brdD ps).fives] 94)).cell? ⟨w1.heap.size, 2, none⟩ = some (.int .i64 (brdD ps).fives) := (by simp); have s0 := keepc hbx (keepc hb1 r0); have s1 := keepc hbx (keepc hb1 r1); have s2 := keepc hbx (keepc hb1 r2); have hzw := block_lt s0; have f0 := (hbx.frozen (p := ⟨w.heap.size, 0, none⟩) (block_lt (keepc hb1 r0))).trans ((hb1.frozen (p := ⟨w.heap.size, 0, none⟩) (block_lt r0)).trans fr0); have f1 := (hbx.frozen (p := ⟨w.heap.size, 1, none⟩) (block_lt (keepc hb1 r1))).trans ((hb1.frozen (p := ⟨w.heap.size, 1, none⟩) (block_lt r1)).trans fr1); have f2 := (hbx.frozen (p := ⟨w.heap.size, 2, none⟩) (block_lt (keepc hb1 r2))).trans ((hb1.frozen (p := ⟨w.heap.size, 2, none⟩) (block_lt r2)).trans fr2); have Hbx := Lib.hid (bstep hbw hbx); have Ho1 := Lib.hid (own_keep ho1 hbx); have Ha1 := Lib.hid (own_keep ha1 hbx); clear ho1 ha1 hb1 hbw hbx) | (go_at_call 104; refine (conH.out _ Hbx.out).mono ?_; rintro e w2 ⟨T2, e2, rfl, ot2, hb2⟩; have m0 := keepc hb2 n0; have m1 := keepc hb2 n1; have m2 := keepc hb2 n2; have u0 := keepc hb2 s0; have u1 := keepc hb2 s1; have u2 := keepc hb2 s2; have hzu := block_lt u0; have hzm := block_lt m0; have hzn := block_lt n0; have v0 := (hb2.frozen (p := ⟨w.heap.size, 0, none⟩) hzw).trans f0; have v1 := (hb2.frozen (p := ⟨w.heap.size, 1, none⟩) hzw).trans f1; have v2 := (hb2.frozen (p := ⟨w.heap.size, 2, none⟩) hzw).trans f2; have Hb2 := Lib.hid hb2; clear hb2))
    have hlz : w.heap.size < (w.alloc (.cells #[.slice none 0 0, .slice none 0 0, .int .i64 0] 94)).heap.size := block_lt r0
    refine bodyPost_ret (v := .tuple #[.agg #[.slice A1 (brdD ps).ps.length c1, .slice D1 (brdD ps).arms.length d1, .int .i64 (brdD ps).fives], .slice T2 (sortHL ts).length e2, .bool (handB ts)]) (by simp [results, Try.results61, go_sem, u0, u1, u2]) rfl ?_
    have hbw2 := bstep Hbx.out Hb2.out
    have hzx := Hbx.out.size
    refine ⟨A1, c1, D1, d1, T2, e2, rfl, ?_, ?_, ?_, ?_⟩
    · exact own_base (own_set3 (own_keep Ho1.out Hb2.out) (fun g hg => by have := (Ho1.out.lt g hg).1; omega) _ _ _) (by omega)
    · exact own_base (own_set3 (own_keep Ha1.out Hb2.out) (fun g hg => by have := (Ha1.out.lt g hg).1; omega) _ _ _) (by omega)
    · exact own_base (own_set3 ot2 (fun g hg => by have := (ot2.lt g hg).1; omega) _ _ _) (by omega)
    · exact ((hbw2.setCell (p := ⟨w.heap.size, 0, none⟩) (Nat.le_refl _) _).setCell (p := ⟨w.heap.size, 1, none⟩) (Nat.le_refl _) _).setCell (p := ⟨w.heap.size, 2, none⟩) (Nat.le_refl _) _

def playsHL (ps : List (Int × Int × Int)) (ts : List (Int × Int)) : List (Int × Int × Int) := if okL ps && handB ts then playsL (brdD ps) (sortHL ts) else []
theorem playsHL_len (ps : List (Int × Int × Int)) (ts : List (Int × Int)) : (playsHL ps ts).length ≤ 440 := by
  unfold playsHL
  split
  · have h1 := forTo_len (brdD_ok ps).four (sortHL ts) (sortHL ts).length (Nat.le_refl _)
    have h2 := sortHL_len ts
    unfold playsL
    omega
  · simp
end Go.Proofs.Ytnnkdnleencofab

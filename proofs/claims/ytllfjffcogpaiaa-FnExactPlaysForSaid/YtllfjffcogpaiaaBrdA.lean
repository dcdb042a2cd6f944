/- A play added, plays taken back: the program's. -/
import Derived.Test.YtllfjffcogpaiaaBrdT
namespace Go.Proofs.Ytllfjffcogpaiaa
open Go.RowKit
set_option linter.unusedVariables false

def addB (ps : List (Int × Int × Int)) (p : Int × Int × Int) : Bool := okL ps && fitsL (brdD ps) p
def addHL (ps : List (Int × Int × Int)) (p : Int × Int × Int) : List (Int × Int × Int) := if addB ps p then ps ++ [p] else []
theorem addHL_len (ps : List (Int × Int × Int)) (p : Int × Int × Int) : (addHL ps p).length ≤ 110 := by
  unfold addHL
  split
  · rename_i h
    unfold addB at h
    rw [Bool.and_eq_true] at h
    have h1 := ((brdD_ok ps).with_ h.2).len
    have h2 : (withL (brdD ps) p).ps = ps ++ [p] := by
      have := brdD_ps h.1
      simp only [withL, this]
    rw [h2] at h1
    omega
  · simp

theorem Try.field_brd (A : Option Addr) (n c : Nat) (q r : Value) (W : World) : (Instr.field 71 (.agg #[.slice A n c, q, r]) 0).run Try.prog W = .ok (.slice A n c) W := by kernel_rfl

set_option maxRecDepth 100000 in
set_option maxHeartbeats 1000000 in
theorem c_implAdd (A : Option Addr) (c : Nat) (ps : List (Int × Int × Int)) (x y z : Int) (w : World) (hr : RdP w A ps) (hl : ps.length ≤ 1048576) :
    Calls Try.prog 53 #[.slice A ps.length c, .agg #[.int .i64 x, .int .i64 y, .int .i64 z]] w (RetP w (addHL ps (x, y, z)) (addB ps (x, y, z))) := by
  have con := Lib.hid (fun W (hb : Below w.heap.size w W) => c_boardOf A c ps W (hr.below hb) hl)
  have hB := brdD_ok ps
  have hb0 : Below w.heap.size w (w.alloc (.cells #[.int .i64 x, .int .i64 y, .int .i64 z] 62)) := by go_grown
  have a0 : (w.alloc (.cells #[.int .i64 x, .int .i64 y, .int .i64 z] 62)).cell? ⟨w.heap.size, 0, none⟩ = some (.int .i64 x) := by simp
  have a1 : (w.alloc (.cells #[.int .i64 x, .int .i64 y, .int .i64 z] 62)).cell? ⟨w.heap.size, 1, none⟩ = some (.int .i64 y) := by simp
  have a2 : (w.alloc (.cells #[.int .i64 x, .int .i64 y, .int .i64 z] 62)).cell? ⟨w.heap.size, 2, none⟩ = some (.int .i64 z) := by simp
  cases hok : okL ps
  · have e1 : addB ps (x, y, z) = false := by unfold addB; rw [hok]; rfl
    have e2 : addHL ps (x, y, z) = [] := by unfold addHL; rw [e1]; rfl
    rw [e1, e2]
    rw [hok] at con
    clear e1 e2 hok hB hr
    go_enter Try.func53, Try.ntmps53
    go_wp2_with (go_at_call 57; refine (con.out _ hb0).mono ?_; rintro e w1 ⟨A1, c1, D1, d1, rfl, ho1, ha1, hb1⟩; have hbw := bstep hb0 hb1)
    go_ret2
    exact ⟨none, 0, rfl, World.ownsRow_nil _ _ _ _, Below.trans hbw ((Below.refl _ _).alloc hbw.size _)⟩
  · rw [hok] at con
    have hps := brdD_ps hok
    obtain ⟨B, hBd⟩ : ∃ B, brdD ps = B := ⟨_, rfl⟩
    have e0 : addB ps (x, y, z) = fitsL B (x, y, z) := by unfold addB; rw [hok, hBd]; rfl
    have e1 : addHL ps (x, y, z) = if fitsL B (x, y, z) then B.ps ++ [(x, y, z)] else [] := by unfold addHL; rw [e0, ← hBd, hps]
    rw [hBd] at con hB
    rw [e0, e1]
    have conF := Lib.hid (fun A1 c1 D1 d1 W (h1 : RdP W A1 B.ps) (h2 : RdA W D1 B.arms) => c_fits A1 c1 D1 d1 B x y z W h1 h2 hB)
    have HB := Lib.hid hB
    clear e0 e1 hok hps hBd hB hr
    cases hf : fitsL B (x, y, z)
    · rw [hf] at conF
      clear hf
      go_enter Try.func53, Try.ntmps53
      go_wp2_with (first | (go_at_call 57; refine (con.out _ hb0).mono ?_; rintro e w1 ⟨A1, c1, D1, d1, rfl, ho1, ha1, hb1⟩; have hbw := bstep hb0 hb1; have u0 := keepc hb1 a0; have u1 := keepc hb1 a1; have u2 := keepc hb1 a2; have hbx := (Below.refl w1.heap.size w1).alloc (Nat.le_refl _) (.cells #[.slice A1 B.ps.length c1, .slice D1 B.arms.length d1, .int .i64 B.fives] 71); have hz := block_lt u0; have R1 := Lib.hid ((RdP.of_own ho1).below hbx); have R2 := Lib.hid ((RdA.of_own ha1).below hbx)) | (go_at_call 79; refine (conF.out A1 c1 D1 d1 _ R1.out R2.out).mono ?_; rintro e w2 ⟨rfl, hb2⟩))
      go_ret2
      exact ⟨none, 0, rfl, World.ownsRow_nil _ _ _ _, bstep (bstep hbw hbx) hb2⟩
    · rw [hf] at conF
      have fld := Try.field_brd
      have conW := Lib.hid (fun A1 c1 D1 d1 W (h1 : RdP W A1 B.ps) (h2 : RdA W D1 B.arms) => c_with A1 c1 D1 d1 B x y z W h1 h2 HB.out hf)
      clear hf
      go_enter Try.func53, Try.ntmps53
      go_wp2_with (first | (go_at_call 57; refine (con.out _ hb0).mono ?_; rintro e w1 ⟨A1, c1, D1, d1, rfl, ho1, ha1, hb1⟩; have hbw := bstep hb0 hb1; have u0 := keepc hb1 a0; have u1 := keepc hb1 a1; have u2 := keepc hb1 a2; have hbx := (Below.refl w1.heap.size w1).alloc (Nat.le_refl _) (.cells #[.slice A1 B.ps.length c1, .slice D1 B.arms.length d1, .int .i64 B.fives] 71); have hz := block_lt u0; have R1 := Lib.hid ((RdP.of_own ho1).below hbx); have R2 := Lib.hid ((RdA.of_own ha1).below hbx); have n0 : (w1.alloc (.cells #[.slice A1 B.ps.length c1, .slice D1 B.arms.length d1, .int .i64 B.fives] 71)).cell? ⟨w1.heap.size, 0, none⟩ = some (.slice A1 B.ps.length c1) := (by simp); have n1 : (w1.alloc (.cells #[.slice A1 B.ps.length c1, .slice D1 B.arms.length d1, .int .i64 B.fives] 71)).cell? ⟨w1.heap.size, 1, none⟩ = some (.slice D1 B.arms.length d1) := (by simp); have n2 : (w1.alloc (.cells #[.slice A1 B.ps.length c1, .slice D1 B.arms.length d1, .int .i64 B.fives] 71)).cell? ⟨w1.heap.size, 2, none⟩ = some (.int .i64 B.fives) := (by simp)) | (go_at_call 79; refine (conF.out A1 c1 D1 d1 _ R1.out R2.out).mono ?_; rintro e w2 ⟨rfl, hb2⟩; have v0 := keepc hb2 (keepc hbx u0); have v1 := keepc hb2 (keepc hbx u1); have v2 := keepc hb2 (keepc hbx u2); have m0 := keepc hb2 n0; have m1 := keepc hb2 n1; have m2 := keepc hb2 n2; have hbw2 := bstep (bstep hbw hbx) hb2) | (go_at_call 80; refine (conW.out A1 c1 D1 d1 _ (R1.out.below hb2) (R2.out.below hb2)).mono ?_; rintro e w3 ⟨A3, c3, D3, d3, rfl, ho3, ha3, hb3⟩))
      go_ret2
      exact ⟨A3, c3, rfl, own_base ho3 hbw2.size, bstep hbw2 hb3⟩

def backB (ps : List (Int × Int × Int)) (n : Int) : Bool := okL ps && (decide (0 ≤ n) && decide (n ≤ ps.length))
def backHL (ps : List (Int × Int × Int)) (n : Int) : List (Int × Int × Int) := if backB ps n then ps.take (ps.length - n.toNat) else []
theorem backHL_len (ps : List (Int × Int × Int)) (n : Int) : (backHL ps n).length ≤ 110 := by
  unfold backHL
  split
  · rename_i h
    unfold backB at h
    rw [Bool.and_eq_true] at h
    have h1 := (brdD_ok ps).len
    rw [brdD_ps h.1] at h1
    simp
    omega
  · simp

set_option maxRecDepth 100000 in
set_option maxHeartbeats 1000000 in
theorem c_implBack (A : Option Addr) (c : Nat) (ps : List (Int × Int × Int)) (n : Int) (w : World) (hr : RdP w A ps) (hl : ps.length ≤ 1048576) (hcap : ps.length ≤ c) :
    Calls Try.prog 55 #[.slice A ps.length c, .int .i64 n] w (RetP w (backHL ps n) (backB ps n)) := by
  have con := Lib.hid (c_implIsSpread A c ps w hr hl)
  cases hok : okL ps
  · have e1 : backB ps n = false := by unfold backB; rw [hok]; rfl
    have e2 : backHL ps n = [] := by unfold backHL; rw [e1]; rfl
    rw [e1, e2]
    rw [hok] at con
    clear e1 e2 hok hr
    go_enter Try.func55, Try.ntmps55
    go_wp2_with (go_at_call 18; refine con.out.mono ?_; rintro e w1 ⟨rfl, hb1⟩)
    go_ret2
    exact ⟨none, 0, rfl, World.ownsRow_nil _ _ _ _, hb1⟩
  · rw [hok] at con
    by_cases h0 : 0 ≤ n
    · by_cases h1 : n ≤ ps.length
      · obtain ⟨m, rfl⟩ : ∃ m : Nat, n = m := ⟨n.toNat, by omega⟩
        have e1 : backB ps (m : Int) = true := by unfold backB; rw [hok, decide_eq_true h0, decide_eq_true h1]; rfl
        have e2 : backHL ps (m : Int) = ps.take (ps.length - m) := by unfold backHL; rw [e1]; simp
        rw [e1, e2]
        have hlen : (ps.take (ps.length - m)).length = ps.length - m := by simp
        have conC := fun W (hb : Below w.heap.size w W) => c_cloneP A c (ps.take (ps.length - m)) W ((hr.take _).below hb) (by simp; omega)
        rw [hlen] at conC
        have ConC := Lib.hid conC
        have i0 : ¬ (m : Int) < 0 := by omega
        have i1 : ¬ (ps.length : Int) < (m : Int) := by omega
        have i2 : (0 : Int) ≤ (ps.length : Int) - (m : Int) := by omega
        have i3 : (ps.length : Int) - (m : Int) ≤ (c : Int) := by omega
        have i4 : ((ps.length : Int) - (m : Int)).toNat = ps.length - m := by omega
        have iw : IntKind.i64.wrap ((ps.length : Int) - (m : Int)) = (ps.length : Int) - (m : Int) := IntWalk.i64_in _ (by omega)
        clear e1 e2 hok hr conC hlen
        go_enter Try.func55, Try.ntmps55
        go_wp2_with (first | (go_at_call 18; refine con.out.mono ?_; rintro e w1 ⟨rfl, hb1⟩) | (go_at_call 82; refine (ConC.out _ hb1).mono ?_; rintro e w2 ⟨A2, c2, rfl, ho2, hb2⟩))
        go_ret2
        exact ⟨A2, c2, by simp, own_base ho2 hb1.size, bstep hb1 hb2⟩
      · have e1 : backB ps n = false := by unfold backB; rw [decide_eq_false h1]; simp
        have e2 : backHL ps n = [] := by unfold backHL; rw [e1]; rfl
        rw [e1, e2]
        have i0 : ¬ n < 0 := by omega
        have i1 : (ps.length : Int) < n := by omega
        clear e1 e2 hok hr h0 h1
        go_enter Try.func55, Try.ntmps55
        go_wp2_with (go_at_call 18; refine con.out.mono ?_; rintro e w1 ⟨rfl, hb1⟩)
        go_ret2
        exact ⟨none, 0, rfl, World.ownsRow_nil _ _ _ _, hb1⟩
    · have e1 : backB ps n = false := by unfold backB; rw [decide_eq_false h0]; simp
      have e2 : backHL ps n = [] := by unfold backHL; rw [e1]; rfl
      rw [e1, e2]
      have i0 : n < 0 := by omega
      clear e1 e2 hok hr h0
      go_enter Try.func55, Try.ntmps55
      go_wp2_with (go_at_call 18; refine con.out.mono ?_; rintro e w1 ⟨rfl, hb1⟩)
      go_ret2
      exact ⟨none, 0, rfl, World.ownsRow_nil _ _ _ _, hb1⟩
end Go.Proofs.Ytllfjffcogpaiaa

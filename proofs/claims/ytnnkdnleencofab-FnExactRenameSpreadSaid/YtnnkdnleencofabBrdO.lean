/- The board of a list of plays. -/
import Derived.Test.YtnnkdnleencofabBrdN
import Derived.Test.YtnnkdnleencofabBrdF
namespace Go.Proofs.Ytnnkdnleencofab
open Go.RowKit
set_option linter.unusedVariables false

def okL (ps : List (Int × Int × Int)) : Bool := (brdL ps).isSome
def brdD (ps : List (Int × Int × Int)) : Brd := (brdL ps).getD Brd.none
theorem brdD_some {ps : List (Int × Int × Int)} {B : Brd} (h : brdL ps = some B) : brdD ps = B ∧ okL ps = true := by unfold brdD okL; rw [h]; exact ⟨rfl, rfl⟩
theorem brdD_none {ps : List (Int × Int × Int)} (h : brdL ps = none) : brdD ps = Brd.none ∧ okL ps = false := by unfold brdD okL; rw [h]; exact ⟨rfl, rfl⟩
theorem brdD_ok (ps : List (Int × Int × Int)) : Bok (brdD ps) := by
  cases h : brdL ps with
  | none => rw [(brdD_none h).1]; exact Bok.new
  | some B =>
    rw [(brdD_some h).1]
    exact (brdL_ps (ps := ps) ps.length (Nat.le_refl _) (by rw [List.take_length]; exact h)).2
theorem brdD_ps {ps : List (Int × Int × Int)} (h : okL ps = true) : (brdD ps).ps = ps := by
  cases hb : brdL ps with
  | none => rw [(brdD_none hb).2] at h; cases h
  | some B =>
    rw [(brdD_some hb).1]
    have := (brdL_ps (ps := ps) ps.length (Nat.le_refl _) (by rw [List.take_length]; exact hb)).1
    rwa [List.take_length] at this
theorem brdD_no {ps : List (Int × Int × Int)} (h : okL ps = false) : brdD ps = Brd.none := by
  cases hb : brdL ps with
  | none => exact (brdD_none hb).1
  | some B => rw [(brdD_some hb).2] at h; cases h
theorem brdL_yes {ps : List (Int × Int × Int)} {B : Brd} {k : Nat} (hk : k < ps.length) (h : brdL (ps.take k) = some B) (hf : fitsL B ps[k] = true) : brdL (ps.take (k + 1)) = some (withL B ps[k]) := by
  rw [brdL_take hk, h]
  simp only [stepL, Option.bind_some]
  rw [if_pos hf]
theorem brdL_out {ps : List (Int × Int × Int)} {B : Brd} {k : Nat} (hk : k < ps.length) (h : brdL (ps.take k) = some B) (hf : fitsL B ps[k] = false) : brdL ps = none := by
  refine brdL_stop (k := k + 1) ?_
  rw [brdL_take hk, h]
  simp only [stepL, Option.bind_some]
  rw [if_neg (by rw [hf]; decide)]

/-- A board comes back, with a bool: its rows are the call's own. -/
def RetB (w : World) (B : Brd) (ok : Bool) (e : Ending) (w' : World) : Prop :=
  ∃ A c D d, e = .returned (.tuple #[.agg #[.slice A B.ps.length c, .slice D B.arms.length d, .int .i64 B.fives], .bool ok]) ∧
    w'.ownsRow w.heap.size 32 3 (.slice A B.ps.length c) B.ps.length (cellsP B.ps) ∧ w'.ownsRow w.heap.size 141 3 (.slice D B.arms.length d) B.arms.length (cellsA B.arms) ∧ Below w.heap.size w w'

theorem frozen_freshB (w : World) (cs : Array Value) (t : TypeId) (m : Nat) : (w.alloc (.cells cs t)).frozen? ⟨w.heap.size, m, none⟩ = false := by
  unfold World.frozen? World.alloc
  simp
theorem own_set3 {w : World} {base e size n g i1 i2 i3 : Nat} {v : Value} {cs : List Value} (h : w.ownsRow base e size v n cs) (hne : ∀ x, v.ownBlock = some x → x ≠ g) (u1 u2 u3 : Value) :
    (((w.setCell ⟨g, i1, none⟩ u1).setCell ⟨g, i2, none⟩ u2).setCell ⟨g, i3, none⟩ u3).ownsRow base e size v n cs :=
  ownsRow_setCell_other (ownsRow_setCell_other (ownsRow_setCell_other h (a := ⟨g, i1, none⟩) (fun e => hne g e rfl) _) (a := ⟨g, i2, none⟩) (fun e => hne g e rfl) _) (a := ⟨g, i3, none⟩) (fun e => hne g e rfl) _

set_option maxRecDepth 100000 in
set_option maxHeartbeats 2000000 in
theorem c_boardOf (A : Option Addr) (c : Nat) (ps : List (Int × Int × Int)) (w : World) (hr : RdP w A ps) (hl : ps.length ≤ 1048576) :
    Calls Try.prog 103 #[.slice A ps.length c] w (RetB w (brdD ps) (okL ps)) := by
  have hend := Lib.hid (fun B (h : brdL ps = some B) => brdD_some h)
  have hnone := Lib.hid (fun (h : brdL ps = none) => brdD_none h)
  have htl := Lib.hid (List.take_length (l := ps))
  go_enter Try.func103, Try.ntmps103
  go_wp2
  go_loopw [9] (fun i wr => ∃ (k : Nat) (B : Brd) (A' : Option Addr) (c' : Nat) (D' : Option Addr) (d' : Nat), k ≤ ps.length ∧ i = .int .i64 k ∧ brdL (ps.take k) = some B ∧
      (wr.cell? ⟨w.heap.size + 1, 0, none⟩ = some (.slice A' B.ps.length c') ∧ wr.cell? ⟨w.heap.size + 1, 1, none⟩ = some (.slice D' B.arms.length d') ∧ wr.cell? ⟨w.heap.size + 1, 2, none⟩ = some (.int .i64 B.fives)) ∧ (∀ m, wr.frozen? ⟨w.heap.size + 1, m, none⟩ = false) ∧
      (wr.cell? ⟨w.heap.size, 0, none⟩ = some (.slice none 0 0) ∧ wr.cell? ⟨w.heap.size, 1, none⟩ = some (.slice none 0 0) ∧ wr.cell? ⟨w.heap.size, 2, none⟩ = some (.int .i64 0)) ∧ (∀ m, wr.frozen? ⟨w.heap.size, m, none⟩ = false) ∧
      wr.ownsRow (w.heap.size + 2) 32 3 (.slice A' B.ps.length c') B.ps.length (cellsP B.ps) ∧ wr.ownsRow (w.heap.size + 2) 141 3 (.slice D' B.arms.length d') B.arms.length (cellsA B.arms) ∧ Below w.heap.size w wr) (fun i _ => ps.length - (intOf i).toNat)
  case atStart =>
    refine ⟨0, Brd.none, none, 0, none, 0, Nat.zero_le _, rfl, by simp [brdL], ⟨by simp [Brd.none], by simp [Brd.none], by simp [Brd.none]⟩, fun m => (by have h := frozen_freshB (w.alloc (.cells #[.slice none 0 0, .slice none 0 0, .int .i64 0] 94)) #[.slice none 0 0, .slice none 0 0, .int .i64 0] 94 m; rw [World.size_alloc] at h; exact h), ⟨by simp [go_sem], by simp [go_sem], by simp [go_sem]⟩, fun m => ?_, World.ownsRow_nil _ _ _ _, World.ownsRow_nil _ _ _ _, by go_grown⟩
    exact (((Below.refl _ (w.alloc (.cells #[.slice none 0 0, .slice none 0 0, .int .i64 0] 94))).alloc (Nat.le_refl _) _).frozen (p := ⟨w.heap.size, m, none⟩) (by simp)).trans (frozen_freshB _ _ _ m)
  case round =>
    obtain ⟨k, B, A', c', D', d', hk, rfl, hB, ⟨n0, n1, n2⟩, hfn, ⟨r0, r1, r2⟩, hfr, hoP, hoA, hb⟩ := hrel
    have hBk := (brdL_ps k hk hB).2
    have hzb := block_lt n0
    have HB := Lib.hid hB
    have HoP := Lib.hid hoP
    have HoA := Lib.hid hoA
    have Hb := Lib.hid hb
    have fn0 := hfn 0
    have fn1 := hfn 1
    have fn2 := hfn 2
    have fr0 := hfr 0
    have fr1 := hfr 1
    have fr2 := hfr 2
    have Hfn := Lib.hid hfn
    have Hfr := Lib.hid hfr
    have hzw : w.heap.size < wr.heap.size := block_lt r0
    clear hB hoP hoA hfn hfr
    by_cases hlt : k < ps.length
    · obtain ⟨bk, off, rfl, hbk, hc⟩ := hr.at_ hlt
      have g0 := (hb.cell (p := ⟨bk, _, none⟩) hbk).trans (hc k hlt).1
      have g1 := (hb.cell (p := ⟨bk, _, none⟩) hbk).trans (hc k hlt).2.1
      have g2 := (hb.cell (p := ⟨bk, _, none⟩) hbk).trans (hc k hlt).2.2
      have hyes := Lib.hid (fun h => brdL_yes hlt HB.out h)
      have hout := Lib.hid (fun h => brdL_out hlt HB.out h)
      clear hc hr hb
      obtain ⟨x, hx⟩ : ∃ x, ps[k].1 = x := ⟨_, rfl⟩
      obtain ⟨y, hy⟩ : ∃ y, ps[k].2.1 = y := ⟨_, rfl⟩
      obtain ⟨z, hz⟩ : ∃ z, ps[k].2.2 = z := ⟨_, rfl⟩
      have hp : ps[k] = (x, y, z) := Prod.ext hx (Prod.ext hy hz)
      rw [hp] at hyes hout
      rw [hx] at g0
      rw [hy] at g1
      rw [hz] at g2
      clear hx hy hz hp
      have hbp : Below wr.heap.size wr (wr.alloc (.cells #[.int .i64 x, .int .i64 y, .int .i64 z] 32)) := (Below.refl _ _).alloc (Nat.le_refl _) _
      have p0 : (wr.alloc (.cells #[.int .i64 x, .int .i64 y, .int .i64 z] 32)).cell? ⟨wr.heap.size, 0, none⟩ = some (.int .i64 x) := by simp
      have p1 : (wr.alloc (.cells #[.int .i64 x, .int .i64 y, .int .i64 z] 32)).cell? ⟨wr.heap.size, 1, none⟩ = some (.int .i64 y) := by simp
      have p2 : (wr.alloc (.cells #[.int .i64 x, .int .i64 y, .int .i64 z] 32)).cell? ⟨wr.heap.size, 2, none⟩ = some (.int .i64 z) := by simp
      have conF := Lib.hid (fun W (hb : Below wr.heap.size wr W) => c_fits A' c' D' d' B x y z W (RdP.of_own (own_keep HoP.out hb)) (RdA.of_own (own_keep HoA.out hb)) hBk)
      cases hf : fitsL B (x, y, z)
      · rw [hf] at conF
        have hno := hnone.out (hout.out hf)
        have Hno := Lib.hid hno
        have Hbk := Lib.hid hBk
        clear hf hno hyes hout hBk
        go_wp2_with (go_at_call 105; refine (conF.out _ hbp).mono ?_; rintro e w1 ⟨rfl, hb1⟩; have hbw := bstep hbp hb1; have s0 := keepc hbw r0; have s1 := keepc hbw r1; have s2 := keepc hbw r2; have t0 := (hbw.frozen (p := ⟨w.heap.size, 0, none⟩) hzw).trans fr0; have t1 := (hbw.frozen (p := ⟨w.heap.size, 1, none⟩) hzw).trans fr1; have t2 := (hbw.frozen (p := ⟨w.heap.size, 2, none⟩) hzw).trans fr2)
        refine bodyPost_ret (v := .tuple #[.agg #[.slice none 0 0, .slice none 0 0, .int .i64 0], .bool false]) (by simp [results, Try.results103, go_sem, s0, s1, s2]) rfl ?_
        rw [Hno.out.1, Hno.out.2]
        refine ⟨none, 0, none, 0, rfl, World.ownsRow_nil _ _ _ _, World.ownsRow_nil _ _ _ _, ?_⟩
        exact (((bstep Hb.out hbw).setCell (p := ⟨w.heap.size, 0, none⟩) (Nat.le_refl _) _).setCell (p := ⟨w.heap.size, 1, none⟩) (Nat.le_refl _) _).setCell (p := ⟨w.heap.size, 2, none⟩) (Nat.le_refl _) _
      · rw [hf] at conF
        have conW := Lib.hid (fun W (hb : Below wr.heap.size wr W) => c_with A' c' D' d' B x y z W (RdP.of_own (own_keep HoP.out hb)) (RdA.of_own (own_keep HoA.out hb)) hBk hf)
        have Hy := Lib.hid (hyes.out hf)
        have Hbk := Lib.hid hBk
        clear hf hyes hout hBk
        go_wp2_with (first | (go_at_call 105; refine (conF.out _ hbp).mono ?_; rintro e w1 ⟨rfl, hb1⟩; have hbw := bstep hbp hb1; have q0 := keepc hb1 p0; have q1 := keepc hb1 p1; have q2 := keepc hb1 p2; have m0 := keepc hbw n0; have m1 := keepc hbw n1; have m2 := keepc hbw n2) | (go_at_call 63; refine (conW.out _ hbw).mono ?_; rintro e w2 ⟨A2, c2, D2, d2, rfl, ho2, ha2, hb2⟩; have l0 := keepc hb2 m0; have l1 := keepc hb2 m1; have l2 := keepc hb2 m2; have hbw2 := bstep hbw hb2; have t0 := (hbw2.frozen (p := ⟨w.heap.size + 1, 0, none⟩) hzb).trans fn0; have t1 := (hbw2.frozen (p := ⟨w.heap.size + 1, 1, none⟩) hzb).trans fn1; have t2 := (hbw2.frozen (p := ⟨w.heap.size + 1, 2, none⟩) hzb).trans fn2))
        have hz1 := hbw.size
        go_roundw
        case rel =>
          refine ⟨k + 1, withL B (x, y, z), A2, c2, D2, d2, by omega, by go_num, Hy.out, ⟨?_, ?_, ?_⟩, fun m => ?_, ⟨?_, ?_, ?_⟩, fun m => ?_, ?_, ?_, ?_⟩
          · exact same_ne (by omega) (same_ne (by omega) (World.cell?_setCell_same _ _ _ l0))
          · exact same_ne (by omega) (World.cell?_setCell_same _ _ _ (same_ne (by omega) l1))
          · exact World.cell?_setCell_same _ _ _ (same_ne (by omega) (same_ne (by omega) l2))
          · rw [World.frozen?_setCell, World.frozen?_setCell, World.frozen?_setCell]
            exact (hbw2.frozen (p := ⟨w.heap.size + 1, m, none⟩) hzb).trans (Hfn.out m)
          · exact far1 (by omega) (far1 (by omega) (far1 (by omega) (keepc hbw2 r0)))
          · exact far1 (by omega) (far1 (by omega) (far1 (by omega) (keepc hbw2 r1)))
          · exact far1 (by omega) (far1 (by omega) (far1 (by omega) (keepc hbw2 r2)))
          · rw [World.frozen?_setCell, World.frozen?_setCell, World.frozen?_setCell]
            exact (hbw2.frozen (p := ⟨w.heap.size, m, none⟩) hzw).trans (Hfr.out m)
          · exact own_base (own_set3 ho2 (fun g hg => by have := (ho2.lt g hg).1; omega) _ _ _) (by omega)
          · exact own_base (own_set3 ha2 (fun g hg => by have := (ha2.lt g hg).1; omega) _ _ _) (by omega)
          · exact (((bstep Hb.out hbw2).setCell (p := ⟨w.heap.size + 1, 0, none⟩) (by simp) _).setCell (p := ⟨w.heap.size + 1, 1, none⟩) (by simp) _).setCell (p := ⟨w.heap.size + 1, 2, none⟩) (by simp) _
        case measure => simp [intOf]; omega
    · have hke : k = ps.length := by omega
      subst hke
      have hB1 := HB.out
      rw [htl.out] at hB1
      have hE := hend.out B hB1
      have HE := Lib.hid hE
      clear hB1 hE hr hlt hk
      go_wp2
      refine bodyPost_ret (v := .tuple #[.agg #[.slice A' B.ps.length c', .slice D' B.arms.length d', .int .i64 B.fives], .bool true]) (by simp [results, Try.results103, go_sem, r0, r1, r2]) rfl ?_
      rw [HE.out.1, HE.out.2]
      refine ⟨A', c', D', d', rfl, ?_, ?_, ?_⟩
      · exact own_base (own_set3 HoP.out (fun g hg => by have := (HoP.out.lt g hg).1; omega) _ _ _) (by omega)
      · exact own_base (own_set3 HoA.out (fun g hg => by have := (HoA.out.lt g hg).1; omega) _ _ _) (by omega)
      · exact ((hb.setCell (p := ⟨w.heap.size, 0, none⟩) (Nat.le_refl _) _).setCell (p := ⟨w.heap.size, 1, none⟩) (Nat.le_refl _) _).setCell (p := ⟨w.heap.size, 2, none⟩) (Nat.le_refl _) _
end Go.Proofs.Ytnnkdnleencofab

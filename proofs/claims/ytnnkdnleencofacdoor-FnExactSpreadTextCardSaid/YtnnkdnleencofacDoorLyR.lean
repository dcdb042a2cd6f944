/- The state of a list of plays, its sum of ends and its points: the specification's. -/
import Derived.Test.YtnnkdnleencofacDoorLyC
import Derived.Test.YtnnkdnleencofacDoorBrdO
namespace Go.Proofs.YtnnkdnleencofacDoor
open Go.RowKit
set_option linter.unusedVariables false

set_option maxHeartbeats 400000 in
theorem c_lyNew (w : World) : Calls Tryd.prog 17 #[] w fun e w' => e = .returned (.pointer (some ⟨w.heap.size, 0, none⟩)) ∧ StAt w.heap.size w' w.heap.size SSt.new ∧ Below w.heap.size w w' := by
  go_enter Tryd.func17, Tryd.ntmps17
  go_wp2
  go_ret
  refine ⟨rfl, ⟨none, 0, none, 0, Nat.le_refl _, by simp [SSt.new], by simp [SSt.new], by simp [SSt.new], by simp [SSt.new], by simp [SSt.new], by simp [SSt.new], by simp [SSt.new], fun m => frozen_freshB _ _ _ m, World.ownsRow_nil _ _ _ _, World.ownsRow_nil _ _ _ _, fun x h => (by cases h), fun x h => (by cases h), fun x h => (by cases h)⟩, by go_grown⟩

theorem okL_len {ps : List (Int × Int × Int)} (h : okL ps = true) : ps.length ≤ 28 := by
  have := (brdD_ok ps).len
  rwa [brdD_ps h] at this

set_option maxRecDepth 100000 in
set_option maxHeartbeats 1000000 in
theorem c_lyRead (A : Option Addr) (c : Nat) (ps : List (Int × Int × Int)) (w : World) (hr : RdP w A ps) (hl : ps.length ≤ 1048576) :
    Calls Tryd.prog 9 #[.slice A ps.length c] w fun e w' => ∃ g S, e = .returned (.tuple #[.pointer (some ⟨g, 0, none⟩), .bool (okL ps)]) ∧ (okL ps = true → StAt w.heap.size w' g S ∧ Rel (brdD ps) S) ∧ Below w.heap.size w w' := by
  have conN := Lib.hid (c_lyNew w)
  by_cases h28 : 28 < ps.length
  · have e1 : okL ps = false := by
      cases h : okL ps
      · rfl
      · have := okL_len h; omega
    rw [e1]
    have i0 : (28 : Int) < (ps.length : Int) := by omega
    clear e1 h28 hr
    go_enter Tryd.func9, Tryd.ntmps9
    go_wp2_with (go_at_call 17; refine conN.out.mono ?_; rintro e w1 ⟨rfl, hs1, hb1⟩)
    go_ret2
    exact ⟨w.heap.size, SSt.new, rfl, fun h => (by cases h), hb1⟩
  · have i0 : ¬ (28 : Int) < (ps.length : Int) := by omega
    have hend := Lib.hid (fun B (h : brdL ps = some B) => brdD_some h)
    have hnone := Lib.hid (fun (h : brdL ps = none) => brdD_none h)
    have htl := Lib.hid (List.take_length (l := ps))
    clear h28
    go_enter Tryd.func9, Tryd.ntmps9
    go_wp2_with (go_at_call 17; refine conN.out.mono ?_; rintro e w1 ⟨rfl, hs1, hb1⟩)
    go_loopw [14] (fun i wr => ∃ (k : Nat) (B : Brd) (S : SSt), k ≤ ps.length ∧ i = .int .i64 k ∧ brdL (ps.take k) = some B ∧ Rel B S ∧ StAt w.heap.size wr w.heap.size S ∧ Below w.heap.size w wr) (fun i _ => ps.length - (intOf i).toNat)
    case atStart => exact ⟨0, Brd.none, SSt.new, Nat.zero_le _, rfl, by simp [brdL], rel_new, hs1, hb1⟩
    case round =>
      clear hs1 hb1
      obtain ⟨k, B, S, hk, rfl, hB, hR, hs, hb⟩ := hrel
      have HB := Lib.hid hB
      have HR := Lib.hid hR
      have Hs := Lib.hid hs
      have Hb := Lib.hid hb
      clear hB hR hs
      by_cases hlt : k < ps.length
      · obtain ⟨bk, off, rfl, hbk, hc⟩ := hr.at_ hlt
        have g0 := (hb.cell (p := ⟨bk, _, none⟩) hbk).trans (hc k hlt).1
        have g1 := (hb.cell (p := ⟨bk, _, none⟩) hbk).trans (hc k hlt).2.1
        have g2 := (hb.cell (p := ⟨bk, _, none⟩) hbk).trans (hc k hlt).2.2
        have hyes := Lib.hid (fun h => brdL_yes hlt HB.out h)
        have hout := Lib.hid (fun h => brdL_out hlt HB.out h)
        clear hc hr hb
        obtain ⟨x, hx⟩ : ∃ x, ps[k].1 = x := ⟨_, rfl⟩
        obtain ⟨y, hy⟩ : ∃ y, ps[k].2.1 = y := ⟨_, rfl⟩
        obtain ⟨z, hz⟩ : ∃ z, ps[k].2.2 = z := ⟨_, rfl⟩
        have hp : ps[k] = (x, y, z) := Prod.ext hx (Prod.ext hy hz)
        rw [hp] at hyes hout
        rw [hx] at g0
        rw [hy] at g1
        rw [hz] at g2
        clear hx hy hz hp
        have conA := Lib.hid (fun W (hb : Below wr.heap.size wr W) => c_add w.heap.size w.heap.size S B x y z W (Hs.out.keep hb) HR.out)
        have hbp : Below wr.heap.size wr (wr.alloc (.cells #[.int .i64 x, .int .i64 y, .int .i64 z] 36)) := (Below.refl _ _).alloc (Nat.le_refl _) _
        have ok := rel_ok HR.out (x, y, z)
        have hwz := Hb.out.size
        cases hf : fitsL B (x, y, z)
        · rw [hf] at ok
          rw [ok] at conA
          have Hno := Lib.hid (hnone.out (hout.out hf))
          clear hf ok hyes hout
          go_wp2_with (go_at_call 18; refine (conA.out _ hbp).mono ?_; rintro e w2 ⟨rfl, hs2, hb2⟩)
          go_ret2
          rw [Hno.out.2]
          exact ⟨w.heap.size, SSt.new, rfl, fun h => (by cases h), Hb.out.trans ((hbp.mono hwz).trans hb2)⟩
        · rw [hf] at ok
          rw [ok] at conA
          have Hy := Lib.hid (hyes.out hf)
          have Hf := Lib.hid hf
          clear hf ok hyes hout
          go_wp2_with (go_at_call 18; refine (conA.out _ hbp).mono ?_; rintro e w2 ⟨rfl, hs2, hb2⟩)
          go_roundw
          case rel => exact ⟨k + 1, withL B (x, y, z), addS S (x, y, z), by omega, by go_num, Hy.out, rel_add HR.out (x, y, z) Hf.out, hs2, Hb.out.trans ((hbp.mono hwz).trans hb2)⟩
          case measure => simp [intOf]; omega
      · have hke : k = ps.length := by omega
        subst hke
        have hB1 := HB.out
        rw [htl.out] at hB1
        have HE := Lib.hid (hend.out B hB1)
        clear hB1 hr hlt hk
        go_wp2
        go_ret2
        rw [HE.out.1, HE.out.2]
        exact ⟨w.heap.size, S, rfl, fun _ => ⟨Hs.out, HR.out⟩, hb⟩

theorem sum_one {B : Brd} {S : SSt} (hR : Rel B S) {p : Int × Int × Int} (h : B.ps = [p]) : sumL B.ps.length B.arms = p.1 + p.2.1 := by
  rw [hR.one p h, h]
  simp [sumL, armSum]
end Go.Proofs.YtnnkdnleencofacDoor

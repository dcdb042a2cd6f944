/- The state of a list of plays, its sum of ends and its points: the specification's. -/
import Derived.Test.YtnnkdnleencofabLyC
import Derived.Test.YtnnkdnleencofabBrdO
namespace Go.Proofs.Ytnnkdnleencofab
open Go.RowKit
set_option linter.unusedVariables false

set_option maxHeartbeats 400000 in
theorem c_lyNew (w : World) : Calls Try.prog 112 #[] w fun e w' => e = .returned (.pointer (some ⟨w.heap.size, 0, none⟩)) ∧ StAt w.heap.size w' w.heap.size SSt.new ∧ Below w.heap.size w w' := by
  go_enter Try.func112, Try.ntmps112
  go_wp2
  go_ret
  refine ⟨rfl, ⟨none, 0, none, 0, Nat.le_refl _, by simp [SSt.new], by simp [SSt.new], by simp [SSt.new], by simp [SSt.new], by simp [SSt.new], by simp [SSt.new], by simp [SSt.new], fun m => frozen_freshB _ _ _ m, World.ownsRow_nil _ _ _ _, World.ownsRow_nil _ _ _ _, fun x h => (by cases h), fun x h => (by cases h), fun x h => (by cases h)⟩, by go_grown⟩

theorem okL_len {ps : List (Int × Int × Int)} (h : okL ps = true) : ps.length ≤ 28 := by
  have := (brdD_ok ps).len
  rwa [brdD_ps h] at this

set_option maxRecDepth 100000 in
set_option maxHeartbeats 1000000 in
theorem c_lyRead (A : Option Addr) (c : Nat) (ps : List (Int × Int × Int)) (w : World) (hr : RdP w A ps) (hl : ps.length ≤ 1048576) :
    Calls Try.prog 68 #[.slice A ps.length c] w fun e w' => ∃ g S, e = .returned (.tuple #[.pointer (some ⟨g, 0, none⟩), .bool (okL ps)]) ∧ (okL ps = true → StAt w.heap.size w' g S ∧ Rel (brdD ps) S) ∧ Below w.heap.size w w' := by
  have conN := Lib.hid (c_lyNew w)
  by_cases h28 : 28 < ps.length
  · have e1 : okL ps = false := by
      cases h : okL ps
      · rfl
      · have := okL_len h; omega
    rw [e1]
    have i0 : (28 : Int) < (ps.length : Int) := by omega
    clear e1 h28 hr
    go_enter Try.func68, Try.ntmps68
    go_wp2_with (go_at_call 112; refine conN.out.mono ?_; rintro e w1 ⟨rfl, hs1, hb1⟩)
    go_ret2
    exact ⟨w.heap.size, SSt.new, rfl, fun h => (by cases h), hb1⟩
  · have i0 : ¬ (28 : Int) < (ps.length : Int) := by omega
    have hend := Lib.hid (fun B (h : brdL ps = some B) => brdD_some h)
    have hnone := Lib.hid (fun (h : brdL ps = none) => brdD_none h)
    have htl := Lib.hid (List.take_length (l := ps))
    clear h28
    go_enter Try.func68, Try.ntmps68
    go_wp2_with (go_at_call 112; refine conN.out.mono ?_; rintro e w1 ⟨rfl, hs1, hb1⟩)
    go_loopw [14] (fun i wr => ∃ (k : Nat) (B : Brd) (S : SSt), k ≤ ps.length ∧ i = .int .i64 k ∧ brdL (ps.take k) = some B ∧ Rel B S ∧ StAt w.heap.size wr w.heap.size S ∧ Below w.heap.size w wr) (fun i _ => ps.length - (intOf i).toNat)
    case atStart => exact ⟨0, Brd.none, SSt.new, Nat.zero_le _, rfl, by simp [brdL], rel_new, hs1, hb1⟩
    case round =>
      clear hs1 hb1
      obtain ⟨k, B, S, hk, rfl, hB, hR, hs, hb⟩ := hrel
      have HB := Lib.hid hB
      have HR := Lib.hid hR
      have Hs := Lib.hid hs
      have Hb := Lib.hid hb
      clear hB hR hs
      by_cases hlt : k < ps.length
      · obtain ⟨bk, off, rfl, hbk, hc⟩ := hr.at_ hlt
        have g0 := (hb.cell (p := ⟨bk, _, none⟩) hbk).trans (hc k hlt).1
        have g1 := (hb.cell (p := ⟨bk, _, none⟩) hbk).trans (hc k hlt).2.1
        have g2 := (hb.cell (p := ⟨bk, _, none⟩) hbk).trans (hc k hlt).2.2
        have hyes := Lib.hid (fun h => brdL_yes hlt HB.out h)
        have hout := Lib.hid (fun h => brdL_out hlt HB.out h)
        clear hc hr hb
        obtain ⟨x, hx⟩ : ∃ x, ps[k].1 = x := ⟨_, rfl⟩
        obtain ⟨y, hy⟩ : ∃ y, ps[k].2.1 = y := ⟨_, rfl⟩
        obtain ⟨z, hz⟩ : ∃ z, ps[k].2.2 = z := ⟨_, rfl⟩
        have hp : ps[k] = (x, y, z) := Prod.ext hx (Prod.ext hy hz)
        rw [hp] at hyes hout
        rw [hx] at g0
        rw [hy] at g1
        rw [hz] at g2
        clear hx hy hz hp
        have conA := Lib.hid (fun W (hb : Below wr.heap.size wr W) => c_add w.heap.size w.heap.size S B x y z W (Hs.out.keep hb) HR.out)
        have hbp : Below wr.heap.size wr (wr.alloc (.cells #[.int .i64 x, .int .i64 y, .int .i64 z] 32)) := (Below.refl _ _).alloc (Nat.le_refl _) _
        have ok := rel_ok HR.out (x, y, z)
        have hwz := Hb.out.size
        cases hf : fitsL B (x, y, z)
        · rw [hf] at ok
          rw [ok] at conA
          have Hno := Lib.hid (hnone.out (hout.out hf))
          clear hf ok hyes hout
          go_wp2_with (go_at_call 57; refine (conA.out _ hbp).mono ?_; rintro e w2 ⟨rfl, hs2, hb2⟩)
          go_ret2
          rw [Hno.out.2]
          exact ⟨w.heap.size, SSt.new, rfl, fun h => (by cases h), Hb.out.trans ((hbp.mono hwz).trans hb2)⟩
        · rw [hf] at ok
          rw [ok] at conA
          have Hy := Lib.hid (hyes.out hf)
          have Hf := Lib.hid hf
          clear hf ok hyes hout
          go_wp2_with (go_at_call 57; refine (conA.out _ hbp).mono ?_; rintro e w2 ⟨rfl, hs2, hb2⟩)
          go_roundw
          case rel => exact ⟨k + 1, withL B (x, y, z), addS S (x, y, z), by omega, by go_num, Hy.out, rel_add HR.out (x, y, z) Hf.out, hs2, Hb.out.trans ((hbp.mono hwz).trans hb2)⟩
          case measure => simp [intOf]; omega
      · have hke : k = ps.length := by omega
        subst hke
        have hB1 := HB.out
        rw [htl.out] at hB1
        have HE := Lib.hid (hend.out B hB1)
        clear hB1 hr hlt hk
        go_wp2
        go_ret2
        rw [HE.out.1, HE.out.2]
        exact ⟨w.heap.size, S, rfl, fun _ => ⟨Hs.out, HR.out⟩, hb⟩

theorem sum_one {B : Brd} {S : SSt} (hR : Rel B S) {p : Int × Int × Int} (h : B.ps = [p]) : sumL B.ps.length B.arms = p.1 + p.2.1 := by
  rw [hR.one p h, h]
  simp [sumL, armSum]

set_option maxRecDepth 100000 in
set_option maxHeartbeats 1000000 in
theorem c_lySum (base g : Nat) (S : SSt) (B : Brd) (w : World) (h : StAt base w g S) (hR : Rel B S) :
    Calls Try.prog 102 #[.pointer (some ⟨g, 0, none⟩)] w fun e w' => e = .returned (.int .i64 (sumL B.ps.length B.arms)) ∧ Below w.heap.size w w' := by
  obtain ⟨A, c, T, d, h⟩ := h
  have hlt : S.tiles.length = B.ps.length := by rw [hR.tiles, List.length_map]
  have h28 := hR.len
  by_cases h1 : B.ps.length = 1
  · obtain ⟨p, hp⟩ : ∃ p, B.ps = [p] := List.length_eq_one_iff.1 h1
    rw [sum_one hR hp]
    have hg := good_b (hR.good p (by rw [hp]; simp))
    have ht : S.tiles = [(p.1, p.2.1)] := by rw [hR.tiles, hp]; rfl
    have c1 := h.c1
    have hbo := h.bo
    rw [ht] at c1 hbo
    have hrt := RdT.of_own hbo
    obtain ⟨bt, ot, rfl, _, hct⟩ := hrt.at_ (k := 0) (by simp)
    have t0 := (hct 0 (by simp)).1
    have t1 := (hct 0 (by simp)).2
    simp at t0 t1 c1
    obtain ⟨x, hx⟩ : ∃ x, p.1 = x := ⟨_, rfl⟩
    obtain ⟨y, hy⟩ : ∃ y, p.2.1 = y := ⟨_, rfl⟩
    rw [hx] at t0 hg
    rw [hy] at t1 hg
    rw [hx, hy]
    have iw : IntKind.i64.wrap (x + y) = x + y := IntWalk.i64_in _ (by omega)
    clear hlt h28 h1 hp h ht hbo hrt hct hx hy hR
    go_enter Try.func102, Try.ntmps102
    go_wp2
    go_quiet (fail)
    go_wp2
    go_ret
    exact ⟨rfl, ⟨rfl, rfl, rfl, Nat.le_refl _, fun _ _ => rfl⟩⟩
  · have q1 : ((S.tiles.length : Int) == 1) = false := beq_eq_false_iff_ne.2 (by omega)
    have h4 := hR.four
    have ends := Lib.hid hR.ends
    have hn : ∀ k, k < B.arms.length → 1 < B.ps.length := fun k hk => by
      rcases Nat.eq_zero_or_pos B.ps.length with h0 | h0
      · exfalso
        have e0 : B.ps = [] := List.eq_nil_of_length_eq_zero h0
        rcases hR.st with ⟨_, ha, _⟩ | ⟨hne, _⟩
        · rw [ha] at hk; simp at hk
        · exact hne e0
      · omega
    have Hn := Lib.hid hn
    have c0 := h.c0
    have c1 := h.c1
    rw [hR.arms] at c0
    have hr : RdA w A B.arms := RdA.of_own (by have := h.ao; rw [hR.arms] at this; exact this)
    have H4 := Lib.hid h4
    have hle : B.arms.length ≤ 4 := h4.1
    generalize S.tiles.length = m at c1 q1 hlt
    obtain ⟨arms, ha⟩ : ∃ arms, B.arms = arms := ⟨_, rfl⟩
    obtain ⟨n, hn'⟩ : ∃ n, B.ps.length = n := ⟨_, rfl⟩
    rw [ha] at c0 hr hle ends Hn ⊢
    rw [hn'] at Hn h28 ⊢
    clear hlt h1 h h4 hn H4 ha hn' hR
    go_enter Try.func102, Try.ntmps102
    go_wp2
    go_loopw [3, 32] (fun s i wr => ∃ k : Nat, k ≤ arms.length ∧ i = .int .i64 k ∧ s = .int .i64 (sumL n (arms.take k)) ∧ Below w.heap.size w wr) (fun _ i _ => arms.length - (intOf i).toNat)
    case atStart => exact ⟨0, Nat.zero_le _, rfl, rfl, Below.refl _ _⟩
    case round =>
      obtain ⟨k, hk, rfl, rfl, hb⟩ := hrel
      by_cases hlt : k < arms.length
      · obtain ⟨bk, off, rfl, hbk, hc⟩ := hr.at_ hlt
        have g0 := (hb.cell (p := ⟨bk, _, none⟩) hbk).trans (hc k hlt).1
        have g1 := (hb.cell (p := ⟨bk, _, none⟩) hbk).trans (hc k hlt).2.1
        have g2 := (hb.cell (p := ⟨bk, _, none⟩) hbk).trans (hc k hlt).2.2
        have hs0 := sumL_le (n := n) (arms := arms.take k) fun a ha => ends.out a (List.mem_of_mem_take ha)
        have hs1 : sumL n (arms.take k) ≤ 72 := by
          have h2 : (arms.take k).length ≤ 4 := by simp; omega
          omega
        have hs2 := hs0.1
        have he := ends.out _ (List.getElem_mem hlt)
        have hst := Lib.hid (sumL_take (n := n) hlt)
        have Hb := Lib.hid hb
        have hz := hb.size
        have hn1 := Hn.out k hlt
        clear hc hr hb hs0
        generalize hS : sumL n (arms.take k) = Z at hs1 hs2 hst ⊢
        clear hS
        obtain ⟨x, hx⟩ : ∃ x, arms[k].1 = x := ⟨_, rfl⟩
        obtain ⟨y, hy⟩ : ∃ y, arms[k].2.1 = y := ⟨_, rfl⟩
        obtain ⟨z, hz'⟩ : ∃ z, arms[k].2.2 = z := ⟨_, rfl⟩
        have hsum : armSum n arms[k] = if z then 0 else if y then x + x else x := by unfold armSum; rw [hx, hy, hz']; simp [hn1]
        rw [hsum] at hst
        rw [hx] at g0 he
        rw [hy] at g1
        rw [hz'] at g2
        clear hx hy hz' hsum
        cases z <;> cases y
        all_goals
          go_wp2
          go_roundw
          case rel => exact ⟨k + 1, by omega, by go_num, by rw [hst.out]; simp; try go_num, by have hb0 := Hb.out; have hz0 := hb0.size; go_grown⟩
          case measure => simp [intOf]; omega
      · have : k = arms.length := by omega
        subst this
        rw [List.take_length]
        go_wp2
        go_ret
        exact ⟨rfl, hb⟩

set_option maxHeartbeats 400000 in
theorem c_lyPoints (base g : Nat) (S : SSt) (B : Brd) (w : World) (h : StAt base w g S) (hR : Rel B S) :
    Calls Try.prog 58 #[.pointer (some ⟨g, 0, none⟩)] w fun e w' => e = .returned (.int .i64 (ptsL B.ps.length B.arms)) ∧ Below w.heap.size w w' := by
  have hs := sumL_le (n := B.ps.length) hR.ends
  have h4 := hR.four.1
  have con := Lib.hid (c_lySum base g S B w h hR)
  have E := Lib.hid (show ptsL B.ps.length B.arms = if sumL B.ps.length B.arms % 5 = 0 then sumL B.ps.length B.arms else 0 from rfl)
  obtain ⟨Z, hS⟩ : ∃ Z, sumL B.ps.length B.arms = Z := ⟨_, rfl⟩
  rw [hS] at con hs E
  have s0 := hs.1
  have s1 : Z ≤ 72 := by omega
  clear hs hS h hR
  by_cases hm : Z % 5 = 0
  · have q1 : (Z % 5 == 0) = true := by rw [hm]; rfl
    have Hm := Lib.hid hm
    clear hm
    go_enter Try.func58, Try.ntmps58
    go_wp2_with (go_at_call 102; refine con.out.mono ?_; rintro e w1 ⟨rfl, hb1⟩)
    go_ret
    exact ⟨ret_i (by rw [E.out, if_pos Hm.out]), hb1⟩
  · have q1 : (Z % 5 == 0) = false := by simpa using hm
    have Hm := Lib.hid hm
    clear hm
    go_enter Try.func58, Try.ntmps58
    go_wp2_with (go_at_call 102; refine con.out.mono ?_; rintro e w1 ⟨rfl, hb1⟩)
    go_ret
    exact ⟨ret_i (by rw [E.out, if_neg Hm.out]), hb1⟩
end Go.Proofs.Ytnnkdnleencofab

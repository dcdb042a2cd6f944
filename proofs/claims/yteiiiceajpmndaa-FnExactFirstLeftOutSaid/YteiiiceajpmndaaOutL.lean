/- The first tiles left out of a set: both functions. -/
import Derived.Test.YteiiiceajpmndaaOut
namespace Go.Proofs.Yteiiiceajpmndaa
open Go.RowKit
set_option linter.unusedVariables false

set_option maxRecDepth 100000 in
set_option maxHeartbeats 2000000 in
theorem c_specOut (n : Int) (w : World) : Calls Try.prog 26 #[.int .i64 n] w (RetT w (outHL n) (numB n)) := by
  by_cases h : numB n = true
  · obtain ⟨m, hm, rfl⟩ := numB_nat h
    have e1 : outHL (m : Int) = outs (leftN m) := by simp [outHL, h]
    have conL := fun W => c_whLeft (m : Int) W h
    rw [leftV_nat hm] at conL
    have conW := fun A c W (hr : RdT W A (setL m)) => c_whOut m hm (leftN m) 0 (by omega) A c none 0 W.heap.size W hr (World.ownsRow_nil _ _ _ _) (Nat.le_refl _)
    have hlen := outs_len (leftN m)
    rw [e1, h]
    have conS := fun W => c_tiSet m hm W
    have ConL := Lib.hid conL
    have ConW := Lib.hid conW
    have ConS := Lib.hid conS
    clear conL conW conS e1 hlen
    go_enter Try.func26, Try.ntmps26
    go_wp2_with (first | (go_at_call 60; refine (c_tiNumber _ _).mono ?_; rintro e w' ⟨rfl, rfl⟩) | (go_at_call 64; refine (ConS.out _).mono ?_; rintro e w1 ⟨A1, c1, rfl, ho1, hb1⟩) | (go_at_call 61; refine (ConL.out _).mono ?_; rintro e w2 ⟨rfl, rfl⟩) | (go_at_call 63; refine (ConW.out _ _ _ (RdT.of_own ho1)).mono ?_; rintro e w3 ⟨A3, c3, rfl, ho3, hb3⟩))
    go_ret2
    have hlen := outs_len (leftN m)
    exact ⟨A3, c3, by rw [hlen]; rfl, by rw [hlen]; exact own_base ho3 hb1.size, bstep hb1 hb3⟩
  · have h' : numB n = false := by simpa using h
    have e1 : outHL n = [] := by simp [outHL, h']
    rw [e1, h']
    clear h e1
    go_enter Try.func26, Try.ntmps26
    go_wp2_with (go_at_call 60; refine (c_tiNumber _ _).mono ?_; rintro e w' ⟨rfl, rfl⟩)
    go_ret2
    exact ⟨none, 0, rfl, World.ownsRow_nil _ _ _ _, Below.refl _ _⟩

set_option maxRecDepth 100000 in
set_option maxHeartbeats 2000000 in
theorem c_implOut (n : Int) (w : World) : Calls Try.prog 27 #[.int .i64 n] w (RetT w (outHL n) (numB n)) := by
  have conL := c_implLeastLeft n w
  by_cases h : numB n = true
  · obtain ⟨m, hm, rfl⟩ := numB_nat h
    have e1 : outHL (m : Int) = outs (leftN m) := by simp [outHL, h]
    rw [leftV_nat hm, h] at conL
    rw [e1, h]
    have hL4 := leftN_le hm
    have hgets : ∀ k (hk : k < (outs (leftN m)).length), (outs (leftN m))[k] = (2 * (k : Int), 2 * (k : Int) + 1) := fun k hk => outs_get hk
    have hlen := outs_len (leftN m)
    obtain ⟨ts, hts⟩ : ∃ ts, ts = outs (leftN m) := ⟨_, rfl⟩
    rw [← hts] at hlen ⊢
    have hgets : ∀ k (hk : k < ts.length), ts[k] = (2 * (k : Int), 2 * (k : Int) + 1) := fun k hk => by subst hts; exact outs_get hk
    have Hgets := Lib.hid hgets
    rw [← hlen] at conL
    have hlt4 : ts.length ≤ 4 := by omega
    have ConL := Lib.hid conL
    clear hts e1 hgets hlen conL
    obtain ⟨i0, hi, hz0, hz1, hz2⟩ := info_parts Try.info_tile
    go_enter Try.func27, Try.ntmps27
    go_wp2_with (first | (go_at_call 25; refine ConL.out.mono ?_; rintro e w1 ⟨rfl, hb1⟩) | (refine wpList_make_full _ rfl _ _ _ rfl w1.heap.size 58 i0 _ 2 Try.underlying27 hi hz0 hz1 .i64 .i64 _ _ ts.length rfl rfl rfl rfl (by rw [hz2]; omega) (by unfold maxLen; omega) (Nat.le_refl _) ?_; intro w2 hown1 hg1))
    rw [← copyL_zero] at hown1
    have hb2 : Below w1.heap.size w1 w2 := below_of_grown hg1 (Nat.le_refl _) (by simp)
    clear hg1 hz0 hz1 hz2 hi ConL
    go_loopw [19] (fun i wr => ∃ k : Nat, k ≤ ts.length ∧ i = .int .i64 k ∧ wr.ownsRow w1.heap.size 58 2 (.slice (some ⟨w1.heap.size, 0, none⟩) ts.length ts.length) ts.length (cellsT (copyL k ts)) ∧ Below w1.heap.size w1 wr) (fun i _ => ts.length - (intOf i).toNat)
    case atStart => exact ⟨0, Nat.zero_le _, rfl, hown1, hb2⟩
    case round =>
      clear hown1 hb2
      obtain ⟨k, hk, rfl, hown, hb⟩ := hrel
      by_cases hlt : k < ts.length
      · have Hb := Lib.hid hb
        have Ho := Lib.hid hown
        have hcg := cellsT_get (copyL k ts) k (by rw [copyL_length hk]; exact hlt)
        have x1 := (hown.cellAt (k * 2) (by omega)).trans hcg.1
        have x2 := (hown.cellAt (k * 2 + 1) (by omega)).trans hcg.2
        have f1 := hown.frozenAt (k * 2)
        have f2 := hown.frozenAt (k * 2 + 1)
        have hst := copyL_step hlt
        rw [Hgets.out k hlt] at hst
        have Hst := Lib.hid hst
        have i0 : (0 : Int) ≤ (k : Int) := by omega
        have i1 : (k : Int) < (ts.length : Int) := by omega
        have iw1 : IntKind.i64.wrap (2 * (k : Int)) = 2 * (k : Int) := IntWalk.i64_in _ (by omega)
        have iw2 : IntKind.i64.wrap (2 * (k : Int) + 1) = 2 * (k : Int) + 1 := IntWalk.i64_in _ (by omega)
        clear hcg hown hb hst
        go_wp2
        go_roundw
        case rel =>
          refine ⟨k + 1, by omega, by go_num, ?_, (Hb.out.setCell (Nat.le_refl _) _).setCell (Nat.le_refl _) _⟩
          rw [← Hst.out]
          exact (World.ownsRow.stored (Ho.out.stored _ _).1 _ _).1
        case measure => simp [intOf]; omega
      · have : k = ts.length := by omega
        subst this
        rw [copyL_all] at hown
        go_wp2
        go_ret2
        exact ⟨_, _, rfl, own_base hown hb1.size, bstep hb1 hb⟩
  · have h' : numB n = false := by simpa using h
    have e1 : outHL n = [] := by simp [outHL, h']
    have e2 : leftV n = 0 := by simp [leftV, h']
    rw [h', e2] at conL
    rw [e1, h']
    have ConL := Lib.hid conL
    clear h e1 e2 conL
    go_enter Try.func27, Try.ntmps27
    go_wp2_with (go_at_call 25; refine ConL.out.mono ?_; rintro e w1 ⟨rfl, hb1⟩)
    go_ret2
    exact ⟨none, 0, rfl, World.ownsRow_nil _ _ _ _, hb1⟩

end Go.Proofs.Yteiiiceajpmndaa

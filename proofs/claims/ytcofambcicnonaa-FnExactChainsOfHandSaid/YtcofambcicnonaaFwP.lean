/- The first whole chain by the specification: the walk with a look ahead. The first whole chain by the program: the least number that fits. A row of numbers turned around in place, for any base. The first whole chain by the program: laying the least tile that fits, and turning back when stuck. The first whole chain and the first whole ring, both sides. -/
import Derived.Test.YtcofambcicnonaaFwA
import Derived.Test.YtcofambcicnonaaWcW
import Derived.Test.YtcofambcicnonaaCsO
import Derived.Test.YtcofambcicnonaaClr
import Derived.Test.YtcofambcicnonaaGamB
import Derived.Deep.Cut
import Derived.BigQuiet
import Derived.Test.YtcofambcicnonaaCsF
import Derived.ScopeJumps
import Derived.WalkMore
import Derived.Test.YtcofambcicnonaaCan
namespace Go.Proofs.Ytcofambcicnonaa
open Go.RowKit
set_option linter.unusedVariables false

theorem wk_fuel : ∀ (f f' : Nat) (P : List (Int × Int)) (u : Int), P.Nodup → P.length ≤ f → P.length ≤ f' → wk f P u = wk f' P u
  | 0, 0, P, u, _, _, _ => rfl
  | 0, f' + 1, P, u, _, h1, _ => by rw [wk, wk, if_pos (by omega)]
  | f + 1, 0, P, u, _, _, h2 => by rw [wk, wk, if_pos (by omega)]
  | f + 1, f' + 1, P, u, hn, h1, h2 => by
    rw [wk, wk]
    split
    · rfl
    · cases hl : leastS P u with
      | none => rfl
      | some y =>
        have ht := (leastS_iff.1 hl).2.1.1
        have hw := woT_len hn ht
        simp only
        rw [wk_fuel f f' (woT P (tile2 u (y : Int))) (y : Int) (hn.filter _) (by omega) (by omega)]
theorem wk_len : ∀ (f : Nat) (P : List (Int × Int)) (u : Int), (wk f P u).length ≤ f + 1
  | 0, P, u => by simp [wk]
  | f + 1, P, u => by
    rw [wk]
    split
    · simp
    · split
      · simp
      · rw [List.length_cons]
        exact Nat.succ_le_succ (wk_len f _ _)
/-- A row of the call's own stays where another one, of an older block, grows. -/
theorem own_grew {a w : World} {B e0 sz n : Nat} {u v : Value} {cs : List Value} (h : a.ownsRow B e0 sz v n cs) (hg : a.grownBy w u.ownBlock) (hu : ∀ g, u.ownBlock = some g → g < B) : w.ownsRow B e0 sz v n cs :=
  own_blockG h fun g hv => hg.block g (h.lt g hv).2 (by
    cases hq : u.ownBlock with
    | none => simp
    | some k =>
      have h1 := hu k hq
      have h2 := (h.lt g hv).1
      intro e
      injection e with e
      omega)
/-- What the walk has behind its first number. -/
def wkT (f : Nat) (P : List (Int × Int)) (u : Int) : List Int := (wk f P u).tail
theorem wk_cons (f : Nat) (P : List (Int × Int)) (u : Int) : wk f P u = u :: wkT f P u := by
  unfold wkT
  cases f with
  | zero => rfl
  | succ f =>
    rw [wk]
    split
    · rfl
    · cases leastS P u <;> rfl

set_option maxRecDepth 100000 in
set_option maxHeartbeats 8000000 in
theorem c_whWalk (A : Option Addr) (c : Nat) (P : List (Int × Int)) (x : Nat) (w : World) (hr : RdT w A P) (hh : handB P = true) (hx : x < 10) (hf : fromB P (x : Int) = true) :
    Calls Try.prog 36 #[.slice A P.length c, .int .i64 (x : Int)] w (RetN w (wk P.length P (x : Int))) := by
  have hl : P.length ≤ 55 := (of_decide_eq_true hh : handP P).1
  obtain ⟨R, hR⟩ : ∃ R, R = wk P.length P (x : Int) := ⟨_, rfl⟩
  rw [← hR]
  have HR := Lib.hid hR
  have HH := Lib.hid hh
  have HF := Lib.hid hf
  have HRD := Lib.hid hr
  clear hR hh hf hr
  go_enter Try.func36, Try.ntmps36
  go_wp2
  have ho0 : (w.alloc (.cells #[.int .i64 (x : Int)] 3)).ownsRow w.heap.size 3 1 (.slice (some ⟨w.heap.size, 0, none⟩) 1 1) 1 (cellsI [(x : Int)]) := World.ownsRow_lit w _ 1 (Nat.le_refl _) (by unfold maxLen; omega) rfl
  have hb0 : Below w.heap.size w (w.alloc (.cells #[.int .i64 (x : Int)] 3)) := (Below.refl _ _).alloc (Nat.le_refl _) _
  go_loopw [0, 1, 5] (fun hv nv ov wr => ∃ (Q : List (Int × Int)) (A' : Option Addr) (c' : Nat) (v : Nat) (ys : List Int) (A2 : Option Addr) (c2 : Nat), hv = .slice A' Q.length c' ∧ nv = .int .i64 (v : Int) ∧ ov = .slice A2 ys.length c2 ∧ handB Q = true ∧ v < 10 ∧ fromB Q (v : Int) = true ∧ RdT wr A' Q ∧ ys ++ wkT Q.length Q (v : Int) = R ∧ ys.length + Q.length ≤ 57 ∧
      wr.ownsRow w.heap.size 3 1 (.slice A2 ys.length c2) ys.length (cellsI ys) ∧ Below w.heap.size w wr) (fun hv _ _ _ => lenV hv)
  case atStart => exact ⟨P, A, c, x, [(x : Int)], _, _, rfl, rfl, rfl, HH.out, hx, HF.out, HRD.out.below hb0, by rw [HR.out, wk_cons]; rfl, by simp; omega, ho0, hb0⟩
  case round =>
    obtain ⟨Q, A', c', v, ys, A2, c2, rfl, rfl, rfl, hQh, hv, hfQ, hrQ, hpre, hsm, hown, hb⟩ := hrel
    have HQ := Lib.hid hQh
    have HFQ := Lib.hid hfQ
    have HRQ := Lib.hid hrQ
    have HP := Lib.hid hpre
    have HO := Lib.hid hown
    have HB := Lib.hid hb
    have hsz := hb.size
    by_cases hq0 : Q.length = 0
    · have j0 : ¬ (0 : Int) < (Q.length : Int) := by omega
      have e0 : Q = [] := List.eq_nil_of_length_eq_zero hq0
      have hRR : R = ys := by rw [← hpre, e0]; exact List.append_nil ys
      have HRR := Lib.hid hRR
      clear hQh hfQ hrQ hpre hown hb hRR e0
      go_wp2
      go_ret
      rw [HRR.out]
      exact ⟨A2, c2, rfl, HO.out, HB.out⟩
    · have j0 : (0 : Int) < (Q.length : Int) := by omega
      have jn : 0 < Q.length := by omega
      have hex := (first_main Q.length Q v (Nat.le_refl _) hQh hv hfQ).1 hq0
      have HEX := Lib.hid hex
      clear hQh hfQ hrQ hpre hown hb hex
      go_wp2
      rename World => wo
      have HQ0 := Lib.hid hq0
      clear j0 jn hq0
      go_loopw [0, 1, 5, 6] (fun hv nv ov i wr => ∃ z : Nat, z ≤ 10 ∧ hv = .slice A' Q.length c' ∧ nv = .int .i64 (v : Int) ∧ ov = .slice A2 ys.length c2 ∧ i = .int .i64 (z : Int) ∧ (∀ y : Nat, y < z → ¬ Feas Q (v : Int) y) ∧ Below wo.heap.size wo wr) (fun _ _ _ i _ => 10 - (intOf i).toNat)
      case atStart => exact ⟨0, Nat.zero_le _, rfl, rfl, rfl, rfl, fun y hy => absurd hy (Nat.not_lt_zero y), Below.refl _ _⟩
      case round =>
        obtain ⟨z, hz, rfl, rfl, rfl, rfl, hno, hb⟩ := hrel
        by_cases hz10 : z = 10
        · exfalso
          obtain ⟨y, hy, hfy⟩ := HEX.out
          exact hno y (by omega) hfy
        have hz9 : z < 10 := by omega
        have hzle : (z : Int) ≤ 9 := by omega
        have HNO := Lib.hid hno
        have HB2 := Lib.hid hb
        have hrW := HRQ.out.below hb
        have HRW := Lib.hid hrW
        have sz2 := hb.size
        have hl55 : Q.length ≤ 55 := (of_decide_eq_true HQ.out : handP Q).1
        clear hno hb hrW hz10
        by_cases hin : tile2 (v : Int) (z : Int) ∈ Q
        · have hplc : ¬ placeI Q (min (v : Int) (z : Int), max (v : Int) (z : Int)) < 0 := by have := placeI_nonneg.2 hin; unfold tile2 at this; omega
          obtain ⟨S, hS⟩ : ∃ S, S = thoseL Q [tile2 (v : Int) (z : Int)] false := ⟨_, rfl⟩
          have hperm : S.Perm (woT Q (tile2 (v : Int) (z : Int))) := by rw [hS]; exact those_woT HQ.out _
          have hSh : handB S = true := hand_perm hperm.symm (hand_woT HQ.out _)
          have hSl : S.length + 1 = Q.length := by have := woT_len (hand_nd HQ.out) hin; rw [hperm.length_eq]; exact this
          have hfS := fromB_perm hSh hperm hz9
          have conW := fun (W : World) (hb : Below wr.heap.size wr W) => c_whWithout A' c' Q (v : Int) (z : Int) W (HRW.out.below hb) (by omega)
          rw [← hS] at conW
          have ConW := Lib.hid conW
          have conF := fun (W : World) (A3 : Option Addr) (c3 : Nat) (h : RdT W A3 S) => c_whFrom A3 c3 S (z : Int) W h hSh (by unfold numB; simp; omega)
          have HS := Lib.hid hSh
          have HSL := Lib.hid hSl
          have HPM := Lib.hid hperm
          clear conW hS hSh hSl hperm
          cases hfr : fromB S (z : Int)
          · have hnf : ¬ Feas Q (v : Int) z := fun h => by rw [hfS] at hfr; rw [h.2] at hfr; cases hfr
            rw [hfr] at conF
            have ConF := Lib.hid conF
            have HNF := Lib.hid hnf
            clear conF hnf hfS hfr hin
            go_wp2_with (first | (go_at_call 53; refine (c_tiOf _ _ _).mono ?_; rintro e w1 ⟨rfl, h1⟩) | (go_at_call 34; refine (c_tiPlace A' c' Q _ _ _ (HRW.out.below h1) (by omega)).mono ?_; rintro e w2 ⟨rfl, h2⟩; have B2 := Lib.hid (h1.trans (h2.mono h1.size))) | (go_at_call 54; refine (ConW.out _ B2.out).mono ?_; rintro e w3 ⟨A3, c3, rfl, o3, h3⟩) | (go_at_call 35; refine (ConF.out _ _ _ (RdT.of_own o3)).mono ?_; rintro e w4 ⟨rfl, h4⟩))
            go_roundw
            case rel => exact ⟨z + 1, by omega, rfl, rfl, rfl, by go_num, fun y hy => (by by_cases e : y = z; exact e ▸ HNF.out; exact HNO.out y (by omega)), HB2.out.trans (((B2.out.trans (h3.mono B2.out.size)).trans (h4.mono (Nat.le_trans B2.out.size h3.size))).mono sz2)⟩
            case measure => simp [intOf]; omega
          · have hfe : Feas Q (v : Int) z := ⟨hin, by rw [← hfS]; exact hfr⟩
            have hls : leastS Q (v : Int) = some z := leastS_iff.2 ⟨hz9, hfe, HNO.out⟩
            have hwk : wkT Q.length Q (v : Int) = (z : Int) :: wkT S.length S (z : Int) := by
              have h7 := HSL.out
              rw [← wk_cons]
              unfold wkT
              rw [show Q.length = S.length + 1 by omega, wk_step (by omega) hls, wk_perm S.length (z : Int) HS.out HPM.out]
              rfl
            rw [hfr] at conF
            have ConF := Lib.hid conF
            have HWK := Lib.hid hwk
            have HFR := Lib.hid hfr
            clear conF hfe hls hwk hfS hfr hin
            go_wp2_with (first | (go_at_call 53; refine (c_tiOf _ _ _).mono ?_; rintro e w1 ⟨rfl, h1⟩) | (go_at_call 34; refine (c_tiPlace A' c' Q _ _ _ (HRW.out.below h1) (by omega)).mono ?_; rintro e w2 ⟨rfl, h2⟩; have B2 := Lib.hid (h1.trans (h2.mono h1.size))) | (go_at_call 35; refine (ConF.out _ _ _ (RdT.of_own o3)).mono ?_; rintro e w4 ⟨rfl, h4⟩; have B4 := Lib.hid ((B2.out.trans (h3.mono B2.out.size)).trans (h4.mono (Nat.le_trans B2.out.size h3.size)))) | (go_at_call 54; refine (ConW.out _ B4.out).mono ?_; rintro e w5 ⟨A5, c5, rfl, o5, h5⟩; have B5 := Lib.hid (B4.out.trans (h5.mono B4.out.size)); have WB := Lib.hid (HB2.out.trans (B5.out.mono sz2)); have OL := Lib.hid (fun g (hg : (Value.slice A2 ys.length c2).ownBlock = some g) => Nat.lt_of_lt_of_le (HO.out.lt g hg).2 (Nat.le_trans sz2 B4.out.size)); have Ho5 := Lib.hid ((own_keep HO.out WB.out).alloc (.cells #[.int .i64 (z : Int)] 3))) | (go_at_call 54; refine (ConW.out _ B2.out).mono ?_; rintro e w3 ⟨A3, c3, rfl, o3, h3⟩) | (at_builtin; refine wp_append_int rfl _ _ rfl w.heap.size _ _ rfl Ho5.out (z : Int) w5.heap.size rfl (by simp) (by omega) (by have := WB.out.size; simp; omega) ?_; intro A6 c6 w6 hown6 hg6))
            refine ⟨⟨S, A5, c5, z, ys ++ [(z : Int)], A6, c6, rfl, rfl, by rw [List.length_append]; rfl, HS.out, hz9, HFR.out, RdT.of_own (own_grew (o5.alloc _) hg6 OL.out), ?_, ?_, ?_, ?_⟩, ?_⟩
            · have h7 := HP.out
              rw [HWK.out] at h7
              rw [List.append_assoc]
              exact h7
            · rw [List.length_append, List.length_singleton]
              have := HSL.out
              omega
            · rw [List.length_append]
              exact hown6
            · exact ((HB.out.trans (WB.out.mono hsz)).alloc (Nat.le_trans hsz WB.out.size) _).trans (below_of_grown hg6 (by have := WB.out.size; simp; omega) (fun g hg => (Ho5.out.lt g hg).1))
            · have := HSL.out
              simp only [lenV]
              omega
        · have hplc : placeI Q (min (v : Int) (z : Int), max (v : Int) (z : Int)) < 0 := by
            have : ¬ 0 ≤ placeI Q (tile2 (v : Int) (z : Int)) := fun h => hin (placeI_nonneg.1 h)
            unfold tile2 at this
            omega
          have hnf : ¬ Feas Q (v : Int) z := fun h => hin h.1
          have HNF := Lib.hid hnf
          clear hin hnf
          go_wp2_with (first | (go_at_call 53; refine (c_tiOf _ _ _).mono ?_; rintro e w1 ⟨rfl, h1⟩) | (go_at_call 34; refine (c_tiPlace A' c' Q _ _ _ (HRW.out.below h1) (by omega)).mono ?_; rintro e w2 ⟨rfl, h2⟩; have B2 := Lib.hid (h1.trans (h2.mono h1.size))))
          go_roundw
          case rel => exact ⟨z + 1, by omega, rfl, rfl, rfl, by go_num, fun y hy => (by by_cases e : y = z; exact e ▸ HNF.out; exact HNO.out y (by omega)), HB2.out.trans (B2.out.mono sz2)⟩
          case measure => simp [intOf]; omega

end Go.Proofs.Ytcofambcicnonaa

namespace Go.Proofs.Ytcofambcicnonaa
open Go.RowKit
set_option linter.unusedVariables false

def findI (n : Nat) (f : Nat → Bool) : Int := match (List.range n).find? f with
  | some y => (y : Int)
  | none => -1
theorem findI_some {n k : Nat} {f : Nat → Bool} (hk : k < n) (h : f k = true) (hn : ∀ j, j < k → f j = false) : findI n f = (k : Int) := by
  have : (List.range n).find? f = some k := List.find?_range_eq_some.2 ⟨h, List.mem_range.2 hk, fun j hj => by rw [hn j hj]; rfl⟩
  unfold findI
  rw [this]
theorem findI_none {n : Nat} {f : Nat → Bool} (hn : ∀ j, j < n → f j = false) : findI n f = -1 := by
  have : (List.range n).find? f = none := List.find?_eq_none.2 fun j hj => by rw [hn j (List.mem_range.1 hj)]; simp
  unfold findI
  rw [this]
def leastI (P : List (Int × Int)) (x : Int) : Int := findI 10 fun y : Nat => decide (tile2 x (y : Int) ∈ P)
theorem leastI_some {P : List (Int × Int)} {x : Int} {y : Nat} (h : leastF P x = some y) : leastI P x = (y : Int) := by
  unfold leastI findI
  unfold leastF at h
  rw [h]
theorem leastI_none {P : List (Int × Int)} {x : Int} (h : leastF P x = none) : leastI P x = -1 := by
  unfold leastI findI
  unfold leastF at h
  rw [h]

set_option maxRecDepth 100000 in
set_option maxHeartbeats 1000000 in
theorem c_idxBool (g off n c : Nat) (f : Nat → Bool) (w : World) (hc : ∀ k, k < n → w.cell? ⟨g, off + k, none⟩ = some (.bool (f k))) (hn : n ≤ 1000) :
    Calls Try.prog 40 #[.slice (some ⟨g, off, none⟩) n c, .bool true] w fun e w' => e = .returned (.int .i64 (findI n f)) ∧ w' = w := by
  have HC := Lib.hid hc
  clear hc
  go_enter Try.func40, Try.ntmps40
  go_wp2
  go_loopw [8] (fun i wr => ∃ k : Nat, k ≤ n ∧ i = .int .i64 k ∧ (∀ j, j < k → f j = false) ∧ wr = w) (fun i _ => n - (intOf i).toNat)
  case atStart => exact ⟨0, Nat.zero_le _, rfl, fun j hj => absurd hj (Nat.not_lt_zero j), rfl⟩
  case round =>
    obtain ⟨k, hk, rfl, hno, rfl⟩ := hrel
    by_cases hlt : k < n
    · have g1 := HC.out k hlt
      have j1 : (0 : Int) ≤ (k : Int) := by omega
      have j2 : (k : Int) < (n : Int) := by omega
      cases hfk : f k with
      | true =>
        rw [hfk] at g1
        have hres := findI_some hlt hfk hno
        have HRES := Lib.hid hres
        clear hno hfk hres
        go_wp2
        go_ret
        exact ⟨by rw [HRES.out]; rfl, rfl⟩
      | false =>
        rw [hfk] at g1
        have HNO := Lib.hid hno
        have HFK := Lib.hid hfk
        clear hno hfk
        go_wp2
        go_roundw
        case rel => exact ⟨k + 1, by omega, by go_num, fun j hj => (by by_cases e : j = k; exact e ▸ HFK.out; exact HNO.out j (by omega)), by first | rfl | trivial⟩
        case measure => simp [intOf]; omega
    · have e : k = n := by omega
      subst e
      have hres := findI_none hno
      have HRES := Lib.hid hres
      clear hno hres
      go_wp2
      go_ret
      exact ⟨by rw [HRES.out]; rfl, rfl⟩

set_option maxRecDepth 100000 in
set_option maxHeartbeats 1000000 in
theorem c_leastFit (g x : Nat) (P : List (Int × Int)) (w : World) (hm : Marks g P w) (hx : x < 10) :
    Calls Try.prog 39 #[.int .i64 (x : Int), .pointer (some ⟨g, 0, none⟩)] w fun e w' => e = .returned (.int .i64 (leastI P (x : Int))) ∧ w' = w := by
  have con := c_idxBool g (x * 10) 10 10 (fun y : Nat => decide (tile2 (x : Int) (y : Int) ∈ P)) w (fun k hk => hm.1 x k (by omega) (by omega)) (by omega)
  have Con := Lib.hid con
  have j1 : (0 : Int) ≤ (x : Int) := by omega
  have j2 : (x : Int) < 10 := by omega
  clear con hm
  go_enter Try.func39, Try.ntmps39
  go_wp2_with (go_at_call 40; refine Con.out.mono ?_; rintro e w1 ⟨rfl, rfl⟩)
  go_ret
  exact ⟨rfl, rfl⟩

set_option maxRecDepth 100000 in
set_option maxHeartbeats 2000000 in
theorem c_leastStart (A : Option Addr) (c : Nat) (P : List (Int × Int)) (w : World) (hr : RdT w A P) (hh : handB P = true) :
    Calls Try.prog 27 #[.slice A P.length c] w fun e w' => e = .returned (.int .i64 (startI P)) ∧ Below w.heap.size w w' := by
  have hl : P.length ≤ 55 := (of_decide_eq_true hh : handP P).1
  have conO := c_implOdd A c P w hr (by omega)
  have conN := fun (W : World) (hb : Below w.heap.size w W) => c_implNumbersOf A c P W (hr.below hb) (by omega)
  have e1 : oddHL P = oddTo P 10 := by unfold oddHL; rw [if_pos hh]
  have e2 : numbersL P = numsTo P 10 := by unfold numbersL; rw [if_pos hh]
  rw [e1] at conO
  simp only [e2] at conN
  unfold startI
  cases ho : oddTo P 10 with
  | cons d D =>
    rw [ho] at conO
    have Con := Lib.hid conO
    have j1 : (0 : Int) < ((d :: D).length : Int) := by rw [List.length_cons]; omega
    clear conO conN ho e1 e2 hr
    go_enter Try.func27, Try.ntmps27
    go_wp2_with (go_at_call 43; refine Con.out.mono ?_; rintro e w1 ⟨A1, c1, rfl, o1, h1⟩; obtain ⟨bk, off, hA, hbk, hcell⟩ := (RdI.of_own o1).at_ (k := 0) (by simp); have g1 := hcell 0 (by simp); subst hA)
    go_ret
    exact ⟨rfl, h1⟩
  | nil =>
    rw [ho] at conO
    cases hu : numsTo P 10 with
    | cons d D =>
      rw [hu] at conN
      have Con := Lib.hid conO
      have ConN := Lib.hid conN
      have j1 : (0 : Int) < ((d :: D).length : Int) := by rw [List.length_cons]; omega
      clear conO conN ho hu e1 e2 hr
      go_enter Try.func27, Try.ntmps27
      go_wp2_with (first | (go_at_call 43; refine Con.out.mono ?_; rintro e w1 ⟨A1, c1, rfl, o1, h1⟩) | (go_at_call 44; refine (ConN.out _ h1).mono ?_; rintro e w2 ⟨A2, c2, rfl, o2, h2⟩; obtain ⟨bk, off, hA, hbk, hcell⟩ := (RdI.of_own o2).at_ (k := 0) (by simp); have g1 := hcell 0 (by simp); subst hA))
      go_ret
      exact ⟨rfl, h1.trans (h2.mono h1.size)⟩
    | nil =>
      rw [hu] at conN
      have Con := Lib.hid conO
      have ConN := Lib.hid conN
      clear conO conN ho hu e1 e2 hr
      go_enter Try.func27, Try.ntmps27
      go_wp2_with (first | (go_at_call 43; refine Con.out.mono ?_; rintro e w1 ⟨A1, c1, rfl, o1, h1⟩) | (go_at_call 44; refine (ConN.out _ h1).mono ?_; rintro e w2 ⟨A2, c2, rfl, o2, h2⟩))
      go_ret
      exact ⟨rfl, h1.trans (h2.mono h1.size)⟩

end Go.Proofs.Ytcofambcicnonaa

namespace Go.Proofs.Ytcofambcicnonaa
open Go.RowKit
set_option linter.unusedVariables false

set_option maxRecDepth 100000 in
set_option maxHeartbeats 2000000 in
theorem c_reverseA (base c : Nat) (A : Option Addr) (xs : List Int) (w : World) (hne : 0 < xs.length) (hl : xs.length ≤ 1048576) (ho : w.ownsRow base 3 1 (.slice A xs.length c) xs.length (cellsI xs)) :
    Calls Try.prog 42 #[.slice A xs.length c] w fun e w' => e = .returned (.tuple #[]) ∧ w'.ownsRow base 3 1 (.slice A xs.length c) xs.length (cellsI xs.reverse) ∧ w.grownBy w' (Value.slice A xs.length c).ownBlock := by
  obtain ⟨n, hn⟩ : ∃ n, xs.length = n + 1 := ⟨xs.length - 1, by omega⟩
  obtain ⟨g, rfl⟩ : ∃ g, A = some ⟨g, 0, none⟩ := by
    obtain ⟨_, ⟨hv, hz⟩ | ⟨g, cap, cur, hv, _⟩⟩ := ho
    · omega
    · injection hv with h1 h2 h3
      exact ⟨g, h1⟩
  have hbase := (ho.lt g rfl).1
  have Hn := Lib.hid hn
  have hl' : n ≤ 1048576 := by omega
  rw [hn] at ho ⊢
  clear hne hl hn
  go_enter Try.func42, Try.ntmps42
  go_wp2
  go_loopw [2, 3] (fun i j wr => ∃ (k m : Nat) (zs : List Int), k + m = n ∧ k ≤ m + 1 ∧ i = .int .i64 k ∧ j = .int .i64 m ∧ zs.length = n + 1 ∧ (∀ t, t < n + 1 → zs.getD t 0 = if t < k ∨ m < t then xs.getD (n - t) 0 else xs.getD t 0) ∧
      wr.ownsRow base 3 1 (.slice (some ⟨g, 0, none⟩) (n + 1) c) (n + 1) (cellsI zs) ∧ w.grownBy wr (some g)) (fun i _ _ => n + 1 - (intOf i).toNat)
  case atStart => exact ⟨0, n, xs, by omega, by omega, rfl, by go_num, Hn.out, fun t ht => by rw [if_neg (by omega)], ho, World.grownBy.refl _ _⟩
  case round =>
    clear ho
    obtain ⟨k, m, zs, hkm, hk, rfl, rfl, hz, hv, hown, hb⟩ := hrel
    by_cases hlt : k < m
    · have x1 := (hown.cellAt k (by omega)).trans (cellsI_get (zs := zs) (t := k) (by omega))
      have x2 := (hown.cellAt m (by omega)).trans (cellsI_get (zs := zs) (t := m) (by omega))
      have f1 := hown.frozenAt k
      have f2 := hown.frozenAt m
      have Hv := Lib.hid hv
      have Hz := Lib.hid hz
      have Hb := Lib.hid hb
      have Ho := Lib.hid hown
      have Hkm := Lib.hid hkm
      have i0 : (0 : Int) ≤ (k : Int) := by omega
      have i1 : (k : Int) < (n : Int) + 1 := by omega
      have i2 : (0 : Int) ≤ (m : Int) := by omega
      have i3 : (m : Int) < (n : Int) + 1 := by omega
      have i4 : (k : Int) < (m : Int) := by omega
      generalize hp : zs.getD k 0 = p at x1
      generalize hq : zs.getD m 0 = q at x2
      have Hp := Lib.hid hp
      have Hq := Lib.hid hq
      obtain ⟨v', hy⟩ := cell?_setCell_some (w := wr.drew) (p := ⟨g, k, none⟩) (x := .int .i64 q) (q := ⟨g, m, none⟩) (v := .int .i64 q) x2
      clear hv hz hown hb hkm hp hq
      go_wp2
      go_region
      go_wp2
      go_roundw
      case rel =>
        have hkm := Hkm.out
        have hz := Hz.out
        refine ⟨k + 1, m - 1, (zs.set k q).set m p, by omega, by omega, by go_num, by go_num, by simp [hz], fun t ht => ?_, ?_, grown_drew (grown_set (grown_set Hb.out _ _) _ _)⟩
        · rw [getD_set (by simp; omega), getD_set (by omega)]
          have h1 := Hv.out t ht
          have h2 := Hv.out k (by omega)
          have h3 := Hv.out m (by omega)
          rw [Hp.out, if_neg (by omega)] at h2
          rw [Hq.out, if_neg (by omega)] at h3
          by_cases e1 : t = m
          · rw [if_pos e1, if_pos (by omega), h2]
            congr 1
            omega
          · rw [if_neg e1]
            by_cases e2 : t = k
            · rw [if_pos e2, if_pos (by omega), h3]
              congr 1
              omega
            · rw [if_neg e2, h1]
              by_cases e3 : t < k ∨ m < t
              · rw [if_pos e3, if_pos (by omega)]
              · rw [if_neg e3, if_neg (by omega)]
        · rw [← cellsI_set, ← cellsI_set]
          exact own_drew (World.ownsRow.stored (Ho.out.stored _ _).1 _ _).1
      case measure => simp [intOf]; omega
    · have i4 : ¬ (k : Int) < (m : Int) := by omega
      have e : zs = xs.reverse := rev_pairs (by rw [hz, Hn.out]) (fun t ht => by
        have hl := Hn.out
        rw [hv t (by omega), show xs.length - 1 - t = n - t from by omega]
        split
        · rfl
        · rw [show n - t = t from by omega])
      subst e
      clear hv hz
      go_wp2
      go_end0
      exact ⟨rfl, hown, hb⟩

end Go.Proofs.Ytcofambcicnonaa

namespace Go.Proofs.Ytcofambcicnonaa
open Go.RowKit
set_option linter.unusedVariables false

/-- What the way still puts behind: its numbers, the last one first. -/
def pa : List Int → List (Int × Int) → List Int
  | [], _ => []
  | v :: ws, P => (gw P.length P v).1 ++ pa ws (gw P.length P v).2
theorem pa_none {v : Int} {ws : List Int} {P : List (Int × Int)} (h : leastF P v = none) : pa (v :: ws) P = v :: pa ws P := by
  rw [pa, gw_none h]
  rfl
theorem pa_some {v : Int} {ws : List Int} {P : List (Int × Int)} {y : Nat} (hn : P.Nodup) (h : leastF P v = some y) : pa (v :: ws) P = pa ((y : Int) :: v :: ws) (woT P (tile2 v (y : Int))) := by
  obtain ⟨_, ht, _⟩ := leastF_some h
  have hl := woT_len hn ht
  obtain ⟨f, hf⟩ : ∃ f, P.length = f + 1 := ⟨P.length - 1, by omega⟩
  have hw : (woT P (tile2 v (y : Int))).length = f := by omega
  have hs := gw_sub f (woT P (tile2 v (y : Int))) (y : Int)
  have hq : (woT P (tile2 v (y : Int))).Nodup := hn.filter _
  have e := gw_fuel f (gw f (woT P (tile2 v (y : Int))) (y : Int)).2.length (gw f (woT P (tile2 v (y : Int))) (y : Int)).2 v (hq.sublist hs) (by have := hs.length_le; omega) (Nat.le_refl _)
  rw [pa, pa, pa, hf, gw_some h, hw]
  simp only [e]
  rw [List.append_assoc]

theorem marks_same {g : Nat} {P : List (Int × Int)} {w w' : World} (h : Marks g P w) (hb : w'.heap[g]? = w.heap[g]?) : Marks g P w' :=
  ⟨fun a b ha hb' => (World.cell?_of_block (a := ⟨g, a * 10 + b, none⟩) hb).trans (h.1 a b ha hb'), fun m => (World.frozen?_of_block (a := ⟨g, m, none⟩) hb).trans (h.2 m)⟩
theorem marks_lose {g : Nat} {P : List (Int × Int)} {w : World} {a b : Nat} (ha : a ≤ 9) (hb : b ≤ 9) (h : Marks g P w) :
    Marks g (woT P (tile2 a b)) ((w.setCell ⟨g, a * 10 + b, none⟩ (.bool false)).setCell ⟨g, b * 10 + a, none⟩ (.bool false)) := by
  obtain ⟨h1, h2⟩ := h
  refine ⟨fun p q hp hq => ?_, fun m => by simp [h2]⟩
  have c1 := h1 a b ha hb
  have c2 := h1 b a hb ha
  by_cases e2 : p * 10 + q = b * 10 + a
  · have ep : p = b := by omega
    have eq : q = a := by omega
    subst ep eq
    have c3 : ∃ v, (w.setCell ⟨g, q * 10 + p, none⟩ (.bool false)).cell? ⟨g, p * 10 + q, none⟩ = some v := by
      by_cases e : p * 10 + q = q * 10 + p
      · rw [e, World.cell?_setCell_same _ _ _ c1]; exact ⟨_, rfl⟩
      · rw [World.cell?_setCell_other _ _ _ _ (by first | (simp; omega) | simp)]; exact ⟨_, c2⟩
    obtain ⟨v, c3⟩ := c3
    rw [World.cell?_setCell_same _ _ _ c3]
    simp [tile2_comm, mem_woT]
  · rw [World.cell?_setCell_other _ _ _ _ (by first | (simp; omega) | simp)]
    by_cases e1 : p * 10 + q = a * 10 + b
    · have ep : p = a := by omega
      have eq : q = b := by omega
      subst ep eq
      rw [World.cell?_setCell_same _ _ _ c1]
      simp [mem_woT]
    · rw [World.cell?_setCell_other _ _ _ _ (by first | (simp; omega) | simp), h1 p q hp hq]
      have : ¬ tile2 (p : Int) q = tile2 (a : Int) b := by
        rw [tile2_eq]
        omega
      simp [this, mem_woT]

/-- The box of the tiles that are left, the way, and what is put behind. -/
structure FwW (lo g : Nat) (P : List (Int × Int)) (A1 : Option Addr) (c1 : Nat) (ys : List Int) (A2 : Option Addr) (c2 : Nat) (bs : List Int) (w : World) : Prop where
  m : Marks g P w
  gl : g < lo
  lw : lo ≤ w.heap.size
  o1 : w.ownsRow lo 3 1 (.slice A1 ys.length c1) ys.length (cellsI ys)
  o2 : w.ownsRow lo 3 1 (.slice A2 bs.length c2) bs.length (cellsI bs)
  ap : ApG (.slice A1 ys.length c1) (.slice A2 bs.length c2)
section
variable {lo g : Nat} {P : List (Int × Int)} {A1 : Option Addr} {c1 : Nat} {ys : List Int} {A2 : Option Addr} {c2 : Nat} {bs : List Int} {w w' : World}
theorem FwW.keep (h : FwW lo g P A1 c1 ys A2 c2 bs w) (hb : Below w.heap.size w w') : FwW lo g P A1 c1 ys A2 c2 bs w' :=
  ⟨marks_keep h.m hb (Nat.lt_of_lt_of_le h.gl h.lw), h.gl, Nat.le_trans h.lw hb.size, own_keep h.o1 hb, own_keep h.o2 hb, h.ap⟩
theorem FwW.lose (h : FwW lo g P A1 c1 ys A2 c2 bs w) {a b : Nat} (ha : a ≤ 9) (hb : b ≤ 9) : FwW lo g (woT P (tile2 a b)) A1 c1 ys A2 c2 bs ((w.setCell ⟨g, a * 10 + b, none⟩ (.bool false)).setCell ⟨g, b * 10 + a, none⟩ (.bool false)).drew :=
  ⟨marks_lose ha hb h.m, h.gl, by have := h.lw; simpa [World.setCell] using this, own_box (own_box h.o1 h.gl) h.gl, own_box (own_box h.o2 h.gl) h.gl, h.ap⟩
theorem ne_lo {A : Option Addr} {n c : Nat} {xs : List Value} {e sz : Nat} (h : w.ownsRow lo e sz (.slice A n c) n xs) (hg : g < lo) : some g ≠ (Value.slice A n c).ownBlock := fun e => by
  have := (h.lt g e.symm).1
  omega
theorem FwW.push1 (h : FwW lo g P A1 c1 ys A2 c2 bs w) {A : Option Addr} {c : Nat} {p : Int} (own : w'.ownsRow lo 3 1 (.slice A (ys.length + 1) c) (ys.length + 1) (cellsI (ys ++ [p]))) (hg : w.grownBy w' (Value.slice A1 ys.length c1).ownBlock)
    (hat : (Value.slice A (ys.length + 1) c).ownBlock = (Value.slice A1 ys.length c1).ownBlock ∨ (Value.slice A (ys.length + 1) c).ownBlock = some w.heap.size) : FwW lo g P A c (ys ++ [p]) A2 c2 bs w' := by
  have e : (ys ++ [p]).length = ys.length + 1 := by simp
  refine ⟨marks_same h.m (hg.block g (Nat.lt_of_lt_of_le h.gl h.lw) (ne_lo h.o1 h.gl)), h.gl, Nat.le_trans h.lw hg.size, by rw [e]; exact own, own_blockG h.o2 fun k hk => hg.block k (h.o2.lt k hk).2 fun he => h.ap k he.symm hk, ?_⟩
  rw [e]
  intro k h1 h2
  rcases hat with h3 | h3
  · exact h.ap k (h3.symm.trans h1) h2
  · rw [h3] at h1
    injection h1 with h1
    have := (h.o2.lt k h2).2
    omega
theorem FwW.push2 (h : FwW lo g P A1 c1 ys A2 c2 bs w) {A : Option Addr} {c : Nat} {p : Int} (own : w'.ownsRow lo 3 1 (.slice A (bs.length + 1) c) (bs.length + 1) (cellsI (bs ++ [p]))) (hg : w.grownBy w' (Value.slice A2 bs.length c2).ownBlock)
    (hat : (Value.slice A (bs.length + 1) c).ownBlock = (Value.slice A2 bs.length c2).ownBlock ∨ (Value.slice A (bs.length + 1) c).ownBlock = some w.heap.size) : FwW lo g P A1 c1 ys A c (bs ++ [p]) w' := by
  have e : (bs ++ [p]).length = bs.length + 1 := by simp
  refine ⟨marks_same h.m (hg.block g (Nat.lt_of_lt_of_le h.gl h.lw) (ne_lo h.o2 h.gl)), h.gl, Nat.le_trans h.lw hg.size, own_blockG h.o1 fun k hk => hg.block k (h.o1.lt k hk).2 fun he => h.ap k hk he.symm, by rw [e]; exact own, ?_⟩
  rw [e]
  intro k h1 h2
  rcases hat with h3 | h3
  · exact h.ap k h1 (h3.symm.trans h2)
  · rw [h3] at h2
    injection h2 with h2
    have := (h.o1.lt k h1).2
    omega
theorem FwW.pop {k : Nat} {zs : List Int} {v : Int} (h : FwW lo g P (some ⟨k, 0, none⟩) c1 (zs ++ [v]) A2 c2 bs w) : FwW lo g P (some ⟨k, 0, none⟩) c1 zs A2 c2 bs w := by
  have e : (zs ++ [v]).length = zs.length + 1 := by simp
  have h1 := own_shrink (m := zs.length) h.o1 (by omega)
  rw [Nat.mul_one, show (cellsI (zs ++ [v])).take zs.length = cellsI zs by rw [cellsI_append, List.take_append_of_le_length (by simp [cellsI]), List.take_of_length_le (by simp [cellsI])]] at h1
  exact ⟨h.m, h.gl, h.lw, h1, h.o2, fun q h1 h2 => h.ap q h1 h2⟩
end

theorem wp_scope_one {Pr : Program} {c rest : Code} {Q : Exit → Act → World → Prop} {a : Act} {w : World} (l : Nat) (J : Act → World → Prop) (μ : Act → World → Nat) (hf : findLabel c l = some (.seq .skip rest))
    (pass : ∀ a w, J a w → rest.wp Pr (Exit.jump l (fun a' w' => J a' w' ∧ μ a' w' < μ a w) Q) a w)
    (first : (∀ a w, J a w → rest.wp Pr (Exit.jump l J Q) a w) → c.wp Pr (Exit.jump l J Q) a w) : (Code.scope c).wp Pr Q a w :=
  wp_scope_jumps l J μ hf (first fun a w h => wp_mono (pass a w h) (fun e a' w' hq => by
    cases e <;> first | exact hq | exact ⟨hq.1, hq.2.1⟩)) (fun a w h => wp_seq (wp_skip (pass a w h)))
theorem new_cell (W : World) (v : Value) (t : TypeId) (m : Nat) (hm : m = W.heap.size) : (W.alloc (.cells #[v] t)).cell? ⟨m, 0, none⟩ = some v := by
  subst hm
  simp
theorem below_drew1 {B : Nat} {a w : World} (h : Below B a w) : Below B a w.drew := h.trans ⟨rfl, rfl, rfl, Nat.le_refl _, fun _ _ => rfl⟩

theorem c_reverseS (base c : Nat) (A : Option Addr) (bs : List Int) (q : Int) (w : World) (hl : bs.length ≤ 57) (ho : w.ownsRow base 3 1 (.slice A (bs.length + 1) c) (bs.length + 1) (cellsI (bs ++ [q]))) :
    Calls Try.prog 42 #[.slice A (bs.length + 1) c] w fun e w' => e = .returned (.tuple #[]) ∧ w'.ownsRow base 3 1 (.slice A (bs.length + 1) c) (bs.length + 1) (cellsI (bs ++ [q]).reverse) ∧ w.grownBy w' (Value.slice A (bs.length + 1) c).ownBlock := by
  have e : (bs ++ [q]).length = bs.length + 1 := by simp
  have h := c_reverseA base c A (bs ++ [q]) w (by omega) (by omega) (by rw [e]; exact ho)
  rw [e] at h
  exact h

set_option maxRecDepth 100000 in
set_option maxHeartbeats 8000000 in
theorem c_firstChainFrom (A : Option Addr) (c : Nat) (P : List (Int × Int)) (x : Nat) (R : List Int) (w : World) (hr : RdT w A P) (hh : handB P = true) (hx : x < 10) (hR : pa [(x : Int)] P = R.reverse) (hRl : R.length ≤ 60) (hR0 : 0 < R.length) :
    Calls Try.prog 26 #[.int .i64 (x : Int), .slice A P.length c] w (RetN w R) := by
  have hl55 : P.length ≤ 55 := (of_decide_eq_true hh : handP P).1
  have hnd := hand_nd hh
  have con := c_marksOf A c P w hr hh
  obtain ⟨F, hF⟩ : ∃ F : Nat → Nat → Bool, F = fun (a b : Nat) => decide (tile2 (a : Int) (b : Int) ∈ P) := ⟨_, rfl⟩
  rw [← hF] at con
  obtain ⟨cs, hcs⟩ : ∃ cs, cs = (mkL F).toArray := ⟨_, rfl⟩
  rw [← hcs] at con
  have Con := Lib.hid con
  have HF := Lib.hid hF
  have HND := Lib.hid hnd
  have HR := Lib.hid hR
  have hsz : cs.size = 100 := by rw [hcs]; simp [mkL_len]
  have I2 := Lib.hid (show (Try.prog.info? 61).map (·.size) = some cs.size by rw [hsz]; exact Try.info_marks)
  have T2 := Lib.hid (fun (V : World) => (show (V.alloc (.cells Try.zeroCells61 61)).there V.heap.size 0 cs.size by rw [hsz]; exact there_new V _ _ _ (by rw [zero_marks]; simp)))
  have O2 := Lib.hid (show cs.all (·.oneCell') = true by rw [hcs]; exact all_oneCell_toArray (mkL_one F))
  have HCS := Lib.hid hcs
  clear con hF hcs hnd hR hsz hr hh
  go_enter Try.func26, Try.ntmps26
  go_wp2
  refine wp_scope_one 0 (fun a' w' => ∃ (g lo : Nat) (P' : List (Int × Int)) (A1 : Option Addr) (c1 : Nat) (ys : List Int) (A2 : Option Addr) (c2 : Nat) (bs : List Int) (u9 u10 u11 u12 u13 u14 u15 u16 u17 u18 u19 u20 u21 u22 u23 u24 u25 u26 u27 u28 u29 u30 u31 u32 u33 u34 u35 u36 u37 u38 u39 u40 u41 u42 u43 u44 u45 u46 u47 u48 : Value),
      a' = { tmps := List.toArray (.int .i64 (x : Int) :: .slice A P.length c :: undef :: undef :: .slice none 0 0 :: .pointer (some ⟨g, 0, none⟩) :: .func (.func 39) #[] #[.pointer (some ⟨g, 0, none⟩)] :: .slice A1 ys.length c1 :: .slice A2 bs.length c2 :: u9 :: u10 :: u11 :: u12 :: u13 :: u14 :: u15 :: u16 :: u17 :: u18 :: u19 :: u20 :: u21 :: u22 :: u23 :: u24 :: u25 :: u26 :: u27 :: u28 :: u29 :: u30 :: u31 :: u32 :: u33 :: u34 :: u35 :: u36 :: u37 :: u38 :: u39 :: u40 :: u41 :: u42 :: u43 :: u44 :: u45 :: u46 :: u47 :: u48 :: []), defers := [] } ∧
      FwW lo g P' A1 c1 ys A2 c2 bs w' ∧ w.heap.size ≤ g ∧ P'.Nodup ∧ bs ++ pa ys.reverse P' = R.reverse ∧ 0 < ys.length ∧ (∀ y ∈ ys, numB y = true) ∧ ys.length + bs.length + P'.length = P.length + 1 ∧ Below w.heap.size w w')
    (fun a' _ => 2 * P.length + 2 - (lenV (a'.tmps.getD 7 undef) + 2 * lenV (a'.tmps.getD 8 undef))) rfl ?_ ?_
  rotate_left
  · intro pass
    have PASS := Lib.hid pass
    clear pass
    go_wp2_with (first | (go_at_call 38; refine Con.out.mono ?_; rintro e w1 ⟨rfl, h1⟩) | (refine wpList_store_mid rfl 61 _ _ rfl w1.heap.size 0 cs rfl rfl (T2.out w1) I2.out O2.out ?_))
    go_step3
    rename_i hK
    refine hK _ _ ?_
    clear hK
    have hlist : cs.toList = mkL F := by rw [HCS.out]
    have hlen : cs.toList.length = 100 := by rw [hlist]; simp [mkL_len]
    obtain ⟨w2, hw2⟩ : ∃ w2, w2 = (w1.alloc (.cells Try.zeroCells61 61)).setCells w1.heap.size 0 cs.toList := ⟨_, rfl⟩
    rw [← hw2]
    have hs2 : w2.heap.size = w1.heap.size + 1 := by rw [hw2]; simp
    have hrg : w2.rangeAt w1.heap.size 0 cs.toList := by rw [hw2]; exact World.rangeAt_setCells_same _ _ _ _ (there_new w1 _ _ _ (by rw [hlen, zero_marks]; simp))
    have hb2 : Below w.heap.size w w2 := by rw [hw2]; exact below_setC h1.size _ _ _ (h1.alloc h1.size _)
    have m2 : Marks w1.heap.size P w2 := by
      refine ⟨fun a b ha hb => ?_, fun m => by rw [hw2, World.frozen?_setCells]; exact frozen_new w1 _ _ m⟩
      have h7 := hrg (a * 10 + b) (.bool (F a b)) (by
        rw [hlist, mkL_get F (by omega)]
        rw [show (a * 10 + b) / 10 = a from by omega, show (a * 10 + b) % 10 = b from by omega])
      rw [Nat.zero_add] at h7
      rw [h7, HF.out]
    have o3 : (w2.alloc (.cells #[.int .i64 (x : Int)] 3)).ownsRow w2.heap.size 3 1 (.slice (some ⟨w2.heap.size, 0, none⟩) 1 1) 1 (cellsI [(x : Int)]) := World.ownsRow_lit w2 _ 1 (Nat.le_refl _) (by unfold maxLen; omega) rfl
    rw [hs2] at o3
    have hb3 : Below w2.heap.size w2 (w2.alloc (.cells #[.int .i64 (x : Int)] 3)) := (Below.refl _ _).alloc (Nat.le_refl _) _
    refine PASS.out _ _ ?_
    exact ⟨w1.heap.size, w1.heap.size + 1, P, some ⟨w1.heap.size + 1, 0, none⟩, 1, [(x : Int)], none, 0, [], _, _, _, _, _, _, _, _, _, _, _, _, _, _, _, _, _, _, _, _, _, _, _, _, _, _, _, _, _, _, _, _, _, _, _, _, _, _, _, _, rfl, ⟨marks_keep m2 hb3 (by omega), by omega, by simp; omega, o3, World.ownsRow_nil _ _ _ _, ApG.nil'⟩, h1.size, HND.out, HR.out, by simp, by intro y hy; rw [List.mem_singleton.1 hy]; unfold numB; simp; omega, by simp; omega, hb2.trans (hb3.mono (by have := h1.size; omega))⟩
  · rintro a' w' ⟨g, lo, P', A1, c1, ys, A2, c2, bs, u9, u10, u11, u12, u13, u14, u15, u16, u17, u18, u19, u20, u21, u22, u23, u24, u25, u26, u27, u28, u29, u30, u31, u32, u33, u34, u35, u36, u37, u38, u39, u40, u41, u42, u43, u44, u45, u46, u47, u48, rfl, hW, hg, hnd, hpa, hy0, hyn, hln, hb⟩
    clear T2 I2 O2 HCS HF Con HR HND
    obtain ⟨n, hn⟩ : ∃ n, ys.length = n + 1 := ⟨ys.length - 1, by omega⟩
    obtain ⟨zs, v, rfl⟩ : ∃ zs v, ys = zs ++ [v] := ⟨ys.dropLast, ys.getLast (by rintro rfl; simp at hy0), (List.dropLast_concat_getLast _).symm⟩
    have hzn : zs.length = n := by rw [List.length_append, List.length_singleton] at hn; omega
    obtain ⟨q, hq9, rfl⟩ := numB_nat (hyn v (by simp))
    obtain ⟨k, rfl⟩ : ∃ k, A1 = some ⟨k, 0, none⟩ := by
      obtain ⟨_, ⟨hv, hz⟩ | ⟨k, cap, cur, hv, _⟩⟩ := hW.o1
      · omega
      · injection hv with h1 h2 h3
        exact ⟨k, h1⟩
    have g1 : w'.cell? ⟨k, n, none⟩ = some (.int .i64 (q : Int)) := by
      have h7 := hW.o1.cellAt n (by omega)
      rw [h7, ← hzn]
      simp [cellsI]
    have hbl : bs.length ≤ 57 := by omega
    have hyl : n ≤ 57 := by omega
    have con := fun (W : World) (hb : Below w'.heap.size w' W) => c_leastFit g q P' W (hW.keep hb).m (by omega)
    rw [List.reverse_append, List.reverse_singleton, List.singleton_append] at hpa
    cases hlf : leastF P' (q : Int) with
    | some y =>
      obtain ⟨hy10, htm, _⟩ := leastF_some hlf
      have hwl := woT_len hnd htm
      rw [pa_some hnd hlf] at hpa
      rw [leastI_some hlf] at con
      have Con := Lib.hid con
      have HW := Lib.hid hW
      have HPA := Lib.hid hpa
      have HYN := Lib.hid hyn
      have HB := Lib.hid hb
      have HN := Lib.hid hn
      have HND := Lib.hid hnd
      have conS := fun (W : World) (hb : Below w'.heap.size w' W) => c_marksSet g q y (by omega) (by omega) false _ _ W ((hW.keep hb).m.1 q y (by omega) (by omega)) ((hW.keep hb).m.1 y q (by omega) (by omega)) (hW.keep hb).m.2
      have ConS := Lib.hid conS
      have HLN := Lib.hid hln
      have HWL := Lib.hid hwl
      rw [hn]
      clear con conS hlf htm hwl hpa hyn hW hb hnd hn hln hy0 hzn
      go_wp2_with (first | (go_at_call 39; refine (Con.out _ (Below.refl _ _)).mono ?_; rintro e w1 ⟨rfl, rfl⟩) | (go_at_call 41; refine (ConS.out _ (Below.refl _ _)).mono ?_; rintro e w2 ⟨rfl, rfl⟩; have H2 := Lib.hid (HW.out.lose (a := q) (b := y) (by omega) (by omega)); have H3 := Lib.hid (H2.out.keep ((Below.refl _ _).alloc (Nat.le_refl _) (.cells #[.int .i64 (y : Int)] 3))); have O3 := Lib.hid H3.out.o1; have HS3 := Lib.hid H3.out.lw) | (at_builtin; refine wp_append_int_at rfl _ _ rfl lo _ (zs ++ [(q : Int)]) rfl (by have := O3.out; rw [HN.out] at this ⊢; exact this) (y : Int) _ rfl (new_cell _ _ _ _ (by simp [World.setCell])) (by rw [HN.out]; omega) HS3.out ?_; intro A6 c6 w6 hown6 hg6 hat6))
      go_step3
      have e7 : (zs ++ [(q : Int)] ++ [(y : Int)]).length = zs.length + 1 + 1 := by simp
      rw [← e7]
      have hW6 := H3.out.push1 hown6 hg6 hat6
      refine ⟨rfl, ⟨g, lo, woT P' (tile2 (q : Int) (y : Int)), A6, c6, zs ++ [(q : Int)] ++ [(y : Int)], A2, c2, bs, _, _, _, _, _, _, _, _, _, _, _, _, _, _, _, _, _, _, _, _, _, _, _, _, _, _, _, _, _, _, _, _, _, _, _, _, _, _, _, _, rfl, hW6, hg, HND.out.filter _, ?_, ?_, ?_, ?_, ?_⟩, ?_⟩
      · rw [List.reverse_append, List.reverse_append, List.reverse_singleton, List.reverse_singleton]
        exact HPA.out
      · rw [e7]; omega
      · intro z hz
        rcases List.mem_append.1 hz with hz | hz
        · exact HYN.out z hz
        · rw [List.mem_singleton.1 hz]; unfold numB; simp; omega
      · have h7 := HLN.out
        have h8 := HWL.out
        rw [List.length_append, List.length_singleton] at h7
        rw [e7]
        omega
      · have hs1 : w.heap.size ≤ w1.heap.size := HB.out.size
        have hgl := H3.out.gl
        exact ((below_drew1 ((HB.out.setCell (p := ⟨g, q * 10 + y, none⟩) hg (.bool false)).setCell (p := ⟨g, y * 10 + q, none⟩) hg (.bool false))).alloc (by simpa [World.setCell] using hs1) (.cells #[.int .i64 (y : Int)] 3)).trans (below_of_grown hg6 (by have := H3.out.lw; exact Nat.le_trans (by omega) this) (fun z hz => Nat.le_trans (by omega) (O3.out.lt z hz).1))
      · have h7 := HLN.out
        have h8 := HWL.out
        have h9 := HN.out
        rw [List.length_append, List.length_singleton] at h7 h9
        simp [lenV]
        omega
    | none =>
      rw [pa_none hlf] at hpa
      rw [leastI_none hlf] at con
      have Con := Lib.hid con
      have HW := Lib.hid hW
      have HYN := Lib.hid hyn
      have HB := Lib.hid hb
      have HN := Lib.hid hn
      have HND := Lib.hid hnd
      have HLN := Lib.hid hln
      have HZN := Lib.hid hzn
      have hcap := own_cap hW.o1
      have j1 : n ≤ c1 := by omega
      have j2 : (n : Int) ≤ (c1 : Int) := by omega
      have HPA := Lib.hid (show (bs ++ [(q : Int)]) ++ pa zs.reverse P' = R.reverse by rw [List.append_assoc]; exact hpa)
      rw [hn]
      clear con hlf hpa hyn hW hb hnd hn hln hy0 hzn hcap
      by_cases hn0 : n = 0
      · subst hn0
        go_wp2_with (first | (go_at_call 39; refine (Con.out _ (Below.refl _ _)).mono ?_; rintro e w1 ⟨rfl, rfl⟩; have H3 := Lib.hid (HW.out.pop.keep ((Below.refl _ _).alloc (Nat.le_refl _) (.cells #[.int .i64 (q : Int)] 3))); have O3 := Lib.hid H3.out.o2; have HS3 := Lib.hid H3.out.lw) | (at_builtin; refine wp_append_int_at rfl _ _ rfl lo _ bs rfl O3.out (q : Int) _ rfl (new_cell _ _ _ _ rfl) (by omega) HS3.out ?_; intro A6 c6 w6 hown6 hg6 hat6; have ConR := Lib.hid (c_reverseS lo c6 A6 bs (q : Int) w6 hbl hown6)) | (go_at_call 42; refine ConR.out.mono ?_; rintro e w7 ⟨rfl, o7, hg7⟩))
        simp only [Exit.jump]
        go_ret
        have hz0 : zs = [] := List.eq_nil_of_length_eq_zero HZN.out
        have hR7 : (bs ++ [(q : Int)]).reverse = R := by
          have h7 := HPA.out
          rw [hz0] at h7
          have h8 : bs ++ [(q : Int)] = R.reverse := (List.append_nil _).symm.trans h7
          rw [h8, List.reverse_reverse]
        have hRl7 : R.length = bs.length + 1 := by rw [← hR7]; simp
        have hgl := H3.out.gl
        have hlo : w.heap.size ≤ lo := by omega
        rw [hR7] at o7
        have b6 : Below w.heap.size w w6 := (HB.out.alloc HB.out.size (.cells #[.int .i64 (q : Int)] 3)).trans (below_of_grown hg6 (Nat.le_trans hlo HS3.out) (fun z hz => Nat.le_trans hlo (O3.out.lt z hz).1))
        exact ⟨A6, c6, by rw [hRl7]; rfl, by rw [hRl7]; exact own_base o7 hlo, b6.trans (below_of_grown hg7 b6.size (fun z hz => Nat.le_trans hlo (hown6.lt z hz).1))⟩
      · have j3 : 0 < n := by omega
        have j4 : (0 : Int) < (n : Int) := by omega
        go_wp2_with (first | (go_at_call 39; refine (Con.out _ (Below.refl _ _)).mono ?_; rintro e w1 ⟨rfl, rfl⟩; have H3 := Lib.hid (HW.out.pop.keep ((Below.refl _ _).alloc (Nat.le_refl _) (.cells #[.int .i64 (q : Int)] 3))); have O3 := Lib.hid H3.out.o2; have HS3 := Lib.hid H3.out.lw) | (at_builtin; refine wp_append_int_at rfl _ _ rfl lo _ bs rfl O3.out (q : Int) _ rfl (new_cell _ _ _ _ rfl) (by omega) HS3.out ?_; intro A6 c6 w6 hown6 hg6 hat6))
        go_step3
        have e7 : (bs ++ [(q : Int)]).length = bs.length + 1 := by simp
        have e8 : zs.length = n := HZN.out
        rw [← e7, ← e8]
        have hW6 := H3.out.push2 hown6 hg6 hat6
        have hgl := H3.out.gl
        have hlo : w.heap.size ≤ lo := by omega
        have h9 := HLN.out
        rw [List.length_append, List.length_singleton] at h9
        refine ⟨rfl, ⟨g, lo, P', some ⟨k, 0, none⟩, c1, zs, A6, c6, bs ++ [(q : Int)], _, _, _, _, _, _, _, _, _, _, _, _, _, _, _, _, _, _, _, _, _, _, _, _, _, _, _, _, _, _, _, _, _, _, _, _, _, _, _, _, rfl, hW6, hg, HND.out, HPA.out, by omega, fun z hz => HYN.out z (List.mem_append_left _ hz), ?_, ?_⟩, ?_⟩
        · rw [e7]; omega
        · exact (HB.out.alloc HB.out.size (.cells #[.int .i64 (q : Int)] 3)).trans (below_of_grown hg6 (Nat.le_trans hlo HS3.out) (fun z hz => Nat.le_trans hlo (O3.out.lt z hz).1))
        · simp [lenV]
          omega

end Go.Proofs.Ytcofambcicnonaa

namespace Go.Proofs.Ytcofambcicnonaa
open Go.RowKit
set_option linter.unusedVariables false

theorem fwL_some {P : List (Int × Int)} {x : Nat} (h : startS P = some x) : fwL P = wk P.length P (x : Int) := by
  unfold fwL
  rw [h]
theorem fwL_none {P : List (Int × Int)} (h : startS P = none) : fwL P = [] := by
  unfold fwL
  rw [h]
theorem fwL_len (P : List (Int × Int)) : (fwL P).length ≤ P.length + 1 := by
  unfold fwL
  cases startS P with
  | none => simp
  | some x => exact wk_len _ _ _
theorem retI_nil (w w' : World) (h : Below w.heap.size w w') (ok : Bool) : RetI w [] ok (.returned (.tuple #[.slice none 0 0, .bool ok])) w' :=
  ⟨none, 0, rfl, World.ownsRow_nil _ _ _ _, h⟩

set_option maxRecDepth 100000 in
set_option maxHeartbeats 2000000 in
theorem c_whFirst (A : Option Addr) (c : Nat) (P : List (Int × Int)) (w : World) (hr : RdT w A P) (hh : handB P = true) :
    Calls Try.prog 23 #[.slice A P.length c] w (RetI w (fwL P) (canV P false)) := by
  have conF := fun (W : World) (q : Nat) (hq : q < 10) (hb : Below w.heap.size w W) => c_whFrom A c P (q : Int) W (hr.below hb) hh (by unfold numB; simp; omega)
  have hcan := fwB_can hh
  rw [← hcan]
  cases hs : startS P with
  | none =>
    have hz := startS_none.1 hs
    rw [fwL_none hs]
    have conF' := fun (W : World) (q : Nat) (hq : q < 10) (hb : Below w.heap.size w W) => (hz q hq) ▸ conF W q hq hb
    have ConF := Lib.hid conF'
    clear conF conF' hcan hr hh hs hz
    show Calls _ _ _ _ (RetI w [] false)
    go_enter Try.func23, Try.ntmps23
    go_wp2
    go_loopw [4] (fun i wr => ∃ z : Nat, z ≤ 10 ∧ i = .int .i64 z ∧ Below w.heap.size w wr) (fun i _ => 10 - (intOf i).toNat)
    case atStart => exact ⟨0, Nat.zero_le _, rfl, Below.refl _ _⟩
    case round =>
      obtain ⟨z, hz, rfl, hb⟩ := hrel
      have HB := Lib.hid hb
      by_cases hlt : z < 10
      · have hle : (z : Int) ≤ 9 := by omega
        have con := Lib.hid (ConF.out wr z hlt hb)
        have hsz := hb.size
        clear hb
        go_wp2_with (go_at_call 35; refine con.out.mono ?_; rintro e w1 ⟨rfl, h1⟩)
        go_roundw
        case rel => exact ⟨z + 1, by omega, by go_num, HB.out.trans (h1.mono hsz)⟩
        case measure => simp [intOf]; omega
      · have : z = 10 := by omega
        subst this
        clear hb
        go_wp2
        go_ret2
        exact retI_nil w wr HB.out false
  | some x =>
    obtain ⟨hx, hfx, hlt⟩ := startS_some.1 hs
    rw [fwL_some hs]
    have conW := fun (W : World) (hb : Below w.heap.size w W) => c_whWalk A c P x W (hr.below hb) hh hx hfx
    have ConW := Lib.hid conW
    have conF' := fun (W : World) (q : Nat) (hq : q < x) (hb : Below w.heap.size w W) => (hlt q hq) ▸ conF W q (by omega) hb
    have conX := fun (W : World) (hb : Below w.heap.size w W) => hfx ▸ conF W x hx hb
    have ConF := Lib.hid conF'
    have ConX := Lib.hid conX
    obtain ⟨R, hR⟩ : ∃ R, R = wk P.length P (x : Int) := ⟨_, rfl⟩
    rw [← hR] at ConW ⊢
    clear conF conF' conX conW hcan hr hh hs hlt hfx hR
    show Calls _ _ _ _ (RetI w R true)
    go_enter Try.func23, Try.ntmps23
    go_wp2
    go_loopw [4] (fun i wr => ∃ z : Nat, z ≤ x ∧ i = .int .i64 z ∧ Below w.heap.size w wr) (fun i _ => 10 - (intOf i).toNat)
    case atStart => exact ⟨0, Nat.zero_le _, rfl, Below.refl _ _⟩
    case round =>
      obtain ⟨z, hz, rfl, hb⟩ := hrel
      have HB := Lib.hid hb
      have hsz := hb.size
      have hle : (z : Int) ≤ 9 := by omega
      by_cases hlt : z < x
      · have con := Lib.hid (ConF.out wr z hlt hb)
        clear hb
        go_wp2_with (go_at_call 35; refine con.out.mono ?_; rintro e w1 ⟨rfl, h1⟩)
        go_roundw
        case rel => exact ⟨z + 1, by omega, by go_num, HB.out.trans (h1.mono hsz)⟩
        case measure => simp [intOf]; omega
      · have : z = x := by omega
        subst this
        have con := Lib.hid (ConX.out wr hb)
        clear hb
        go_wp2_with (first | (go_at_call 35; refine con.out.mono ?_; rintro e w1 ⟨rfl, h1⟩; have B1 := Lib.hid (HB.out.trans (h1.mono hsz))) | (go_at_call 36; refine (ConW.out _ B1.out).mono ?_; rintro e w2 ⟨A2, c2, rfl, o2, h2⟩))
        go_ret2
        exact ⟨A2, c2, rfl, own_base o2 B1.out.size, B1.out.trans (h2.mono B1.out.size)⟩

/-- What FirstWhole answers (and FirstRing). -/
def fwR (P : List (Int × Int)) (ring : Bool) : List Int := if canHV P ring then fwL P else []
theorem fwR_len (P : List (Int × Int)) (ring : Bool) : (fwR P ring).length ≤ 56 := by
  unfold fwR
  split
  · rename_i h
    have hh : handB P = true := by unfold canHV at h; rw [Bool.and_eq_true] at h; exact h.1
    have := fwL_len P
    have hl : P.length ≤ 55 := (of_decide_eq_true hh : handP P).1
    omega
  · simp
set_option maxRecDepth 100000 in
set_option maxHeartbeats 1000000 in
theorem c_specFWhole (A : Option Addr) (c : Nat) (P : List (Int × Int)) (w : World) (hr : RdT w A P) (hl : P.length ≤ 1048576) (hcap : P.length ≤ c) :
    Calls Try.prog 7 #[.slice A P.length c] w (RetI w (fwR P false) (canHV P false)) := by
  have conH := Lib.hid (c_tiHand A c P w hr (by omega) hcap)
  unfold fwR
  by_cases h : handB P = true
  · have e1 : canHV P false = canV P false := by simp [canHV, h]
    have conP := fun W (hb : Below w.heap.size w W) => c_whFirst A c P W (hr.below hb) h
    have e2 : (if canV P false = true then fwL P else []) = fwL P := by
      split
      · rfl
      · rename_i hc
        rw [← fwB_can h] at hc
        cases hs : startS P with
        | none => exact (fwL_none hs).symm
        | some x => rw [hs] at hc; simp at hc
    rw [e1, e2]
    rw [h] at conH
    obtain ⟨R, hR⟩ : ∃ R, R = fwL P := ⟨_, rfl⟩
    obtain ⟨b, hb⟩ : ∃ b, b = canV P false := ⟨_, rfl⟩
    rw [← hR, ← hb]
    simp only [← hR, ← hb] at conP
    have ConP := Lib.hid conP
    clear conP hr e1 e2 h hR hb
    go_enter Try.func7, Try.ntmps7
    go_wp2_with (first | (go_at_call 22; refine conH.out.mono ?_; rintro e w1 ⟨rfl, hb1⟩) | (go_at_call 23; refine (ConP.out _ hb1).mono ?_; rintro e w2 ⟨A2, c2, rfl, o2, hb2⟩))
    go_ret2
    exact ⟨A2, c2, rfl, own_base o2 hb1.size, bstep hb1 hb2⟩
  · have h' : handB P = false := by simpa using h
    have e1 : canHV P false = false := by simp [canHV, h']
    rw [e1]
    rw [h'] at conH
    clear h hr e1
    show Calls _ _ _ _ (RetI w [] false)
    go_enter Try.func7, Try.ntmps7
    go_wp2_with (go_at_call 22; refine conH.out.mono ?_; rintro e w1 ⟨rfl, hb1⟩)
    go_ret2
    exact retI_nil w w1 hb1 false

set_option maxRecDepth 100000 in
set_option maxHeartbeats 1000000 in
theorem c_implFWhole (A : Option Addr) (c : Nat) (P : List (Int × Int)) (w : World) (hr : RdT w A P) (hl : P.length ≤ 1048576) :
    Calls Try.prog 9 #[.slice A P.length c] w (RetI w (fwR P false) (canHV P false)) := by
  have con := c_implCanChain A c P w hr hl
  unfold fwR
  by_cases h : canHV P false = true
  · have hh : handB P = true := by unfold canHV at h; rw [Bool.and_eq_true] at h; exact h.1
    have hc : canV P false = true := by unfold canHV at h; rw [Bool.and_eq_true] at h; exact h.2
    obtain ⟨x, hs, hi⟩ := start_same hh hc
    obtain ⟨hx, hfx, _⟩ := startS_some.1 hs
    have hm := (first_main P.length P x (Nat.le_refl _) hh hx hfx).2
    have hl55 : P.length ≤ 55 := (of_decide_eq_true hh : handP P).1
    have hwl := wk_len P.length P (x : Int)
    have hpa : pa [(x : Int)] P = (wk P.length P (x : Int)).reverse := by
      rw [pa, hm]
      simp [pa]
    have conS := fun W (hb : Below w.heap.size w W) => c_leastStart A c P W (hr.below hb) hh
    have conC := fun W (hb : Below w.heap.size w W) => c_firstChainFrom A c P x (wk P.length P (x : Int)) W (hr.below hb) hh hx hpa (by omega) (by rw [wk_cons]; simp)
    rw [hi] at conS
    rw [h] at con
    rw [if_pos h, h, fwL_some hs]
    obtain ⟨R, hR⟩ : ∃ R, R = wk P.length P (x : Int) := ⟨_, rfl⟩
    rw [← hR]
    rw [← hR] at conC
    have Con := Lib.hid con
    have ConS := Lib.hid conS
    have ConC := Lib.hid conC
    clear con conS conC hpa hm hi hs hfx hh hc h hr hwl hR
    go_enter Try.func9, Try.ntmps9
    go_wp2_with (first | (go_at_call 25; refine Con.out.mono ?_; rintro e w1 ⟨rfl, hb1⟩) | (go_at_call 27; refine (ConS.out _ hb1).mono ?_; rintro e w2 ⟨rfl, h2⟩; have hb2 := Lib.hid (bstep hb1 h2)) | (go_at_call 26; refine (ConC.out _ hb2.out).mono ?_; rintro e w3 ⟨A3, c3, rfl, o3, hb3⟩))
    go_ret2
    exact ⟨A3, c3, rfl, own_base o3 hb2.out.size, bstep hb2.out hb3⟩
  · have h' : canHV P false = false := by simpa using h
    rw [h'] at con
    rw [h']
    have Con := Lib.hid con
    clear h hr con
    show Calls _ _ _ _ (RetI w [] false)
    go_enter Try.func9, Try.ntmps9
    go_wp2_with (go_at_call 25; refine Con.out.mono ?_; rintro e w1 ⟨rfl, hb1⟩)
    go_ret2
    exact retI_nil w w1 hb1 false

theorem can_of_ring {P : List (Int × Int)} (h : canHV P true = true) : canHV P false = true := by
  unfold canHV canV canB at *
  simp only [Bool.and_eq_true, decide_eq_true_eq, if_true, Bool.false_eq_true, if_false] at *
  exact ⟨h.1, h.2.1, by omega⟩
set_option maxRecDepth 100000 in
set_option maxHeartbeats 1000000 in
theorem c_specFRing (A : Option Addr) (c : Nat) (P : List (Int × Int)) (w : World) (hr : RdT w A P) (hl : P.length ≤ 1048576) (hcap : P.length ≤ c) :
    Calls Try.prog 15 #[.slice A P.length c] w (RetI w (fwR P true) (canHV P true)) := by
  have conH := Lib.hid (c_tiHand A c P w hr (by omega) hcap)
  unfold fwR
  by_cases h : handB P = true
  · have conC := fun W (hb : Below w.heap.size w W) => c_whCan A c P true W (hr.below hb) hl (handB_good h).2
    by_cases h2 : canV P true = true
    · have e1 : canHV P true = true := by simp [canHV, h, h2]
      have e3 : canV P false = true := by have := can_of_ring e1; unfold canHV at this; rw [Bool.and_eq_true] at this; exact this.2
      have conP := fun W (hb : Below w.heap.size w W) => c_whFirst A c P W (hr.below hb) h
      rw [if_pos e1, e1]
      rw [h] at conH
      rw [h2] at conC
      rw [e3] at conP
      obtain ⟨R, hR⟩ : ∃ R, R = fwL P := ⟨_, rfl⟩
      rw [← hR]
      simp only [← hR] at conP
      have ConP := Lib.hid conP
      have ConC := Lib.hid conC
      clear conP conC hr e1 e3 h h2 hR
      go_enter Try.func15, Try.ntmps15
      go_wp2_with (first | (go_at_call 22; refine conH.out.mono ?_; rintro e w1 ⟨rfl, hb1⟩) | (go_at_call 29; refine (ConC.out _ hb1).mono ?_; rintro e w2 ⟨rfl, h2⟩; have hb2 := Lib.hid (bstep hb1 h2)) | (go_at_call 23; refine (ConP.out _ hb2.out).mono ?_; rintro e w3 ⟨A3, c3, rfl, o3, hb3⟩))
      go_ret2
      exact ⟨A3, c3, rfl, own_base o3 hb2.out.size, bstep hb2.out hb3⟩
    · have h2' : canV P true = false := by simpa using h2
      have e1 : canHV P true = false := by simp [canHV, h2']
      rw [h] at conH
      rw [h2'] at conC
      rw [e1]
      have ConC := Lib.hid conC
      clear conC hr e1 h h2
      show Calls _ _ _ _ (RetI w [] false)
      go_enter Try.func15, Try.ntmps15
      go_wp2_with (first | (go_at_call 22; refine conH.out.mono ?_; rintro e w1 ⟨rfl, hb1⟩) | (go_at_call 29; refine (ConC.out _ hb1).mono ?_; rintro e w2 ⟨rfl, h2⟩; have hb2 := Lib.hid (bstep hb1 h2)))
      go_ret2
      exact retI_nil w w2 hb2.out false
  · have h' : handB P = false := by simpa using h
    have e1 : canHV P true = false := by simp [canHV, h']
    rw [e1]
    rw [h'] at conH
    clear h hr e1
    show Calls _ _ _ _ (RetI w [] false)
    go_enter Try.func15, Try.ntmps15
    go_wp2_with (go_at_call 22; refine conH.out.mono ?_; rintro e w1 ⟨rfl, hb1⟩)
    go_ret2
    exact retI_nil w w1 hb1 false

set_option maxRecDepth 100000 in
set_option maxHeartbeats 1000000 in
theorem c_implFRing (A : Option Addr) (c : Nat) (P : List (Int × Int)) (w : World) (hr : RdT w A P) (hl : P.length ≤ 1048576) :
    Calls Try.prog 16 #[.slice A P.length c] w (RetI w (fwR P true) (canHV P true)) := by
  have con := c_implCanRing A c P w hr hl
  have conW := fun W (hb : Below w.heap.size w W) => c_implFWhole A c P W (hr.below hb) hl
  by_cases h : canHV P true = true
  · have e1 := can_of_ring h
    have e2 : fwR P true = fwR P false := by unfold fwR; rw [if_pos h, if_pos e1]
    rw [e1] at conW
    rw [h] at con
    rw [e2, h]
    have Con := Lib.hid con
    have ConW := Lib.hid conW
    clear con conW h e1 e2 hr
    go_enter Try.func16, Try.ntmps16
    go_wp2_with (first | (go_at_call 30; refine Con.out.mono ?_; rintro e w1 ⟨rfl, hb1⟩) | (go_at_call 9; refine (ConW.out _ hb1).mono ?_; rintro e w3 ⟨A3, c3, rfl, o3, hb3⟩))
    go_ret2
    exact ⟨A3, c3, rfl, own_base o3 hb1.size, bstep hb1 hb3⟩
  · have h' : canHV P true = false := by simpa using h
    have e2 : fwR P true = [] := by unfold fwR; rw [h']; rfl
    rw [h'] at con
    rw [e2, h']
    have Con := Lib.hid con
    clear h hr con conW e2
    go_enter Try.func16, Try.ntmps16
    go_wp2_with (go_at_call 30; refine Con.out.mono ?_; rintro e w1 ⟨rfl, hb1⟩)
    go_ret2
    exact retI_nil w w1 hb1 false

end Go.Proofs.Ytcofambcicnonaa

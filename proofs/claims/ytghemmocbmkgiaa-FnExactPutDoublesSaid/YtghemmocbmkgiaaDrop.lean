/- Chains without their doubles. -/
import Derived.Test.YtghemmocbmkgiaaTurn
import Derived.Test.YtghemmocbmkgiaaConc
import Derived.Lib.SlicesCompact
import Derived.Shelf.Slices.Cells
namespace Go.Proofs.Ytghemmocbmkgiaa
open Go.RowKit
set_option linter.unusedVariables false

def dropTo (xs : List Int) (k : Nat) : List Int := Lib.compactUpTo xs.toArray k
def dropL (xs : List Int) : List Int := Lib.compact xs
theorem dropTo_all (xs : List Int) : dropTo xs xs.length = dropL xs := rfl
theorem dropTo_zero (xs : List Int) : dropTo xs 0 = [] := by simp [dropTo, Lib.compactUpTo]
theorem arr_get {xs : List Int} {k : Nat} (h : k < xs.length) : xs.toArray[k]! = xs[k] := by simp [h]
theorem dropTo_first {xs : List Int} (h : 0 < xs.length) : dropTo xs 1 = dropTo xs 0 ++ [xs[0]] := by
  unfold dropTo
  rw [show (1 : Nat) = 0 + 1 from rfl, Lib.compactUpTo_succ, if_pos (Lib.keeps_lt_one _ 0 (by omega)), arr_get h]
theorem dropTo_keep {xs : List Int} {k : Nat} (h : k + 1 < xs.length) (hne : xs[k]'(by omega) ≠ xs[k + 1]) : dropTo xs (k + 2) = dropTo xs (k + 1) ++ [xs[k + 1]] := by
  unfold dropTo
  rw [show k + 2 = (k + 1) + 1 from rfl, Lib.compactUpTo_succ, if_pos (Lib.keeps_pos (by rw [arr_get h, Nat.add_sub_cancel, arr_get (by omega)]; exact fun e => hne e.symm)), arr_get h]
theorem dropTo_skip {xs : List Int} {k : Nat} (h : k + 1 < xs.length) (he : xs[k]'(by omega) = xs[k + 1]) : dropTo xs (k + 2) = dropTo xs (k + 1) := by
  unfold dropTo
  rw [show k + 2 = (k + 1) + 1 from rfl, Lib.compactUpTo_succ, if_neg (by rw [Lib.keeps_neg (by omega) (by rw [arr_get h, Nat.add_sub_cancel, arr_get (by omega), he])]; simp), List.append_nil]
theorem dropTo_len (xs : List Int) (k : Nat) : (dropTo xs k).length ≤ k := by
  unfold dropTo Lib.compactUpTo
  rw [List.length_map]
  exact Nat.le_trans (List.length_filter_le _ _) (by simp)
def dropHL (xs : List Int) : List Int := if chainB xs then dropL xs else []
theorem dropHL_len (xs : List Int) : (dropHL xs).length ≤ 110 := by
  unfold dropHL
  split
  · rename_i h
    have := chain_len h
    have := dropTo_len xs xs.length
    rw [dropTo_all] at this
    omega
  · simp

set_option maxRecDepth 100000 in
set_option maxHeartbeats 2000000 in
theorem c_specDrop (A : Option Addr) (c : Nat) (xs : List Int) (w : World) (hr : RdI w A xs) (hl : xs.length ≤ 1048576) :
    Calls Try.prog 43 #[.slice A xs.length c] w (RetI w (dropHL xs) (chainB xs)) := by
  have con := Lib.hid (c_haGood A c xs w hr (by omega))
  cases hc : chainB xs
  · have e1 : dropHL xs = [] := by simp [dropHL, hc]
    rw [e1]
    rw [hc] at con
    clear e1 hc hr
    go_enter Try.func43, Try.ntmps43
    go_wp2_with (go_at_call 58; refine con.out.mono ?_; rintro e w1 ⟨rfl, hb1⟩)
    go_ret2
    exact ⟨none, 0, rfl, World.ownsRow_nil _ _ _ _, hb1⟩
  · have e1 : dropHL xs = dropL xs := by simp [dropHL, hc]
    rw [e1, ← dropTo_all]
    rw [hc] at con
    clear e1 hc
    go_enter Try.func43, Try.ntmps43
    go_wp2_with (go_at_call 58; refine con.out.mono ?_; rintro e w1 ⟨rfl, hb1⟩)
    go_loopw [4, 12] (fun v i wr => ∃ (k : Nat) (A' : Option Addr) (c' : Nat), k ≤ xs.length ∧ i = .int .i64 k ∧ v = .slice A' (dropTo xs k).length c' ∧ wr.ownsRow w1.heap.size 3 1 (.slice A' (dropTo xs k).length c') (dropTo xs k).length (cellsI (dropTo xs k)) ∧ Below w1.heap.size w1 wr) (fun _ i _ => xs.length - (intOf i).toNat)
    case atStart => exact ⟨0, none, 0, Nat.zero_le _, rfl, by rw [dropTo_zero]; rfl, by rw [dropTo_zero]; exact World.ownsRow_nil _ _ _ _, Below.refl _ _⟩
    case round =>
      clear con
      obtain ⟨k, A', c', hk, rfl, rfl, hown, hb⟩ := hrel
      have hpl := dropTo_len xs k
      have hbw := bstep hb1 hb
      by_cases hlt : k < xs.length
      · obtain ⟨bk, off, rfl, hbk, hc⟩ := hr.at_ hlt
        have g1 := (hbw.cell (p := ⟨bk, _, none⟩) hbk).trans (hc k hlt)
        have Hb := Lib.hid hb
        have Ho := Lib.hid hown
        have hsz := hb.size
        cases k with
        | zero =>
          have hst := Lib.hid (dropTo_first (xs := xs) (by omega))
          rw [Nat.add_zero] at g1
          generalize xs[0] = p at g1 hst
          have Ho2 := Lib.hid (Ho.out.alloc (.cells #[.int .i64 p] 3))
          clear hc hr hb hown hbw
          go_wp2_with (at_builtin; refine wp_append_int rfl _ _ rfl w1.heap.size _ _ rfl Ho2.out p wr.heap.size rfl (by simp) (by omega) (by simp; omega) ?_; intro A2 c2 w3 hown3 hg3)
          go_roundw
          case rel =>
            refine ⟨1, A2, c2, by omega, by go_num, by rw [hst.out, List.length_append]; rfl, ?_, ?_⟩
            · rw [hst.out, List.length_append]; exact hown3
            · have hb0 := Hb.out
              exact Below.grown (by go_grown) hg3 (by simp; omega) (fun g hg => (Ho2.out.lt g hg).1)
          case measure => simp [intOf]; omega
        | succ k =>
          have g0 := (hbw.cell (p := ⟨bk, _, none⟩) hbk).trans (hc k (by omega))
          have hk0 : ((k : Int) + 1 == 0) = false := by simp; omega
          have iw : IntKind.i64.wrap ((k : Int) + 1 - 1) = (k : Int) := by rw [IntWalk.i64_in _ (by omega)]; omega
          have iw' : IntKind.i64.wrap (k : Int) = (k : Int) := IntWalk.i64_in _ (by omega)
          by_cases he : xs[k]'(by omega) = xs[k + 1]
          · have hst := Lib.hid (dropTo_skip hlt he)
            have hne : (xs[k]'(by omega) != xs[k + 1]) = false := by simp [he]
            generalize xs[k]'(by omega) = q at g0 hne he
            generalize xs[k + 1] = p at g1 hst hne he
            clear hc hr hb hown hbw he
            go_wp2
            go_roundw
            case rel => exact ⟨k + 2, A', c', by omega, by go_num, by rw [hst.out], by rw [hst.out]; exact Ho.out, Hb.out⟩
            case measure => simp [intOf]; omega
          · have hst := Lib.hid (dropTo_keep hlt he)
            have hne : (xs[k]'(by omega) != xs[k + 1]) = true := by simp [he]
            generalize xs[k]'(by omega) = q at g0 hne he
            generalize xs[k + 1] = p at g1 hst hne he
            have Ho2 := Lib.hid (Ho.out.alloc (.cells #[.int .i64 p] 3))
            clear hc hr hb hown hbw he
            go_wp2_with (at_builtin; refine wp_append_int rfl _ _ rfl w1.heap.size _ _ rfl Ho2.out p wr.heap.size rfl (by simp) (by omega) (by simp; omega) ?_; intro A2 c2 w3 hown3 hg3)
            go_roundw
            case rel =>
              refine ⟨k + 2, A2, c2, by omega, by go_num, by rw [hst.out, List.length_append]; rfl, ?_, ?_⟩
              · rw [hst.out, List.length_append]; exact hown3
              · have hb0 := Hb.out
                exact Below.grown (by go_grown) hg3 (by simp; omega) (fun g hg => (Ho2.out.lt g hg).1)
            case measure => simp [intOf]; omega
      · obtain rfl : k = xs.length := by omega
        go_wp2
        go_ret2
        exact ⟨A', c', rfl, own_base hown hb1.size, hbw⟩

theorem own_setCells {base e g n c : Nat} : ∀ (vs : List Value) (o : Nat) (w : World) (cs : List Value), w.ownsRow base e 1 (.slice (some ⟨g, 0, none⟩) n c) n cs → o + vs.length ≤ n →
    (w.setCells g o vs).ownsRow base e 1 (.slice (some ⟨g, 0, none⟩) n c) n (cs.take o ++ vs ++ cs.drop (o + vs.length))
  | [], o, w, cs, h, _ => by simpa [World.setCells] using h
  | v :: r, o, w, cs, h, ho => by
    have hl : cs.length = n := by have := h.1; omega
    have := own_setCells r (o + 1) _ _ (h.stored o v).1 (by simp at ho; omega)
    simp only [World.setCells]
    have e1 : (cs.set o v).take (o + 1) = cs.take o ++ [v] := by
      simp only [List.length_cons] at ho
      rw [List.take_set, List.take_succ_eq_append_getElem (by omega), List.set_append_right _ _ (by simp; omega)]
      simp [Nat.min_eq_left (show o ≤ cs.length by omega)]
    have e2 : (cs.set o v).drop (o + 1 + r.length) = cs.drop (o + (v :: r).length) := by
      rw [List.drop_set_of_lt (by omega)]
      congr 1
      simp only [List.length_cons]
      omega
    rw [e1, e2] at this
    simpa using this
theorem below_setCells {base g : Nat} (hg : base ≤ g) : ∀ (vs : List Value) (o : Nat) (w : World), Below base w (w.setCells g o vs)
  | [], _, w => Below.refl _ _
  | v :: r, o, w => by
    simp only [World.setCells]
    exact ((Below.refl _ _).setCell hg v).trans (below_setCells hg r (o + 1) _)
theorem own_drewN {w : World} {base e size n : Nat} {v : Value} {cs : List Value} (h : w.ownsRow base e size v n cs) (q : Nat) : (w.drewN q).ownsRow base e size v n cs := h

def compI_ren : Go.Shelf.Ren := ⟨fun | 20 => 72 | n => n, fun | 22 => 23 | 3 => 3 | 0 => 0 | 4 => 4 | n => n, fun | n => n⟩
theorem compI : Lays2.n20 Try.prog compI_ren := {
  mixed := by kernel_rfl
  f20 := Try.func72.trans (congrArg some (by kernel_rfl))
  t0 := Try.underlying0
  a0 := Try.isAgg0
  z0 := Try.sizeOf0
  v0 := Try.zeroValue0
  t3 := Try.underlying3
  a3 := Try.isAgg3
  z3 := Try.sizeOf3
  v3 := Try.zeroValue3
  t4 := Try.underlying4
  a4 := Try.isAgg4
  z4 := Try.sizeOf4
  v4 := Try.zeroValue4
  t22 := Try.underlying23
  a22 := Try.isAgg23
  z22 := Try.sizeOf23
  v22 := Try.zeroValue23
  i3 := Try.info_int }

set_option maxRecDepth 100000 in
set_option maxHeartbeats 2000000 in
theorem c_compact (base c : Nat) (A : Option Addr) (xs : List Int) (w : World) (hne : 0 < xs.length) (hl : xs.length ≤ 1048576) (ho : w.ownsRow base 3 1 (.slice A xs.length c) xs.length (cellsI xs)) :
    Calls Try.prog 72 #[.slice A xs.length c] w fun e w' => ∃ A2 c2, e = .returned (.slice A2 (dropL xs).length c2) ∧ w'.ownsRow base 3 1 (.slice A2 (dropL xs).length c2) (dropL xs).length (cellsI (dropL xs)) ∧ Below base w w' := by
  obtain ⟨g, rfl⟩ := own_at ho hne
  have h := Any.slices_Compact_int_cells compI g 0 xs.length c xs w (Nat.le_refl _) (by omega) (own_cap ho) (fun j hj => by
      rw [Nat.zero_add, ho.cellAt j (by omega), cellsI_get hj]) (fun j hj => ho.frozenAt _)
  rw [List.take_length] at h
  refine h.mono ?_
  rintro e w' ⟨rfl, q, rfl⟩
  have hle : (dropL xs).length ≤ xs.length := by have := dropTo_len xs xs.length; rwa [dropTo_all] at this
  have h1 := own_setCells ((Lib.compact xs ++ List.replicate (xs.length - (Lib.compact xs).length) 0).map (Value.int .i64)) 0 (w.drewN q) (cellsI xs) (own_drewN ho q) (by have : (Lib.compact xs).length ≤ xs.length := hle; simp; omega)
  have h2 := own_cut h1 (k := (dropL xs).length) hle
  refine ⟨some ⟨g, 0, none⟩, c, rfl, ?_, (belowN (Below.refl _ _) q).trans (below_setCells (ho.lt g rfl).1 _ _ _)⟩
  have e : ((cellsI xs).take 0 ++ (Lib.compact xs ++ List.replicate (xs.length - (Lib.compact xs).length) 0).map (Value.int .i64) ++ (cellsI xs).drop (0 + ((Lib.compact xs ++ List.replicate (xs.length - (Lib.compact xs).length) 0).map (Value.int .i64)).length)).take ((dropL xs).length * 1) = cellsI (dropL xs) := by
    rw [List.take_zero, List.nil_append, List.map_append, List.append_assoc, Nat.mul_one]
    exact List.take_left' (by simp [dropL])
  rw [e] at h2
  exact h2

set_option maxRecDepth 100000 in
set_option maxHeartbeats 1000000 in
theorem c_implDrop (A : Option Addr) (c : Nat) (xs : List Int) (w : World) (hr : RdI w A xs) (hl : xs.length ≤ 1048576) :
    Calls Try.prog 44 #[.slice A xs.length c] w (RetI w (dropHL xs) (chainB xs)) := by
  have con := Lib.hid (c_implIsChain A c xs w hr (by omega))
  cases hc : chainB xs
  · have e1 : dropHL xs = [] := by simp [dropHL, hc]
    rw [e1]
    rw [hc] at con
    clear e1 hc hr
    go_enter Try.func44, Try.ntmps44
    go_wp2_with (go_at_call 26; refine con.out.mono ?_; rintro e w1 ⟨rfl, hb1⟩)
    go_ret2
    exact ⟨none, 0, rfl, World.ownsRow_nil _ _ _ _, hb1⟩
  · have e1 : dropHL xs = dropL xs := by simp [dropHL, hc]
    have hpos := (chain_len hc).1
    have conC := Lib.hid (fun W (hb : Below w.heap.size w W) => c_clone A c xs W (hr.below hb) hl (by omega))
    have conR := Lib.hid (fun W base A' c' ho => c_compact base c' A' xs W (by omega) hl ho)
    rw [e1]
    rw [hc] at con
    clear e1 hc hr
    go_enter Try.func44, Try.ntmps44
    go_wp2_with (first | (go_at_call 26; refine con.out.mono ?_; rintro e w1 ⟨rfl, hb1⟩) | (go_at_call 64; refine (conC.out _ hb1).mono ?_; rintro e w2 ⟨A2, c2, rfl, ho2, hb2⟩) | (go_at_call 72; refine (conR.out _ _ _ _ ho2).mono ?_; rintro e w3 ⟨A3, c3, rfl, ho3, hb3⟩))
    go_ret2
    exact ⟨A3, c3, rfl, own_base ho3 hb1.size, (bstep hb1 hb2).trans (hb3.mono hb1.size)⟩

end Go.Proofs.Ytghemmocbmkgiaa

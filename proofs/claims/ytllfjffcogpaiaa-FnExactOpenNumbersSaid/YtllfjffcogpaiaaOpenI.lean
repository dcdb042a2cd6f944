/- The numbers at the ends: the program's. -/
import Derived.Test.YtllfjffcogpaiaaBrdT
import Derived.Test.YtllfjffcogpaiaaOpenS
import Derived.Test.YtllfjffcogpaiaaShelf
import Derived.Sort.OwnSortedInts
namespace Go.Proofs.Ytllfjffcogpaiaa
open Go.RowKit
set_option linter.unusedVariables false

theorem own_at {w : World} {base e size n c : Nat} {A : Option Addr} {cs : List Value} (h : w.ownsRow base e size (.slice A n c) n cs) (hn : 0 < n) : ∃ g, A = some ⟨g, 0, none⟩ := by
  obtain ⟨_, ⟨hv, hz⟩ | ⟨g, cap, cur, hv, _⟩⟩ := h
  · omega
  · injection hv with h1 h2 h3
    exact ⟨g, h1⟩

theorem own_cut {w : World} {base e size g n c k : Nat} {cs : List Value} (h : w.ownsRow base e size (.slice (some ⟨g, 0, none⟩) n c) n cs) (hk : k ≤ n) :
    w.ownsRow base e size (.slice (some ⟨g, 0, none⟩) k c) k (cs.take (k * size)) := by
  obtain ⟨h0, ⟨hv, hn⟩ | ⟨g', cap, cur, hv, hg, hh, hc, hm, hs, ht⟩⟩ := h
  · cases hv
  · injection hv with e1 e2 e3
    injection e1 with e1
    injection e1 with e1
    subst e1 e3
    refine ⟨?_, .inr ⟨g, c, cur, rfl, hg, hh, by omega, hm, hs, ?_⟩⟩
    · rw [List.length_take, h0]
      exact Nat.min_eq_left (Nat.mul_le_mul_right _ hk)
    · rw [← ht, List.take_take, Nat.min_eq_left (Nat.mul_le_mul_right _ hk)]
theorem own_cap {w : World} {base e size n c : Nat} {A : Option Addr} {cs : List Value} (h : w.ownsRow base e size (.slice A n c) n cs) : n ≤ c := by
  obtain ⟨_, ⟨hv, hn⟩ | ⟨g, cap, cur, hv, _, _, hc, _⟩⟩ := h
  · omega
  · injection hv with h1 h2 h3
    omega

theorem belowN {B : Nat} {a w : World} (h : Below B a w) (n : Nat) : Below B a (w.drewN n) := h.trans ⟨rfl, rfl, rfl, Nat.le_refl _, fun _ _ => rfl⟩

theorem own_setCells {base e g n c : Nat} : ∀ (vs : List Value) (o : Nat) (w : World) (cs : List Value), w.ownsRow base e 1 (.slice (some ⟨g, 0, none⟩) n c) n cs → o + vs.length ≤ n →
    (w.setCells g o vs).ownsRow base e 1 (.slice (some ⟨g, 0, none⟩) n c) n (cs.take o ++ vs ++ cs.drop (o + vs.length))
  | [], o, w, cs, h, _ => by simpa [World.setCells] using h
  | v :: r, o, w, cs, h, ho => by
    have hl : cs.length = n := by have := h.1; omega
    have := own_setCells r (o + 1) _ _ (h.stored o v).1 (by simp at ho; omega)
    simp only [World.setCells]
    have e1 : (cs.set o v).take (o + 1) = cs.take o ++ [v] := by
      simp only [List.length_cons] at ho
      rw [List.take_set, List.take_succ_eq_append_getElem (by omega), List.set_append_right _ _ (by simp; omega)]
      simp [Nat.min_eq_left (show o ≤ cs.length by omega)]
    have e2 : (cs.set o v).drop (o + 1 + r.length) = cs.drop (o + (v :: r).length) := by
      rw [List.drop_set_of_lt (by omega)]
      congr 1
      simp only [List.length_cons]
      omega
    rw [e1, e2] at this
    simpa using this
theorem below_setCells {base g : Nat} (hg : base ≤ g) : ∀ (vs : List Value) (o : Nat) (w : World), Below base w (w.setCells g o vs)
  | [], _, w => Below.refl _ _
  | v :: r, o, w => by
    simp only [World.setCells]
    exact ((Below.refl _ _).setCell hg v).trans (below_setCells hg r (o + 1) _)
theorem own_drewN {w : World} {base e size n : Nat} {v : Value} {cs : List Value} (h : w.ownsRow base e size v n cs) (q : Nat) : (w.drewN q).ownsRow base e size v n cs := h

theorem c_sortI (base c : Nat) (A : Option Addr) (xs : List Int) (w : World) (hne : 0 < xs.length) (hl : xs.length ≤ 1048576) (ho : w.ownsRow base 3 1 (.slice A xs.length c) xs.length (cellsI xs)) :
    Calls Try.prog 83 #[.slice A xs.length c] w fun e w' => e = .returned (.tuple #[]) ∧ w'.ownsRow base 3 1 (.slice A xs.length c) xs.length (cellsI (srtL xs)) ∧ Below base w w' := by
  obtain ⟨h0, ⟨hv, hn⟩ | ⟨g, cap, cur, hv, hg, hb, h1, h2, h3, h4⟩⟩ := ho
  · omega
  · injection hv with e1 e2 e3
    subst e1 e3
    have hgl : g < w.heap.size := (Array.getElem?_eq_some_iff.1 hb).1
    refine (Try.slices_Sort_int g 0 c xs w (holds_of_blockI hb (by simpa [cellsI] using h4)) hgl (by omega)).mono ?_
    rintro e w' ⟨rfl, nn, os, rfl⟩
    exact ⟨rfl, ownsRow_sortedI (ts := srtL xs) (srtL_len xs) hg hb h1 h2 h3, below_of_grown (grownBy_sortedI _) (by omega) (fun g' hg' => by injection hg' with e; omega)⟩

theorem c_compI (base c : Nat) (A : Option Addr) (xs : List Int) (w : World) (hne : 0 < xs.length) (hl : xs.length ≤ 1048576) (ho : w.ownsRow base 3 1 (.slice A xs.length c) xs.length (cellsI xs)) :
    Calls Try.prog 84 #[.slice A xs.length c] w fun e w' => ∃ A2 c2, e = .returned (.slice A2 (Lib.compact xs).length c2) ∧ w'.ownsRow base 3 1 (.slice A2 (Lib.compact xs).length c2) (Lib.compact xs).length (cellsI (Lib.compact xs)) ∧ Below base w w' := by
  obtain ⟨g, rfl⟩ := own_at ho hne
  have h := Try.slices_Compact_int_cells g 0 xs.length c xs w (Nat.le_refl _) (by omega) (own_cap ho) (fun j hj => by
      rw [Nat.zero_add, ho.cellAt j (by omega)]; simp [cellsI, List.getD, List.getElem?_eq_getElem hj]) (fun j hj => ho.frozenAt _)
  rw [List.take_length] at h
  refine h.mono ?_
  rintro e w' ⟨rfl, q, rfl⟩
  have hle : (Lib.compact xs).length ≤ xs.length := by
    unfold Lib.compact Lib.compactUpTo
    rw [List.length_map]
    exact Nat.le_trans (List.length_filter_le _ _) (by simp)
  have h1 := own_setCells ((Lib.compact xs ++ List.replicate (xs.length - (Lib.compact xs).length) 0).map (Value.int .i64)) 0 (w.drewN q) (cellsI xs) (own_drewN ho q) (by simp; omega)
  have h2 := own_cut h1 (k := (Lib.compact xs).length) hle
  refine ⟨some ⟨g, 0, none⟩, c, rfl, ?_, (belowN (Below.refl _ _) q).trans (below_setCells (ho.lt g rfl).1 _ _ _)⟩
  have e : ((cellsI xs).take 0 ++ (Lib.compact xs ++ List.replicate (xs.length - (Lib.compact xs).length) 0).map (Value.int .i64) ++ (cellsI xs).drop (0 + ((Lib.compact xs ++ List.replicate (xs.length - (Lib.compact xs).length) 0).map (Value.int .i64)).length)).take ((Lib.compact xs).length * 1) = cellsI (Lib.compact xs) := by
    rw [List.take_zero, List.nil_append, List.map_append, List.append_assoc, Nat.mul_one]
    exact List.take_left' (by simp)
  rw [e] at h2
  exact h2

def opL (arms : List (Int × Bool × Bool)) : List Int := Lib.compact (srtL (endsA arms))
theorem endsA_take {arms : List (Int × Bool × Bool)} {k : Nat} (h : k < arms.length) : (endsA arms).take (k + 1) = (endsA arms).take k ++ [arms[k].1] := by
  rw [List.take_succ_eq_append_getElem (by rw [endsA_len]; exact h), endsA_get h]

set_option maxRecDepth 100000 in
set_option maxHeartbeats 1000000 in
theorem c_openN (A : Option Addr) (n c : Nat) (D : Option Addr) (d : Nat) (f : Int) (arms : List (Int × Bool × Bool)) (w : World) (hr : RdA w D arms) (hl : arms.length ≤ 4) :
    Calls Try.prog 66 #[.agg #[.slice A n c, .slice D arms.length d, .int .i64 f]] w fun e w' => ∃ A2 c2, e = .returned (.slice A2 (opL arms).length c2) ∧ w'.ownsRow w.heap.size 3 1 (.slice A2 (opL arms).length c2) (opL arms).length (cellsI (opL arms)) ∧ Below w.heap.size w w' := by
  go_enter Try.func66, Try.ntmps66
  go_wp2
  go_loopw [3, 9] (fun s i wr => ∃ (k : Nat) (A2 : Option Addr) (c2 : Nat), k ≤ arms.length ∧ i = .int .i64 k ∧ s = .slice A2 ((endsA arms).take k).length c2 ∧ wr.ownsRow w.heap.size 3 1 (.slice A2 ((endsA arms).take k).length c2) ((endsA arms).take k).length (cellsI ((endsA arms).take k)) ∧ Below w.heap.size w wr) (fun _ i _ => arms.length - (intOf i).toNat)
  case atStart => exact ⟨0, none, 0, Nat.zero_le _, rfl, by simp, World.ownsRow_nil _ _ _ _, by go_grown⟩
  case round =>
    obtain ⟨k, A2, c2, hk, rfl, rfl, ho, hb⟩ := hrel
    by_cases hlt : k < arms.length
    · obtain ⟨bk, off, rfl, hbk, hc⟩ := hr.at_ hlt
      have g0 := (hb.cell (p := ⟨bk, _, none⟩) hbk).trans (hc k hlt).1
      have g1 := (hb.cell (p := ⟨bk, _, none⟩) hbk).trans (hc k hlt).2.1
      have g2 := (hb.cell (p := ⟨bk, _, none⟩) hbk).trans (hc k hlt).2.2
      have Hst := Lib.hid (endsA_take hlt)
      have hlen : ((endsA arms).take k).length ≤ 4 := by simp; omega
      have Hb := Lib.hid hb
      have Ho := Lib.hid ho
      have hz := hb.size
      clear hc hr hb ho
      obtain ⟨x, hx⟩ : ∃ x, arms[k].1 = x := ⟨_, rfl⟩
      obtain ⟨y, hy⟩ : ∃ y, arms[k].2.1 = y := ⟨_, rfl⟩
      obtain ⟨z, hz'⟩ : ∃ z, arms[k].2.2 = z := ⟨_, rfl⟩
      rw [hx] at g0 Hst
      rw [hy] at g1
      rw [hz'] at g2
      clear hx hy hz'
      go_wp2_with (at_builtin; refine wp_append_int rfl _ _ rfl w.heap.size _ ((endsA arms).take k) rfl ((Ho.out.alloc _).alloc _) x (wr.heap.size + 1) rfl (by simp) (by omega) (by simp; omega) ?_; intro A5 c5 w5 ho5 hg5)
      go_roundw
      case rel => exact ⟨k + 1, A5, c5, by omega, by go_num, by rw [Hst.out, List.length_append, List.length_take]; rfl, by rw [Hst.out, List.length_append]; exact ho5, Below.grown (by have hb0 := Hb.out; go_grown) hg5 (by simp; omega) (fun g hg => (Ho.out.lt g hg).1)⟩
      case measure => simp [intOf]; omega
    · have hka : k = arms.length := by omega
      subst hka
      have htk : (endsA arms).take arms.length = endsA arms := by rw [← endsA_len arms, List.take_length]
      rw [htk] at ho ⊢
      have hlen := endsA_len arms
      clear htk hr
      by_cases h0 : arms.length = 0
      · have he : endsA arms = [] := List.eq_nil_of_length_eq_zero (by omega)
        have hop : opL arms = [] := by unfold opL; rw [he]; simp [srtL, Lib.compact, Lib.compactUpTo]
        have Hop := Lib.hid hop
        rw [he] at ho ⊢
        clear he hop hlen h0 hlt
        go_wp2_with (first | (go_at_call 83; refine (Try.slices_Sort_int_none A2 c2 _).mono ?_; rintro e w2 ⟨rfl, rfl⟩) | (go_at_call 84; refine (Try.slices_Compact_int_empty A2 c2 _).mono ?_; rintro e w3 ⟨rfl, rfl⟩))
        go_ret
        rw [Hop.out]
        exact ⟨A2, c2, rfl, ho, hb⟩
      · have conS := Lib.hid (c_sortI w.heap.size c2 A2 (endsA arms) wr (by omega) (by omega) ho)
        have conC := fun W (h : W.ownsRow w.heap.size 3 1 (.slice A2 (srtL (endsA arms)).length c2) (srtL (endsA arms)).length (cellsI (srtL (endsA arms)))) => c_compI w.heap.size c2 A2 (srtL (endsA arms)) W (by rw [srtL_len]; omega) (by rw [srtL_len]; omega) h
        have hop : Lib.compact (srtL (endsA arms)) = opL arms := rfl
        rw [hop] at conC
        simp only [srtL_len] at conC
        have ConC := Lib.hid conC
        have Hb := Lib.hid hb
        clear hop conC ho hlen h0 hlt hb hl
        go_wp2_with (first | (go_at_call 83; refine conS.out.mono ?_; rintro e w2 ⟨rfl, ho2, hb2⟩) | (go_at_call 84; refine (ConC.out _ ho2).mono ?_; rintro e w3 ⟨A3, c3, rfl, ho3, hb3⟩))
        go_ret
        exact ⟨A3, c3, rfl, ho3, (Hb.out.trans hb2).trans hb3⟩

set_option maxRecDepth 100000 in
set_option maxHeartbeats 1000000 in
theorem c_implOpen (A : Option Addr) (c : Nat) (ps : List (Int × Int × Int)) (w : World) (hr : RdP w A ps) (hl : ps.length ≤ 1048576) :
    Calls Try.prog 34 #[.slice A ps.length c] w (RetI w (openHL ps) (okL ps)) := by
  have con := Lib.hid (c_boardOf A c ps w hr hl)
  have hB := brdD_ok ps
  have conS := Lib.hid (fun A1 c1 D1 d1 W (h : RdA W D1 (brdD ps).arms) => c_openN A1 (brdD ps).ps.length c1 D1 d1 (brdD ps).fives (brdD ps).arms W h hB.four)
  have hz : okL ps = false → openHL ps = [] := fun h => by unfold openHL; rw [brdD_no h]; simp [endsA, Brd.none, numsL]
  have hop : opL (brdD ps).arms = openHL ps := open_same fun x hx => by
    simp only [endsA, List.mem_map] at hx
    obtain ⟨a, ha, rfl⟩ := hx
    exact hB.ends a ha
  rw [hop] at conS
  have conT : Calls Try.prog 65 #[.slice A ps.length c, .func (.func 66) #[] #[]] w (RetI w (openHL ps) (okL ps)) := by
    cases hok : okL ps
    · rw [hok] at con
      rw [hz hok]
      clear hr hB hz hok hop
      go_enter Try.func65, Try.ntmps65
      go_wp2_with (go_at_call 57; refine con.out.mono ?_; rintro e w1 ⟨A1, c1, D1, d1, rfl, ho1, ha1, hb1⟩)
      go_ret2
      exact ⟨none, 0, rfl, World.ownsRow_nil _ _ _ _, Below.trans hb1 ((Below.refl _ _).alloc hb1.size _)⟩
    · rw [hok] at con
      clear hr hB hz hok hop
      go_enter Try.func65, Try.ntmps65
      go_wp2_with (first | (go_at_call 57; refine con.out.mono ?_; rintro e w1 ⟨A1, c1, D1, d1, rfl, ho1, ha1, hb1⟩; have Ho1 := Lib.hid (RdA.of_own ha1); have hbx := Below.trans hb1 ((Below.refl _ _).alloc hb1.size (.cells #[.slice A1 (brdD ps).ps.length c1, .slice D1 (brdD ps).arms.length d1, .int .i64 (brdD ps).fives] 71))) | (go_at_call 66; refine (conS.out A1 c1 D1 d1 _ (Ho1.out.below ((Below.refl _ _).alloc (Nat.le_refl _) _))).mono ?_; rintro e w2 ⟨A2, c2, rfl, ho2, hb2⟩))
      go_ret2
      exact ⟨A2, c2, by simp, own_base ho2 hbx.size, bstep hbx hb2⟩
  have ConT := Lib.hid conT
  clear hr hB conT hz hop
  go_enter Try.func34, Try.ntmps34
  go_wp2_with (go_at_call 65; refine ConT.out.mono ?_; rintro e w1 ⟨A1, c1, rfl, ho1, hb1⟩)
  go_ret2
  exact ⟨A1, c1, by simp, ho1, hb1⟩
end Go.Proofs.Ytllfjffcogpaiaa

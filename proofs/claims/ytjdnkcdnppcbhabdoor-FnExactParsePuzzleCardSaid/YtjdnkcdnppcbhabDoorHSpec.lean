/- The parsing of a hand: the specification's. -/
import Derived.Test.YtjdnkcdnppcbhabDoorHSplit
namespace Go.Proofs.YtjdnkcdnppcbhabDoor
open Go.RowKit
set_option linter.unusedVariables false

theorem step_append_tileH {w : World} {ops : Array Oper} {o : Oper} {a : Act} {K : Act → World → Prop} {Q : Exit → Act → World → Prop} {E : Prop} (hgd : o.guard = none) (s x : Operand)
    (ho : o.op = .call { callee := .builtin .append, args := #[s, x], argTypes := #[29, 29] }) (base : Nat) (v : Value) (ts : List (Int × Int)) (hs : a.eval s = v)
    (hown : w.ownsRow base 61 2 v ts.length (cellsT ts)) (p q : Int) (g : Nat) (hx : a.eval x = .slice (some ⟨g, 0, none⟩) 1 1)
    (h0 : w.cell? ⟨g, 0, none⟩ = some (.int .i64 p)) (h1 : w.cell? ⟨g, 1, none⟩ = some (.int .i64 q)) (hlen : ts.length ≤ 4194304) (hbase : base ≤ w.heap.size)
    (h : ∀ A c w', w'.ownsRow base 61 2 (.slice A (ts.length + 1) c) (ts.length + 1) (cellsT (ts ++ [(p, q)])) → w.grownBy w' v.ownBlock → K (a.put o.dst (.slice A (ts.length + 1) c)) w') :
    if Region.wanted o (yielded ops a.tmps) = true then Oper.wp Tryd.prog o a w K Q else E := by
  have hw : Region.wanted o (yielded ops a.tmps) = true := by simp [Region.wanted, hgd]
  rw [if_pos hw]
  obtain ⟨i0, hi, hz0, hz1, hz2⟩ := info_parts Tryd.info_tile
  refine wp_append_own w s x 29 ho base 61 i0 _ 2 16 Tryd.underlying29 hi hz0 hz1 hz2 rfl (by decide) v ts.length (cellsT ts) hs hown ⟨g, 0, none⟩ 1 1 [.int .i64 p, .int .i64 q] hx rfl ?_ ?_ (by unfold maxLen; omega) (by omega) hbase ?_
  · intro j u hj
    match j, hj with
    | 0, hj => simp at hj; subst hj; simpa [Addr.add] using h0
    | 1, hj => simp at hj; subst hj; simpa [Addr.add] using h1
  · intro u hu
    simp at hu
    rcases hu with rfl | rfl <;> rfl
  · intro v' w' h1 h2 _
    have h1' := h1
    obtain ⟨_, ⟨_, hn⟩ | ⟨g', cap, cur, rfl, _⟩⟩ := h1'
    · omega
    refine h _ _ w' ?_ h2
    rw [cellsT_append]
    exact h1

theorem parse_badW {ws : List (List UInt8)} {w : List UInt8} (hm : w ∈ ws) (h : okW w = false) : (ws.all okW && handB (parseTo ws)) = false := by
  cases hc : (ws.all okW && handB (parseTo ws))
  · rfl
  · exfalso
    rw [Bool.and_eq_true] at hc
    have h1 := List.all_eq_true.1 hc.1 _ hm
    rw [h] at h1
    exact absurd h1 (by decide)
theorem parse_allW {ws : List (List UInt8)} (h : ∀ w ∈ ws, okW w = true) : (ws.all okW && handB (parseTo ws)) = handB (parseTo ws) := by
  rw [List.all_eq_true.2 h, Bool.true_and]
theorem okW_bad (b : ByteArray) (h2 : b.size ≠ 2) : okW b.data.toList = false := by
  have hl : b.data.toList.length ≠ 2 := by simpa using h2
  unfold okW
  rw [decide_eq_false hl]
  rfl
theorem okW_two (b : ByteArray) (h0 : 0 < b.size) (h1 : 1 < b.size) (h2 : b.size = 2) : okW b.data.toList = (decide (48 ≤ b[0].toNat ∧ b[0].toNat ≤ 57) && decide (48 ≤ b[1].toNat ∧ b[1].toNat ≤ 57)) := by
  have hl : b.data.toList.length = 2 := by rw [← h2]; simp
  have e : b.data.toList = [b[0], b[1]] := by
    apply List.ext_getElem
    · simpa using hl
    · intro i hi1 hi2
      match i, hi2 with
      | 0, _ => rfl
      | 1, _ => rfl
  rw [e]
  simp [okW]
theorem own_capH {w : World} {base e size n : Nat} {A : Option Addr} {c : Nat} {cs : List Value} (h : w.ownsRow base e size (.slice A n c) n cs) : n ≤ c := by
  obtain ⟨_, ⟨h1, h2⟩ | ⟨g, cap, cur, h1, _, _, hnc, _⟩⟩ := h
  · injection h1 with _ _ h3
    omega
  · injection h1 with _ _ h3
    omega
theorem own_at {w : World} {base e n : Nat} {A : Option Addr} {c : Nat} {us : List ByteArray} (h : w.ownsRow base e 1 (.slice A us.length c) us.length (cellsS us)) (hn : us.length ≠ 0) :
    ∃ g, A = some ⟨g, 0, none⟩ ∧ g < w.heap.size ∧ ∀ k (hk : k < us.length), w.cell? ⟨g, k, none⟩ = some (.string us[k]) := by
  have h' := h
  obtain ⟨_, ⟨h1, h2⟩ | ⟨g, cap, cur, h1, _⟩⟩ := h'
  · omega
  · injection h1 with e1 e2 e3
    subst e1
    refine ⟨g, rfl, (h.lt g rfl).2, fun k hk => ?_⟩
    rw [h.cellAt k (by omega)]
    simp [cellsS, hk]

set_option maxRecDepth 100000 in
set_option maxHeartbeats 2000000 in
theorem c_tiParse (s : ByteArray) (w : World) (hl : s.size ≤ 1048576) :
    Calls Tryd.prog 46 #[.string s] w (RetT w (parseHL s) (parseB s)) := by
  by_cases hs : s = dash
  · have e1 : parseHL s = [] := if_pos hs
    have e2 : parseB s = true := by unfold parseB; rw [decide_eq_true hs]; rfl
    rw [e1, e2]
    have hd : (s.toList == [45]) = true := by rw [hs]; decide +kernel
    clear e1 e2 hs
    go_enter Tryd.func46, Tryd.ntmps46
    go_wp2
    go_ret2
    exact ⟨none, 0, rfl, World.ownsRow_nil _ _ _ _, by go_grown⟩
  · have hd : (s.toList == [45]) = false := beq_eq_false_iff_ne.2 (fun h => hs (by
      rw [ByteArray.toList_eq] at h
      apply ByteArray.ext
      apply Array.toList_inj.1
      exact h))
    have e2 : parseB s = parseHB s := by unfold parseB; rw [decide_eq_false hs]; rfl
    have e1 : parseHL s = if parseHB s then parseTo (wordsL s.data.toList) else [] := if_neg hs
    rw [e2]
    by_cases h165 : (165 : Int) < s.size
    · have e3 : parseHB s = false := by
        cases h : parseHB s
        · rfl
        · have := parseHB_len h; omega
      rw [e1, e3, if_neg (by decide)]
      clear e1 e2 e3 hs
      go_enter Tryd.func46, Tryd.ntmps46
      go_wp2
      go_ret2
      exact ⟨none, 0, rfl, World.ownsRow_nil _ _ _ _, by go_grown⟩
    · have conS := Lib.hid (c_l1Split s w hl)
      have H1 := Lib.hid e1
      have H0 := Lib.hid (show parseHB s = ((wordsL s.data.toList).all okW && handB (parseTo (wordsL s.data.toList))) from rfl)
      have Hne := Lib.hid (words_ne s.data.toList)
      clear e1 e2 hs
      go_enter Tryd.func46, Tryd.ntmps46
      go_wp2_with (go_at_call 61; refine conS.out.mono ?_; rintro e w1 ⟨us, A, c, rfl, hus, hul, hown1, hb1⟩)
      have hn0 : us.length ≠ 0 := fun h => Hne.out (by rw [← hus, List.length_eq_zero_iff.1 h]; rfl)
      obtain ⟨g, rfl, hgl, hcells⟩ := own_at (n := 0) hown1 hn0
      have H5 := Lib.hid (show parseHL s = if parseHB s then parseTo (us.map (·.data.toList)) else [] from by rw [H1.out, hus])
      have H4 := Lib.hid (show parseHB s = ((us.map (·.data.toList)).all okW && handB (parseTo (us.map (·.data.toList)))) from by rw [H0.out, hus])
      have Hcells := Lib.hid hcells
      clear H0 H1 Hne conS hus hown1 hcells hn0
      go_loopw [4, 15] (fun v i wr => ∃ (k : Nat) (A' : Option Addr) (c' : Nat), k ≤ us.length ∧ i = .int .i64 k ∧ v = .slice A' (madeH us k).length c' ∧ (∀ b ∈ us.take k, okW b.data.toList = true) ∧ wr.ownsRow w1.heap.size 61 2 (.slice A' (madeH us k).length c') (madeH us k).length (cellsT (madeH us k)) ∧ Below w1.heap.size w1 wr) (fun _ i _ => us.length - (intOf i).toNat)
      case atStart => exact ⟨0, none, 0, Nat.zero_le _, rfl, rfl, by simp, World.ownsRow_nil _ _ _ _, Below.refl _ _⟩
      case round =>
        obtain ⟨k, A', c', hk, rfl, rfl, hgo, hown, hb⟩ := hrel
        have hbw : Below w.heap.size w wr := bstep hb1 hb
        have hsz := hb.size
        have hsz1 := hb1.size
        by_cases hlt : k < us.length
        · have g1 : wr.cell? ⟨g, k, none⟩ = some (.string us[k]) := (hb.cell (p := ⟨g, k, none⟩) hgl).trans (Hcells.out k hlt)
          have hts := Lib.hid (madeH_step hlt)
          have hmem : us[k].data.toList ∈ us.map (·.data.toList) := List.mem_map_of_mem (List.getElem_mem hlt)
          have j0 : (0 : Int) ≤ (k : Int) := by omega
          have j1 : (k : Int) < (us.length : Int) := by omega
          have Hgo := Lib.hid (fun (h : okW us[k].data.toList = true) => (show ∀ b ∈ us.take (k + 1), okW b.data.toList = true from by
              rw [List.take_succ_eq_append_getElem hlt]
              intro b hb'
              rcases List.mem_append.1 hb' with h' | h'
              · exact hgo b h'
              · rw [List.mem_singleton.1 h']; exact h))
          have Hbad := Lib.hid (fun (h : okW us[k].data.toList = false) => parse_badW hmem h)
          have Hb := Lib.hid hb
          have Ho := Lib.hid hown
          generalize us[k] = b at *
          clear hown hgo hmem hb
          by_cases hb2 : b.size = 2
          · have h0 : 0 < b.size := by omega
            have h1 : 1 < b.size := by omega
            have hbs : ((b.size : Int) != 2) = false := by rw [hb2]; rfl
            have i0 : (0 : Int) < (b.size : Int) := by omega
            have i1 : (1 : Int) < (b.size : Int) := by omega
            have hw := okW_two b h0 h1 hb2
            have hx := byte_le2 b[0]
            have hy := byte_le2 b[1]
            by_cases c1 : (b[0].toNat : Int) < 48
            · have hbad := Lib.hid (Hbad.out (by
                rw [hw]
                simp only [Bool.and_eq_false_iff, decide_eq_false_iff_not]
                omega))
              clear Hbad Hgo hw hb2
              go_wp2
              go_ret2
              rw [H5.out, H4.out, hbad.out, if_neg (by decide)]
              exact ⟨none, 0, rfl, World.ownsRow_nil _ _ _ _, hbw⟩
            by_cases c2 : (57 : Int) < (b[0].toNat : Int)
            · have hbad := Lib.hid (Hbad.out (by
                rw [hw]
                simp only [Bool.and_eq_false_iff, decide_eq_false_iff_not]
                omega))
              clear Hbad Hgo hw hb2
              go_wp2
              go_ret2
              rw [H5.out, H4.out, hbad.out, if_neg (by decide)]
              exact ⟨none, 0, rfl, World.ownsRow_nil _ _ _ _, hbw⟩
            by_cases c3 : (b[1].toNat : Int) < 48
            · have hbad := Lib.hid (Hbad.out (by
                rw [hw]
                simp only [Bool.and_eq_false_iff, decide_eq_false_iff_not]
                omega))
              clear Hbad Hgo hw hb2
              go_wp2
              go_ret2
              rw [H5.out, H4.out, hbad.out, if_neg (by decide)]
              exact ⟨none, 0, rfl, World.ownsRow_nil _ _ _ _, hbw⟩
            by_cases c4 : (57 : Int) < (b[1].toNat : Int)
            · have hbad := Lib.hid (Hbad.out (by
                rw [hw]
                simp only [Bool.and_eq_false_iff, decide_eq_false_iff_not]
                omega))
              clear Hbad Hgo hw hb2
              go_wp2
              go_ret2
              rw [H5.out, H4.out, hbad.out, if_neg (by decide)]
              exact ⟨none, 0, rfl, World.ownsRow_nil _ _ _ _, hbw⟩
            have hok : okW b.data.toList = true := by
              rw [hw, decide_eq_true (by omega), decide_eq_true (by omega)]
              rfl
            have Hgo2 := Lib.hid (Hgo.out hok)
            have ht := Lib.hid (word_two b h0 h1)
            have u1 : IntKind.u8.wrap ((b[0].toNat : Int) - 48) = (b[0].toNat : Int) - 48 := dg_u8 (by omega) (by omega)
            have u2 : IntKind.u8.wrap ((b[1].toNat : Int) - 48) = (b[1].toNat : Int) - 48 := dg_u8 (by omega) (by omega)
            have u3 : IntKind.i64.wrap ((b[0].toNat : Int) - 48) = (b[0].toNat : Int) - 48 := IntWalk.i64_in _ (by omega)
            have u4 : IntKind.i64.wrap ((b[1].toNat : Int) - 48) = (b[1].toNat : Int) - 48 := IntWalk.i64_in _ (by omega)
            have hml : (madeH us k).length ≤ 1048577 := by rw [madeH_len (by omega)]; omega
            have Ho2 := Lib.hid (Ho.out.alloc (.cells #[.int .i64 ((b[0].toNat : Int) - 48), .int .i64 ((b[1].toNat : Int) - 48)] 61))
            have hcd : w1.heap.size ≤ (wr.alloc (.cells #[.int .i64 ((b[0].toNat : Int) - 48), .int .i64 ((b[1].toNat : Int) - 48)] 61)).heap.size := by rw [World.size_alloc]; omega
            have hx0 : (wr.alloc (.cells #[.int .i64 ((b[0].toNat : Int) - 48), .int .i64 ((b[1].toNat : Int) - 48)] 61)).cell? ⟨wr.heap.size, 0, none⟩ = some (.int .i64 ((b[0].toNat : Int) - 48)) := by simp
            have hx1 : (wr.alloc (.cells #[.int .i64 ((b[0].toNat : Int) - 48), .int .i64 ((b[1].toNat : Int) - 48)] 61)).cell? ⟨wr.heap.size, 1, none⟩ = some (.int .i64 ((b[1].toNat : Int) - 48)) := by simp
            have hml2 : (madeH us k).length ≤ 4194304 := by omega
            clear hok hw Hbad hb2 hx hy
            go_wp2_with fail
            refine wp_region_held_drew (S := fun w' => True) (by kernel_rfl) trivial (fun hH0 => ?_)
            refine reg_take 0 rfl (by kernel_rfl) (by kernel_rfl) (by kernel_rfl) (fun _ _ _ h => h) (by rfl) (fun w _ => by first | (go_simp; done) | (go_simp; with_reducible rfl)) trivial ?_
            try simp only [Act.put, List.setIfInBounds_toArray, List.set_cons_zero, List.set_cons_succ, List.getElem_toArray, List.getElem_cons_zero]
            refine reg_take 1 rfl (by kernel_rfl) (by kernel_rfl) (by kernel_rfl) (fun _ _ _ h => h) (by rfl) (fun w _ => by first | (go_simp; done) | (go_simp; with_reducible rfl)) trivial ?_
            try simp only [Act.put, List.setIfInBounds_toArray, List.set_cons_zero, List.set_cons_succ, List.getElem_toArray, List.getElem_cons_zero, List.getElem_cons_succ]
            refine reg_take 2 rfl (by kernel_rfl) (by kernel_rfl) (by kernel_rfl) (fun _ _ _ h => h) (by rfl) (fun w _ => by first | (go_simp; done) | (go_simp; with_reducible rfl)) trivial ?_
            try simp only [Act.put, List.setIfInBounds_toArray, List.set_cons_zero, List.set_cons_succ, List.getElem_toArray, List.getElem_cons_zero, List.getElem_cons_succ]
            refine reg_take 3 rfl (by kernel_rfl) (by kernel_rfl) (by kernel_rfl) (fun _ _ _ h => h) (by rfl) (fun w _ => by first | (go_simp; done) | (go_simp; with_reducible rfl)) trivial ?_
            try simp only [Act.put, List.setIfInBounds_toArray, List.set_cons_zero, List.set_cons_succ, List.getElem_toArray, List.getElem_cons_zero, List.getElem_cons_succ]
            refine reg_take 4 rfl (by kernel_rfl) (by kernel_rfl) (by kernel_rfl) (fun _ _ _ h => h) (by rfl) (fun w _ => by first | (go_simp; done) | (go_simp; with_reducible rfl)) trivial ?_
            try simp only [Act.put, List.setIfInBounds_toArray, List.set_cons_zero, List.set_cons_succ, List.getElem_toArray, List.getElem_cons_zero, List.getElem_cons_succ]
            refine reg_take 5 rfl (by kernel_rfl) (by kernel_rfl) (by kernel_rfl) (fun _ _ _ h => h) (by rfl) (fun w _ => by first | (go_simp; done) | (go_simp; with_reducible rfl)) trivial ?_
            try simp only [Act.put, List.setIfInBounds_toArray, List.set_cons_zero, List.set_cons_succ, List.getElem_toArray, List.getElem_cons_zero, List.getElem_cons_succ]
            refine reg_take 6 rfl (by kernel_rfl) (by kernel_rfl) (by kernel_rfl) (fun _ _ _ h => h) (by rfl) (fun w _ => by first | (go_simp; done) | (go_simp; with_reducible rfl)) trivial ?_
            try simp only [Act.put, List.setIfInBounds_toArray, List.set_cons_zero, List.set_cons_succ, List.getElem_toArray, List.getElem_cons_zero, List.getElem_cons_succ]
            refine reg_take 7 rfl (by kernel_rfl) (by kernel_rfl) (by kernel_rfl) (fun _ _ _ h => h) (by rfl) (fun w _ => by first | (go_simp; done) | (go_simp; with_reducible rfl)) trivial ?_
            try simp only [Act.put, List.setIfInBounds_toArray, List.set_cons_zero, List.set_cons_succ, List.getElem_toArray, List.getElem_cons_zero, List.getElem_cons_succ]
            refine reg_take 8 rfl (by kernel_rfl) (by kernel_rfl) (by kernel_rfl) (fun _ _ _ h => h) (by rfl) (fun w _ => by first | (go_simp; done) | (go_simp; with_reducible rfl)) trivial ?_
            try simp only [Act.put, List.setIfInBounds_toArray, List.set_cons_zero, List.set_cons_succ, List.getElem_toArray, List.getElem_cons_zero, List.getElem_cons_succ]
            refine reg_take 9 rfl (by kernel_rfl) (by kernel_rfl) (by kernel_rfl) (fun _ _ _ h => h) (by rfl) (fun w _ => by first | (go_simp; done) | (go_simp; with_reducible rfl)) trivial ?_
            try simp only [Act.put, List.setIfInBounds_toArray, List.set_cons_zero, List.set_cons_succ, List.getElem_toArray, List.getElem_cons_zero, List.getElem_cons_succ]
            refine wpAnyH_ready (rs := [10]) (by kernel_rfl) (by simp) ?_
            refine AllReadyH.cons (i := 10) rfl (fun K hK => ?_) AllReadyH.nil
            go_simp
            skip
            refine hK.out _ _ trivial (fun hH10 => ?_)
            clear hK K
            try simp only [Act.put, List.setIfInBounds_toArray, List.set_cons_zero, List.set_cons_succ, List.getElem_toArray, List.getElem_cons_zero, List.getElem_cons_succ]
            refine wpAnyH_ready (rs := [11]) (by kernel_rfl) (by simp) ?_
            refine AllReadyH.cons (i := 11) rfl (fun K hK => ?_) AllReadyH.nil
            refine step_append_tileH rfl (.tmp 42) (.tmp 52) rfl w1.heap.size (.slice A' (madeH us k).length c') (madeH us k) rfl Ho2.out ((b[0].toNat : Int) - 48) ((b[1].toNat : Int) - 48) wr.heap.size rfl hx0 hx1 hml2 hcd ?_
            intro A2 c2 w3 hown3 hg3
            refine hK.out _ _ trivial (fun hH11 => ?_)
            clear hK K
            try simp only [Act.put, List.setIfInBounds_toArray, List.set_cons_zero, List.set_cons_succ, List.getElem_toArray, List.getElem_cons_zero, List.getElem_cons_succ]
            refine reg_take 12 rfl (by kernel_rfl) (by kernel_rfl) (by kernel_rfl) (fun _ _ _ h => h) (by rfl) (fun w _ => by first | (go_simp; done) | (go_simp; with_reducible rfl)) trivial ?_
            try simp only [Act.put, List.setIfInBounds_toArray, List.set_cons_zero, List.set_cons_succ, List.getElem_toArray, List.getElem_cons_zero, List.getElem_cons_succ]
            refine wpAnyH_done (by kernel_rfl) ?_ _
            go_wp2
            go_roundw
            case rel =>
              refine ⟨k + 1, A2, c2, by omega, by go_num, ?_, Hgo2.out, ?_, ?_⟩
              · rw [hts.out, List.length_append]; rfl
              · rw [hts.out, ht.out, List.length_append]; exact hown3
              · exact Below.grown (by have hq := Hb.out; go_grown) hg3 (by simp; omega) (fun g hg => (Ho2.out.lt g hg).1)
            case measure => simp [intOf]; omega
          · have hbs : ((b.size : Int) != 2) = true := by simp; omega
            have hbad := Lib.hid (Hbad.out (okW_bad b hb2))
            clear Hbad Hgo hb2
            go_wp2
            go_ret2
            rw [H5.out, H4.out, hbad.out, if_neg (by decide)]
            exact ⟨none, 0, rfl, World.ownsRow_nil _ _ _ _, hbw⟩
        · obtain rfl : k = us.length := by omega
          rw [List.take_length] at hgo
          have hpa := parse_allW (ws := us.map (·.data.toList)) (fun x hx => by
            obtain ⟨b, hb1, rfl⟩ := List.mem_map.1 hx
            exact hgo b hb1)
          have e6 := madeH_all us
          have hml : (madeH us us.length).length ≤ 1048577 := by rw [madeH_len (Nat.le_refl _)]; omega
          rw [← e6] at hpa
          have h4 := H4.out
          rw [← e6, hpa] at h4
          have h5 := H5.out
          rw [← e6, h4] at h5
          generalize madeH us us.length = T at *
          have Con := Lib.hid (c_tiHand A' c' T wr (RdT.of_own hown) (by omega) (own_capH hown))
          have Ho := Lib.hid hown
          have H45 := Lib.hid (And.intro h5 h4)
          clear h4 h5 hpa e6 hgo hown hb H4 H5
          cases hc : handB T
          · rw [hc] at Con H45
            clear hc
            go_wp2_with (go_at_call 33; refine Con.out.mono ?_; rintro e w5 ⟨rfl, hb5⟩)
            go_ret2
            rw [H45.out.1, H45.out.2, if_neg (by decide)]
            exact ⟨none, 0, rfl, World.ownsRow_nil _ _ _ _, bstep hbw hb5⟩
          · rw [hc] at Con H45
            clear hc
            go_wp2_with (go_at_call 33; refine Con.out.mono ?_; rintro e w5 ⟨rfl, hb5⟩)
            go_ret2
            rw [H45.out.1, H45.out.2, if_pos trivial]
            exact ⟨A', c', rfl, own_base (own_keep Ho.out hb5) hsz1, bstep hbw hb5⟩

end Go.Proofs.YtjdnkcdnppcbhabDoor

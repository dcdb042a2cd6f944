/- The parsing of a hand: the program's own. -/
import Derived.Test.YtjdnkcdnppcbhabDoorHParse
namespace Go.Proofs.YtjdnkcdnppcbhabDoor
open Go.RowKit
set_option linter.unusedVariables false

def okT (w : List UInt8) : Bool := decide (w.length = 2) && goodB (tileW w).1 (tileW w).2
theorem goodB_num {a b : Int} (h : goodB a b = true) : numB a = true ∧ numB b = true := by
  simp only [goodB, Bool.and_eq_true] at h
  exact ⟨h.1, h.2.1⟩
theorem okT_okW {w : List UInt8} (h : okT w = true) : okW w = true := by
  unfold okT at h
  rw [Bool.and_eq_true, decide_eq_true_eq] at h
  obtain ⟨h1, h2⟩ := h
  match w, h1 with
  | [x, y], _ =>
    obtain ⟨n1, n2⟩ := goodB_num h2
    simp [tileW, numB] at n1 n2
    simp [okW]
    omega
theorem parse_bad {ws : List (List UInt8)} {w : List UInt8} (hm : w ∈ ws) (h : okT w = false) : (ws.all okW && handB (parseTo ws)) = false := by
  cases hc : (ws.all okW && handB (parseTo ws))
  · rfl
  · exfalso
    rw [Bool.and_eq_true] at hc
    have h1 := List.all_eq_true.1 hc.1 _ hm
    have h2 := (hd_good hc.2).2 (tileW w) (List.mem_map_of_mem hm)
    unfold okW at h1
    rw [Bool.and_eq_true] at h1
    unfold okT at h
    rw [h1.1, h2] at h
    exact absurd h (by decide)
theorem parse_all {ws : List (List UInt8)} (h : ∀ w ∈ ws, okT w = true) : (ws.all okW && handB (parseTo ws)) = handB (parseTo ws) := by
  rw [List.all_eq_true.2 (fun w hw => okT_okW (h w hw)), Bool.true_and]

/-- The two bytes of a word of two. -/
theorem word_two (b : ByteArray) (h0 : 0 < b.size) (h1 : 1 < b.size) : tileW b.data.toList = (digI b[0], digI b[1]) := by
  have e0 : b.data.toList[0]? = some b[0] := by
    rw [List.getElem?_eq_getElem (by simpa using h0)]
    rfl
  have e1 : b.data.toList[1]? = some b[1] := by
    rw [List.getElem?_eq_getElem (by simpa using h1)]
    rfl
  unfold tileW
  rw [e0, e1]
  rfl
theorem okT_two (b : ByteArray) (h0 : 0 < b.size) (h1 : 1 < b.size) (h2 : b.size = 2) : okT b.data.toList = goodB (digI b[0]) (digI b[1]) := by
  have hl : b.data.toList.length = 2 := by rw [← h2]; simp
  unfold okT
  rw [word_two b h0 h1, hl]
  rfl
theorem okT_bad (b : ByteArray) (h2 : b.size ≠ 2) : okT b.data.toList = false := by
  have hl : b.data.toList.length ≠ 2 := by simpa using h2
  unfold okT
  rw [decide_eq_false hl]
  rfl

/-- One word parsed: the tile, where it spells one. -/
theorem c_parseTile (b : ByteArray) (w : World) :
    Calls Tryd.prog 49 #[.string b] w fun e w' => (∃ p q, e = .returned (.tuple #[.agg #[.int .i64 p, .int .i64 q], .bool (okT b.data.toList)]) ∧ (okT b.data.toList = true → (p, q) = tileW b.data.toList)) ∧ Below w.heap.size w w' := by
  by_cases h2 : b.size = 2
  · have h0 : 0 < b.size := by omega
    have h1 : 1 < b.size := by omega
    have hb : ((b.size : Int) != 2) = false := by rw [h2]; rfl
    refine (c_parseTwo b h0 h1 hb w).mono fun e w' ⟨he, hw⟩ => ⟨?_, hw⟩
    rw [okT_two b h0 h1 h2, word_two b h0 h1]
    refine ⟨_, _, he, fun hg => ?_⟩
    rw [if_pos hg, if_pos hg]
  · refine (c_parseBad b h2 w).mono fun e w' ⟨he, hw⟩ => ⟨?_, hw⟩
    rw [okT_bad b h2]
    exact ⟨_, _, he, fun h => absurd h (by decide)⟩

def madeH (us : List ByteArray) (k : Nat) : List (Int × Int) := (us.take k).map fun b => tileW b.data.toList
theorem madeH_len {us : List ByteArray} {k : Nat} (h : k ≤ us.length) : (madeH us k).length = k := by simp [madeH]; omega
theorem madeH_step {us : List ByteArray} {k : Nat} (h : k < us.length) : madeH us (k + 1) = madeH us k ++ [tileW us[k].data.toList] := by
  unfold madeH
  rw [List.take_succ_eq_append_getElem h, List.map_append]
  rfl
theorem madeH_all (us : List ByteArray) : madeH us us.length = parseTo (us.map (·.data.toList)) := by
  unfold madeH parseTo
  rw [List.take_length, List.map_map]
  rfl

set_option maxRecDepth 100000 in
set_option maxHeartbeats 1500000 in
theorem c_implParseH (s : ByteArray) (m : Int) (w : World) (hm : w.cell? ⟨0, 0, none⟩ = some (.int .i64 m)) (hl : s.size ≤ 1048576) :
    Calls Tryd.prog 26 #[.string s] w (RetT w (parseHL s) (parseB s)) := by
  by_cases hs : s = dash
  · have e1 : parseHL s = [] := if_pos hs
    have e2 : parseB s = true := by unfold parseB; rw [decide_eq_true hs]; rfl
    rw [e1, e2]
    have hd : (s.toList == [45]) = true := by rw [hs]; decide +kernel
    clear e1 e2 hs
    go_enter Tryd.func26, Tryd.ntmps26
    go_wp2
    go_ret2
    exact ⟨none, 0, rfl, World.ownsRow_nil _ _ _ _, by go_grown⟩
  · have hd : (s.toList == [45]) = false := beq_eq_false_iff_ne.2 (fun h => hs (by
      rw [ByteArray.toList_eq] at h
      apply ByteArray.ext
      apply Array.toList_inj.1
      exact h))
    have e2 : parseB s = parseHB s := by unfold parseB; rw [decide_eq_false hs]; rfl
    have e1 : parseHL s = if parseHB s then parseTo (wordsL s.data.toList) else [] := if_neg hs
    rw [e2]
    by_cases h164 : (164 : Int) < s.size
    · have e3 : parseHB s = false := by
        cases h : parseHB s
        · rfl
        · have := parseHB_len h; omega
      rw [e1, e3, if_neg (by decide)]
      clear e1 e2 e3 hs
      go_enter Tryd.func26, Tryd.ntmps26
      go_wp2
      go_ret2
      exact ⟨none, 0, rfl, World.ownsRow_nil _ _ _ _, by go_grown⟩
    · have hall := split_all s
      have hlen := split_len s
      have conS := Lib.hid (Tryd.strings_Split s comma m w (by omega) hm (Nat.le_refl _))
      have hcl : Lib.countB s comma ≤ s.size := Lib.countB_le comma (Nat.le_refl _) _ s (Nat.le_refl _)
      generalize Lib.splitB comma 0 (Lib.countB s comma) s = us at *
      generalize Lib.countB s comma = N at *
      rw [← hlen] at conS
      have e4 : parseHB s = ((us.map (·.data.toList)).all okW && handB (parseTo (us.map (·.data.toList)))) := by rw [hall]; rfl
      have e5 : parseHL s = if parseHB s then parseTo (us.map (·.data.toList)) else [] := by rw [e1, hall]
      have hul : us.length ≤ 1048577 := by omega
      have H4 := Lib.hid e4
      have H5 := Lib.hid e5
      clear e1 e2 e4 e5 hall hlen hcl hs
      go_enter Tryd.func26, Tryd.ntmps26
      go_wp2_with (go_at_call 48; refine conS.out.mono ?_; rintro e w1 ⟨rfl, rfl⟩)
      go_loopw [4, 17] (fun v i wr => ∃ (k : Nat) (A' : Option Addr) (c' : Nat), k ≤ us.length ∧ i = .int .i64 k ∧ v = .slice A' (madeH us k).length c' ∧ (∀ b ∈ us.take k, okT b.data.toList = true) ∧ wr.ownsRow (w.heap.size + 1) 61 2 (.slice A' (madeH us k).length c') (madeH us k).length (cellsT (madeH us k)) ∧ Below (w.heap.size + 1) (w.alloc (.cells (us.map Value.string).toArray 9)) wr) (fun _ i _ => us.length - (intOf i).toNat)
      case atStart => exact ⟨0, none, 0, Nat.zero_le _, rfl, rfl, by simp, World.ownsRow_nil _ _ _ _, Below.refl _ _⟩
      case round =>
        obtain ⟨k, A', c', hk, rfl, rfl, hgo, hown, hb⟩ := hrel
        have hbw : Below w.heap.size w wr := bstep ((Below.refl _ w).alloc (Nat.le_refl _) (.cells (us.map Value.string).toArray 9)) (by rw [World.size_alloc]; exact hb)
        by_cases hlt : k < us.length
        · have g1 : wr.cell? ⟨w.heap.size, k, none⟩ = some (.string us[k]) := by
            rw [hb.cell (p := ⟨w.heap.size, k, none⟩) (by show w.heap.size < w.heap.size + 1; omega)]
            simp [hlt]
          have con := Lib.hid (fun W => c_parseTile us[k] W)
          have hts := Lib.hid (madeH_step hlt)
          have hmem : us[k].data.toList ∈ us.map (·.data.toList) := List.mem_map_of_mem (List.getElem_mem hlt)
          have hsz := hb.size
          have j0 : (0 : Int) ≤ (k : Int) := by omega
          have j1 : (k : Int) < (us.length : Int) := by omega
          cases hok : okT us[k].data.toList
          · have hbad := Lib.hid (parse_bad hmem hok)
            rw [hok] at con
            have Hb := Lib.hid hb
            generalize us[k] = b at *
            clear hown hgo hmem hb hok
            go_wp2_with (go_at_call 49; refine (con.out _).mono ?_; rintro e w2 ⟨⟨p, q, rfl, _⟩, hb2⟩)
            go_ret2
            rw [H5.out, H4.out, hbad.out, if_neg (by decide)]
            exact ⟨none, 0, rfl, World.ownsRow_nil _ _ _ _, (bstep hbw hb2).alloc (bstep hbw hb2).size _⟩
          · rw [hok] at con
            have hgo2 := Lib.hid (show ∀ b ∈ us.take (k + 1), okT b.data.toList = true from by
              rw [List.take_succ_eq_append_getElem hlt]
              intro b hb'
              rcases List.mem_append.1 hb' with h | h
              · exact hgo b h
              · rw [List.mem_singleton.1 h]; exact hok)
            have Hb := Lib.hid hb
            have Ho := Lib.hid hown
            generalize us[k] = b at *
            clear hown hgo hmem hb hok
            have hml : (madeH us k).length ≤ 1048577 := by rw [madeH_len (by omega)]; omega
            have hzw := hbw.size
            go_wp2_with (first | (go_at_call 49; refine (con.out _).mono ?_; rintro e w2 ⟨⟨p, q, rfl, hpq⟩, hb2⟩; have hz2 := hb2.size; have hb02 := bstep hbw hb2; have Ho2 := Lib.hid (((own_keep Ho.out hb2).alloc (.cells #[.int .i64 p, .int .i64 q] 61)).alloc (.cells #[.int .i64 p, .int .i64 q] 61))) | (at_builtin; refine wp_append_tile rfl _ _ rfl (w.heap.size + 1) _ (madeH us k) rfl Ho2.out p q (w2.heap.size + 1) rfl (by simp) (by simp) (by omega) (by simp; omega) ?_; intro A2 c2 w3 hown3 hg3))
            go_roundw
            case rel =>
              refine ⟨k + 1, A2, c2, by omega, by go_num, ?_, hgo2.out, ?_, ?_⟩
              · rw [hts.out, List.length_append]; rfl
              · rw [hts.out, ← hpq trivial, List.length_append]; exact hown3
              · have hq : Below (w.heap.size + 1) (w.alloc (.cells (us.map Value.string).toArray 9)) w2 := by
                  have := bstep (by rw [World.size_alloc]; exact Hb.out) hb2
                  rwa [World.size_alloc] at this
                have hqz := hq.size
                rw [World.size_alloc] at hqz
                exact Below.grown (by go_grown) hg3 (by simp; omega) (fun g hg => (Ho2.out.lt g hg).1)
            case measure => simp [intOf]; omega
        · obtain rfl : k = us.length := by omega
          rw [List.take_length] at hgo
          have hpa := parse_all (ws := us.map (·.data.toList)) (fun x hx => by
            obtain ⟨b, hb1, rfl⟩ := List.mem_map.1 hx
            exact hgo b hb1)
          have e6 := madeH_all us
          have hml : (madeH us us.length).length ≤ 1048577 := by rw [madeH_len (Nat.le_refl _)]; omega
          rw [← e6] at hpa
          have h4 := H4.out
          rw [← e6, hpa] at h4
          have h5 := H5.out
          rw [← e6, h4] at h5
          generalize madeH us us.length = T at *
          have Con := Lib.hid (c_implIsHand A' c' T wr (RdT.of_own hown) (by omega))
          have Ho := Lib.hid hown
          have H45 := Lib.hid (And.intro h5 h4)
          clear h4 h5 hpa e6 hgo hown hb H4 H5
          cases hc : handB T
          · rw [hc] at Con H45
            clear hc
            go_wp2_with (go_at_call 40; refine Con.out.mono ?_; rintro e w5 ⟨rfl, hb5⟩)
            go_ret2
            rw [H45.out.1, H45.out.2, if_neg (by decide)]
            exact ⟨none, 0, rfl, World.ownsRow_nil _ _ _ _, bstep hbw hb5⟩
          · rw [hc] at Con H45
            clear hc
            go_wp2_with (go_at_call 40; refine Con.out.mono ?_; rintro e w5 ⟨rfl, hb5⟩)
            go_ret2
            rw [H45.out.1, H45.out.2, if_pos trivial]
            exact ⟨A', c', rfl, own_base (own_keep Ho.out hb5) (Nat.le_succ _), bstep hbw hb5⟩

end Go.Proofs.YtjdnkcdnppcbhabDoor

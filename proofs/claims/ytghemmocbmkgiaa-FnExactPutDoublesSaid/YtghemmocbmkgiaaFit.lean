/- Tiles of a hand beside a chain, and those that fit it. -/
import Derived.Test.YtghemmocbmkgiaaJoin
import Derived.Test.YtghemmocbmkgiaaTilesC
import Derived.Test.YtghemmocbmkgiaaEnds
import Derived.Test.YtghemmocbmkgiaaLay
import Derived.Test.YtghemmocbmkgiaaReg
namespace Go.Proofs.Ytghemmocbmkgiaa
open Go.RowKit
set_option linter.unusedVariables false

def besB (xs : List Int) (ts : List (Int × Int)) : Bool := chainB xs && handB ts
def besL (xs : List Int) (ts : List (Int × Int)) : List (Int × Int) := if besB xs ts then thoseL ts (tilesC xs) false else []
theorem besL_len (xs : List Int) (ts : List (Int × Int)) : (besL xs ts).length ≤ 110 := by
  unfold besL
  split
  · exact thoseL_len _ _ _
  · simp
theorem bes_less {xs : List Int} {ts : List (Int × Int)} (h : chainB xs = true) : lessHL ts (tilesC xs) = besL xs ts ∧ okAB ts (tilesC xs) = handB ts := by
  have h1 := chain_hand h
  unfold lessHL besL besB okAB
  rw [h, h1, Bool.and_true, Bool.true_and]
  exact ⟨rfl, rfl⟩
theorem own_len {w : World} {base e n c : Nat} {A : Option Addr} {cs : List Value} (h : w.ownsRow base e 2 (.slice A n c) n cs) : n ≤ c := own_cap h

set_option maxRecDepth 100000 in
set_option maxHeartbeats 1000000 in
theorem c_tilesBeside (A : Option Addr) (c : Nat) (xs : List Int) (B : Option Addr) (d : Nat) (ts : List (Int × Int)) (w : World) (hrx : RdI w A xs) (lx : xs.length ≤ 1048576) (hr : RdT w B ts) (hl : ts.length ≤ 1048576) :
    Calls Try.prog 74 #[.slice A xs.length c, .slice B ts.length d] w (RetT w (besL xs ts) (besB xs ts)) := by
  have con := Lib.hid (c_implTiles A c xs w hrx lx)
  cases hc : chainB xs
  · have e1 : besB xs ts = false := by simp [besB, hc]
    have e2 : besL xs ts = [] := by simp [besL, e1]
    rw [e1, e2]
    rw [hc] at con
    clear e1 e2 hc hrx hr
    go_enter Try.func74, Try.ntmps74
    go_wp2_with (go_at_call 28; refine con.out.mono ?_; rintro e w1 ⟨A1, c1, rfl, ho1, hb1⟩)
    go_ret2
    exact ⟨none, 0, rfl, World.ownsRow_nil _ _ _ _, hb1⟩
  · have e1 : besB xs ts = handB ts := by unfold besB; rw [hc]; rfl
    have e2 := bes_less (ts := ts) hc
    have e3 : tilesHL xs = tilesC xs := by simp [tilesHL, hc]
    rw [e1]
    rw [hc, e3] at con
    have htl : (tilesC xs).length ≤ 1048576 := by rw [tilesC_len]; omega
    obtain ⟨us, hus⟩ : ∃ us, us = tilesC xs := ⟨_, rfl⟩
    rw [← hus] at con e2 htl
    have conL := Lib.hid (fun W A' c' (hb : Below w.heap.size w W) (hu : RdT W A' us) => (show Calls Try.prog 86 #[.slice B ts.length d, .slice A' us.length c'] W (RetT W (besL xs ts) (handB ts)) from by
      have := c_implLessHand B d ts A' c' us W (hr.below hb) hl hu htl
      rw [e2.1, e2.2] at this
      exact this))
    clear e1 e2 e3 hc hrx hr hus htl
    go_enter Try.func74, Try.ntmps74
    go_wp2_with (first | (go_at_call 28; refine con.out.mono ?_; rintro e w1 ⟨A1, c1, rfl, ho1, hb1⟩) | (go_at_call 86; refine (conL.out _ _ _ hb1 (RdT.of_own ho1)).mono ?_; rintro e w2 ⟨A2, c2, rfl, ho2, hb2⟩))
    go_ret2
    exact ⟨A2, c2, rfl, own_base ho2 hb1.size, bstep hb1 hb2⟩

/-- A tile has one of two numbers. -/
def fitB (p q : Int) (t : Int × Int) : Bool := (t.1 == p || t.2 == p) || (t.1 == q || t.2 == q)
def gTo (us : List (Int × Int)) (f : Int × Int → Bool) (k : Nat) : List (Int × Int) := (us.take k).filter f
theorem gTo_yes {us : List (Int × Int)} {f : Int × Int → Bool} {k : Nat} (hk : k < us.length) (h : f us[k] = true) : gTo us f (k + 1) = gTo us f k ++ [us[k]] := by
  unfold gTo
  rw [List.take_succ_eq_append_getElem hk, List.filter_append]
  simp [h]
theorem gTo_no {us : List (Int × Int)} {f : Int × Int → Bool} {k : Nat} (hk : k < us.length) (h : f us[k] = false) : gTo us f (k + 1) = gTo us f k := by
  unfold gTo
  rw [List.take_succ_eq_append_getElem hk, List.filter_append]
  simp [h]
theorem gTo_len (us : List (Int × Int)) (f : Int × Int → Bool) (k : Nat) : (gTo us f k).length ≤ us.length := by
  unfold gTo
  exact Nat.le_trans (List.length_filter_le _ _) (by simp; omega)
theorem gTo_all (us : List (Int × Int)) (f : Int × Int → Bool) : gTo us f us.length = us.filter f := by simp [gTo]
def fitHL (xs : List Int) (ts : List (Int × Int)) : List (Int × Int) := if besB xs ts then (thoseL ts (tilesC xs) false).filter (fitB (e0 xs) (e1 xs)) else []
theorem fitHL_len (xs : List Int) (ts : List (Int × Int)) : (fitHL xs ts).length ≤ 110 := by
  unfold fitHL
  split
  · exact Nat.le_trans (List.length_filter_le _ _) (thoseL_len _ _ _)
  · simp
theorem other_nonneg {a b x : Int} (ha : 0 ≤ a) (hb : 0 ≤ b) : (0 ≤ otherI a b x) ↔ (x = a ∨ x = b) := by
  unfold otherI
  split
  · exact ⟨fun _ => .inl ‹_›, fun _ => hb⟩
  · split
    · exact ⟨fun _ => .inr ‹_›, fun _ => ha⟩
    · constructor
      · omega
      · rintro (h | h) <;> contradiction
theorem set_good9 : ∀ t ∈ setL 9, goodB t.1 t.2 = true := by decide +kernel
theorem sortL_good {ts : List (Int × Int)} {t : Int × Int} (h : t ∈ sortL ts) : goodB t.1 t.2 = true := set_good9 t (List.mem_filter.1 h).1
/-- What the specification asks of each tile. -/
def fitG (laid : List (Int × Int)) (p q : Int) (t : Int × Int) : Bool := decide (t ∉ laid) && fitB p q t
theorem fit_two (ts laid : List (Int × Int)) (p q : Int) : (sortL ts).filter (fitG laid p q) = (thoseL ts laid false).filter (fitB p q) := by
  unfold thoseL
  rw [List.filter_filter]
  refine List.filter_congr fun t _ => ?_
  unfold fitG pickB
  by_cases h : t ∈ laid <;> simp [h]

set_option maxRecDepth 100000 in
set_option maxHeartbeats 4000000 in
theorem c_implFit (A : Option Addr) (c : Nat) (xs : List Int) (B : Option Addr) (d : Nat) (ts : List (Int × Int)) (w : World) (hrx : RdI w A xs) (lx : xs.length ≤ 1048576) (hr : RdT w B ts) (hl : ts.length ≤ 1048576) :
    Calls Try.prog 46 #[.slice A xs.length c, .slice B ts.length d] w (RetT w (fitHL xs ts) (besB xs ts)) := by
  have con := Lib.hid (c_tilesBeside A c xs B d ts w hrx lx hr hl)
  have conE := Lib.hid (fun W (hb : Below w.heap.size w W) => c_implEnds A c xs W (hrx.below hb) (by omega))
  cases hb : besB xs ts
  · have e2 : fitHL xs ts = [] := by simp [fitHL, hb]
    rw [e2]
    rw [hb] at con
    clear e2 hb hrx hr conE
    go_enter Try.func46, Try.ntmps46
    go_wp2_with (go_at_call 74; refine con.out.mono ?_; rintro e w1 ⟨A1, c1, rfl, ho1, hb1⟩)
    go_ret2
    exact ⟨none, 0, rfl, World.ownsRow_nil _ _ _ _, hb1⟩
  · have hbl : besL xs ts = thoseL ts (tilesC xs) false := by simp [besL, hb]
    have e2 : fitHL xs ts = (besL xs ts).filter (fitB (e0 xs) (e1 xs)) := by unfold fitHL; rw [if_pos hb, hbl]
    have hlen := besL_len xs ts
    rw [e2, ← gTo_all]
    rw [hb] at con
    generalize besL xs ts = us at *
    generalize e0 xs = p at *
    generalize e1 xs = q at *
    generalize chainB xs = bc at *
    clear e2 hb hrx hr hbl
    go_enter Try.func46, Try.ntmps46
    go_wp2_with (first | (go_at_call 74; refine con.out.mono ?_; rintro e w0 ⟨A1, c1, rfl, ho0, hb0⟩) | (go_at_call 30; refine (conE.out _ hb0).mono ?_; rintro e w1 ⟨rfl, hb01⟩; have ho1 := own_keep ho0 hb01; have hb1 := bstep hb0 hb01))
    have hru := RdT.of_own ho1
    clear con conE ho0 ho1 hb01
    go_loopw [11, 30] (fun v i wr => ∃ (k : Nat) (A' : Option Addr) (c' : Nat), k ≤ us.length ∧ i = .int .i64 k ∧ v = .slice A' (gTo us (fitB p q) k).length c' ∧ wr.ownsRow w1.heap.size 49 2 (.slice A' (gTo us (fitB p q) k).length c') (gTo us (fitB p q) k).length (cellsT (gTo us (fitB p q) k)) ∧ Below w1.heap.size w1 wr) (fun _ i _ => us.length - (intOf i).toNat)
    case atStart => exact ⟨0, none, 0, Nat.zero_le _, rfl, rfl, World.ownsRow_nil _ _ _ _, Below.refl _ _⟩
    case round =>
      obtain ⟨k, A', c', hk, rfl, rfl, hown, hb⟩ := hrel
      have hpl := gTo_len us (fitB p q) k
      by_cases hlt : k < us.length
      · obtain ⟨bk, off, rfl, hbk, hc⟩ := hru.at_ hlt
        have g1 := (hb.cell (p := ⟨bk, _, none⟩) hbk).trans (hc k hlt).1
        have g2 := (hb.cell (p := ⟨bk, _, none⟩) hbk).trans (hc k hlt).2
        have Hb := Lib.hid hb
        have Ho := Lib.hid hown
        have hsz := hb.size
        have hy := Lib.hid (fun h => gTo_yes (f := fitB p q) hlt h)
        have hn := Lib.hid (fun h => gTo_no (f := fitB p q) hlt h)
        obtain ⟨x, hx⟩ : ∃ x, x = us[k] := ⟨_, rfl⟩
        rw [← hx] at g1 g2 hy hn
        obtain ⟨x1, x2⟩ := x
        simp only at g1 g2
        clear hc hb hown hru hx
        have Ho2 := Lib.hid ((Ho.out.alloc (.cells #[.int .i64 x1, .int .i64 x2] 49)).alloc (.cells #[.int .i64 x1, .int .i64 x2] 49))
        cases h1 : (x1 == p)
        · cases h2 : (x2 == p)
          · cases h3 : (x1 == q)
            · cases h4 : (x2 == q)
              · have hst := Lib.hid (hn.out (by simp [fitB, h1, h2, h3, h4]))
                clear hy hn
                go_wp2
                go_roundw
                case rel => exact ⟨k + 1, A', c', by omega, by go_num, by rw [hst.out], by rw [hst.out]; exact Ho.out.alloc _, by have hb0 := Hb.out; go_grown⟩
                case measure => simp [intOf]; omega
              · have hst := Lib.hid (hy.out (by simp [fitB, h1, h2, h3, h4]))
                clear hy hn
                go_wp2_with (at_builtin; refine wp_append_tile rfl _ _ rfl w1.heap.size _ _ rfl Ho2.out x1 x2 (wr.heap.size + 1) rfl (by simp) (by simp) (by omega) (by simp; omega) ?_; intro A2 c2 w3 hown3 hg3)
                go_roundw
                case rel =>
                  refine ⟨k + 1, A2, c2, by omega, by go_num, by rw [hst.out, List.length_append]; rfl, ?_, ?_⟩
                  · rw [hst.out, List.length_append]; exact hown3
                  · have hb0 := Hb.out
                    exact Below.grown (by go_grown) hg3 (by simp; omega) (fun g hg => (Ho2.out.lt g hg).1)
                case measure => simp [intOf]; omega
            · have hst := Lib.hid (hy.out (by simp [fitB, h1, h2, h3]))
              clear hy hn
              go_wp2_with (at_builtin; refine wp_append_tile rfl _ _ rfl w1.heap.size _ _ rfl Ho2.out x1 x2 (wr.heap.size + 1) rfl (by simp) (by simp) (by omega) (by simp; omega) ?_; intro A2 c2 w3 hown3 hg3)
              go_roundw
              case rel =>
                refine ⟨k + 1, A2, c2, by omega, by go_num, by rw [hst.out, List.length_append]; rfl, ?_, ?_⟩
                · rw [hst.out, List.length_append]; exact hown3
                · have hb0 := Hb.out
                  exact Below.grown (by go_grown) hg3 (by simp; omega) (fun g hg => (Ho2.out.lt g hg).1)
              case measure => simp [intOf]; omega
          · have hst := Lib.hid (hy.out (by simp [fitB, h1, h2]))
            clear hy hn
            go_wp2_with (at_builtin; refine wp_append_tile rfl _ _ rfl w1.heap.size _ _ rfl Ho2.out x1 x2 (wr.heap.size + 1) rfl (by simp) (by simp) (by omega) (by simp; omega) ?_; intro A2 c2 w3 hown3 hg3)
            go_roundw
            case rel =>
              refine ⟨k + 1, A2, c2, by omega, by go_num, by rw [hst.out, List.length_append]; rfl, ?_, ?_⟩
              · rw [hst.out, List.length_append]; exact hown3
              · have hb0 := Hb.out
                exact Below.grown (by go_grown) hg3 (by simp; omega) (fun g hg => (Ho2.out.lt g hg).1)
            case measure => simp [intOf]; omega
        · have hst := Lib.hid (hy.out (by simp [fitB, h1]))
          clear hy hn
          go_wp2_with (at_builtin; refine wp_append_tile rfl _ _ rfl w1.heap.size _ _ rfl Ho2.out x1 x2 (wr.heap.size + 1) rfl (by simp) (by simp) (by omega) (by simp; omega) ?_; intro A2 c2 w3 hown3 hg3)
          go_roundw
          case rel =>
            refine ⟨k + 1, A2, c2, by omega, by go_num, by rw [hst.out, List.length_append]; rfl, ?_, ?_⟩
            · rw [hst.out, List.length_append]; exact hown3
            · have hb0 := Hb.out
              exact Below.grown (by go_grown) hg3 (by simp; omega) (fun g hg => (Ho2.out.lt g hg).1)
          case measure => simp [intOf]; omega
      · obtain rfl : k = us.length := by omega
        go_wp2
        go_ret2
        exact ⟨A', c', rfl, own_base hown hb1.size, bstep hb1 hb⟩

set_option maxRecDepth 100000 in
set_option maxHeartbeats 4000000 in
theorem c_specFit (A : Option Addr) (c : Nat) (xs : List Int) (B : Option Addr) (d : Nat) (ts : List (Int × Int)) (w : World) (hrx : RdI w A xs) (lx : xs.length ≤ 1048576) (hr : RdT w B ts) (hl : ts.length ≤ 1048576) (hcap : ts.length ≤ d) :
    Calls Try.prog 45 #[.slice A xs.length c, .slice B ts.length d] w (RetT w (fitHL xs ts) (besB xs ts)) := by
  have conX := Lib.hid (c_haGood A c xs w hrx (by omega))
  have conH := Lib.hid (fun W (hb : Below w.heap.size w W) => c_tiHand B d ts W (hr.below hb) (by omega) hcap)
  cases hc : chainB xs
  · have e1 : besB xs ts = false := by simp [besB, hc]
    have e2 : fitHL xs ts = [] := by simp [fitHL, e1]
    rw [e1, e2]
    rw [hc] at conX
    clear e1 e2 hc hrx hr
    go_enter Try.func45, Try.ntmps45
    go_wp2_with (go_at_call 58; refine conX.out.mono ?_; rintro e w1 ⟨rfl, hb1⟩)
    go_ret2
    exact ⟨none, 0, rfl, World.ownsRow_nil _ _ _ _, hb1⟩
  · rw [hc] at conX
    cases hh : handB ts
    · have e1 : besB xs ts = false := by simp [besB, hh]
      have e2 : fitHL xs ts = [] := by simp [fitHL, e1]
      rw [e1, e2]
      rw [hh] at conH
      clear e1 e2 hc hh hrx hr
      go_enter Try.func45, Try.ntmps45
      go_wp2_with (first | (go_at_call 58; refine conX.out.mono ?_; rintro e w1 ⟨rfl, hb1⟩) | (go_at_call 49; refine (conH.out _ hb1).mono ?_; rintro e w2 ⟨rfl, hb2⟩))
      go_ret2
      exact ⟨none, 0, rfl, World.ownsRow_nil _ _ _ _, bstep hb1 hb2⟩
    · rw [hh] at conH
      have eb : besB xs ts = true := by simp [besB, hc, hh]
      obtain ⟨n, hn⟩ : ∃ n, xs.length = n + 1 := ⟨xs.length - 1, by have := (chain_len hc).1; omega⟩
      have e2 : fitHL xs ts = (sortL ts).filter (fitG (tilesC xs) (xs.getD 0 0) (xs.getD n 0)) := by
        unfold fitHL e0 e1
        rw [if_pos eb, if_pos hc, if_pos hc, fit_two, hn]
        rfl
      obtain ⟨bx, ox, rfl, g0, g9⟩ := hrx.ends hn
      have conL := Lib.hid (fun W (hb : Below w.heap.size w W) => c_haTiles (some ⟨bx, ox, none⟩) c xs W (hrx.below hb) lx)
      have conS := Lib.hid (fun W (hb : Below w.heap.size w W) => c_tiSort B d ts W (hr.below hb) hl)
      have hlen := sortL_len ts
      have hgood := Lib.hid (fun k (hk : k < (sortL ts).length) => sortL_good (List.getElem_mem hk))
      have htl : (tilesC xs).length ≤ 1048576 := by rw [tilesC_len]; omega
      rw [eb, e2, ← gTo_all]
      generalize sortL ts = us at *
      generalize tilesC xs = laid at *
      have hp0 := numB_getD (chain_num hc) 0
      have hq0 := numB_getD (chain_num hc) n
      generalize xs.getD 0 0 = p at *
      generalize xs.getD n 0 = q at *
      rw [hn] at conX conL lx ⊢
      clear eb e2 hc hh hrx hr hn
      go_enter Try.func45, Try.ntmps45
      go_wp2_with (first | (go_at_call 58; refine conX.out.mono ?_; rintro e wa ⟨rfl, hba⟩) | (go_at_call 49; refine (conH.out _ hba).mono ?_; rintro e wb ⟨rfl, hbb⟩; have hbab := bstep hba hbb) | (go_at_call 61; refine (conL.out _ hbab).mono ?_; rintro e wc ⟨L, cL, rfl, hoc, hbc⟩; have hbabc := bstep hbab hbc) | (go_at_call 52; refine (conS.out _ hbabc).mono ?_; rintro e w1 ⟨U, cU, rfl, ho1, hbd⟩))
      have hb1 := bstep hbabc hbd
      have hrl := RdT.below (RdT.of_own hoc) hbd
      have hru := RdT.of_own ho1
      have k0 := keepc hb1 g0
      have k9 := keepc hb1 g9
      have hlaid : laid.length ≤ 9223372036854775807 := by omega
      clear hba hbb hbc hbd hbab hbabc conX conH conL conS
      go_loopw [6, 23] (fun v i wr => ∃ (k : Nat) (A' : Option Addr) (c' : Nat), k ≤ us.length ∧ i = .int .i64 k ∧ v = .slice A' (gTo us (fitG laid p q) k).length c' ∧ wr.ownsRow w1.heap.size 49 2 (.slice A' (gTo us (fitG laid p q) k).length c') (gTo us (fitG laid p q) k).length (cellsT (gTo us (fitG laid p q) k)) ∧ Below w1.heap.size w1 wr) (fun _ i _ => us.length - (intOf i).toNat)
      case atStart => exact ⟨0, none, 0, Nat.zero_le _, rfl, rfl, World.ownsRow_nil _ _ _ _, Below.refl _ _⟩
      case round =>
        clear ho1 hoc
        obtain ⟨k, A', c', hk, rfl, rfl, hown, hb⟩ := hrel
        have hpl := gTo_len us (fitG laid p q) k
        by_cases hlt : k < us.length
        · obtain ⟨bk, off, rfl, hbk, hc⟩ := hru.at_ hlt
          have g1 := (hb.cell (p := ⟨bk, _, none⟩) hbk).trans (hc k hlt).1
          have g2 := (hb.cell (p := ⟨bk, _, none⟩) hbk).trans (hc k hlt).2
          have hgk := hgood.out k hlt
          have hy := Lib.hid (fun h => gTo_yes (f := fitG laid p q) hlt h)
          have hn := Lib.hid (fun h => gTo_no (f := fitG laid p q) hlt h)
          obtain ⟨x, hx⟩ : ∃ x, x = us[k] := ⟨_, rfl⟩
          rw [← hx] at g1 g2 hy hn hgk
          obtain ⟨x1, x2⟩ := x
          simp only at g1 g2 hgk
          have j0 := keepc hb k0
          have j9 := keepc hb k9
          have hbq1 : Below w1.heap.size w1 (wr.alloc (.cells #[.int .i64 x1, .int .i64 x2] 49)) := hb.alloc hb.size _
          have Hrl := Lib.hid (hrl.below hbq1)
          have Ho := Lib.hid (hown.alloc (.cells #[.int .i64 x1, .int .i64 x2] 49))
          have s0 : (wr.alloc (.cells #[.int .i64 x1, .int .i64 x2] 49)).cell? ⟨wr.heap.size, 0, none⟩ = some (.int .i64 x1) := by simp
          have s1 : (wr.alloc (.cells #[.int .i64 x1, .int .i64 x2] 49)).cell? ⟨wr.heap.size, 1, none⟩ = some (.int .i64 x2) := by simp
          have s2 := keepc ((Below.refl _ wr).alloc (o := .cells #[.int .i64 x1, .int .i64 x2] 49) (Nat.le_refl _)) j0
          have s3 := keepc ((Below.refl _ wr).alloc (o := .cells #[.int .i64 x1, .int .i64 x2] 49) (Nat.le_refl _)) j9
          have hgn := good_bd hgk
          have hP := Lib.hid (placeI_nonneg (ts := laid) (t := (x1, x2)))
          clear hc hb hown hru hx hrl j0 j9 k0 k9
          go_wp2_with fail
          clear g1 g2
          obtain ⟨wq, hwq⟩ : ∃ wq, wq = wr.alloc (.cells #[.int .i64 x1, .int .i64 x2] 49) := ⟨_, rfl⟩
          rw [← hwq] at hbq1 Hrl Ho s0 s1 s2 s3 ⊢
          obtain ⟨G, hG⟩ : ∃ G, G = wr.heap.size := ⟨_, rfl⟩
          rw [← hG] at s0 s1 ⊢
          have Hbq := Lib.hid (Below.refl wq.heap.size wq)
          have Hbq1 := Lib.hid hbq1
          clear hwq hG hbq1
          have i2 : (0 : Int) < (n : Int) + 1 := by omega
          have i1 : (n : Int) < (n : Int) + 1 := by omega
          have i0 : (0 : Int) ≤ (n : Int) := by omega
          have iw : IntKind.i64.wrap ((n : Int) + 1 - 1) = (n : Int) := by rw [IntWalk.i64_in _ (by omega)]; omega
          have iw' : IntKind.i64.wrap (n : Int) = (n : Int) := IntWalk.i64_in _ (by omega)
          by_cases hin : (x1, x2) ∈ laid
          · have hst := Lib.hid (hn.out (by simp [fitG, hin]))
            have hd : decide (placeI laid (x1, x2) < 0) = false := decide_eq_false (by have := hP.out.2 hin; omega)
            clear hin hy hn
            refine wp_region_held_drew (S := fun w' => w'.cell? ⟨G, 0, none⟩ = some (.int .i64 x1) ∧ w'.cell? ⟨G, 1, none⟩ = some (.int .i64 x2) ∧ w'.cell? ⟨bx, ox, none⟩ = some (.int .i64 p) ∧ w'.cell? ⟨bx, ox + n, none⟩ = some (.int .i64 q)) (by kernel_rfl) ⟨s0, s1, s2, s3⟩ (fun hH0 => ?_)
            refine reg_take 0 rfl (by kernel_rfl) (by kernel_rfl) (by kernel_rfl) (fun _ _ _ h => h) (by rfl) (fun w _ => by first | (go_simp; done) | (go_simp; with_reducible rfl)) (by assumption) ?_
            try simp only [Act.put, List.setIfInBounds_toArray, List.set_cons_zero, List.set_cons_succ, List.getElem_toArray, List.getElem_cons_zero, List.getElem_cons_succ]
            refine reg_take 1 rfl (by kernel_rfl) (by kernel_rfl) (by kernel_rfl) (fun _ _ _ h => h) (by rfl) (fun w hSw => by (try dsimp only at hSw); first | (go_simp; done) | (go_simp; with_reducible rfl)) (by assumption) ?_
            try simp only [Act.put, List.setIfInBounds_toArray, List.set_cons_zero, List.set_cons_succ, List.getElem_toArray, List.getElem_cons_zero, List.getElem_cons_succ]
            refine wpAnyH_ready (rs := [2]) (by kernel_rfl) (by simp) ?_
            refine AllReadyH.cons (i := 2) rfl (fun K hK => ?_) AllReadyH.nil
            go_simp
            refine (c_tiPlace L cL laid x1 x2 _ (Hrl.out.below (Hbq.out.trans (Below.refl _ _).drew)) hlaid).mono ?_
            rintro e w5 ⟨rfl, hb5⟩
            have s50 := keepc hb5 (g1d _ s0)
            have s51 := keepc hb5 (g1d _ s1)
            have s52 := keepc hb5 (g1d _ s2)
            have s53 := keepc hb5 (g1d _ s3)
            refine hK.out _ _ ⟨s50, s51, s52, s53⟩ (fun hH2 => ?_)
            clear hK K
            try simp only [Act.put, List.setIfInBounds_toArray, List.set_cons_zero, List.set_cons_succ, List.getElem_toArray, List.getElem_cons_zero, List.getElem_cons_succ]
            refine reg_take 3 rfl (by kernel_rfl) (by kernel_rfl) (by kernel_rfl) (fun _ _ _ h => h) (by rfl) (fun w _ => by first | (go_simp; done) | (go_simp; with_reducible rfl)) (by assumption) ?_
            try simp only [Act.put, List.setIfInBounds_toArray, List.set_cons_zero, List.set_cons_succ, List.getElem_toArray, List.getElem_cons_zero, List.getElem_cons_succ]
            refine reg_take 4 rfl (by kernel_rfl) (by kernel_rfl) (by kernel_rfl) (fun _ _ _ h => h) (by rfl) (fun w _ => by first | (go_simp; done) | (go_simp; with_reducible rfl)) (by assumption) ?_
            try simp only [Act.put, List.setIfInBounds_toArray, List.set_cons_zero, List.set_cons_succ, List.getElem_toArray, List.getElem_cons_zero, List.getElem_cons_succ]
            refine reg_skip 5 rfl (by kernel_rfl) (by kernel_rfl) (by kernel_rfl) (fun _ _ _ h => h) (by rfl) (by assumption) ?_
            try simp only [Act.put, List.setIfInBounds_toArray, List.set_cons_zero, List.set_cons_succ, List.getElem_toArray, List.getElem_cons_zero, List.getElem_cons_succ]
            refine reg_skip 6 rfl (by kernel_rfl) (by kernel_rfl) (by kernel_rfl) (fun _ _ _ h => h) (by rfl) (by assumption) ?_
            try simp only [Act.put, List.setIfInBounds_toArray, List.set_cons_zero, List.set_cons_succ, List.getElem_toArray, List.getElem_cons_zero, List.getElem_cons_succ]
            refine reg_skip 7 rfl (by kernel_rfl) (by kernel_rfl) (by kernel_rfl) (fun _ _ _ h => h) (by rfl) (by assumption) ?_
            try simp only [Act.put, List.setIfInBounds_toArray, List.set_cons_zero, List.set_cons_succ, List.getElem_toArray, List.getElem_cons_zero, List.getElem_cons_succ]
            refine reg_skip 8 rfl (by kernel_rfl) (by kernel_rfl) (by kernel_rfl) (fun _ _ _ h => h) (by rfl) (by assumption) ?_
            try simp only [Act.put, List.setIfInBounds_toArray, List.set_cons_zero, List.set_cons_succ, List.getElem_toArray, List.getElem_cons_zero, List.getElem_cons_succ]
            refine reg_skip 9 rfl (by kernel_rfl) (by kernel_rfl) (by kernel_rfl) (fun _ _ _ h => h) (by rfl) (by assumption) ?_
            try simp only [Act.put, List.setIfInBounds_toArray, List.set_cons_zero, List.set_cons_succ, List.getElem_toArray, List.getElem_cons_zero, List.getElem_cons_succ]
            refine reg_skip 10 rfl (by kernel_rfl) (by kernel_rfl) (by kernel_rfl) (fun _ _ _ h => h) (by rfl) (by assumption) ?_
            try simp only [Act.put, List.setIfInBounds_toArray, List.set_cons_zero, List.set_cons_succ, List.getElem_toArray, List.getElem_cons_zero, List.getElem_cons_succ]
            refine reg_skip 11 rfl (by kernel_rfl) (by kernel_rfl) (by kernel_rfl) (fun _ _ _ h => h) (by rfl) (by assumption) ?_
            try simp only [Act.put, List.setIfInBounds_toArray, List.set_cons_zero, List.set_cons_succ, List.getElem_toArray, List.getElem_cons_zero, List.getElem_cons_succ]
            refine reg_skip 12 rfl (by kernel_rfl) (by kernel_rfl) (by kernel_rfl) (fun _ _ _ h => h) (by rfl) (by assumption) ?_
            try simp only [Act.put, List.setIfInBounds_toArray, List.set_cons_zero, List.set_cons_succ, List.getElem_toArray, List.getElem_cons_zero, List.getElem_cons_succ]
            refine reg_skip 13 rfl (by kernel_rfl) (by kernel_rfl) (by kernel_rfl) (fun _ _ _ h => h) (by rfl) (by assumption) ?_
            try simp only [Act.put, List.setIfInBounds_toArray, List.set_cons_zero, List.set_cons_succ, List.getElem_toArray, List.getElem_cons_zero, List.getElem_cons_succ]
            refine reg_skip 14 rfl (by kernel_rfl) (by kernel_rfl) (by kernel_rfl) (fun _ _ _ h => h) (by rfl) (by assumption) ?_
            try simp only [Act.put, List.setIfInBounds_toArray, List.set_cons_zero, List.set_cons_succ, List.getElem_toArray, List.getElem_cons_zero, List.getElem_cons_succ]
            refine reg_skip 15 rfl (by kernel_rfl) (by kernel_rfl) (by kernel_rfl) (fun _ _ _ h => h) (by rfl) (by assumption) ?_
            try simp only [Act.put, List.setIfInBounds_toArray, List.set_cons_zero, List.set_cons_succ, List.getElem_toArray, List.getElem_cons_zero, List.getElem_cons_succ]
            refine reg_skip 16 rfl (by kernel_rfl) (by kernel_rfl) (by kernel_rfl) (fun _ _ _ h => h) (by rfl) (by assumption) ?_
            try simp only [Act.put, List.setIfInBounds_toArray, List.set_cons_zero, List.set_cons_succ, List.getElem_toArray, List.getElem_cons_zero, List.getElem_cons_succ]
            refine reg_skip 17 rfl (by kernel_rfl) (by kernel_rfl) (by kernel_rfl) (fun _ _ _ h => h) (by rfl) (by assumption) ?_
            try simp only [Act.put, List.setIfInBounds_toArray, List.set_cons_zero, List.set_cons_succ, List.getElem_toArray, List.getElem_cons_zero, List.getElem_cons_succ]
            refine reg_skip 18 rfl (by kernel_rfl) (by kernel_rfl) (by kernel_rfl) (fun _ _ _ h => h) (by rfl) (by assumption) ?_
            try simp only [Act.put, List.setIfInBounds_toArray, List.set_cons_zero, List.set_cons_succ, List.getElem_toArray, List.getElem_cons_zero, List.getElem_cons_succ]
            refine reg_skip 19 rfl (by kernel_rfl) (by kernel_rfl) (by kernel_rfl) (fun _ _ _ h => h) (by rfl) (by assumption) ?_
            try simp only [Act.put, List.setIfInBounds_toArray, List.set_cons_zero, List.set_cons_succ, List.getElem_toArray, List.getElem_cons_zero, List.getElem_cons_succ]
            refine reg_skip 20 rfl (by kernel_rfl) (by kernel_rfl) (by kernel_rfl) (fun _ _ _ h => h) (by rfl) (by assumption) ?_
            try simp only [Act.put, List.setIfInBounds_toArray, List.set_cons_zero, List.set_cons_succ, List.getElem_toArray, List.getElem_cons_zero, List.getElem_cons_succ]
            refine reg_skip 21 rfl (by kernel_rfl) (by kernel_rfl) (by kernel_rfl) (fun _ _ _ h => h) (by rfl) (by assumption) ?_
            try simp only [Act.put, List.setIfInBounds_toArray, List.set_cons_zero, List.set_cons_succ, List.getElem_toArray, List.getElem_cons_zero, List.getElem_cons_succ]
            refine reg_take 22 rfl (by kernel_rfl) (by kernel_rfl) (by kernel_rfl) (fun _ _ _ h => h) (by rfl) (fun w _ => by first | (go_simp; done) | (go_simp; with_reducible rfl)) (by assumption) ?_
            try simp only [Act.put, List.setIfInBounds_toArray, List.set_cons_zero, List.set_cons_succ, List.getElem_toArray, List.getElem_cons_zero, List.getElem_cons_succ]
            refine wpAnyH_done (by kernel_rfl) ?_ _
            go_wp2
            go_roundw
            case rel => exact ⟨k + 1, A', c', by omega, by go_num, by rw [hst.out], by rw [hst.out]; exact own_keep (own_drew Ho.out) hb5, bstep Hbq1.out.drew hb5⟩
            case measure => simp [intOf]; omega
          · have hd : decide (placeI laid (x1, x2) < 0) = true := decide_eq_true (by have := mt hP.out.1 hin; omega)
            by_cases h1 : p = x1 ∨ p = x2
            · have hst := Lib.hid (hy.out (by simp only [fitG, fitB, hin, not_false_eq_true, decide_true, Bool.true_and, Bool.or_eq_true, beq_iff_eq]; omega))
              have hd1 : decide (0 ≤ otherI x1 x2 p) = true := decide_eq_true ((other_nonneg (by omega) (by omega)).2 h1)
              clear hin hy hn h1
              refine wp_region_held_drew (S := fun w' => w'.cell? ⟨G, 0, none⟩ = some (.int .i64 x1) ∧ w'.cell? ⟨G, 1, none⟩ = some (.int .i64 x2) ∧ w'.cell? ⟨bx, ox, none⟩ = some (.int .i64 p) ∧ w'.cell? ⟨bx, ox + n, none⟩ = some (.int .i64 q)) (by kernel_rfl) ⟨s0, s1, s2, s3⟩ (fun hH0 => ?_)
              refine reg_take 0 rfl (by kernel_rfl) (by kernel_rfl) (by kernel_rfl) (fun _ _ _ h => h) (by rfl) (fun w _ => by first | (go_simp; done) | (go_simp; with_reducible rfl)) (by assumption) ?_
              try simp only [Act.put, List.setIfInBounds_toArray, List.set_cons_zero, List.set_cons_succ, List.getElem_toArray, List.getElem_cons_zero, List.getElem_cons_succ]
              refine reg_take 1 rfl (by kernel_rfl) (by kernel_rfl) (by kernel_rfl) (fun _ _ _ h => h) (by rfl) (fun w hSw => by (try dsimp only at hSw); first | (go_simp; done) | (go_simp; with_reducible rfl)) (by assumption) ?_
              try simp only [Act.put, List.setIfInBounds_toArray, List.set_cons_zero, List.set_cons_succ, List.getElem_toArray, List.getElem_cons_zero, List.getElem_cons_succ]
              refine wpAnyH_ready (rs := [2]) (by kernel_rfl) (by simp) ?_
              refine AllReadyH.cons (i := 2) rfl (fun K hK => ?_) AllReadyH.nil
              go_simp
              refine (c_tiPlace L cL laid x1 x2 _ (Hrl.out.below (Hbq.out.trans (Below.refl _ _).drew)) hlaid).mono ?_
              rintro e w5 ⟨rfl, hb5⟩
              have s50 := keepc hb5 (g1d _ s0)
              have s51 := keepc hb5 (g1d _ s1)
              have s52 := keepc hb5 (g1d _ s2)
              have s53 := keepc hb5 (g1d _ s3)
              refine hK.out _ _ ⟨s50, s51, s52, s53⟩ (fun hH2 => ?_)
              clear hK K
              try simp only [Act.put, List.setIfInBounds_toArray, List.set_cons_zero, List.set_cons_succ, List.getElem_toArray, List.getElem_cons_zero, List.getElem_cons_succ]
              refine reg_take 3 rfl (by kernel_rfl) (by kernel_rfl) (by kernel_rfl) (fun _ _ _ h => h) (by rfl) (fun w _ => by first | (go_simp; done) | (go_simp; with_reducible rfl)) (by assumption) ?_
              try simp only [Act.put, List.setIfInBounds_toArray, List.set_cons_zero, List.set_cons_succ, List.getElem_toArray, List.getElem_cons_zero, List.getElem_cons_succ]
              refine reg_take 4 rfl (by kernel_rfl) (by kernel_rfl) (by kernel_rfl) (fun _ _ _ h => h) (by rfl) (fun w _ => by first | (go_simp; done) | (go_simp; with_reducible rfl)) (by assumption) ?_
              try simp only [Act.put, List.setIfInBounds_toArray, List.set_cons_zero, List.set_cons_succ, List.getElem_toArray, List.getElem_cons_zero, List.getElem_cons_succ]
              refine reg_take 5 rfl (by kernel_rfl) (by kernel_rfl) (by kernel_rfl) (fun _ _ _ h => h) (by rfl) (fun w hSw => by (try dsimp only at hSw); first | (go_simp; done) | (go_simp; with_reducible rfl)) (by assumption) ?_
              try simp only [Act.put, List.setIfInBounds_toArray, List.set_cons_zero, List.set_cons_succ, List.getElem_toArray, List.getElem_cons_zero, List.getElem_cons_succ]
              refine reg_take 6 rfl (by kernel_rfl) (by kernel_rfl) (by kernel_rfl) (fun _ _ _ h => h) (by rfl) (fun w _ => by first | (go_simp; done) | (go_simp; with_reducible rfl)) (by assumption) ?_
              try simp only [Act.put, List.setIfInBounds_toArray, List.set_cons_zero, List.set_cons_succ, List.getElem_toArray, List.getElem_cons_zero, List.getElem_cons_succ]
              refine reg_take 7 rfl (by kernel_rfl) (by kernel_rfl) (by kernel_rfl) (fun _ _ _ h => h) (by rfl) (fun w _ => by first | (go_simp; done) | (go_simp; with_reducible rfl)) (by assumption) ?_
              try simp only [Act.put, List.setIfInBounds_toArray, List.set_cons_zero, List.set_cons_succ, List.getElem_toArray, List.getElem_cons_zero, List.getElem_cons_succ]
              refine reg_take 8 rfl (by kernel_rfl) (by kernel_rfl) (by kernel_rfl) (fun _ _ _ h => h) (by rfl) (fun w hSw => by (try dsimp only at hSw); first | (go_simp; done) | (go_simp; with_reducible rfl)) (by assumption) ?_
              try simp only [Act.put, List.setIfInBounds_toArray, List.set_cons_zero, List.set_cons_succ, List.getElem_toArray, List.getElem_cons_zero, List.getElem_cons_succ]
              refine wpAnyH_ready (rs := [9]) (by kernel_rfl) (by simp) ?_
              refine AllReadyH.cons (i := 9) rfl (fun K hK => ?_) AllReadyH.nil
              go_simp
              refine (c_haOther x1 x2 p _).mono ?_
              rintro e w6 ⟨rfl, hb6⟩
              have s60 := keepc hb6 s50
              have s61 := keepc hb6 s51
              have s62 := keepc hb6 s52
              have s63 := keepc hb6 s53
              refine hK.out _ _ ⟨s60, s61, s62, s63⟩ (fun hH9 => ?_)
              clear hK K
              try simp only [Act.put, List.setIfInBounds_toArray, List.set_cons_zero, List.set_cons_succ, List.getElem_toArray, List.getElem_cons_zero, List.getElem_cons_succ]
              refine reg_take 10 rfl (by kernel_rfl) (by kernel_rfl) (by kernel_rfl) (fun _ _ _ h => h) (by rfl) (fun w _ => by first | (go_simp; done) | (go_simp; with_reducible rfl)) (by assumption) ?_
              try simp only [Act.put, List.setIfInBounds_toArray, List.set_cons_zero, List.set_cons_succ, List.getElem_toArray, List.getElem_cons_zero, List.getElem_cons_succ]
              refine reg_take 11 rfl (by kernel_rfl) (by kernel_rfl) (by kernel_rfl) (fun _ _ _ h => h) (by rfl) (fun w _ => by first | (go_simp; done) | (go_simp; with_reducible rfl)) (by assumption) ?_
              try simp only [Act.put, List.setIfInBounds_toArray, List.set_cons_zero, List.set_cons_succ, List.getElem_toArray, List.getElem_cons_zero, List.getElem_cons_succ]
              refine reg_skip 12 rfl (by kernel_rfl) (by kernel_rfl) (by kernel_rfl) (fun _ _ _ h => h) (by rfl) (by assumption) ?_
              try simp only [Act.put, List.setIfInBounds_toArray, List.set_cons_zero, List.set_cons_succ, List.getElem_toArray, List.getElem_cons_zero, List.getElem_cons_succ]
              refine reg_skip 13 rfl (by kernel_rfl) (by kernel_rfl) (by kernel_rfl) (fun _ _ _ h => h) (by rfl) (by assumption) ?_
              try simp only [Act.put, List.setIfInBounds_toArray, List.set_cons_zero, List.set_cons_succ, List.getElem_toArray, List.getElem_cons_zero, List.getElem_cons_succ]
              refine reg_skip 14 rfl (by kernel_rfl) (by kernel_rfl) (by kernel_rfl) (fun _ _ _ h => h) (by rfl) (by assumption) ?_
              try simp only [Act.put, List.setIfInBounds_toArray, List.set_cons_zero, List.set_cons_succ, List.getElem_toArray, List.getElem_cons_zero, List.getElem_cons_succ]
              refine reg_skip 15 rfl (by kernel_rfl) (by kernel_rfl) (by kernel_rfl) (fun _ _ _ h => h) (by rfl) (by assumption) ?_
              try simp only [Act.put, List.setIfInBounds_toArray, List.set_cons_zero, List.set_cons_succ, List.getElem_toArray, List.getElem_cons_zero, List.getElem_cons_succ]
              refine reg_skip 16 rfl (by kernel_rfl) (by kernel_rfl) (by kernel_rfl) (fun _ _ _ h => h) (by rfl) (by assumption) ?_
              try simp only [Act.put, List.setIfInBounds_toArray, List.set_cons_zero, List.set_cons_succ, List.getElem_toArray, List.getElem_cons_zero, List.getElem_cons_succ]
              refine reg_skip 17 rfl (by kernel_rfl) (by kernel_rfl) (by kernel_rfl) (fun _ _ _ h => h) (by rfl) (by assumption) ?_
              try simp only [Act.put, List.setIfInBounds_toArray, List.set_cons_zero, List.set_cons_succ, List.getElem_toArray, List.getElem_cons_zero, List.getElem_cons_succ]
              refine reg_skip 18 rfl (by kernel_rfl) (by kernel_rfl) (by kernel_rfl) (fun _ _ _ h => h) (by rfl) (by assumption) ?_
              try simp only [Act.put, List.setIfInBounds_toArray, List.set_cons_zero, List.set_cons_succ, List.getElem_toArray, List.getElem_cons_zero, List.getElem_cons_succ]
              refine reg_skip 19 rfl (by kernel_rfl) (by kernel_rfl) (by kernel_rfl) (fun _ _ _ h => h) (by rfl) (by assumption) ?_
              try simp only [Act.put, List.setIfInBounds_toArray, List.set_cons_zero, List.set_cons_succ, List.getElem_toArray, List.getElem_cons_zero, List.getElem_cons_succ]
              refine reg_skip 20 rfl (by kernel_rfl) (by kernel_rfl) (by kernel_rfl) (fun _ _ _ h => h) (by rfl) (by assumption) ?_
              try simp only [Act.put, List.setIfInBounds_toArray, List.set_cons_zero, List.set_cons_succ, List.getElem_toArray, List.getElem_cons_zero, List.getElem_cons_succ]
              refine reg_take 21 rfl (by kernel_rfl) (by kernel_rfl) (by kernel_rfl) (fun _ _ _ h => h) (by rfl) (fun w _ => by first | (go_simp; done) | (go_simp; with_reducible rfl)) (by assumption) ?_
              try simp only [Act.put, List.setIfInBounds_toArray, List.set_cons_zero, List.set_cons_succ, List.getElem_toArray, List.getElem_cons_zero, List.getElem_cons_succ]
              refine reg_take 22 rfl (by kernel_rfl) (by kernel_rfl) (by kernel_rfl) (fun _ _ _ h => h) (by rfl) (fun w _ => by first | (go_simp; done) | (go_simp; with_reducible rfl)) (by assumption) ?_
              try simp only [Act.put, List.setIfInBounds_toArray, List.set_cons_zero, List.set_cons_succ, List.getElem_toArray, List.getElem_cons_zero, List.getElem_cons_succ]
              refine wpAnyH_done (by kernel_rfl) ?_ _
              have hbz := bstep Hbq1.out.drew (bstep hb5 hb6)
              have hsz2 := hbz.size
              have Ho2 := Lib.hid ((own_keep (own_drew Ho.out) (bstep hb5 hb6)).alloc (.cells #[.int .i64 x1, .int .i64 x2] 49))
              clear s50 s51 s52 s53 s0 s1 s2 s3 hH0 hH2 hH9
              go_wp2_with (at_builtin; refine wp_append_tile rfl _ _ rfl w1.heap.size _ _ rfl Ho2.out x1 x2 w6.heap.size rfl (by simp) (by simp) (by omega) (by simp; omega) ?_; intro A2 c2 w9 hown9 hg9)
              go_roundw
              case rel =>
                refine ⟨k + 1, A2, c2, by omega, by go_num, by rw [hst.out, List.length_append]; rfl, ?_, ?_⟩
                · rw [hst.out, List.length_append]; exact hown9
                · exact Below.grown (by go_grown) hg9 (by simp; omega) (fun g hg => (Ho2.out.lt g hg).1)
              case measure => simp [intOf]; omega
            · have hd1 : decide (0 ≤ otherI x1 x2 p) = false := decide_eq_false (fun h => h1 ((other_nonneg (by omega) (by omega)).1 h))
              by_cases h2 : q = x1 ∨ q = x2
              · have hst := Lib.hid (hy.out (by simp only [fitG, fitB, hin, not_false_eq_true, decide_true, Bool.true_and, Bool.or_eq_true, beq_iff_eq]; omega))
                have hd2 : decide (0 ≤ otherI x1 x2 q) = true := decide_eq_true ((other_nonneg (by omega) (by omega)).2 h2)
                clear hin hy hn h1 h2
                refine wp_region_held_drew (S := fun w' => w'.cell? ⟨G, 0, none⟩ = some (.int .i64 x1) ∧ w'.cell? ⟨G, 1, none⟩ = some (.int .i64 x2) ∧ w'.cell? ⟨bx, ox, none⟩ = some (.int .i64 p) ∧ w'.cell? ⟨bx, ox + n, none⟩ = some (.int .i64 q)) (by kernel_rfl) ⟨s0, s1, s2, s3⟩ (fun hH0 => ?_)
                refine reg_take 0 rfl (by kernel_rfl) (by kernel_rfl) (by kernel_rfl) (fun _ _ _ h => h) (by rfl) (fun w _ => by first | (go_simp; done) | (go_simp; with_reducible rfl)) (by assumption) ?_
                try simp only [Act.put, List.setIfInBounds_toArray, List.set_cons_zero, List.set_cons_succ, List.getElem_toArray, List.getElem_cons_zero, List.getElem_cons_succ]
                refine reg_take 1 rfl (by kernel_rfl) (by kernel_rfl) (by kernel_rfl) (fun _ _ _ h => h) (by rfl) (fun w hSw => by (try dsimp only at hSw); first | (go_simp; done) | (go_simp; with_reducible rfl)) (by assumption) ?_
                try simp only [Act.put, List.setIfInBounds_toArray, List.set_cons_zero, List.set_cons_succ, List.getElem_toArray, List.getElem_cons_zero, List.getElem_cons_succ]
                refine wpAnyH_ready (rs := [2]) (by kernel_rfl) (by simp) ?_
                refine AllReadyH.cons (i := 2) rfl (fun K hK => ?_) AllReadyH.nil
                go_simp
                refine (c_tiPlace L cL laid x1 x2 _ (Hrl.out.below (Hbq.out.trans (Below.refl _ _).drew)) hlaid).mono ?_
                rintro e w5 ⟨rfl, hb5⟩
                have s50 := keepc hb5 (g1d _ s0)
                have s51 := keepc hb5 (g1d _ s1)
                have s52 := keepc hb5 (g1d _ s2)
                have s53 := keepc hb5 (g1d _ s3)
                refine hK.out _ _ ⟨s50, s51, s52, s53⟩ (fun hH2 => ?_)
                clear hK K
                try simp only [Act.put, List.setIfInBounds_toArray, List.set_cons_zero, List.set_cons_succ, List.getElem_toArray, List.getElem_cons_zero, List.getElem_cons_succ]
                refine reg_take 3 rfl (by kernel_rfl) (by kernel_rfl) (by kernel_rfl) (fun _ _ _ h => h) (by rfl) (fun w _ => by first | (go_simp; done) | (go_simp; with_reducible rfl)) (by assumption) ?_
                try simp only [Act.put, List.setIfInBounds_toArray, List.set_cons_zero, List.set_cons_succ, List.getElem_toArray, List.getElem_cons_zero, List.getElem_cons_succ]
                refine reg_take 4 rfl (by kernel_rfl) (by kernel_rfl) (by kernel_rfl) (fun _ _ _ h => h) (by rfl) (fun w _ => by first | (go_simp; done) | (go_simp; with_reducible rfl)) (by assumption) ?_
                try simp only [Act.put, List.setIfInBounds_toArray, List.set_cons_zero, List.set_cons_succ, List.getElem_toArray, List.getElem_cons_zero, List.getElem_cons_succ]
                refine reg_take 5 rfl (by kernel_rfl) (by kernel_rfl) (by kernel_rfl) (fun _ _ _ h => h) (by rfl) (fun w hSw => by (try dsimp only at hSw); first | (go_simp; done) | (go_simp; with_reducible rfl)) (by assumption) ?_
                try simp only [Act.put, List.setIfInBounds_toArray, List.set_cons_zero, List.set_cons_succ, List.getElem_toArray, List.getElem_cons_zero, List.getElem_cons_succ]
                refine reg_take 6 rfl (by kernel_rfl) (by kernel_rfl) (by kernel_rfl) (fun _ _ _ h => h) (by rfl) (fun w _ => by first | (go_simp; done) | (go_simp; with_reducible rfl)) (by assumption) ?_
                try simp only [Act.put, List.setIfInBounds_toArray, List.set_cons_zero, List.set_cons_succ, List.getElem_toArray, List.getElem_cons_zero, List.getElem_cons_succ]
                refine reg_take 7 rfl (by kernel_rfl) (by kernel_rfl) (by kernel_rfl) (fun _ _ _ h => h) (by rfl) (fun w _ => by first | (go_simp; done) | (go_simp; with_reducible rfl)) (by assumption) ?_
                try simp only [Act.put, List.setIfInBounds_toArray, List.set_cons_zero, List.set_cons_succ, List.getElem_toArray, List.getElem_cons_zero, List.getElem_cons_succ]
                refine reg_take 8 rfl (by kernel_rfl) (by kernel_rfl) (by kernel_rfl) (fun _ _ _ h => h) (by rfl) (fun w hSw => by (try dsimp only at hSw); first | (go_simp; done) | (go_simp; with_reducible rfl)) (by assumption) ?_
                try simp only [Act.put, List.setIfInBounds_toArray, List.set_cons_zero, List.set_cons_succ, List.getElem_toArray, List.getElem_cons_zero, List.getElem_cons_succ]
                refine wpAnyH_ready (rs := [9]) (by kernel_rfl) (by simp) ?_
                refine AllReadyH.cons (i := 9) rfl (fun K hK => ?_) AllReadyH.nil
                go_simp
                refine (c_haOther x1 x2 p _).mono ?_
                rintro e w6 ⟨rfl, hb6⟩
                have s60 := keepc hb6 s50
                have s61 := keepc hb6 s51
                have s62 := keepc hb6 s52
                have s63 := keepc hb6 s53
                refine hK.out _ _ ⟨s60, s61, s62, s63⟩ (fun hH9 => ?_)
                clear hK K
                try simp only [Act.put, List.setIfInBounds_toArray, List.set_cons_zero, List.set_cons_succ, List.getElem_toArray, List.getElem_cons_zero, List.getElem_cons_succ]
                refine reg_take 10 rfl (by kernel_rfl) (by kernel_rfl) (by kernel_rfl) (fun _ _ _ h => h) (by rfl) (fun w _ => by first | (go_simp; done) | (go_simp; with_reducible rfl)) (by assumption) ?_
                try simp only [Act.put, List.setIfInBounds_toArray, List.set_cons_zero, List.set_cons_succ, List.getElem_toArray, List.getElem_cons_zero, List.getElem_cons_succ]
                refine reg_take 11 rfl (by kernel_rfl) (by kernel_rfl) (by kernel_rfl) (fun _ _ _ h => h) (by rfl) (fun w _ => by first | (go_simp; done) | (go_simp; with_reducible rfl)) (by assumption) ?_
                try simp only [Act.put, List.setIfInBounds_toArray, List.set_cons_zero, List.set_cons_succ, List.getElem_toArray, List.getElem_cons_zero, List.getElem_cons_succ]
                refine reg_take 12 rfl (by kernel_rfl) (by kernel_rfl) (by kernel_rfl) (fun _ _ _ h => h) (by rfl) (fun w hSw => by (try dsimp only at hSw); first | (go_simp; done) | (go_simp; with_reducible rfl)) (by assumption) ?_
                try simp only [Act.put, List.setIfInBounds_toArray, List.set_cons_zero, List.set_cons_succ, List.getElem_toArray, List.getElem_cons_zero, List.getElem_cons_succ]
                refine reg_take 13 rfl (by kernel_rfl) (by kernel_rfl) (by kernel_rfl) (fun _ _ _ h => h) (by rfl) (fun w _ => by first | (go_simp; done) | (go_simp; with_reducible rfl)) (by assumption) ?_
                try simp only [Act.put, List.setIfInBounds_toArray, List.set_cons_zero, List.set_cons_succ, List.getElem_toArray, List.getElem_cons_zero, List.getElem_cons_succ]
                refine reg_take 14 rfl (by kernel_rfl) (by kernel_rfl) (by kernel_rfl) (fun _ _ _ h => h) (by rfl) (fun w _ => by first | (go_simp; done) | (go_simp; with_reducible rfl)) (by assumption) ?_
                try simp only [Act.put, List.setIfInBounds_toArray, List.set_cons_zero, List.set_cons_succ, List.getElem_toArray, List.getElem_cons_zero, List.getElem_cons_succ]
                refine reg_take 15 rfl (by kernel_rfl) (by kernel_rfl) (by kernel_rfl) (fun _ _ _ h => h) (by rfl) (fun w _ => by first | (go_simp; done) | (go_simp; with_reducible rfl)) (by assumption) ?_
                try simp only [Act.put, List.setIfInBounds_toArray, List.set_cons_zero, List.set_cons_succ, List.getElem_toArray, List.getElem_cons_zero, List.getElem_cons_succ]
                refine reg_take 16 rfl (by kernel_rfl) (by kernel_rfl) (by kernel_rfl) (fun _ _ _ h => h) (by rfl) (fun w _ => by first | (go_simp; done) | (go_simp; with_reducible rfl)) (by assumption) ?_
                try simp only [Act.put, List.setIfInBounds_toArray, List.set_cons_zero, List.set_cons_succ, List.getElem_toArray, List.getElem_cons_zero, List.getElem_cons_succ]
                refine reg_take 17 rfl (by kernel_rfl) (by kernel_rfl) (by kernel_rfl) (fun _ _ _ h => h) (by rfl) (fun w _ => by first | (go_simp; done) | (go_simp; with_reducible rfl)) (by assumption) ?_
                try simp only [Act.put, List.setIfInBounds_toArray, List.set_cons_zero, List.set_cons_succ, List.getElem_toArray, List.getElem_cons_zero, List.getElem_cons_succ]
                refine reg_take 18 rfl (by kernel_rfl) (by kernel_rfl) (by kernel_rfl) (fun _ _ _ h => h) (by rfl) (fun w hSw => by (try dsimp only at hSw); first | (go_simp; done) | (go_simp; with_reducible rfl)) (by assumption) ?_
                try simp only [Act.put, List.setIfInBounds_toArray, List.set_cons_zero, List.set_cons_succ, List.getElem_toArray, List.getElem_cons_zero, List.getElem_cons_succ]
                refine wpAnyH_ready (rs := [19]) (by kernel_rfl) (by simp) ?_
                refine AllReadyH.cons (i := 19) rfl (fun K hK => ?_) AllReadyH.nil
                go_simp
                refine (c_haOther x1 x2 q _).mono ?_
                rintro e w7 ⟨rfl, hb7⟩
                have s70 := keepc hb7 s60
                have s71 := keepc hb7 s61
                have s72 := keepc hb7 s62
                have s73 := keepc hb7 s63
                refine hK.out _ _ ⟨s70, s71, s72, s73⟩ (fun hH19 => ?_)
                clear hK K
                try simp only [Act.put, List.setIfInBounds_toArray, List.set_cons_zero, List.set_cons_succ, List.getElem_toArray, List.getElem_cons_zero, List.getElem_cons_succ]
                refine reg_take 20 rfl (by kernel_rfl) (by kernel_rfl) (by kernel_rfl) (fun _ _ _ h => h) (by rfl) (fun w _ => by first | (go_simp; done) | (go_simp; with_reducible rfl)) (by assumption) ?_
                try simp only [Act.put, List.setIfInBounds_toArray, List.set_cons_zero, List.set_cons_succ, List.getElem_toArray, List.getElem_cons_zero, List.getElem_cons_succ]
                refine reg_take 21 rfl (by kernel_rfl) (by kernel_rfl) (by kernel_rfl) (fun _ _ _ h => h) (by rfl) (fun w _ => by first | (go_simp; done) | (go_simp; with_reducible rfl)) (by assumption) ?_
                try simp only [Act.put, List.setIfInBounds_toArray, List.set_cons_zero, List.set_cons_succ, List.getElem_toArray, List.getElem_cons_zero, List.getElem_cons_succ]
                refine reg_take 22 rfl (by kernel_rfl) (by kernel_rfl) (by kernel_rfl) (fun _ _ _ h => h) (by rfl) (fun w _ => by first | (go_simp; done) | (go_simp; with_reducible rfl)) (by assumption) ?_
                try simp only [Act.put, List.setIfInBounds_toArray, List.set_cons_zero, List.set_cons_succ, List.getElem_toArray, List.getElem_cons_zero, List.getElem_cons_succ]
                refine wpAnyH_done (by kernel_rfl) ?_ _
                have hbz := bstep Hbq1.out.drew (bstep (bstep hb5 hb6) hb7)
                have hsz2 := hbz.size
                have Ho2 := Lib.hid ((own_keep (own_drew Ho.out) (bstep (bstep hb5 hb6) hb7)).alloc (.cells #[.int .i64 x1, .int .i64 x2] 49))
                clear s50 s51 s52 s53 s60 s61 s62 s63 s0 s1 s2 s3 hH0 hH2 hH9 hH19
                go_wp2_with (at_builtin; refine wp_append_tile rfl _ _ rfl w1.heap.size _ _ rfl Ho2.out x1 x2 w7.heap.size rfl (by simp) (by simp) (by omega) (by simp; omega) ?_; intro A2 c2 w9 hown9 hg9)
                go_roundw
                case rel =>
                  refine ⟨k + 1, A2, c2, by omega, by go_num, by rw [hst.out, List.length_append]; rfl, ?_, ?_⟩
                  · rw [hst.out, List.length_append]; exact hown9
                  · exact Below.grown (by go_grown) hg9 (by simp; omega) (fun g hg => (Ho2.out.lt g hg).1)
                case measure => simp [intOf]; omega
              · have hst := Lib.hid (hn.out (by simp only [fitG, fitB, hin, not_false_eq_true, decide_true, Bool.true_and, Bool.or_eq_false_iff, beq_eq_false_iff_ne]; omega))
                have hd2 : decide (0 ≤ otherI x1 x2 q) = false := decide_eq_false (fun h => h2 ((other_nonneg (by omega) (by omega)).1 h))
                clear hin hy hn h1 h2
                refine wp_region_held_drew (S := fun w' => w'.cell? ⟨G, 0, none⟩ = some (.int .i64 x1) ∧ w'.cell? ⟨G, 1, none⟩ = some (.int .i64 x2) ∧ w'.cell? ⟨bx, ox, none⟩ = some (.int .i64 p) ∧ w'.cell? ⟨bx, ox + n, none⟩ = some (.int .i64 q)) (by kernel_rfl) ⟨s0, s1, s2, s3⟩ (fun hH0 => ?_)
                refine reg_take 0 rfl (by kernel_rfl) (by kernel_rfl) (by kernel_rfl) (fun _ _ _ h => h) (by rfl) (fun w _ => by first | (go_simp; done) | (go_simp; with_reducible rfl)) (by assumption) ?_
                try simp only [Act.put, List.setIfInBounds_toArray, List.set_cons_zero, List.set_cons_succ, List.getElem_toArray, List.getElem_cons_zero, List.getElem_cons_succ]
                refine reg_take 1 rfl (by kernel_rfl) (by kernel_rfl) (by kernel_rfl) (fun _ _ _ h => h) (by rfl) (fun w hSw => by (try dsimp only at hSw); first | (go_simp; done) | (go_simp; with_reducible rfl)) (by assumption) ?_
                try simp only [Act.put, List.setIfInBounds_toArray, List.set_cons_zero, List.set_cons_succ, List.getElem_toArray, List.getElem_cons_zero, List.getElem_cons_succ]
                refine wpAnyH_ready (rs := [2]) (by kernel_rfl) (by simp) ?_
                refine AllReadyH.cons (i := 2) rfl (fun K hK => ?_) AllReadyH.nil
                go_simp
                refine (c_tiPlace L cL laid x1 x2 _ (Hrl.out.below (Hbq.out.trans (Below.refl _ _).drew)) hlaid).mono ?_
                rintro e w5 ⟨rfl, hb5⟩
                have s50 := keepc hb5 (g1d _ s0)
                have s51 := keepc hb5 (g1d _ s1)
                have s52 := keepc hb5 (g1d _ s2)
                have s53 := keepc hb5 (g1d _ s3)
                refine hK.out _ _ ⟨s50, s51, s52, s53⟩ (fun hH2 => ?_)
                clear hK K
                try simp only [Act.put, List.setIfInBounds_toArray, List.set_cons_zero, List.set_cons_succ, List.getElem_toArray, List.getElem_cons_zero, List.getElem_cons_succ]
                refine reg_take 3 rfl (by kernel_rfl) (by kernel_rfl) (by kernel_rfl) (fun _ _ _ h => h) (by rfl) (fun w _ => by first | (go_simp; done) | (go_simp; with_reducible rfl)) (by assumption) ?_
                try simp only [Act.put, List.setIfInBounds_toArray, List.set_cons_zero, List.set_cons_succ, List.getElem_toArray, List.getElem_cons_zero, List.getElem_cons_succ]
                refine reg_take 4 rfl (by kernel_rfl) (by kernel_rfl) (by kernel_rfl) (fun _ _ _ h => h) (by rfl) (fun w _ => by first | (go_simp; done) | (go_simp; with_reducible rfl)) (by assumption) ?_
                try simp only [Act.put, List.setIfInBounds_toArray, List.set_cons_zero, List.set_cons_succ, List.getElem_toArray, List.getElem_cons_zero, List.getElem_cons_succ]
                refine reg_take 5 rfl (by kernel_rfl) (by kernel_rfl) (by kernel_rfl) (fun _ _ _ h => h) (by rfl) (fun w hSw => by (try dsimp only at hSw); first | (go_simp; done) | (go_simp; with_reducible rfl)) (by assumption) ?_
                try simp only [Act.put, List.setIfInBounds_toArray, List.set_cons_zero, List.set_cons_succ, List.getElem_toArray, List.getElem_cons_zero, List.getElem_cons_succ]
                refine reg_take 6 rfl (by kernel_rfl) (by kernel_rfl) (by kernel_rfl) (fun _ _ _ h => h) (by rfl) (fun w _ => by first | (go_simp; done) | (go_simp; with_reducible rfl)) (by assumption) ?_
                try simp only [Act.put, List.setIfInBounds_toArray, List.set_cons_zero, List.set_cons_succ, List.getElem_toArray, List.getElem_cons_zero, List.getElem_cons_succ]
                refine reg_take 7 rfl (by kernel_rfl) (by kernel_rfl) (by kernel_rfl) (fun _ _ _ h => h) (by rfl) (fun w _ => by first | (go_simp; done) | (go_simp; with_reducible rfl)) (by assumption) ?_
                try simp only [Act.put, List.setIfInBounds_toArray, List.set_cons_zero, List.set_cons_succ, List.getElem_toArray, List.getElem_cons_zero, List.getElem_cons_succ]
                refine reg_take 8 rfl (by kernel_rfl) (by kernel_rfl) (by kernel_rfl) (fun _ _ _ h => h) (by rfl) (fun w hSw => by (try dsimp only at hSw); first | (go_simp; done) | (go_simp; with_reducible rfl)) (by assumption) ?_
                try simp only [Act.put, List.setIfInBounds_toArray, List.set_cons_zero, List.set_cons_succ, List.getElem_toArray, List.getElem_cons_zero, List.getElem_cons_succ]
                refine wpAnyH_ready (rs := [9]) (by kernel_rfl) (by simp) ?_
                refine AllReadyH.cons (i := 9) rfl (fun K hK => ?_) AllReadyH.nil
                go_simp
                refine (c_haOther x1 x2 p _).mono ?_
                rintro e w6 ⟨rfl, hb6⟩
                have s60 := keepc hb6 s50
                have s61 := keepc hb6 s51
                have s62 := keepc hb6 s52
                have s63 := keepc hb6 s53
                refine hK.out _ _ ⟨s60, s61, s62, s63⟩ (fun hH9 => ?_)
                clear hK K
                try simp only [Act.put, List.setIfInBounds_toArray, List.set_cons_zero, List.set_cons_succ, List.getElem_toArray, List.getElem_cons_zero, List.getElem_cons_succ]
                refine reg_take 10 rfl (by kernel_rfl) (by kernel_rfl) (by kernel_rfl) (fun _ _ _ h => h) (by rfl) (fun w _ => by first | (go_simp; done) | (go_simp; with_reducible rfl)) (by assumption) ?_
                try simp only [Act.put, List.setIfInBounds_toArray, List.set_cons_zero, List.set_cons_succ, List.getElem_toArray, List.getElem_cons_zero, List.getElem_cons_succ]
                refine reg_take 11 rfl (by kernel_rfl) (by kernel_rfl) (by kernel_rfl) (fun _ _ _ h => h) (by rfl) (fun w _ => by first | (go_simp; done) | (go_simp; with_reducible rfl)) (by assumption) ?_
                try simp only [Act.put, List.setIfInBounds_toArray, List.set_cons_zero, List.set_cons_succ, List.getElem_toArray, List.getElem_cons_zero, List.getElem_cons_succ]
                refine reg_take 12 rfl (by kernel_rfl) (by kernel_rfl) (by kernel_rfl) (fun _ _ _ h => h) (by rfl) (fun w hSw => by (try dsimp only at hSw); first | (go_simp; done) | (go_simp; with_reducible rfl)) (by assumption) ?_
                try simp only [Act.put, List.setIfInBounds_toArray, List.set_cons_zero, List.set_cons_succ, List.getElem_toArray, List.getElem_cons_zero, List.getElem_cons_succ]
                refine reg_take 13 rfl (by kernel_rfl) (by kernel_rfl) (by kernel_rfl) (fun _ _ _ h => h) (by rfl) (fun w _ => by first | (go_simp; done) | (go_simp; with_reducible rfl)) (by assumption) ?_
                try simp only [Act.put, List.setIfInBounds_toArray, List.set_cons_zero, List.set_cons_succ, List.getElem_toArray, List.getElem_cons_zero, List.getElem_cons_succ]
                refine reg_take 14 rfl (by kernel_rfl) (by kernel_rfl) (by kernel_rfl) (fun _ _ _ h => h) (by rfl) (fun w _ => by first | (go_simp; done) | (go_simp; with_reducible rfl)) (by assumption) ?_
                try simp only [Act.put, List.setIfInBounds_toArray, List.set_cons_zero, List.set_cons_succ, List.getElem_toArray, List.getElem_cons_zero, List.getElem_cons_succ]
                refine reg_take 15 rfl (by kernel_rfl) (by kernel_rfl) (by kernel_rfl) (fun _ _ _ h => h) (by rfl) (fun w _ => by first | (go_simp; done) | (go_simp; with_reducible rfl)) (by assumption) ?_
                try simp only [Act.put, List.setIfInBounds_toArray, List.set_cons_zero, List.set_cons_succ, List.getElem_toArray, List.getElem_cons_zero, List.getElem_cons_succ]
                refine reg_take 16 rfl (by kernel_rfl) (by kernel_rfl) (by kernel_rfl) (fun _ _ _ h => h) (by rfl) (fun w _ => by first | (go_simp; done) | (go_simp; with_reducible rfl)) (by assumption) ?_
                try simp only [Act.put, List.setIfInBounds_toArray, List.set_cons_zero, List.set_cons_succ, List.getElem_toArray, List.getElem_cons_zero, List.getElem_cons_succ]
                refine reg_take 17 rfl (by kernel_rfl) (by kernel_rfl) (by kernel_rfl) (fun _ _ _ h => h) (by rfl) (fun w _ => by first | (go_simp; done) | (go_simp; with_reducible rfl)) (by assumption) ?_
                try simp only [Act.put, List.setIfInBounds_toArray, List.set_cons_zero, List.set_cons_succ, List.getElem_toArray, List.getElem_cons_zero, List.getElem_cons_succ]
                refine reg_take 18 rfl (by kernel_rfl) (by kernel_rfl) (by kernel_rfl) (fun _ _ _ h => h) (by rfl) (fun w hSw => by (try dsimp only at hSw); first | (go_simp; done) | (go_simp; with_reducible rfl)) (by assumption) ?_
                try simp only [Act.put, List.setIfInBounds_toArray, List.set_cons_zero, List.set_cons_succ, List.getElem_toArray, List.getElem_cons_zero, List.getElem_cons_succ]
                refine wpAnyH_ready (rs := [19]) (by kernel_rfl) (by simp) ?_
                refine AllReadyH.cons (i := 19) rfl (fun K hK => ?_) AllReadyH.nil
                go_simp
                refine (c_haOther x1 x2 q _).mono ?_
                rintro e w7 ⟨rfl, hb7⟩
                have s70 := keepc hb7 s60
                have s71 := keepc hb7 s61
                have s72 := keepc hb7 s62
                have s73 := keepc hb7 s63
                refine hK.out _ _ ⟨s70, s71, s72, s73⟩ (fun hH19 => ?_)
                clear hK K
                try simp only [Act.put, List.setIfInBounds_toArray, List.set_cons_zero, List.set_cons_succ, List.getElem_toArray, List.getElem_cons_zero, List.getElem_cons_succ]
                refine reg_take 20 rfl (by kernel_rfl) (by kernel_rfl) (by kernel_rfl) (fun _ _ _ h => h) (by rfl) (fun w _ => by first | (go_simp; done) | (go_simp; with_reducible rfl)) (by assumption) ?_
                try simp only [Act.put, List.setIfInBounds_toArray, List.set_cons_zero, List.set_cons_succ, List.getElem_toArray, List.getElem_cons_zero, List.getElem_cons_succ]
                refine reg_take 21 rfl (by kernel_rfl) (by kernel_rfl) (by kernel_rfl) (fun _ _ _ h => h) (by rfl) (fun w _ => by first | (go_simp; done) | (go_simp; with_reducible rfl)) (by assumption) ?_
                try simp only [Act.put, List.setIfInBounds_toArray, List.set_cons_zero, List.set_cons_succ, List.getElem_toArray, List.getElem_cons_zero, List.getElem_cons_succ]
                refine reg_take 22 rfl (by kernel_rfl) (by kernel_rfl) (by kernel_rfl) (fun _ _ _ h => h) (by rfl) (fun w _ => by first | (go_simp; done) | (go_simp; with_reducible rfl)) (by assumption) ?_
                try simp only [Act.put, List.setIfInBounds_toArray, List.set_cons_zero, List.set_cons_succ, List.getElem_toArray, List.getElem_cons_zero, List.getElem_cons_succ]
                refine wpAnyH_done (by kernel_rfl) ?_ _
                go_wp2
                go_roundw
                case rel => exact ⟨k + 1, A', c', by omega, by go_num, by rw [hst.out], by rw [hst.out]; exact own_keep (own_drew Ho.out) (bstep (bstep hb5 hb6) hb7), bstep Hbq1.out.drew (bstep (bstep hb5 hb6) hb7)⟩
                case measure => simp [intOf]; omega
        · obtain rfl : k = us.length := by omega
          go_wp2
          go_ret2
          exact ⟨A', c', rfl, own_base hown hb1.size, bstep hb1 hb⟩

end Go.Proofs.Ytghemmocbmkgiaa

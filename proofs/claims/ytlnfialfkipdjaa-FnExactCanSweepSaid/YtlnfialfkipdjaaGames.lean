/- Tiles of one hand that another one has, or has not. The tiles of a chain. The tiles of a chain, the way of chapter 3. Games: the mathematics of which ones there are. Boxes of five cells, and games that the call owns: two rows of tiles and a row of numbers, apart from each other. -/
import Derived.Test.YtlnfialfkipdjaaSets
import Derived.Test.YtlnfialfkipdjaaChains
import Derived.Deep.RegionHeld3
import Derived.Test.YtlnfialfkipdjaaBase
namespace Go.Proofs.Ytlnfialfkipdjaa
open Go.RowKit
set_option linter.unusedVariables false

def thoseL (a b : List (Int × Int)) (v : Bool) : List (Int × Int) := (sortL a).filter (pickB b v)
theorem those_all (a b : List (Int × Int)) (v : Bool) : pickTo (sortL a) b v (sortL a).length = thoseL a b v := by simp [pickTo, thoseL]
theorem thoseL_len (a b : List (Int × Int)) (v : Bool) : (thoseL a b v).length ≤ 110 := Nat.le_trans (List.length_filter_le _ _) (sortL_len a)
theorem sort_filter (a : List (Int × Int)) (p : Int × Int → Bool) : (sortL a).filter p = sortL (a.filter p) := by
  unfold sortL pickL
  rw [List.filter_filter]
  refine List.filter_congr fun t _ => ?_
  simp only [pickB, beq_true, List.mem_filter]
  by_cases h1 : t ∈ a <;> cases h2 : p t <;> simp [h1]
def okAB (a b : List (Int × Int)) : Bool := handB a && handB b

set_option maxHeartbeats 2000000 in
theorem c_tiThose (A0 : Option Addr) (c0 : Nat) (ts0 : List (Int × Int)) (A : Option Addr) (c : Nat) (ts : List (Int × Int)) (b : Bool) (w : World) (hr0 : RdT w A0 ts0) (hl0 : ts0.length ≤ 1048576) (hr : RdT w A ts) (hl : ts.length ≤ 1048576) :
    Calls Try.prog 161 #[.slice A0 ts0.length c0, .slice A ts.length c, .bool b] w (RetL w (thoseL ts0 ts b)) := by
  have hlen := sortL_len ts0
  obtain ⟨us, hus⟩ : ∃ us, us = sortL ts0 := ⟨_, rfl⟩
  have conS := Lib.hid (c_tiSort A0 c0 ts0 w hr0 hl0)
  rw [← those_all]
  rw [← hus] at hlen conS ⊢
  clear hus hr0 hl0
  go_enter Try.func161, Try.ntmps161
  go_wp2_with (go_at_call 156; refine conS.out.mono ?_; rintro e w1 ⟨U, cU, rfl, ho1, hb1⟩)
  have hru := RdT.of_own ho1
  clear conS
  go_loopw [7, 13] (fun v i wr => ∃ (k : Nat) (A' : Option Addr) (c' : Nat), k ≤ us.length ∧ i = .int .i64 k ∧ v = .slice A' (pickTo us ts b k).length c' ∧ wr.ownsRow w1.heap.size 95 2 (.slice A' (pickTo us ts b k).length c') (pickTo us ts b k).length (cellsT (pickTo us ts b k)) ∧ Below w1.heap.size w1 wr) (fun _ i _ => us.length - (intOf i).toNat)
  case atStart => exact ⟨0, none, 0, Nat.zero_le _, rfl, rfl, World.ownsRow_nil _ _ _ _, Below.refl _ _⟩
  case round =>
    clear ho1
    obtain ⟨k, A', c', hk, rfl, rfl, hown, hb⟩ := hrel
    have hpl := pickTo_len us ts b k
    by_cases hlt : k < us.length
    · obtain ⟨bk, off, rfl, hbk, hc⟩ := hru.at_ hlt
      have g1 := (hb.cell (p := ⟨bk, _, none⟩) hbk).trans (hc k hlt).1
      have g2 := (hb.cell (p := ⟨bk, _, none⟩) hbk).trans (hc k hlt).2
      have hr' := Lib.hid ((hr.below hb1).below hb)
      have Hb := Lib.hid hb
      have Ho := Lib.hid hown
      have hsz := hb.size
      have x0 : (wr.alloc (.cells #[.int .i64 us[k].1, .int .i64 us[k].2] 95)).cell? ⟨wr.heap.size, 0, none⟩ = some (.int .i64 us[k].1) := by simp
      have x1 : (wr.alloc (.cells #[.int .i64 us[k].1, .int .i64 us[k].2] 95)).cell? ⟨wr.heap.size, 1, none⟩ = some (.int .i64 us[k].2) := by simp
      clear hc hr hb hown hru
      by_cases hin : us[k] ∈ ts
      · have hge : decide (0 ≤ placeI ts (us[k].1, us[k].2)) = true := decide_eq_true (placeI_nonneg.2 hin)
        cases b
        · have hst := Lib.hid (pickTo_no (ts := ts) (b := false) hlt (by simp [pickB, hin]))
          clear hin
          go_wp2_with (first | (go_at_call 190; refine (c_tiPlace _ _ ts _ _ _ (hr'.out.below (by go_grown)) (by omega)).mono ?_; rintro e w2 ⟨rfl, hb2⟩; have y0 := keepc hb2 x0; have y1 := keepc hb2 x1; have hz2 := hb2.size; simp only [World.size_alloc] at hz2; have Ho2 := Lib.hid ((own_keep (Ho.out.alloc (.cells #[.int .i64 us[k].1, .int .i64 us[k].2] 95)) hb2).alloc (.cells #[.int .i64 us[k].1, .int .i64 us[k].2] 95))) | (at_builtin; refine wp_append_tile rfl _ _ rfl w1.heap.size _ _ rfl Ho2.out us[k].1 us[k].2 w2.heap.size rfl (by simp) (by simp) (by omega) (by simp; omega) ?_; intro A2 c2 w3 hown3 hg3))
          go_roundw
          case rel => exact ⟨k + 1, A', c', by omega, by go_num, by rw [hst.out], by rw [hst.out]; exact own_keep (Ho.out.alloc _) hb2, bstep (by have hb0 := Hb.out; have hz0 := hb0.size; go_grown) hb2⟩
          case measure => simp [intOf]; omega
        · have hst := Lib.hid (pickTo_yes (ts := ts) (b := true) hlt (by simp [pickB, hin]))
          clear hin
          go_wp2_with (first | (go_at_call 190; refine (c_tiPlace _ _ ts _ _ _ (hr'.out.below (by go_grown)) (by omega)).mono ?_; rintro e w2 ⟨rfl, hb2⟩; have y0 := keepc hb2 x0; have y1 := keepc hb2 x1; have hz2 := hb2.size; simp only [World.size_alloc] at hz2; have Ho2 := Lib.hid ((own_keep (Ho.out.alloc (.cells #[.int .i64 us[k].1, .int .i64 us[k].2] 95)) hb2).alloc (.cells #[.int .i64 us[k].1, .int .i64 us[k].2] 95))) | (at_builtin; refine wp_append_tile rfl _ _ rfl w1.heap.size _ _ rfl Ho2.out us[k].1 us[k].2 w2.heap.size rfl (by simp) (by simp) (by omega) (by simp; omega) ?_; intro A2 c2 w3 hown3 hg3))
          go_roundw
          case rel =>
            refine ⟨k + 1, A2, c2, by omega, by go_num, by rw [hst.out, List.length_append]; rfl, ?_, ?_⟩
            · rw [hst.out, List.length_append]; exact hown3
            · have hb3 : Below w1.heap.size w1 w2 := bstep (by have hb0 := Hb.out; have hz0 := hb0.size; go_grown) hb2
              have hz3 := hb3.size
              exact Below.grown (by go_grown) hg3 (by simp; omega) (fun g hg => (Ho2.out.lt g hg).1)
          case measure => simp [intOf]; omega
      · have hge : decide (0 ≤ placeI ts (us[k].1, us[k].2)) = false := decide_eq_false fun h => hin (placeI_nonneg.1 h)
        cases b
        · have hst := Lib.hid (pickTo_yes (ts := ts) (b := false) hlt (by simp [pickB, hin]))
          clear hin
          go_wp2_with (first | (go_at_call 190; refine (c_tiPlace _ _ ts _ _ _ (hr'.out.below (by go_grown)) (by omega)).mono ?_; rintro e w2 ⟨rfl, hb2⟩; have y0 := keepc hb2 x0; have y1 := keepc hb2 x1; have hz2 := hb2.size; simp only [World.size_alloc] at hz2; have Ho2 := Lib.hid ((own_keep (Ho.out.alloc (.cells #[.int .i64 us[k].1, .int .i64 us[k].2] 95)) hb2).alloc (.cells #[.int .i64 us[k].1, .int .i64 us[k].2] 95))) | (at_builtin; refine wp_append_tile rfl _ _ rfl w1.heap.size _ _ rfl Ho2.out us[k].1 us[k].2 w2.heap.size rfl (by simp) (by simp) (by omega) (by simp; omega) ?_; intro A2 c2 w3 hown3 hg3))
          go_roundw
          case rel =>
            refine ⟨k + 1, A2, c2, by omega, by go_num, by rw [hst.out, List.length_append]; rfl, ?_, ?_⟩
            · rw [hst.out, List.length_append]; exact hown3
            · have hb3 : Below w1.heap.size w1 w2 := bstep (by have hb0 := Hb.out; have hz0 := hb0.size; go_grown) hb2
              have hz3 := hb3.size
              exact Below.grown (by go_grown) hg3 (by simp; omega) (fun g hg => (Ho2.out.lt g hg).1)
          case measure => simp [intOf]; omega
        · have hst := Lib.hid (pickTo_no (ts := ts) (b := true) hlt (by simp [pickB, hin]))
          clear hin
          go_wp2_with (first | (go_at_call 190; refine (c_tiPlace _ _ ts _ _ _ (hr'.out.below (by go_grown)) (by omega)).mono ?_; rintro e w2 ⟨rfl, hb2⟩; have y0 := keepc hb2 x0; have y1 := keepc hb2 x1; have hz2 := hb2.size; simp only [World.size_alloc] at hz2; have Ho2 := Lib.hid ((own_keep (Ho.out.alloc (.cells #[.int .i64 us[k].1, .int .i64 us[k].2] 95)) hb2).alloc (.cells #[.int .i64 us[k].1, .int .i64 us[k].2] 95))) | (at_builtin; refine wp_append_tile rfl _ _ rfl w1.heap.size _ _ rfl Ho2.out us[k].1 us[k].2 w2.heap.size rfl (by simp) (by simp) (by omega) (by simp; omega) ?_; intro A2 c2 w3 hown3 hg3))
          go_roundw
          case rel => exact ⟨k + 1, A', c', by omega, by go_num, by rw [hst.out], by rw [hst.out]; exact own_keep (Ho.out.alloc _) hb2, bstep (by have hb0 := Hb.out; have hz0 := hb0.size; go_grown) hb2⟩
          case measure => simp [intOf]; omega
    · have : k = us.length := by omega
      subst this
      go_wp2
      go_ret
      exact ⟨A', c', rfl, own_base hown hb1.size, bstep hb1 hb⟩

end Go.Proofs.Ytlnfialfkipdjaa

namespace Go.Proofs.Ytlnfialfkipdjaa
open Go.RowKit
set_option linter.unusedVariables false

def tilesHL (xs : List Int) : List (Int × Int) := if chainB xs then tilesC xs else []
theorem tilesHL_len (xs : List Int) : (tilesHL xs).length ≤ 110 := by
  unfold tilesHL
  split
  · rename_i h
    have := chain_len h
    rw [tilesC_len]
    omega
  · simp

theorem set2_far {w : World} {b G : Nat} (h : b ≠ G) (i j o : Nat) (u v : Value) : ((w.setCell ⟨G, i, none⟩ u).setCell ⟨G, j, none⟩ v).cell? ⟨b, o, none⟩ = w.cell? ⟨b, o, none⟩ := by
  rw [World.cell?_setCell_other _ _ _ _ (fun e => h (by injection e with e; exact e.symm)), World.cell?_setCell_other _ _ _ _ (fun e => h (by injection e with e; exact e.symm))]

set_option maxRecDepth 100000 in
set_option maxHeartbeats 1000000 in
theorem c_specTiles (A : Option Addr) (c : Nat) (xs : List Int) (w : World) (hr : RdI w A xs) (hl : xs.length ≤ 1048576) :
    Calls Try.prog 61 #[.slice A xs.length c] w (RetT w (tilesHL xs) (chainB xs)) := by
  have con := Lib.hid (c_haGood A c xs w hr (by omega))
  have conT := Lib.hid (fun W (hb : Below w.heap.size w W) => c_haTiles A c xs W (hr.below hb) hl)
  clear hr
  cases hc : chainB xs
  · have e1 : tilesHL xs = [] := by simp [tilesHL, hc]
    rw [e1]
    rw [hc] at con
    clear e1 hc
    go_enter Try.func61, Try.ntmps61
    go_wp2_with (go_at_call 136; refine con.out.mono ?_; rintro e w1 ⟨rfl, hb1⟩)
    go_ret2
    exact ⟨none, 0, rfl, World.ownsRow_nil _ _ _ _, hb1⟩
  · have e1 : tilesHL xs = tilesC xs := by simp [tilesHL, hc]
    rw [e1]
    rw [hc] at con
    obtain ⟨ys, hys⟩ : ∃ ys, ys = tilesC xs := ⟨_, rfl⟩
    rw [← hys] at conT ⊢
    clear e1 hc hys
    go_enter Try.func61, Try.ntmps61
    go_wp2_with (first | (go_at_call 136; refine con.out.mono ?_; rintro e w1 ⟨rfl, hb1⟩) | (go_at_call 137; refine (conT.out _ hb1).mono ?_; rintro e w2 ⟨A2, c2, rfl, ho2, hb2⟩))
    go_ret2
    exact ⟨A2, c2, rfl, own_base ho2 hb1.size, bstep hb1 hb2⟩

/-- What the tiles of a chain are made of. -/
theorem tiles_facts {xs : List Int} (h : chainB xs = true) {n : Nat} (hn : xs.length = n + 1) (k : Nat) (hk : k < n) :
    bothNum (xs.getD k 0) (xs.getD (k + 1) 0) = true ∧ (tilesC xs)[k]? = some (ofLow (xs.getD k 0) (xs.getD (k + 1) 0), ofHigh (xs.getD k 0) (xs.getD (k + 1) 0)) := by
  have h1 := numB_getD (chain_num h) k
  have h2 := numB_getD (chain_num h) (k + 1)
  have hb : bothNum (xs.getD k 0) (xs.getD (k + 1) 0) = true := by unfold bothNum; rw [h1, h2]; rfl
  refine ⟨hb, ?_⟩
  have hl : k < (tilesC xs).length := by rw [tilesC_len]; omega
  rw [List.getElem?_eq_getElem hl]
  have e : (tilesC xs)[k] = tile2 (xs.getD k 0) (xs.getD (k + 1) 0) := by
    unfold tilesC
    exact tilesTo_get xs (by rw [tilesTo_len]; omega)
  rw [e]
  unfold tile2 ofLow ofHigh
  rw [if_pos hb, if_pos hb]

set_option maxRecDepth 100000 in
set_option maxHeartbeats 2000000 in
theorem c_implTiles (A : Option Addr) (c : Nat) (xs : List Int) (w : World) (hr : RdI w A xs) (hl : xs.length ≤ 1048576) :
    Calls Try.prog 60 #[.slice A xs.length c] w (RetT w (tilesHL xs) (chainB xs)) := by
  have con := Lib.hid (c_implIsChain A c xs w hr (by omega))
  cases hc : chainB xs
  · have e1 : tilesHL xs = [] := by simp [tilesHL, hc]
    rw [e1]
    rw [hc] at con
    clear e1 hc hr
    go_enter Try.func60, Try.ntmps60
    go_wp2_with (go_at_call 70; refine con.out.mono ?_; rintro e w1 ⟨rfl, hb1⟩)
    go_ret2
    exact ⟨none, 0, rfl, World.ownsRow_nil _ _ _ _, hb1⟩
  · have e1 : tilesHL xs = tilesC xs := by simp [tilesHL, hc]
    rw [hc] at con
    obtain ⟨n, hn⟩ : ∃ n, xs.length = n + 1 := ⟨xs.length - 1, by have := (chain_len hc).1; omega⟩
    have hf := Lib.hid (tiles_facts hc hn)
    have hlt := tilesC_len xs
    rw [e1]
    obtain ⟨ts, hts⟩ : ∃ ts, ts = tilesC xs := ⟨_, rfl⟩
    rw [← hts] at hf hlt ⊢
    have hn' : ts.length = n := by omega
    have Hlen := Lib.hid hn'
    have hcell := Lib.hid (fun (W : World) (hb : Below w.heap.size w W) k (hk : k < n + 1) => (show ∃ b off, A = some ⟨b, off, none⟩ ∧ b < w.heap.size ∧ W.cell? ⟨b, off + k, none⟩ = some (.int .i64 (xs.getD k 0)) from by
      obtain ⟨b, off, rfl, hlt, h⟩ := hr.at_ (k := k) (by omega)
      refine ⟨b, off, rfl, hlt, ?_⟩
      rw [hb.cell (p := ⟨b, _, none⟩) hlt, h k (by omega)]
      simp [List.getD, List.getElem?_eq_getElem (show k < xs.length by omega)]))
    have hbig : n ≤ 1048576 := by omega
    rw [hn] at con ⊢
    obtain ⟨i0, hi, hz0, hz1, hz2⟩ := info_parts Try.info_tile
    clear e1 hts hlt hn' hn hc hr hl
    have iw : IntKind.i64.wrap ((n : Int) + 1 - 1) = (n : Int) := by rw [IntWalk.i64_in _ (by omega)]; omega
    go_enter Try.func60, Try.ntmps60
    go_wp2_with (first | (go_at_call 70; refine con.out.mono ?_; rintro e w1 ⟨rfl, hb1⟩) | (refine wpList_make_full _ rfl _ _ _ rfl w1.heap.size 95 i0 _ 2 Try.underlying22 hi hz0 hz1 .i64 .i64 _ _ n rfl rfl rfl rfl (by rw [hz2]; omega) (by unfold maxLen; omega) (Nat.le_refl _) ?_; intro w2 hown2 hg2))
    have hown : w2.ownsRow w1.heap.size 95 2 (.slice (some ⟨w1.heap.size, 0, none⟩) n n) n (cellsT (copyL 0 ts)) := by
      rw [copyL_zero, Hlen.out]
      exact hown2
    have hb2 : Below w1.heap.size w1 w2 := below_of_grown hg2 (Nat.le_refl _) (by simp)
    have hbb : Below w.heap.size w w2 := bstep hb1 hb2
    have hsz := hb1.size
    clear hown2 hg2 hb2 hb1 hz0 hz1 hz2 hi con
    go_loopw [15] (fun i wr => ∃ k : Nat, k ≤ n ∧ i = .int .i64 k ∧ wr.ownsRow w1.heap.size 95 2 (.slice (some ⟨w1.heap.size, 0, none⟩) n n) n (cellsT (copyL k ts)) ∧ Below w.heap.size w wr) (fun i _ => n - (intOf i).toNat)
    case atStart => exact ⟨0, Nat.zero_le _, rfl, hown, hbb⟩
    case round =>
      clear hown hbb
      obtain ⟨k, hk, rfl, hown, hb⟩ := hrel
      by_cases hlt : k < n
      · obtain ⟨b, off, rfl, hbk, g1⟩ := hcell.out wr hb k (by omega)
        obtain ⟨b', off', e, _, g2⟩ := hcell.out wr hb (k + 1) (by omega)
        injection e with e
        injection e with e1 e2
        subst e1 e2
        obtain ⟨hbn, hts⟩ := hf.out k hlt
        generalize xs.getD k 0 = p at g1 hbn hts
        generalize xs.getD (k + 1) 0 = q at g2 hbn hts
        have hl : k < ts.length := by rw [Hlen.out]; exact hlt
        have hst := copyL_step (ts := ts) hl
        rw [List.getElem?_eq_getElem hl] at hts
        injection hts with hts
        rw [hts] at hst
        have Hst := Lib.hid hst
        have Hb := Lib.hid hb
        have Ho := Lib.hid hown
        have hcg := cellsT_get (copyL k ts) k (by rw [copyL_length (by omega)]; exact hl)
        have x1 := (hown.cellAt (k * 2) (by omega)).trans hcg.1
        have x2 := (hown.cellAt (k * 2 + 1) (by omega)).trans hcg.2
        have f1 := hown.frozenAt (k * 2)
        have f2 := hown.frozenAt (k * 2 + 1)
        have hszG := (hown.lt w1.heap.size rfl).2
        have hbG : b ≠ w1.heap.size := by omega
        have i0 : (0 : Int) ≤ (k : Int) := by omega
        have i1 : (k : Int) < (n : Int) + 1 := by omega
        have i2 : (0 : Int) ≤ (k : Int) + 1 := by omega
        have i3 : (k : Int) + 1 < (n : Int) + 1 := by omega
        have i4 : (k : Int) < (n : Int) := by omega
        have iw1 : IntKind.i64.wrap ((k : Int) + 1) = (k : Int) + 1 := IntWalk.i64_in _ (by omega)
        clear hcg hown hb hst hts hbn
        go_wp2
        go_region_held3 (fun w' => w'.cell? ⟨b, off + k, none⟩ = some (.int .i64 p) ∧ w'.cell? ⟨b, off + (k + 1), none⟩ = some (.int .i64 q)) (first | exact ⟨y1, y2⟩ | exact ⟨(set2_far hbG _ _ _ _ _).trans y1, (set2_far hbG _ _ _ _ _).trans y2⟩ | go_keep) (first | (go_at_call 75; refine (c_implTileOf _ _ _).mono ?_; rintro e w3 ⟨rfl, hb3⟩; have y1 := keepc hb3 (g1d _ g1); have y2 := keepc hb3 (g1d _ g2); have y3 := keepc hb3 (g1d _ x1); have y4 := keepc hb3 (g1d _ x2); have k1 : w3.frozen? ⟨w1.heap.size, k * 2, none⟩ = false := (hb3.frozen (p := ⟨w1.heap.size, k * 2, none⟩) hszG).trans f1; have k2 : w3.frozen? ⟨w1.heap.size, k * 2 + 1, none⟩ = false := (hb3.frozen (p := ⟨w1.heap.size, k * 2 + 1, none⟩) hszG).trans f2))
        go_wp2
        go_roundw
        case rel =>
          refine ⟨k + 1, by omega, by go_num, ?_, ((bstep Hb.out.drew hb3).setCell hsz _).setCell hsz _⟩
          rw [← Hst.out]
          exact (World.ownsRow.stored ((own_keep (own_drew Ho.out) hb3).stored _ _).1 _ _).1
        case measure => simp [intOf]; omega
      · have e : k = n := by omega
        subst e
        have e2 : copyL k ts = ts := by rw [← Hlen.out]; exact copyL_all ts
        rw [e2] at hown
        go_wp2
        go_ret2
        refine ⟨_, k, by rw [Hlen.out]; rfl, ?_, hb⟩
        rw [Hlen.out]
        exact own_base hown hsz

end Go.Proofs.Ytlnfialfkipdjaa

namespace Go.Proofs.Ytlnfialfkipdjaa
open Go.RowKit
set_option linter.unusedVariables false

def whTiles (xs : List Int) : List (Int × Int) := if 1 ≤ xs.length ∧ xs.length ≤ 56 ∧ ∀ x ∈ xs, numB x = true then tilesC xs else []

set_option maxRecDepth 100000 in
set_option maxHeartbeats 2000000 in
theorem c_whChain (A : Option Addr) (c : Nat) (xs : List Int) (w : World) (hr : RdI w A xs) (hl : xs.length ≤ 1048576) :
    Calls Try.prog 203 #[.slice A xs.length c] w (RetT w (whTiles xs) (chainB xs)) := by
  have conA := c_l1All A c xs w hr (by omega)
  by_cases h0 : (1 : Int) ≤ xs.length
  · by_cases h1 : (xs.length : Int) ≤ 56
    · by_cases hg : ∀ x ∈ xs, numB x = true
      · have hB := chain_hand' (by omega) (by omega) hg
        have hW : whTiles xs = tilesC xs := if_pos ⟨by omega, by omega, hg⟩
        have hd : decide (∀ x ∈ xs, numB x = true) = true := decide_eq_true hg
        rw [hd] at conA
        have hx1 : (tilesC xs).length ≤ xs.length := by rw [tilesC_len]; omega
        have hstep : ∀ k, k ≤ xs.length - 1 → ¬ k + 1 < xs.length → tilesTo xs k = tilesC xs := fun k h2 h3 => by unfold tilesC; congr 1; omega
        obtain ⟨ts, hts⟩ : ∃ ts, ts = tilesC xs := ⟨_, rfl⟩
        rw [hW, ← hB, ← hts]
        simp only [← hts] at hstep
        rw [← hts] at hx1
        have Hstep := Lib.hid hstep
        have ConA := Lib.hid conA
        clear hd hg conA hW hB hstep hts
        go_enter Try.func203, Try.ntmps203
        go_wp2_with (first | (go_at_call 111; refine (c_l1In _ _ _ _).mono ?_; rintro e w' ⟨rfl, rfl⟩) | (go_at_call 195; refine ConA.out.mono ?_; rintro e w1 ⟨rfl, hb1⟩))
        have hr1 := hr.below hb1
        clear hr ConA
        go_loopw [4, 5] (fun v i wr => ∃ (k : Nat) (A' : Option Addr) (c' : Nat), k ≤ xs.length - 1 ∧ i = .int .i64 (k + 1) ∧ v = .slice A' (tilesTo xs k).length c' ∧ wr.ownsRow w1.heap.size 95 2 (.slice A' (tilesTo xs k).length c') (tilesTo xs k).length (cellsT (tilesTo xs k)) ∧ Below w1.heap.size w1 wr) (fun _ i _ => xs.length - (intOf i).toNat)
        case atStart => exact ⟨0, none, 0, Nat.zero_le _, rfl, rfl, World.ownsRow_nil _ _ _ _, Below.refl _ _⟩
        case round =>
          obtain ⟨k, A', c', hk, rfl, rfl, hown, hb⟩ := hrel
          have hpl : (tilesTo xs k).length ≤ xs.length := by rw [tilesTo_len]; omega
          by_cases hlt : k + 1 < xs.length
          · obtain ⟨bk, off, rfl, hbk, hc⟩ := hr1.at_ hlt
            have g1 := (hb.cell (p := ⟨bk, _, none⟩) hbk).trans (hc k (by omega))
            have g2 := (hb.cell (p := ⟨bk, _, none⟩) hbk).trans (hc (k + 1) hlt)
            have Hb := Lib.hid hb
            have Hb1 := Lib.hid hb1
            have Ho := Lib.hid hown
            have hsz := hb.size
            have hst := Lib.hid (tilesTo_step hlt)
            have iw : IntKind.i64.wrap ((k : Int) + 1 - 1) = (k : Int) := by rw [IntWalk.i64_in _ (by omega)]; omega
            have iw' : IntKind.i64.wrap (k : Int) = (k : Int) := IntWalk.i64_in _ (by omega)
            have i0 : (0 : Int) ≤ (k : Int) := by omega
            have i1 : (k : Int) < (xs.length : Int) := by omega
            have i2 : (0 : Int) ≤ (k : Int) + 1 := by omega
            have i3 : (k : Int) + 1 < (xs.length : Int) := by omega
            clear hc hr1 hb hb1 hown Hstep hx1
            go_wp2
            go_region_held3 (fun w' => w'.cell? ⟨bk, off + k, none⟩ = some (.int .i64 (xs[k]'(by omega))) ∧ w'.cell? ⟨bk, off + (k + 1), none⟩ = some (.int .i64 xs[k + 1])) (first | exact ⟨z1, z2⟩ | exact ⟨y1, y2⟩ | go_keep) (first | (go_at_call 196; refine (c_tiOf _ _ _).mono ?_; rintro e w2 ⟨rfl, hb2⟩; have y1 := keepc hb2 (g1d _ g1); have y2 := keepc hb2 (g1d _ g2); have hz2 : wr.heap.size ≤ w2.heap.size := hb2.size; have Ho2 := Lib.hid ((own_keep (own_drew Ho.out) hb2).alloc (.cells #[.int .i64 (min (xs[k]'(by omega)) xs[k + 1]), .int .i64 (max (xs[k]'(by omega)) xs[k + 1])] 95))) | (refine step_append_tile rfl (.tmp 21) (.tmp 32) rfl w1.heap.size (.slice A' (tilesTo xs k).length c') (tilesTo xs k) rfl Ho2.out (min (xs[k]'(by omega)) xs[k + 1]) (max (xs[k]'(by omega)) xs[k + 1]) w2.heap.size rfl ?ca ?cb ?cc ?cd ?ce; (case ca => simp); (case cb => simp); (case cc => omega); (case cd => rw [World.size_alloc]; omega); intro A2 c2 w3 hown3 hg3; have hbz := below_of_grown hg3 (B := w1.heap.size) (by rw [World.size_alloc]; omega) (fun g hg => (Ho2.out.lt g hg).1); have z1 : w3.cell? ⟨bk, off + k, none⟩ = some (.int .i64 (xs[k]'(by omega))) := (hbz.cell (p := ⟨bk, off + k, none⟩) hbk).trans (keepc ((Below.refl _ w2).alloc (Nat.le_refl _) _) y1); have z2 : w3.cell? ⟨bk, off + (k + 1), none⟩ = some (.int .i64 xs[k + 1]) := (hbz.cell (p := ⟨bk, off + (k + 1), none⟩) hbk).trans (keepc ((Below.refl _ w2).alloc (Nat.le_refl _) _) y2)))
            go_wp2
            go_roundw
            case rel =>
              refine ⟨k + 1, A2, c2, by omega, by go_num, by rw [hst.out, List.length_append]; rfl, ?_, ?_⟩
              · rw [hst.out, List.length_append]; exact hown3
              · have hb3 : Below w1.heap.size w1 w2 := bstep Hb.out.drew hb2
                have hz3 := hb3.size
                exact Below.grown (by go_grown) hg3 (by simp; omega) (fun g hg => (Ho2.out.lt g hg).1)
            case measure => simp [intOf]; omega
          · rw [Hstep.out k hk hlt] at hown ⊢
            have conH := Lib.hid (c_tiHand A' c' ts wr (RdT.of_own hown) (by omega) (own_cap hown))
            have Ho := Lib.hid hown
            clear hr1 hown Hstep
            go_wp2_with (go_at_call 129; refine conH.out.mono ?_; rintro e w3 ⟨rfl, hb3⟩)
            go_ret2
            exact ⟨A', c', rfl, own_base (own_keep Ho.out hb3) hb1.size, bstep (bstep hb1 hb) hb3⟩
      · have hB := chain_bad' hg
        have hW : whTiles xs = [] := if_neg fun h => hg h.2.2
        have hd : decide (∀ x ∈ xs, numB x = true) = false := decide_eq_false hg
        rw [hd] at conA
        have ConA := Lib.hid conA
        rw [hW, hB]
        clear hd hg hr conA hB hW
        go_enter Try.func203, Try.ntmps203
        go_wp2_with (first | (go_at_call 111; refine (c_l1In _ _ _ _).mono ?_; rintro e w' ⟨rfl, rfl⟩) | (go_at_call 195; refine ConA.out.mono ?_; rintro e w1 ⟨rfl, hb1⟩))
        go_ret2
        exact ⟨none, 0, rfl, World.ownsRow_nil _ _ _ _, hb1⟩
    · have HB := chain_long (xs := xs) (by omega)
      have hW : whTiles xs = [] := if_neg fun h => h1 (by omega)
      rw [HB, hW]
      clear conA hr HB hW
      go_enter Try.func203, Try.ntmps203
      go_wp2_with (first | (go_at_call 111; refine (c_l1In _ _ _ _).mono ?_; rintro e w' ⟨rfl, rfl⟩))
      go_ret2
      exact ⟨none, 0, rfl, World.ownsRow_nil _ _ _ _, Below.refl _ _⟩
  · have HB := chain_empty (xs := xs) (by omega)
    have hW : whTiles xs = [] := if_neg fun h => h0 (by omega)
    rw [HB, hW]
    clear conA hr HB hW
    go_enter Try.func203, Try.ntmps203
    go_wp2_with (first | (go_at_call 111; refine (c_l1In _ _ _ _).mono ?_; rintro e w' ⟨rfl, rfl⟩))
    go_ret2
    exact ⟨none, 0, rfl, World.ownsRow_nil _ _ _ _, Below.refl _ _⟩

end Go.Proofs.Ytlnfialfkipdjaa

namespace Go.Proofs.Ytlnfialfkipdjaa
open Go.RowKit
set_option linter.unusedVariables false

theorem mem_sortG {a : List (Int × Int)} {t : Int × Int} : t ∈ sortL a ↔ t ∈ setL 9 ∧ t ∈ a := by
  unfold sortL pickL
  rw [List.mem_filter]
  simp [pickB]

theorem those_nil {a b : List (Int × Int)} (ha : handB a = true) : thoseL a b true = [] ↔ ∀ t ∈ a, t ∉ b := by
  have hg := (of_decide_eq_true ha : handP a).2.1
  unfold thoseL
  rw [List.filter_eq_nil_iff]
  refine ⟨fun h t ht hb => ?_, fun h t ht => ?_⟩
  · have := h t (mem_sortG.2 ⟨good_mem9 (hg t ht), ht⟩)
    simp [pickB, hb] at this
  · have := h t (mem_sortG.1 ht).2
    simp [pickB, this]

theorem handB_apart {F S T : List (Int × Int)} (hT : handB T = true) :
    handB (F ++ (S ++ T)) = (handB F && (handB S && (decide ((thoseL F S true).length = 0) && (decide ((thoseL F T true).length = 0) && decide ((thoseL S T true).length = 0))))) := by
  have hT' := (of_decide_eq_true hT : handP T)
  cases hF : handB F
  · simp only [Bool.false_and]
    refine decide_eq_false fun h => ?_
    obtain ⟨h1, h2, h3⟩ := h
    have hn := (List.nodup_append.1 h3).1
    have hgd : ∀ t ∈ F, goodB t.1 t.2 = true := fun t ht => h2 t (by simp [ht])
    have : handB F = true := decide_eq_true ⟨good_len hgd hn, hgd, hn⟩
    rw [hF] at this; cases this
  cases hS : handB S
  · simp only [Bool.false_and, Bool.and_false]
    refine decide_eq_false fun h => ?_
    obtain ⟨h1, h2, h3⟩ := h
    have hn := (List.nodup_append.1 (List.nodup_append.1 h3).2.1).1
    have hgd : ∀ t ∈ S, goodB t.1 t.2 = true := fun t ht => h2 t (by simp [ht])
    have : handB S = true := decide_eq_true ⟨good_len hgd hn, hgd, hn⟩
    rw [hS] at this; cases this
  have hF' := (of_decide_eq_true hF : handP F)
  have hS' := (of_decide_eq_true hS : handP S)
  simp only [List.length_eq_zero_iff, Bool.true_and]
  rw [Bool.eq_iff_iff]
  simp only [Bool.and_eq_true, decide_eq_true_eq, those_nil hF, those_nil hS]
  constructor
  · intro h
    obtain ⟨h1, h2, h3⟩ := of_decide_eq_true h
    obtain ⟨n1, n2, n3⟩ := List.nodup_append.1 h3
    obtain ⟨m1, m2, m3⟩ := List.nodup_append.1 n2
    exact ⟨fun t ht hs => n3 t ht t (by simp [hs]) rfl, fun t ht hs => n3 t ht t (by simp [hs]) rfl, fun t ht hs => m3 t ht t hs rfl⟩
  · rintro ⟨h1, h2, h3⟩
    have hn : (F ++ (S ++ T)).Nodup := List.nodup_append.2 ⟨hF'.2.2, List.nodup_append.2 ⟨hS'.2.2, hT'.2.2, fun a ha b hb e => h3 a ha (e ▸ hb)⟩, fun a ha b hb e => by
      subst e
      rcases List.mem_append.1 hb with hb | hb
      · exact h1 a ha hb
      · exact h2 a ha hb⟩
    have hgd : ∀ t ∈ F ++ (S ++ T), goodB t.1 t.2 = true := fun t ht => by
      rcases List.mem_append.1 ht with ht | ht
      · exact hF'.2.1 t ht
      · rcases List.mem_append.1 ht with ht | ht
        · exact hS'.2.1 t ht
        · exact hT'.2.1 t ht
    exact decide_eq_true ⟨good_len hgd hn, hgd, hn⟩

/-- The tiles of a row: none where it is no chain. -/
def rowT (R : List Int) : List (Int × Int) := if chainB R then tilesC R else []
def rowB (R : List Int) : Bool := decide (R.length = 0) || (chainB R && decide (2 ≤ R.length))
def turnB (t u : Int) : Bool := decide (0 ≤ t) && (decide (t ≤ 1) && (decide (0 ≤ u) && decide (u ≤ 2)))
def gameB (F S : List (Int × Int)) (R : List Int) (t u : Int) : Bool := turnB t u && (rowB R && handB (F ++ (S ++ rowT R)))
theorem rowT_hand (R : List Int) : handB (rowT R) = true := by
  unfold rowT
  split
  · rename_i h; exact chain_hand h
  · exact decide_eq_true ⟨by simp, by simp, by simp⟩
theorem gameB_spec (F S : List (Int × Int)) (R : List Int) (t u : Int) : gameB F S R t u =
    (turnB t u && (rowB R && (handB F && (handB S && (decide ((thoseL F S true).length = 0) && (decide ((thoseL F (rowT R) true).length = 0) && decide ((thoseL S (rowT R) true).length = 0))))))) := by
  unfold gameB
  rw [handB_apart (rowT_hand R)]
theorem gameB_parts {F S : List (Int × Int)} {R : List Int} {t u : Int} (h : gameB F S R t u = true) :
    turnB t u = true ∧ rowB R = true ∧ handB F = true ∧ handB S = true ∧ (∀ x ∈ F, x ∉ S) ∧ (∀ x ∈ F, x ∉ rowT R) ∧ ∀ x ∈ S, x ∉ rowT R := by
  rw [gameB_spec] at h
  simp only [Bool.and_eq_true, decide_eq_true_eq, List.length_eq_zero_iff] at h
  obtain ⟨h1, h2, h3, h4, h5, h6, h7⟩ := h
  exact ⟨h1, h2, h3, h4, (those_nil h3).1 h5, (those_nil h3).1 h6, (those_nil h4).1 h7⟩
end Go.Proofs.Ytlnfialfkipdjaa

namespace Go.Proofs.Ytlnfialfkipdjaa
open Go.RowKit
set_option linter.unusedVariables false

theorem samG {w : World} {g i j : Nat} {u v : Value} (h : j ≠ i) (hc : w.cell? ⟨g, j, none⟩ = some v) : (w.setCell ⟨g, i, none⟩ u).cell? ⟨g, j, none⟩ = some v := (World.cell?_setCell_other _ _ _ _ (by simp <;> omega)).trans hc

theorem frozen_freshG (w : World) (cs : Array Value) (t : TypeId) (m : Nat) : (w.alloc (.cells cs t)).frozen? ⟨w.heap.size, m, none⟩ = false := by
  unfold World.frozen? World.alloc
  simp

theorem gdG {w : World} (a : Addr) {v : Value} (h : w.cell? a = some v) : w.drew.cell? a = some v := h

structure BoxAt (w : World) (b : Nat) (v0 v1 v2 v3 v4 : Value) : Prop where
  c0 : w.cell? ⟨b, 0, none⟩ = some v0
  c1 : w.cell? ⟨b, 1, none⟩ = some v1
  c2 : w.cell? ⟨b, 2, none⟩ = some v2
  c3 : w.cell? ⟨b, 3, none⟩ = some v3
  c4 : w.cell? ⟨b, 4, none⟩ = some v4
  fz : ∀ m, w.frozen? ⟨b, m, none⟩ = false

section
variable {w w' : World} {b : Nat} {v0 v1 v2 v3 v4 : Value}
theorem own_capG {base e size n c : Nat} {A : Option Addr} {cs : List Value} (h : w.ownsRow base e size (.slice A n c) n cs) : n ≤ c := by
  rcases h.2 with ⟨hv, hn⟩ | ⟨g, cap, cur, hv, _, _, hnc, _⟩
  · omega
  · injection hv with e1 e2 e3; omega
theorem BoxAt.lt (h : BoxAt w b v0 v1 v2 v3 v4) : b < w.heap.size := block_lt h.c0
theorem BoxAt.keep (h : BoxAt w b v0 v1 v2 v3 v4) (hb : Below w.heap.size w w') : BoxAt w' b v0 v1 v2 v3 v4 :=
  ⟨keepc hb h.c0, keepc hb h.c1, keepc hb h.c2, keepc hb h.c3, keepc hb h.c4, fun m => (hb.frozen (p := ⟨b, m, none⟩) h.lt).trans (h.fz m)⟩
theorem BoxAt.of_block (h : BoxAt w b v0 v1 v2 v3 v4) (hb : w'.heap[b]? = w.heap[b]?) : BoxAt w' b v0 v1 v2 v3 v4 :=
  ⟨(World.cell?_of_block (a := ⟨b, 0, none⟩) hb).trans h.c0, (World.cell?_of_block (a := ⟨b, 1, none⟩) hb).trans h.c1, (World.cell?_of_block (a := ⟨b, 2, none⟩) hb).trans h.c2, (World.cell?_of_block (a := ⟨b, 3, none⟩) hb).trans h.c3, (World.cell?_of_block (a := ⟨b, 4, none⟩) hb).trans h.c4,
    fun m => (by have := h.fz m; unfold World.frozen? at this ⊢; simp only [hb]; exact this)⟩
theorem BoxAt.fresh (w : World) (v0 v1 v2 v3 v4 : Value) (t : TypeId) : BoxAt (w.alloc (.cells #[v0, v1, v2, v3, v4] t)) w.heap.size v0 v1 v2 v3 v4 :=
  ⟨by simp, by simp, by simp, by simp, by simp, frozen_freshG w _ t⟩
theorem BoxAt.more (h : BoxAt w b v0 v1 v2 v3 v4) (o : Obj) : BoxAt (w.alloc o) b v0 v1 v2 v3 v4 := h.keep ((Below.refl _ _).alloc (Nat.le_refl _) _)
theorem BoxAt.far (h : BoxAt w b v0 v1 v2 v3 v4) {a j : Nat} (u : Value) (hne : b ≠ a) : BoxAt (w.setCell ⟨a, j, none⟩ u) b v0 v1 v2 v3 v4 :=
  h.of_block (Below.heap_setCell w ⟨a, j, none⟩ u b hne)
theorem BoxAt.drew (h : BoxAt w b v0 v1 v2 v3 v4) : BoxAt w.drew b v0 v1 v2 v3 v4 := ⟨h.c0, h.c1, h.c2, h.c3, h.c4, h.fz⟩
theorem BoxAt.fzs (h : BoxAt w b v0 v1 v2 v3 v4) (j : Nat) (u : Value) (m : Nat) : (w.setCell ⟨b, j, none⟩ u).frozen? ⟨b, m, none⟩ = false := by simp [h.fz m]
theorem BoxAt.set0 (h : BoxAt w b v0 v1 v2 v3 v4) (u : Value) : BoxAt (w.setCell ⟨b, 0, none⟩ u) b u v1 v2 v3 v4 :=
  ⟨World.cell?_setCell_same _ _ _ h.c0, samG (by omega) h.c1, samG (by omega) h.c2, samG (by omega) h.c3, samG (by omega) h.c4, h.fzs _ _⟩
theorem BoxAt.set1 (h : BoxAt w b v0 v1 v2 v3 v4) (u : Value) : BoxAt (w.setCell ⟨b, 1, none⟩ u) b v0 u v2 v3 v4 :=
  ⟨samG (by omega) h.c0, World.cell?_setCell_same _ _ _ h.c1, samG (by omega) h.c2, samG (by omega) h.c3, samG (by omega) h.c4, h.fzs _ _⟩
theorem BoxAt.set2 (h : BoxAt w b v0 v1 v2 v3 v4) (u : Value) : BoxAt (w.setCell ⟨b, 2, none⟩ u) b v0 v1 u v3 v4 :=
  ⟨samG (by omega) h.c0, samG (by omega) h.c1, World.cell?_setCell_same _ _ _ h.c2, samG (by omega) h.c3, samG (by omega) h.c4, h.fzs _ _⟩
theorem BoxAt.set3 (h : BoxAt w b v0 v1 v2 v3 v4) (u : Value) : BoxAt (w.setCell ⟨b, 3, none⟩ u) b v0 v1 v2 u v4 :=
  ⟨samG (by omega) h.c0, samG (by omega) h.c1, samG (by omega) h.c2, World.cell?_setCell_same _ _ _ h.c3, samG (by omega) h.c4, h.fzs _ _⟩
theorem BoxAt.set4 (h : BoxAt w b v0 v1 v2 v3 v4) (u : Value) : BoxAt (w.setCell ⟨b, 4, none⟩ u) b v0 v1 v2 v3 u :=
  ⟨samG (by omega) h.c0, samG (by omega) h.c1, samG (by omega) h.c2, samG (by omega) h.c3, World.cell?_setCell_same _ _ _ h.c4, h.fzs _ _⟩

theorem own_blockG {base e size n : Nat} {v : Value} {cs : List Value} (h : w.ownsRow base e size v n cs) (heq : ∀ g, v.ownBlock = some g → w'.heap[g]? = w.heap[g]?) : w'.ownsRow base e size v n cs := by
  obtain ⟨h1, h2⟩ := h
  refine ⟨h1, ?_⟩
  rcases h2 with h2 | ⟨g, cap, cur, hv, hg, hh, r⟩
  · exact .inl h2
  · exact .inr ⟨g, cap, cur, hv, hg, (heq g (by subst hv; rfl)).trans hh, r⟩
/-- A row of the call's own stays where a box below it is written. -/
theorem own_box {base e size n a j : Nat} {v u : Value} {cs : List Value} (h : w.ownsRow base e size v n cs) (ha : a < base) : (w.setCell ⟨a, j, none⟩ u).ownsRow base e size v n cs :=
  own_blockG h (fun g hg => Below.heap_setCell w ⟨a, j, none⟩ u g (by have := (h.lt g hg).1; simp; omega))
end

theorem below_box {N b j : Nat} {a w : World} {u : Value} (h : Below N a w) (hb : N ≤ b) : Below N a (w.setCell ⟨b, j, none⟩ u) := h.setCell hb _

def ApG (u v : Value) : Prop := ∀ g, u.ownBlock = some g → v.ownBlock = some g → False
theorem ApG.symm {u v : Value} (h : ApG u v) : ApG v u := fun g h1 h2 => h g h2 h1
theorem ApG.kept {u v : Value} (h : ApG u v) : u.ownBlock = none ∨ u.ownBlock ≠ v.ownBlock := by
  cases hu : u.ownBlock with
  | none => exact .inl rfl
  | some g => exact .inr fun e => h g hu e.symm
theorem ApG.of_lt {u v : Value} {m : Nat} (hu : ∀ g, u.ownBlock = some g → g < m) (hv : ∀ g, v.ownBlock = some g → m ≤ g) : ApG u v := fun g h1 h2 => by
  have := hu g h1; have := hv g h2; omega
theorem ApG.nil_ {v : Value} {n c : Nat} : ApG (.slice none n c) v := fun g h => by simp [Value.ownBlock] at h
theorem ApG.nil' {v : Value} {n c : Nat} : ApG v (.slice none n c) := fun g _ h => by simp [Value.ownBlock] at h

theorem own_notG {v : Value} {m : Nat} (h : ∀ g, v.ownBlock = some g → g < m) : v.ownBlock = none ∨ v.ownBlock ≠ some m := by
  cases hv : v.ownBlock with
  | none => exact .inl rfl
  | some g => exact .inr fun e => by have := h g hv; have := Option.some.inj e; omega

/-- A game's three rows, owned, from lo on and below hi, no two in one block. -/
structure OwnG (w : World) (lo hi : Nat) (vF : Value) (nF : Nat) (F : List (Int × Int)) (vS : Value) (nS : Nat) (S : List (Int × Int)) (vR : Value) (nR : Nat) (R : List Int) : Prop where
  f : w.ownsRow lo 95 2 vF nF (cellsT F)
  s : w.ownsRow lo 95 2 vS nS (cellsT S)
  r : w.ownsRow lo 3 1 vR nR (cellsI R)
  hf : ∀ g, vF.ownBlock = some g → g < hi
  hs : ∀ g, vS.ownBlock = some g → g < hi
  hr : ∀ g, vR.ownBlock = some g → g < hi
  fs : ApG vF vS
  fr : ApG vF vR
  sr : ApG vS vR

section
variable {w w' : World} {lo hi nF nS nR : Nat} {vF vS vR : Value} {F S : List (Int × Int)} {R : List Int}
theorem OwnG.none_ (w : World) (lo hi : Nat) : OwnG w lo hi (.slice none 0 0) 0 [] (.slice none 0 0) 0 [] (.slice none 0 0) 0 [] :=
  ⟨World.ownsRow_nil _ _ _ _, World.ownsRow_nil _ _ _ _, World.ownsRow_nil _ _ _ _, fun g h => by simp [Value.ownBlock] at h, fun g h => by simp [Value.ownBlock] at h, fun g h => by simp [Value.ownBlock] at h, ApG.nil_, ApG.nil_, ApG.nil_⟩
theorem OwnG.below {N : Nat} (h : OwnG w lo hi vF nF F vS nS S vR nR R) (hb : Below N w w') (hN : hi ≤ N) : OwnG w' lo hi vF nF F vS nS S vR nR R :=
  { h with f := own_below h.f hb (fun g hg => Nat.lt_of_lt_of_le (h.hf g hg) hN), s := own_below h.s hb (fun g hg => Nat.lt_of_lt_of_le (h.hs g hg) hN), r := own_below h.r hb (fun g hg => Nat.lt_of_lt_of_le (h.hr g hg) hN) }
theorem OwnG.base {lo' : Nat} (h : OwnG w lo hi vF nF F vS nS S vR nR R) (hb : lo' ≤ lo) : OwnG w lo' hi vF nF F vS nS S vR nR R :=
  { h with f := own_base h.f hb, s := own_base h.s hb, r := own_base h.r hb }
theorem OwnG.top {hi' : Nat} (h : OwnG w lo hi vF nF F vS nS S vR nR R) (hb : hi ≤ hi') : OwnG w lo hi' vF nF F vS nS S vR nR R :=
  { h with hf := fun g hg => Nat.lt_of_lt_of_le (h.hf g hg) hb, hs := fun g hg => Nat.lt_of_lt_of_le (h.hs g hg) hb, hr := fun g hg => Nat.lt_of_lt_of_le (h.hr g hg) hb }
theorem OwnG.fit (h : OwnG w lo hi vF nF F vS nS S vR nR R) : OwnG w lo w.heap.size vF nF F vS nS S vR nR R :=
  { h with hf := fun g hg => (h.f.lt g hg).2, hs := fun g hg => (h.s.lt g hg).2, hr := fun g hg => (h.r.lt g hg).2 }
theorem OwnG.keep (h : OwnG w lo hi vF nF F vS nS S vR nR R) (hb : Below w.heap.size w w') : OwnG w' lo w'.heap.size vF nF F vS nS S vR nR R := (h.fit.below hb (Nat.le_refl _)).fit
theorem OwnG.moved (h : OwnG w lo hi vF nF F vS nS S vR nR R) (heq : ∀ g, lo ≤ g → g < w.heap.size → w'.heap[g]? = w.heap[g]?) : OwnG w' lo hi vF nF F vS nS S vR nR R :=
  { h with f := own_blockG h.f (fun g hg => heq g (h.f.lt g hg).1 (h.f.lt g hg).2), s := own_blockG h.s (fun g hg => heq g (h.s.lt g hg).1 (h.s.lt g hg).2), r := own_blockG h.r (fun g hg => heq g (h.r.lt g hg).1 (h.r.lt g hg).2) }
theorem OwnG.box {a j : Nat} {u : Value} (h : OwnG w lo hi vF nF F vS nS S vR nR R) (ha : a < lo) : OwnG (w.setCell ⟨a, j, none⟩ u) lo hi vF nF F vS nS S vR nR R :=
  { h with f := own_box h.f ha, s := own_box h.s ha, r := own_box h.r ha }
theorem own_boxHi {base e size n a j hi : Nat} {v u : Value} {cs : List Value} (h : w.ownsRow base e size v n cs) (hv : ∀ g, v.ownBlock = some g → g < hi) (ha : hi ≤ a) : (w.setCell ⟨a, j, none⟩ u).ownsRow base e size v n cs :=
  own_blockG h (fun g hg => Below.heap_setCell w ⟨a, j, none⟩ u g (by have := hv g hg; simp; omega))
theorem OwnG.boxHi {a j : Nat} {u : Value} (h : OwnG w lo hi vF nF F vS nS S vR nR R) (ha : hi ≤ a) : OwnG (w.setCell ⟨a, j, none⟩ u) lo hi vF nF F vS nS S vR nR R :=
  { h with f := own_boxHi h.f h.hf ha, s := own_boxHi h.s h.hs ha, r := own_boxHi h.r h.hr ha }
theorem OwnG.grown {row : Option Nat} (h : OwnG w lo hi vF nF F vS nS S vR nR R) (hg : w.grownBy w' row) (hne : ∀ g, row = some g → g < lo ∨ hi ≤ g) : OwnG w' lo hi vF nF F vS nS S vR nR R := by
  have ap : ∀ (v : Value), (∀ g, v.ownBlock = some g → lo ≤ g ∧ g < hi) → v.ownBlock = none ∨ v.ownBlock ≠ row := fun v hv => by
    cases hv' : v.ownBlock with
    | none => exact .inl rfl
    | some g => exact .inr fun e => by have h1 := hv g hv'; have h2 := hne g e.symm; omega
  exact { h with f := h.f.kept hg (ap _ fun g hg => ⟨(h.f.lt g hg).1, h.hf g hg⟩), s := h.s.kept hg (ap _ fun g hg => ⟨(h.s.lt g hg).1, h.hs g hg⟩), r := h.r.kept hg (ap _ fun g hg => ⟨(h.r.lt g hg).1, h.hr g hg⟩) }
theorem OwnG.drew (h : OwnG w lo hi vF nF F vS nS S vR nR R) : OwnG w.drew lo hi vF nF F vS nS S vR nR R := ⟨h.f, h.s, h.r, h.hf, h.hs, h.hr, h.fs, h.fr, h.sr⟩
theorem OwnG.swap (h : OwnG w lo hi vF nF F vS nS S vR nR R) : OwnG w lo hi vS nS S vF nF F vR nR R :=
  { f := h.s, s := h.f, r := h.r, hf := h.hs, hs := h.hf, hr := h.hr, fs := h.fs.symm, fr := h.sr, sr := h.fr }
end

/-- A new game comes back. -/
def RetG (w : World) (F S : List (Int × Int)) (R : List Int) (t u : Int) (e : Ending) (w' : World) : Prop :=
  ∃ AF cF AS cS AR cR, e = .returned (.agg #[.slice AF F.length cF, .slice AS S.length cS, .slice AR R.length cR, .int .i64 t, .int .i64 u]) ∧
    OwnG w' w.heap.size w'.heap.size (.slice AF F.length cF) F.length F (.slice AS S.length cS) S.length S (.slice AR R.length cR) R.length R ∧ Below w.heap.size w w'
/-- .. and a bool. -/
def RetGB (w : World) (F S : List (Int × Int)) (R : List Int) (t u : Int) (ok : Bool) (e : Ending) (w' : World) : Prop :=
  ∃ AF cF AS cS AR cR, e = .returned (.tuple #[.agg #[.slice AF F.length cF, .slice AS S.length cS, .slice AR R.length cR, .int .i64 t, .int .i64 u], .bool ok]) ∧
    OwnG w' w.heap.size w'.heap.size (.slice AF F.length cF) F.length F (.slice AS S.length cS) S.length S (.slice AR R.length cR) R.length R ∧ Below w.heap.size w w'
end Go.Proofs.Ytlnfialfkipdjaa

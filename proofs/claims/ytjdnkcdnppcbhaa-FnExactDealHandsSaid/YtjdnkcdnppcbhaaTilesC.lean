/- The tiles of a chain. -/
import Derived.Test.YtjdnkcdnppcbhaaChn
namespace Go.Proofs.Ytjdnkcdnppcbhaa
open Go.RowKit
set_option linter.unusedVariables false

def tilesHL (xs : List Int) : List (Int × Int) := if chainB xs then tilesC xs else []
theorem tilesHL_len (xs : List Int) : (tilesHL xs).length ≤ 110 := by
  unfold tilesHL
  split
  · rename_i h
    have := chain_len h
    rw [tilesC_len]
    omega
  · simp

theorem set2_far {w : World} {b G : Nat} (h : b ≠ G) (i j o : Nat) (u v : Value) : ((w.setCell ⟨G, i, none⟩ u).setCell ⟨G, j, none⟩ v).cell? ⟨b, o, none⟩ = w.cell? ⟨b, o, none⟩ := by
  rw [World.cell?_setCell_other _ _ _ _ (fun e => h (by injection e with e; exact e.symm)), World.cell?_setCell_other _ _ _ _ (fun e => h (by injection e with e; exact e.symm))]

/-- What the tiles of a chain are made of. -/
theorem tiles_facts {xs : List Int} (h : chainB xs = true) {n : Nat} (hn : xs.length = n + 1) (k : Nat) (hk : k < n) :
    bothNum (xs.getD k 0) (xs.getD (k + 1) 0) = true ∧ (tilesC xs)[k]? = some (ofLow (xs.getD k 0) (xs.getD (k + 1) 0), ofHigh (xs.getD k 0) (xs.getD (k + 1) 0)) := by
  have h1 := numB_getD (chain_num h) k
  have h2 := numB_getD (chain_num h) (k + 1)
  have hb : bothNum (xs.getD k 0) (xs.getD (k + 1) 0) = true := by unfold bothNum; rw [h1, h2]; rfl
  refine ⟨hb, ?_⟩
  have hl : k < (tilesC xs).length := by rw [tilesC_len]; omega
  rw [List.getElem?_eq_getElem hl]
  have e : (tilesC xs)[k] = tile2 (xs.getD k 0) (xs.getD (k + 1) 0) := by
    unfold tilesC
    exact tilesTo_get xs (by rw [tilesTo_len]; omega)
  rw [e]
  unfold tile2 ofLow ofHigh
  rw [if_pos hb, if_pos hb]

set_option maxRecDepth 100000 in
set_option maxHeartbeats 2000000 in
theorem c_implTiles (A : Option Addr) (c : Nat) (xs : List Int) (w : World) (hr : RdI w A xs) (hl : xs.length ≤ 1048576) :
    Calls Try.prog 81 #[.slice A xs.length c] w (RetT w (tilesHL xs) (chainB xs)) := by
  have con := Lib.hid (c_implIsChain A c xs w hr (by omega))
  cases hc : chainB xs
  · have e1 : tilesHL xs = [] := by simp [tilesHL, hc]
    rw [e1]
    rw [hc] at con
    clear e1 hc hr
    go_enter Try.func81, Try.ntmps81
    go_wp2_with (go_at_call 70; refine con.out.mono ?_; rintro e w1 ⟨rfl, hb1⟩)
    go_ret2
    exact ⟨none, 0, rfl, World.ownsRow_nil _ _ _ _, hb1⟩
  · have e1 : tilesHL xs = tilesC xs := by simp [tilesHL, hc]
    rw [hc] at con
    obtain ⟨n, hn⟩ : ∃ n, xs.length = n + 1 := ⟨xs.length - 1, by have := (chain_len hc).1; omega⟩
    have hf := Lib.hid (tiles_facts hc hn)
    have hlt := tilesC_len xs
    rw [e1]
    obtain ⟨ts, hts⟩ : ∃ ts, ts = tilesC xs := ⟨_, rfl⟩
    rw [← hts] at hf hlt ⊢
    have hn' : ts.length = n := by omega
    have Hlen := Lib.hid hn'
    have hcell := Lib.hid (fun (W : World) (hb : Below w.heap.size w W) k (hk : k < n + 1) => (show ∃ b off, A = some ⟨b, off, none⟩ ∧ b < w.heap.size ∧ W.cell? ⟨b, off + k, none⟩ = some (.int .i64 (xs.getD k 0)) from by
      obtain ⟨b, off, rfl, hlt, h⟩ := hr.at_ (k := k) (by omega)
      refine ⟨b, off, rfl, hlt, ?_⟩
      rw [hb.cell (p := ⟨b, _, none⟩) hlt, h k (by omega)]
      simp [List.getD, List.getElem?_eq_getElem (show k < xs.length by omega)]))
    have hbig : n ≤ 1048576 := by omega
    rw [hn] at con ⊢
    obtain ⟨i0, hi, hz0, hz1, hz2⟩ := info_parts Try.info_tile
    clear e1 hts hlt hn' hn hc hr hl
    have iw : IntKind.i64.wrap ((n : Int) + 1 - 1) = (n : Int) := by rw [IntWalk.i64_in _ (by omega)]; omega
    go_enter Try.func81, Try.ntmps81
    go_wp2_with (first | (go_at_call 70; refine con.out.mono ?_; rintro e w1 ⟨rfl, hb1⟩) | (refine wpList_make_full _ rfl _ _ _ rfl w1.heap.size 82 i0 _ 2 Try.underlying28 hi hz0 hz1 .i64 .i64 _ _ n rfl rfl rfl rfl (by rw [hz2]; omega) (by unfold maxLen; omega) (Nat.le_refl _) ?_; intro w2 hown2 hg2))
    have hown : w2.ownsRow w1.heap.size 82 2 (.slice (some ⟨w1.heap.size, 0, none⟩) n n) n (cellsT (copyL 0 ts)) := by
      rw [copyL_zero, Hlen.out]
      exact hown2
    have hb2 : Below w1.heap.size w1 w2 := below_of_grown hg2 (Nat.le_refl _) (by simp)
    have hbb : Below w.heap.size w w2 := bstep hb1 hb2
    have hsz := hb1.size
    clear hown2 hg2 hb2 hb1 hz0 hz1 hz2 hi con
    go_loopw [15] (fun i wr => ∃ k : Nat, k ≤ n ∧ i = .int .i64 k ∧ wr.ownsRow w1.heap.size 82 2 (.slice (some ⟨w1.heap.size, 0, none⟩) n n) n (cellsT (copyL k ts)) ∧ Below w.heap.size w wr) (fun i _ => n - (intOf i).toNat)
    case atStart => exact ⟨0, Nat.zero_le _, rfl, hown, hbb⟩
    case round =>
      clear hown hbb
      obtain ⟨k, hk, rfl, hown, hb⟩ := hrel
      by_cases hlt : k < n
      · obtain ⟨b, off, rfl, hbk, g1⟩ := hcell.out wr hb k (by omega)
        obtain ⟨b', off', e, _, g2⟩ := hcell.out wr hb (k + 1) (by omega)
        injection e with e
        injection e with e1 e2
        subst e1 e2
        obtain ⟨hbn, hts⟩ := hf.out k hlt
        generalize xs.getD k 0 = p at g1 hbn hts
        generalize xs.getD (k + 1) 0 = q at g2 hbn hts
        have hl : k < ts.length := by rw [Hlen.out]; exact hlt
        have hst := copyL_step (ts := ts) hl
        rw [List.getElem?_eq_getElem hl] at hts
        injection hts with hts
        rw [hts] at hst
        have Hst := Lib.hid hst
        have Hb := Lib.hid hb
        have Ho := Lib.hid hown
        have hcg := cellsT_get (copyL k ts) k (by rw [copyL_length (by omega)]; exact hl)
        have x1 := (hown.cellAt (k * 2) (by omega)).trans hcg.1
        have x2 := (hown.cellAt (k * 2 + 1) (by omega)).trans hcg.2
        have f1 := hown.frozenAt (k * 2)
        have f2 := hown.frozenAt (k * 2 + 1)
        have hszG := (hown.lt w1.heap.size rfl).2
        have hbG : b ≠ w1.heap.size := by omega
        have i0 : (0 : Int) ≤ (k : Int) := by omega
        have i1 : (k : Int) < (n : Int) + 1 := by omega
        have i2 : (0 : Int) ≤ (k : Int) + 1 := by omega
        have i3 : (k : Int) + 1 < (n : Int) + 1 := by omega
        have i4 : (k : Int) < (n : Int) := by omega
        have iw1 : IntKind.i64.wrap ((k : Int) + 1) = (k : Int) + 1 := IntWalk.i64_in _ (by omega)
        clear hcg hown hb hst hts hbn
        go_wp2
        go_region_held3 (fun w' => w'.cell? ⟨b, off + k, none⟩ = some (.int .i64 p) ∧ w'.cell? ⟨b, off + (k + 1), none⟩ = some (.int .i64 q)) (first | exact ⟨y1, y2⟩ | exact ⟨(set2_far hbG _ _ _ _ _).trans y1, (set2_far hbG _ _ _ _ _).trans y2⟩ | go_keep) (first | (go_at_call 124; refine (c_implTileOf _ _ _).mono ?_; rintro e w3 ⟨rfl, hb3⟩; have y1 := keepc hb3 (g1d _ g1); have y2 := keepc hb3 (g1d _ g2); have y3 := keepc hb3 (g1d _ x1); have y4 := keepc hb3 (g1d _ x2); have k1 : w3.frozen? ⟨w1.heap.size, k * 2, none⟩ = false := (hb3.frozen (p := ⟨w1.heap.size, k * 2, none⟩) hszG).trans f1; have k2 : w3.frozen? ⟨w1.heap.size, k * 2 + 1, none⟩ = false := (hb3.frozen (p := ⟨w1.heap.size, k * 2 + 1, none⟩) hszG).trans f2))
        go_wp2
        go_roundw
        case rel =>
          refine ⟨k + 1, by omega, by go_num, ?_, ((bstep Hb.out.drew hb3).setCell hsz _).setCell hsz _⟩
          rw [← Hst.out]
          exact (World.ownsRow.stored ((own_keep (own_drew Ho.out) hb3).stored _ _).1 _ _).1
        case measure => simp [intOf]; omega
      · have e : k = n := by omega
        subst e
        have e2 : copyL k ts = ts := by rw [← Hlen.out]; exact copyL_all ts
        rw [e2] at hown
        go_wp2
        go_ret2
        refine ⟨_, k, by rw [Hlen.out]; rfl, ?_, hb⟩
        rw [Hlen.out]
        exact own_base hown hsz

end Go.Proofs.Ytjdnkcdnppcbhaa

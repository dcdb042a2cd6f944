/- Hands renamed. -/
import Derived.Test.YtjdnkcdnppcbhaaChain
import Derived.Test.YtjdnkcdnppcbhaaPick
import Derived.Test.YtjdnkcdnppcbhaaNames
import Derived.Test.YtjdnkcdnppcbhaaSorted
import Derived.Test.YtjdnkcdnppcbhaaTilesC
namespace Go.Proofs.Ytjdnkcdnppcbhaa
open Go.RowKit
set_option linter.unusedVariables false

def nm (ns : List Int) (i : Int) : Int := ns.getD i.toNat 0
def renL (ts : List (Int × Int)) (ns : List Int) : List (Int × Int) := ts.map fun t => tile2 (nm ns t.1) (nm ns t.2)
theorem renL_len (ts : List (Int × Int)) (ns : List Int) : (renL ts ns).length = ts.length := by simp [renL]
theorem nm_cell {ns : List Int} {m : Nat} (h : m < ns.length) : nm ns m = ns[m] := by simp [nm, List.getD, h]
theorem nm_num {ns : List Int} (h : areB ns = true) {i : Int} (hi : numB i = true) : numB (nm ns i) = true := by
  have hp : areP ns := of_decide_eq_true h
  obtain ⟨m, hm, rfl⟩ := numB_nat hi
  rw [nm_cell (by have := hp.1; omega)]
  exact hp.2.1 _ (List.getElem_mem _)
theorem nm_inj {ns : List Int} (h : areB ns = true) {i j : Int} (hi : numB i = true) (hj : numB j = true) (e : nm ns i = nm ns j) : i = j := by
  have hp : areP ns := of_decide_eq_true h
  obtain ⟨m, hm, rfl⟩ := numB_nat hi
  obtain ⟨n, hn, rfl⟩ := numB_nat hj
  have hl := hp.1
  rw [nm_cell (by omega), nm_cell (by omega)] at e
  have hnd := List.pairwise_iff_getElem.1 hp.2.2
  rcases Nat.lt_trichotomy m n with h | h | h
  · exact absurd e (hnd m n (by omega) (by omega) h)
  · rw [h]
  · exact absurd e.symm (hnd n m (by omega) (by omega) h)
theorem ren_good {ts : List (Int × Int)} {ns : List Int} (h1 : handB ts = true) (h2 : areB ns = true) : ∀ t ∈ ts, numB t.1 = true ∧ numB t.2 = true ∧ t.1 ≤ t.2 := by
  intro t ht
  have hp : handP ts := of_decide_eq_true h1
  have := hp.2.1 t ht
  simp only [goodB, Bool.and_eq_true, decide_eq_true_eq] at this
  exact this
theorem ren_hand {ts : List (Int × Int)} {ns : List Int} (h1 : handB ts = true) (h2 : areB ns = true) : handB (renL ts ns) = true := by
  have hp : handP ts := of_decide_eq_true h1
  have hg := ren_good h1 h2
  refine decide_eq_true ⟨by rw [renL_len]; exact hp.1, fun t ht => ?_, ?_⟩
  · obtain ⟨s, hs, rfl⟩ := List.mem_map.1 ht
    exact tile2_good (nm_num h2 (hg s hs).1) (nm_num h2 (hg s hs).2.1)
  · refine List.pairwise_map.2 (hp.2.2.imp_of_mem fun {a b} ha hb hne e => hne ?_)
    obtain ⟨a1, a2, a3⟩ := hg a ha
    obtain ⟨b1, b2, b3⟩ := hg b hb
    rcases tile2_eq.1 e with ⟨e1, e2⟩ | ⟨e1, e2⟩
    · exact Prod.ext (nm_inj h2 a1 b1 e1) (nm_inj h2 a2 b2 e2)
    · have f1 := nm_inj h2 a1 b2 e1
      have f2 := nm_inj h2 a2 b1 e2
      exact Prod.ext (by omega) (by omega)
def renHL (ts : List (Int × Int)) (ns : List Int) : List (Int × Int) := if handB ts && areB ns then sortL (renL ts ns) else []
theorem renHL_len (ts : List (Int × Int)) (ns : List Int) : (renHL ts ns).length ≤ 110 := by
  unfold renHL
  split
  · exact sortL_len _
  · simp
/-- The first k tiles renamed. -/
def renTo (ts : List (Int × Int)) (ns : List Int) (k : Nat) : List (Int × Int) := renL (ts.take k) ns
theorem renTo_step {ts : List (Int × Int)} {ns : List Int} {k : Nat} (h : k < ts.length) : renTo ts ns (k + 1) = renTo ts ns k ++ [tile2 (nm ns ts[k].1) (nm ns ts[k].2)] := by
  unfold renTo renL
  rw [List.take_succ_eq_append_getElem h, List.map_append]
  rfl
theorem renTo_len (ts : List (Int × Int)) (ns : List Int) (k : Nat) : (renTo ts ns k).length ≤ ts.length := by
  unfold renTo
  rw [renL_len, List.length_take]
  omega
theorem RdI.nm {w : World} {B : Option Addr} {ns : List Int} (h : RdI w B ns) (h2 : areB ns = true) {m : Nat} (hm : m ≤ 9) :
    ∃ b off, B = some ⟨b, off, none⟩ ∧ b < w.heap.size ∧ w.cell? ⟨b, off + m, none⟩ = some (.int .i64 (nm ns m)) := by
  have hp : areP ns := of_decide_eq_true h2
  have hl := hp.1
  obtain ⟨b, off, rfl, hb, hc⟩ := h.at_ (k := m) (by omega)
  refine ⟨b, off, rfl, hb, ?_⟩
  rw [hc m (by omega), nm_cell (by omega)]
theorem rdi_nm {w W : World} {B : Option Addr} {ns : List Int} (h : RdI w B ns) (h2 : areB ns = true) (hb : Below w.heap.size w W) {m : Nat} (hm : m ≤ 9) :
    ∃ b off, B = some ⟨b, off, none⟩ ∧ b < w.heap.size ∧ W.cell? ⟨b, off + m, none⟩ = some (.int .i64 (nm ns m)) := by
  obtain ⟨b, off, rfl, hlt, hc⟩ := h.nm h2 hm
  exact ⟨b, off, rfl, hlt, (hb.cell (p := ⟨b, _, none⟩) hlt).trans hc⟩

set_option maxRecDepth 100000 in
set_option maxHeartbeats 1500000 in
theorem c_implRename (A : Option Addr) (c : Nat) (ts : List (Int × Int)) (B : Option Addr) (d : Nat) (ns : List Int) (w : World) (hr : RdT w A ts) (hl : ts.length ≤ 1048576) (hn : RdI w B ns) (hln : ns.length ≤ 1048576) :
    Calls Try.prog 91 #[.slice A ts.length c, .slice B ns.length d] w (RetT w (renHL ts ns) (handB ts && areB ns)) := by
  have conH := Lib.hid (c_implIsHand A c ts w hr (by omega))
  have conA := Lib.hid (fun W (hb : Below w.heap.size w W) => c_areNames B d ns W (hn.below hb) (by omega))
  cases hh : handB ts
  · have e1 : renHL ts ns = [] := by simp [renHL, hh]
    rw [e1, Bool.false_and]
    rw [hh] at conH
    clear e1 hr hn hh
    go_enter Try.func91, Try.ntmps91
    go_wp2_with (go_at_call 63; refine conH.out.mono ?_; rintro e w1 ⟨rfl, hb1⟩)
    go_ret2
    exact ⟨none, 0, rfl, World.ownsRow_nil _ _ _ _, hb1⟩
  · rw [hh] at conH
    cases hA : areB ns
    · have e1 : renHL ts ns = [] := by simp [renHL, hA]
      rw [e1]
      rw [hA] at conA
      clear e1 hr hn hh hA
      go_enter Try.func91, Try.ntmps91
      go_wp2_with (first | (go_at_call 63; refine conH.out.mono ?_; rintro e w1 ⟨rfl, hb1⟩) | (go_at_call 90; refine (conA.out _ hb1).mono ?_; rintro e w2 ⟨rfl, hb2⟩))
      go_ret2
      exact ⟨none, 0, rfl, World.ownsRow_nil _ _ _ _, bstep hb1 hb2⟩
    · rw [hA] at conA
      have e1 : renHL ts ns = sortL (renL ts ns) := by unfold renHL; rw [hh, hA]; rfl
      have hrn := ren_hand hh hA
      have Hn := Lib.hid (fun (m : Nat) (hm' : m ≤ 9) W (hbW : Below w.heap.size w W) => rdi_nm hn hA hbW (m := m) hm')
      have Hg := Lib.hid (ren_good (ns := ns) hh hA)
      have Hnum := Lib.hid (fun (i : Int) (hi : numB i = true) => nm_num hA hi)
      have h10 : 10 ≤ ns.length := Nat.le_of_eq ((of_decide_eq_true hA : areP ns).1).symm
      have hts : ts.length ≤ 55 := (handB_good hh).1
      have E3 := Lib.hid (fun t (ht : t ∈ ts) => (rfl : tile2 (nm ns t.1) (nm ns t.2) = tile2 (nm ns t.1) (nm ns t.2)))
      have hrl := renL_len ts ns
      rw [e1]
      have hget := Lib.hid (fun k (hk : k < ts.length) => (show (renL ts ns)[k]? = some (tile2 (nm ns ts[k].1) (nm ns ts[k].2)) from by simp [renL, hk]))
      obtain ⟨rs, hrs⟩ : ∃ rs, rs = renL ts ns := ⟨_, rfl⟩
      rw [← hrs] at hrn hrl hget ⊢
      have conS := Lib.hid (fun W A' c' (hr' : RdT W A' rs) => c_implSortHand A' c' rs W hr' (by omega))
      have e5 : sortHL rs = sortL rs := by simp [sortHL, hrn]
      rw [e5, hrn] at conS
      have Hrl := Lib.hid hrl
      obtain ⟨i0, hi, hz0, hz1, hz2⟩ := info_parts Try.info_tile
      clear e1 hn hh hA hrs hrn e5 hrl E3
      go_enter Try.func91, Try.ntmps91
      go_wp2_with (first | (go_at_call 63; refine conH.out.mono ?_; rintro e w1 ⟨rfl, hb1⟩) | (go_at_call 90; refine (conA.out _ hb1).mono ?_; rintro e w2 ⟨rfl, hb2⟩; have hb12 := bstep hb1 hb2) | (refine wpList_make_full _ rfl _ _ _ rfl w2.heap.size 82 i0 _ 2 Try.underlying28 hi hz0 hz1 .i64 .i64 _ _ ts.length rfl rfl rfl rfl (by rw [hz2]; omega) (by unfold maxLen; omega) (Nat.le_refl _) ?_; intro w3 hown2 hg2))
      have hown : w3.ownsRow w2.heap.size 82 2 (.slice (some ⟨w2.heap.size, 0, none⟩) ts.length ts.length) ts.length (cellsT (copyL 0 rs)) := by
        rw [copyL_zero, Hrl.out]
        exact hown2
      have hb3 : Below w2.heap.size w2 w3 := below_of_grown hg2 (Nat.le_refl _) (by simp)
      have hbb : Below w.heap.size w w3 := bstep hb12 hb3
      have hsz := hb12.size
      clear hown2 hg2 hb3 hb1 hb2 hz0 hz1 hz2 hi conH conA
      go_loopw [22] (fun i wr => ∃ k : Nat, k ≤ ts.length ∧ i = .int .i64 k ∧ wr.ownsRow w2.heap.size 82 2 (.slice (some ⟨w2.heap.size, 0, none⟩) ts.length ts.length) ts.length (cellsT (copyL k rs)) ∧ Below w.heap.size w wr) (fun i _ => ts.length - (intOf i).toNat)
      case atStart => exact ⟨0, Nat.zero_le _, rfl, hown, hbb⟩
      case round =>
        clear hown hbb
        obtain ⟨k, hk, rfl, hown, hb⟩ := hrel
        by_cases hlt : k < ts.length
        · obtain ⟨bk, off, rfl, hbk, hc⟩ := hr.at_ hlt
          have g1 := (hb.cell (p := ⟨bk, _, none⟩) hbk).trans (hc k hlt).1
          have g2 := (hb.cell (p := ⟨bk, _, none⟩) hbk).trans (hc k hlt).2
          obtain ⟨n1, n2, _⟩ := Hg.out _ (List.getElem_mem hlt)
          obtain ⟨i1, hi1, ei1⟩ := numB_nat n1
          obtain ⟨i2, hi2, ei2⟩ := numB_nat n2
          obtain ⟨bn, on, rfl, hbnw, g3⟩ := Hn.out i1 hi1 wr hb
          obtain ⟨bn', on', e, _, g4⟩ := Hn.out i2 hi2 wr hb
          injection e with e
          injection e with e5 e6
          subst e5 e6
          have hgk := hget.out k hlt
          have hl : k < rs.length := by rw [Hrl.out]; exact hlt
          have hst := copyL_step (ts := rs) hl
          rw [List.getElem?_eq_getElem hl] at hgk
          injection hgk with hgk
          have hp0 := Hnum.out _ n1
          have hq0 := Hnum.out _ n2
          rw [ei1] at g1 hgk hp0
          rw [ei2] at g2 hgk hq0
          generalize nm ns (i1 : Int) = p at g3 hgk hp0
          generalize nm ns (i2 : Int) = q at g4 hgk hq0
          rw [hgk] at hst
          have hbn : bothNum p q = true := by unfold bothNum; rw [hp0, hq0]; rfl
          have hto : tile2 p q = (ofLow p q, ofHigh p q) := by unfold tile2 ofLow ofHigh; rw [if_pos hbn, if_pos hbn]
          rw [hto] at hst
          clear hto
          have Hst := Lib.hid hst
          have Hb := Lib.hid hb
          have Ho := Lib.hid hown
          have hcg := cellsT_get (copyL k rs) k (by rw [copyL_length (by omega)]; exact hl)
          have x1 := (hown.cellAt (k * 2) (by omega)).trans hcg.1
          have x2 := (hown.cellAt (k * 2 + 1) (by omega)).trans hcg.2
          have f1 := hown.frozenAt (k * 2)
          have f2 := hown.frozenAt (k * 2 + 1)
          have hszG := (hown.lt w2.heap.size rfl).2
          clear hc hcg hown hb hst hgk hp0 hq0 n1 n2 ei1 ei2 hr
          have j0 : (0 : Int) ≤ (i1 : Int) := by omega
          have j1 : (i1 : Int) < (ns.length : Int) := by omega
          have j2 : (0 : Int) ≤ (i2 : Int) := by omega
          have j3 : (i2 : Int) < (ns.length : Int) := by omega
          have Hb2 := Lib.hid (Hb.out.alloc (o := .cells #[.int .i64 i1, .int .i64 i2] 82) Hb.out.size)
          have x3 : (wr.alloc (.cells #[.int .i64 i1, .int .i64 i2] 82)).cell? ⟨wr.heap.size, 0, none⟩ = some (.int .i64 i1) := by simp
          have x4 : (wr.alloc (.cells #[.int .i64 i1, .int .i64 i2] 82)).cell? ⟨wr.heap.size, 1, none⟩ = some (.int .i64 i2) := by simp
          have x5 := keepc ((Below.refl _ wr).alloc (o := .cells #[.int .i64 i1, .int .i64 i2] 82) (Nat.le_refl _)) g3
          have x6 := keepc ((Below.refl _ wr).alloc (o := .cells #[.int .i64 i1, .int .i64 i2] 82) (Nat.le_refl _)) g4
          have x7 := keepc ((Below.refl _ wr).alloc (o := .cells #[.int .i64 i1, .int .i64 i2] 82) (Nat.le_refl _)) x1
          have x8 := keepc ((Below.refl _ wr).alloc (o := .cells #[.int .i64 i1, .int .i64 i2] 82) (Nat.le_refl _)) x2
          have f3 := (Lib.hid (Ho.out.alloc (.cells #[.int .i64 i1, .int .i64 i2] 82))).out.frozenAt (k * 2)
          have f4 := (Lib.hid (Ho.out.alloc (.cells #[.int .i64 i1, .int .i64 i2] 82))).out.frozenAt (k * 2 + 1)
          have Ho1 := Lib.hid (Ho.out.alloc (.cells #[.int .i64 i1, .int .i64 i2] 82))
          have n1 : wr.heap.size ≠ w2.heap.size := by omega
          have n2 : bn ≠ w2.heap.size := by omega
          go_wp2_with fail
          clear g1 g2 g3 g4 x1 x2 f1 f2
          obtain ⟨wv, hwv⟩ : ∃ wv, wv = wr.alloc (.cells #[.int .i64 i1, .int .i64 i2] 82) := ⟨_, rfl⟩
          have hsv : wr.heap.size < wv.heap.size := by rw [hwv]; simp
          rw [← hwv] at Hb2 Ho1 x3 x4 x5 x6 x7 x8 f3 f4 ⊢
          obtain ⟨G, hG⟩ : ∃ G, G = wr.heap.size := ⟨_, rfl⟩
          rw [← hG] at x3 x4 n1 hsv ⊢
          have hszv : w2.heap.size < wv.drew.heap.size := by show w2.heap.size < wv.heap.size; omega
          clear hwv hG
          go_region_held3 (fun w' => w'.cell? ⟨G, 0, none⟩ = some (.int .i64 i1) ∧ w'.cell? ⟨G, 1, none⟩ = some (.int .i64 i2) ∧ w'.cell? ⟨bn, on + i1, none⟩ = some (.int .i64 p) ∧ w'.cell? ⟨bn, on + i2, none⟩ = some (.int .i64 q)) (first | exact ⟨y3, y4, y5, y6⟩ | exact ⟨x3, x4, x5, x6⟩ | exact ⟨(set2_far n1 _ _ _ _ _).trans y3, (set2_far n1 _ _ _ _ _).trans y4, (set2_far n2 _ _ _ _ _).trans y5, (set2_far n2 _ _ _ _ _).trans y6⟩ | go_keep) (first | (go_at_call 124; refine (c_implTileOf _ _ _).mono ?_; rintro e w3 ⟨rfl, hb3⟩; have y3 := keepc hb3 (g1d _ x3); have y4 := keepc hb3 (g1d _ x4); have y5 := keepc hb3 (g1d _ x5); have y6 := keepc hb3 (g1d _ x6); have y7 := keepc hb3 (g1d _ x7); have y8 := keepc hb3 (g1d _ x8); have l1 : w3.frozen? ⟨w2.heap.size, k * 2, none⟩ = false := (hb3.frozen (p := ⟨w2.heap.size, k * 2, none⟩) hszv).trans f3; have l2 : w3.frozen? ⟨w2.heap.size, k * 2 + 1, none⟩ = false := (hb3.frozen (p := ⟨w2.heap.size, k * 2 + 1, none⟩) hszv).trans f4))
          go_wp2
          go_roundw
          case rel =>
            refine ⟨k + 1, by omega, by go_num, ?_, ((bstep Hb2.out.drew hb3).setCell hsz _).setCell hsz _⟩
            rw [← Hst.out]
            exact (World.ownsRow.stored ((own_keep (own_drew Ho1.out) hb3).stored _ _).1 _ _).1
          case measure => simp [intOf]; omega
        · have e : k = ts.length := by omega
          subst e
          have e2 : copyL ts.length rs = rs := by rw [← Hrl.out]; exact copyL_all rs
          rw [e2] at hown
          have hown' : wr.ownsRow w2.heap.size 82 2 (.slice (some ⟨w2.heap.size, 0, none⟩) rs.length ts.length) rs.length (cellsT rs) := by rw [Hrl.out]; exact hown
          have con := conS.out wr _ ts.length (RdT.of_own hown')
          rw [Hrl.out] at con
          have Con := Lib.hid con
          clear con conS
          go_wp2_with (go_at_call 120; refine Con.out.mono ?_; rintro e w5 ⟨A2, c2, rfl, ho2, hb5⟩)
          go_ret2
          exact ⟨A2, c2, rfl, own_base ho2 hb.size, bstep hb hb5⟩

end Go.Proofs.Ytjdnkcdnppcbhaa

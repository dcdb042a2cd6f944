/- The tiles of a layout: the program's tilesAt, the specification's taTiles; TilesOfLayout of both. -/
import Derived.Test.YtjbdflkbclhonabDoorTabZ
namespace Go.Proofs.YtjbdflkbclhonabDoor
open Go.RowKit
set_option linter.unusedVariables false

/-- The tiles of pairs of cells with the numbers D. -/
def dgI (D : List Int) (i : Int) : Int := D.getD i.toNat 0
def tlP (D : List Int) (P : List (Int × Int)) : List (Int × Int) := P.map fun p => (min (dgI D p.1) (dgI D p.2), max (dgI D p.1) (dgI D p.2))
theorem dgI_at {D : List Int} {i : Nat} (h : i < D.length) : dgI D (i : Int) = D[i] := by simp [dgI, h]
theorem tlP_snoc (D : List Int) (P : List (Int × Int)) (p q : Int) : tlP D (P ++ [(p, q)]) = tlP D P ++ [(min (dgI D p) (dgI D q), max (dgI D p) (dgI D q))] := by simp [tlP]
theorem tlP_len (D : List Int) (P : List (Int × Int)) : (tlP D P).length = P.length := by simp [tlP]
def RetTl (w : World) (ts : List (Int × Int)) (e : Ending) (w' : World) : Prop :=
  ∃ A c, e = .returned (.slice A ts.length c) ∧ w'.ownsRow w.heap.size 27 2 (.slice A ts.length c) ts.length (cellsT ts) ∧ Below w.heap.size w w'
theorem digL_at {L : List UInt8} {i : Nat} (h : i < L.length) : dgI (digL L) (i : Int) = (L[i].toNat : Int) - 48 := by
  rw [dgI_at (by simp [digL]; exact h)]
  simp [digL]
theorem lay_some {W : Nat} {L : List UInt8} (h : layB W L = true) {k : Nat} (hk : k < L.length) : ∃ j, othU W L.length k L[k] = some j := by
  have ha : layAt W L k = true := by
    unfold layB at h
    rw [List.all_eq_true] at h
    exact h k (List.mem_range.2 hk)
  unfold layAt at ha
  rw [getD_at hk] at ha
  cases ho : othU W L.length k L[k] with
  | none => rw [ho] at ha; cases ha
  | some j => exact ⟨j, rfl⟩
theorem pr_of {W n k j : Nat} {b : UInt8} (h : othU W n k b = some j) : prU W n k b = (min k j, max k j) := by unfold prU; rw [h]
theorem prsTo_in {W : Nat} {L : List UInt8} (hW : 0 < W) (hr : ∃ H, L.length = H * W) (hl : layB W L = true) : ∀ {k : Nat}, k ≤ L.length → ∀ p ∈ prsTo W L k, ∃ i j : Nat, p = ((i : Int), (j : Int)) ∧ i < L.length ∧ j < L.length
  | 0, _, p, hp => by rw [prsTo_zero] at hp; cases hp
  | k + 1, hk, p, hp => by
    obtain ⟨j, hj⟩ := lay_some hl (k := k) (by omega)
    have hjn := oth_lt hW hr (by omega) hj
    rcases Nat.lt_or_ge k j with h | h
    · rw [prsTo_yes (p := k) (q := j) (by omega) (by rw [pr_of hj]; congr 1 <;> omega) rfl, List.mem_append] at hp
      rcases hp with hp | hp
      · exact prsTo_in hW hr hl (by omega) p hp
      · rw [List.mem_singleton] at hp
        exact ⟨k, j, hp, by omega, hjn.1⟩
    · rw [prsTo_no (p := j) (q := k) (by omega) (by rw [pr_of hj]; congr 1 <;> omega) (by omega)] at hp
      exact prsTo_in hW hr hl (by omega) p hp

set_option maxRecDepth 100000 in
set_option maxHeartbeats 2000000 in
theorem c_tilesAt (A : Option Addr) (c W : Nat) (L : List UInt8) (B : Option Addr) (d : Nat) (P : List (Int × Int)) (w : World) (hA : RdU w A L) (hB : RdT w B P) (hin : ∀ p ∈ P, ∃ i j : Nat, p = ((i : Int), (j : Int)) ∧ i < L.length ∧ j < L.length) (hdig : ∀ b ∈ L, digB b = true) (hl : P.length ≤ 60) :
    Calls Tryd.prog 52 #[.agg #[.slice A L.length c, .int .i64 W], .slice B P.length d] w (RetTl w (tlP (digL L) P)) := by
  have hb0 : Below w.heap.size w (w.alloc (.cells #[.slice A L.length c, .int .i64 W] 53)) := by go_grown
  have r0 : (w.alloc (.cells #[.slice A L.length c, .int .i64 W] 53)).cell? ⟨w.heap.size, 0, none⟩ = some (.slice A L.length c) := by simp
  have r1 : (w.alloc (.cells #[.slice A L.length c, .int .i64 W] 53)).cell? ⟨w.heap.size, 1, none⟩ = some (.int .i64 W) := by simp
  have Hin := Lib.hid hin
  have Hdig := Lib.hid hdig
  have HA := Lib.hid (hA.below hb0)
  have HB := Lib.hid (hB.below hb0)
  obtain ⟨rs, hrs⟩ : ∃ rs, rs = tlP (digL L) P := ⟨_, rfl⟩
  have hrl : rs.length = P.length := by rw [hrs]; exact tlP_len _ _
  have Hget := Lib.hid (fun k (hk : k < P.length) => (show rs[k]? = some (min (dgI (digL L) P[k].1) (dgI (digL L) P[k].2), max (dgI (digL L) P[k].1) (dgI (digL L) P[k].2)) from by rw [hrs]; simp [tlP, hk]))
  rw [← hrs]
  have Hrl := Lib.hid hrl
  obtain ⟨v1, hv1⟩ : ∃ v1, v1 = w.alloc (.cells #[.slice A L.length c, .int .i64 W] 53) := ⟨_, rfl⟩
  have Hb0 := Lib.hid hb0
  rw [← hv1] at r0 r1 HA HB Hb0
  obtain ⟨i0, hi, hz0, hz1, hz2⟩ := info_parts Tryd.info_tile
  clear hA hB hin hdig hrs hrl hb0
  go_enter Tryd.func52, Tryd.ntmps52
  go_wp2_with (refine wpList_make_full _ rfl _ _ _ rfl v1.heap.size 27 i0 _ 2 Tryd.underlying34 hi hz0 hz1 .i64 .i64 _ _ P.length rfl rfl rfl rfl (by rw [hz2]; omega) (by unfold maxLen; omega) (by rw [hv1]; exact Nat.le_refl _) ?_; intro w3 hown2 hg2)
  rw [← hv1] at hown2 hg2
  have hown : w3.ownsRow v1.heap.size 27 2 (.slice (some ⟨v1.heap.size, 0, none⟩) P.length P.length) P.length (cellsT (copyL 0 rs)) := by
    rw [copyL_zero, Hrl.out]
    exact hown2
  have hb3 : Below v1.heap.size v1 w3 := below_of_grown hg2 (Nat.le_refl _) (by simp)
  have hgv : w.heap.size < v1.heap.size := block_lt r0
  have hs1 : w.heap.size + 1 = v1.heap.size := by rw [hv1]; simp
  rw [hs1]
  clear hown2 hg2 hv1 hs1 hz0 hz1 hz2 hi
  go_loopw [13] (fun i wr => ∃ k : Nat, k ≤ P.length ∧ i = .int .i64 k ∧ wr.ownsRow v1.heap.size 27 2 (.slice (some ⟨v1.heap.size, 0, none⟩) P.length P.length) P.length (cellsT (copyL k rs)) ∧ Below v1.heap.size v1 wr) (fun i _ => P.length - (intOf i).toNat)
  case atStart => exact ⟨0, Nat.zero_le _, rfl, hown, hb3⟩
  case round =>
    clear hown hb3
    obtain ⟨k, hk, rfl, hown, hb⟩ := hrel
    by_cases hlt : k < P.length
    · obtain ⟨bk, off, rfl, hbk, hc⟩ := HB.out.at_ hlt
      have g1 := keepc hb (hc k hlt).1
      have g2 := keepc hb (hc k hlt).2
      have s0 := keepc hb r0
      have s1 := keepc hb r1
      obtain ⟨i, j, hpk, hi, hj⟩ := Hin.out _ (List.getElem_mem hlt)
      have hgk := Hget.out k hlt
      rw [hpk] at g1 g2 hgk
      simp only at g1 g2 hgk
      rw [digL_at hi, digL_at hj] at hgk
      have hl' : k < rs.length := by rw [Hrl.out]; exact hlt
      have hst := copyL_step (ts := rs) hl'
      rw [List.getElem?_eq_getElem hl'] at hgk
      injection hgk with hgk
      rw [hgk] at hst
      have hbn : bothNum ((L[i].toNat : Int) - 48) ((L[j].toNat : Int) - 48) = true := by
        unfold bothNum
        rw [numB_dig, numB_dig, Hdig.out _ (List.getElem_mem hi), Hdig.out _ (List.getElem_mem hj)]
        rfl
      have hlo : ofLow ((L[i].toNat : Int) - 48) ((L[j].toNat : Int) - 48) = min ((L[i].toNat : Int) - 48) ((L[j].toNat : Int) - 48) := by unfold ofLow; rw [if_pos hbn]
      have hhi : ofHigh ((L[i].toNat : Int) - 48) ((L[j].toNat : Int) - 48) = max ((L[i].toNat : Int) - 48) ((L[j].toNat : Int) - 48) := by unfold ofHigh; rw [if_pos hbn]
      rw [← hlo, ← hhi] at hst
      have Hst := Lib.hid hst
      have Hb := Lib.hid hb
      have Ho := Lib.hid hown
      have hsz := hb.size
      have hszG := (hown.lt v1.heap.size rfl).2
      have hcg := cellsT_get (copyL k rs) k (by rw [copyL_length (by omega)]; exact hl')
      have x1 := (hown.cellAt (k * 2) (by omega)).trans hcg.1
      have x2 := (hown.cellAt (k * 2 + 1) (by omega)).trans hcg.2
      have x7 := keepc ((Below.refl _ wr).alloc (o := .cells #[.int .i64 i, .int .i64 j] 81) (Nat.le_refl _)) x1
      have x8 := keepc ((Below.refl _ wr).alloc (o := .cells #[.int .i64 i, .int .i64 j] 81) (Nat.le_refl _)) x2
      have x3 : (wr.alloc (.cells #[.int .i64 i, .int .i64 j] 81)).cell? ⟨wr.heap.size, 0, none⟩ = some (.int .i64 i) := by simp
      have x4 : (wr.alloc (.cells #[.int .i64 i, .int .i64 j] 81)).cell? ⟨wr.heap.size, 1, none⟩ = some (.int .i64 j) := by simp
      have x5 := keepc ((Below.refl _ wr).alloc (o := .cells #[.int .i64 i, .int .i64 j] 81) (Nat.le_refl _)) s0
      have x6 := keepc ((Below.refl _ wr).alloc (o := .cells #[.int .i64 i, .int .i64 j] 81) (Nat.le_refl _)) s1
      have f3 := (Lib.hid (Ho.out.alloc (.cells #[.int .i64 i, .int .i64 j] 81))).out.frozenAt (k * 2)
      have f4 := (Lib.hid (Ho.out.alloc (.cells #[.int .i64 i, .int .i64 j] 81))).out.frozenAt (k * 2 + 1)
      have Ho1 := Lib.hid (Ho.out.alloc (.cells #[.int .i64 i, .int .i64 j] 81))
      have Hb2 := Lib.hid (Hb.out.alloc (o := .cells #[.int .i64 i, .int .i64 j] 81) Hb.out.size)
      have HRd := Lib.hid (HA.out.below Hb2.out)
      have n1 : v1.heap.size ≠ wr.heap.size := by omega
      have n2 : v1.heap.size ≠ w.heap.size := by omega
      clear hc hown hb hcg x1 x2 hst hgk hlo hhi hbn hpk
      go_wp2_with fail
      clear g1 g2 s0 s1
      obtain ⟨wv, hwv⟩ : ∃ wv, wv = wr.alloc (.cells #[.int .i64 i, .int .i64 j] 81) := ⟨_, rfl⟩
      have hsv : wr.heap.size < wv.heap.size := by rw [hwv]; simp
      rw [← hwv] at Hb2 Ho1 x3 x4 x5 x6 x7 x8 f3 f4 HRd ⊢
      obtain ⟨G, hG⟩ : ∃ G, G = wr.heap.size := ⟨_, rfl⟩
      rw [← hG] at x3 x4 n1 hsv ⊢
      have hszv : v1.heap.size < wv.drew.heap.size := by show v1.heap.size < wv.heap.size; omega
      have conI := Lib.hid (fun W' (h : Below wv.heap.size wv W') => c_numberAt A c W L i W' (HRd.out.below h) hi)
      have conJ := Lib.hid (fun W' (h : Below wv.heap.size wv W') => c_numberAt A c W L j W' (HRd.out.below h) hj)
      generalize (L[i].toNat : Int) - 48 = p at *
      generalize (L[j].toNat : Int) - 48 = q at *
      clear hwv hG
      refine wp_region_held_drew (S := fun w' => w'.cell? ⟨G, 0, none⟩ = some (.int .i64 i) ∧ w'.cell? ⟨G, 1, none⟩ = some (.int .i64 j) ∧ w'.cell? ⟨w.heap.size, 0, none⟩ = some (.slice A L.length c) ∧ w'.cell? ⟨w.heap.size, 1, none⟩ = some (.int .i64 W)) (by kernel_rfl) ⟨g1d _ x3, g1d _ x4, g1d _ x5, g1d _ x6⟩ (fun hH0 => ?_)
      refine reg_take 0 rfl (by kernel_rfl) (by kernel_rfl) (by kernel_rfl) (fun _ _ _ h => h) (by rfl) (fun w _ => by first | (go_simp; done) | (go_simp; with_reducible rfl)) (by assumption) ?_
      try simp only [Act.put, List.setIfInBounds_toArray, List.set_cons_zero, List.set_cons_succ, List.getElem_toArray, List.getElem_cons_zero]
      refine reg_take 1 rfl (by kernel_rfl) (by kernel_rfl) (by kernel_rfl) (fun _ _ _ h => h) (by rfl) (fun w _ => by first | (go_simp; done) | (go_simp; with_reducible rfl)) (by assumption) ?_
      try simp only [Act.put, List.setIfInBounds_toArray, List.set_cons_zero, List.set_cons_succ, List.getElem_toArray, List.getElem_cons_zero, List.getElem_cons_succ]
      refine reg_take 2 rfl (by kernel_rfl) (by kernel_rfl) (by kernel_rfl) (fun _ _ _ h => h) (by rfl) (fun w hSw => by (try dsimp only at hSw); first | (go_simp; done) | (go_simp; with_reducible rfl)) (by assumption) ?_
      try simp only [Act.put, List.setIfInBounds_toArray, List.set_cons_zero, List.set_cons_succ, List.getElem_toArray, List.getElem_cons_zero, List.getElem_cons_succ]
      refine reg_take 3 rfl (by kernel_rfl) (by kernel_rfl) (by kernel_rfl) (fun _ _ _ h => h) (by rfl) (fun w _ => by first | (go_simp; done) | (go_simp; with_reducible rfl)) (by assumption) ?_
      try simp only [Act.put, List.setIfInBounds_toArray, List.set_cons_zero, List.set_cons_succ, List.getElem_toArray, List.getElem_cons_zero, List.getElem_cons_succ]
      refine reg_take 4 rfl (by kernel_rfl) (by kernel_rfl) (by kernel_rfl) (fun _ _ _ h => h) (by rfl) (fun w hSw => by (try dsimp only at hSw); first | (go_simp; done) | (go_simp; with_reducible rfl)) (by assumption) ?_
      try simp only [Act.put, List.setIfInBounds_toArray, List.set_cons_zero, List.set_cons_succ, List.getElem_toArray, List.getElem_cons_zero, List.getElem_cons_succ]
      refine reg_take 6 rfl (by kernel_rfl) (by kernel_rfl) (by kernel_rfl) (fun _ _ _ h => h) (by rfl) (fun w hSw => by (try dsimp only at hSw); first | (go_simp; done) | (go_simp; with_reducible rfl)) (by assumption) ?_
      try simp only [Act.put, List.setIfInBounds_toArray, List.set_cons_zero, List.set_cons_succ, List.getElem_toArray, List.getElem_cons_zero, List.getElem_cons_succ]
      refine reg_take 7 rfl (by kernel_rfl) (by kernel_rfl) (by kernel_rfl) (fun _ _ _ h => h) (by rfl) (fun w _ => by first | (go_simp; done) | (go_simp; with_reducible rfl)) (by assumption) ?_
      try simp only [Act.put, List.setIfInBounds_toArray, List.set_cons_zero, List.set_cons_succ, List.getElem_toArray, List.getElem_cons_zero, List.getElem_cons_succ]
      refine reg_take 8 rfl (by kernel_rfl) (by kernel_rfl) (by kernel_rfl) (fun _ _ _ h => h) (by rfl) (fun w hSw => by (try dsimp only at hSw); first | (go_simp; done) | (go_simp; with_reducible rfl)) (by assumption) ?_
      try simp only [Act.put, List.setIfInBounds_toArray, List.set_cons_zero, List.set_cons_succ, List.getElem_toArray, List.getElem_cons_zero, List.getElem_cons_succ]
      refine wpAnyH_ready (rs := [5]) (by kernel_rfl) (by simp) ?_
      refine AllReadyH.cons (i := 5) rfl (fun K hK => ?_) AllReadyH.nil
      go_simp
      go_at_call 50
      refine (conI.out _ (Below.refl _ wv).drew).mono ?_
      rintro e w4 ⟨rfl, hb4⟩
      have y3 := keepc hb4 (g1d _ x3)
      have y4 := keepc hb4 (g1d _ x4)
      have y5 := keepc hb4 (g1d _ x5)
      have y6 := keepc hb4 (g1d _ x6)
      have hb4' := bstep (Below.refl _ wv).drew hb4
      refine hK.out _ _ ⟨y3, y4, y5, y6⟩ (fun hH5 => ?_)
      clear hK K
      try simp only [Act.put, List.setIfInBounds_toArray, List.set_cons_zero, List.set_cons_succ, List.getElem_toArray, List.getElem_cons_zero, List.getElem_cons_succ]
      refine wpAnyH_ready (rs := [9]) (by kernel_rfl) (by simp) ?_
      refine AllReadyH.cons (i := 9) rfl (fun K hK => ?_) AllReadyH.nil
      go_simp
      go_at_call 50
      refine (conJ.out _ hb4').mono ?_
      rintro e w5 ⟨rfl, hb5⟩
      have z3 := keepc hb5 y3
      have z4 := keepc hb5 y4
      have z5 := keepc hb5 y5
      have z6 := keepc hb5 y6
      have hb5' := bstep hb4' hb5
      refine hK.out _ _ ⟨z3, z4, z5, z6⟩ (fun hH9 => ?_)
      clear hK K
      try simp only [Act.put, List.setIfInBounds_toArray, List.set_cons_zero, List.set_cons_succ, List.getElem_toArray, List.getElem_cons_zero, List.getElem_cons_succ]
      refine wpAnyH_ready (rs := [10]) (by kernel_rfl) (by simp) ?_
      refine AllReadyH.cons (i := 10) rfl (fun K hK => ?_) AllReadyH.nil
      go_simp
      go_at_call 64
      refine (c_implTileOf _ _ _).mono ?_
      rintro e w6 ⟨rfl, hb6⟩
      have u3 := keepc hb6 z3
      have u4 := keepc hb6 z4
      have u5 := keepc hb6 z5
      have u6 := keepc hb6 z6
      have hb6' := bstep hb5' hb6
      have l1 : w6.frozen? ⟨v1.heap.size, k * 2, none⟩ = false := (hb6'.frozen (p := ⟨v1.heap.size, k * 2, none⟩) hszv).trans f3
      have l2 : w6.frozen? ⟨v1.heap.size, k * 2 + 1, none⟩ = false := (hb6'.frozen (p := ⟨v1.heap.size, k * 2 + 1, none⟩) hszv).trans f4
      have u7 := keepc hb6' x7
      have u8 := keepc hb6' x8
      refine hK.out _ _ ⟨u3, u4, u5, u6⟩ (fun hH10 => ?_)
      clear hK K
      try simp only [Act.put, List.setIfInBounds_toArray, List.set_cons_zero, List.set_cons_succ, List.getElem_toArray, List.getElem_cons_zero, List.getElem_cons_succ]
      refine reg_take 11 rfl (by kernel_rfl) (by kernel_rfl) (by kernel_rfl) (fun _ _ _ h => h) (by rfl) (fun w _ => by first | (go_simp; done) | (go_simp; with_reducible rfl)) (by assumption) ?_
      try simp only [Act.put, List.setIfInBounds_toArray, List.set_cons_zero, List.set_cons_succ, List.getElem_toArray, List.getElem_cons_zero, List.getElem_cons_succ]
      refine reg_take 12 rfl (by kernel_rfl) (by kernel_rfl) (by kernel_rfl) (fun _ _ _ h => h) (by rfl) (fun w _ => by first | (go_simp; done) | (go_simp; with_reducible rfl)) (by assumption) ?_
      try simp only [Act.put, List.setIfInBounds_toArray, List.set_cons_zero, List.set_cons_succ, List.getElem_toArray, List.getElem_cons_zero, List.getElem_cons_succ]
      refine reg_take 13 rfl (by kernel_rfl) (by kernel_rfl) (by kernel_rfl) (fun _ _ _ h => h) (by rfl) (fun w _ => by first | (go_simp; done) | (go_simp; with_reducible rfl)) (by assumption) ?_
      try simp only [Act.put, List.setIfInBounds_toArray, List.set_cons_zero, List.set_cons_succ, List.getElem_toArray, List.getElem_cons_zero, List.getElem_cons_succ]
      refine reg_take 14 rfl (by kernel_rfl) (by kernel_rfl) (by kernel_rfl) (fun _ _ _ h => h) (by rfl) (fun w _ => by first | (go_simp; done) | (go_simp; with_reducible rfl)) (by assumption) ?_
      try simp only [Act.put, List.setIfInBounds_toArray, List.set_cons_zero, List.set_cons_succ, List.getElem_toArray, List.getElem_cons_zero, List.getElem_cons_succ]
      refine wpAnyH_ready (rs := [15]) (by kernel_rfl) (by simp) ?_
      refine AllReadyH.cons (i := 15) rfl (fun K hK => ?_) AllReadyH.nil
      go_simp
      skip
      refine hK.out _ _ ⟨farT n1 (farT n1 u3), farT n1 (farT n1 u4), farT n2 (farT n2 u5), farT n2 (farT n2 u6)⟩ (fun hH15 => ?_)
      clear hK K
      try simp only [Act.put, List.setIfInBounds_toArray, List.set_cons_zero, List.set_cons_succ, List.getElem_toArray, List.getElem_cons_zero, List.getElem_cons_succ]
      refine wpAnyH_done (by kernel_rfl) ?_ _
      · go_wp2
        go_roundw
        case rel =>
          refine ⟨k + 1, by omega, by go_num, ?_, ((bstep Hb2.out hb6').setCell (Nat.le_refl _) _).setCell (Nat.le_refl _) _⟩
          rw [← Hst.out]
          exact (World.ownsRow.stored ((own_keep Ho1.out hb6').stored _ _).1 _ _).1
        case measure => simp [intOf]; omega
    · have e : k = P.length := by omega
      subst e
      have e2 : copyL P.length rs = rs := by rw [← Hrl.out]; exact copyL_all rs
      rw [e2] at hown
      go_wp2
      go_ret
      exact ⟨some ⟨v1.heap.size, 0, none⟩, P.length, by rw [Hrl.out]; rfl, own_base (by rw [Hrl.out]; exact hown) (by have := Hb0.out.size; omega), bstep Hb0.out hb⟩

end Go.Proofs.YtjbdflkbclhonabDoor

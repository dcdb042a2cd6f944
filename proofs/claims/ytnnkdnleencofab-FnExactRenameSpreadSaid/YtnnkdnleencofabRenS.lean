/- Spreads renamed: the mathematics and the specification's walk. -/
import Derived.Test.YtnnkdnleencofabLyR
import Derived.Test.YtnnkdnleencofabBrdT
import Derived.Test.YtnnkdnleencofabAddS
import Derived.Test.YtnnkdnleencofabChain
import Derived.Test.YtnnkdnleencofabNames
namespace Go.Proofs.Ytnnkdnleencofab
open Go.RowKit
set_option linter.unusedVariables false

def nmS (ns : List Int) (i : Int) : Int := ns.getD i.toNat 0
theorem nmS_cell {ns : List Int} {m : Nat} (h : m < ns.length) : nmS ns m = ns[m] := by simp [nmS, List.getD, h]
theorem nmS_num {ns : List Int} (h : areB ns = true) {m : Nat} (hm : m ≤ 9) : numB (nmS ns m) = true := by
  have hp : areP ns := of_decide_eq_true h
  rw [nmS_cell (by have := hp.1; omega)]
  exact hp.2.1 _ (List.getElem_mem _)
theorem rdi_nmS {w W : World} {B : Option Addr} {ns : List Int} (h : RdI w B ns) (h10 : ns.length = 10) (hb : Below w.heap.size w W) {m : Nat} (hm : m ≤ 9) :
    ∃ b off, B = some ⟨b, off, none⟩ ∧ b < w.heap.size ∧ W.cell? ⟨b, off + m, none⟩ = some (.int .i64 (nmS ns m)) := by
  obtain ⟨b, off, rfl, hlt, hc⟩ := h.at_ (k := m) (by omega)
  exact ⟨b, off, rfl, hlt, by rw [nmS_cell (by omega)]; exact (hb.cell (p := ⟨b, _, none⟩) hlt).trans (hc m (by omega))⟩
theorem rdi_takeS {w : World} {A : Option Addr} {xs : List Int} (h : RdI w A xs) (k : Nat) : RdI w A (xs.take k) := by
  obtain ⟨b, off, h1, h2⟩ := h
  refine ⟨b, off, fun hne => h1 (by rintro rfl; simp at hne), fun j hj => ?_⟩
  rw [List.getElem_take]
  exact h2 j (by simp at hj; omega)
def hdP (ps : List (Int × Int × Int)) : Int × Int × Int := ps.headD (0, 0, 0)
def swS (ps : List (Int × Int × Int)) (ns : List Int) : Bool := decide (nmS ns (hdP ps).2.1 < nmS ns (hdP ps).1)
def armS (sw : Bool) (k : Nat) (r : Int) : Int := if sw && (decide (0 < k) && decide (r < 2)) then 1 - r else r
def renP (ns : List Int) (sw : Bool) (k : Nat) (p : Int × Int × Int) : Int × Int × Int := (min (nmS ns p.1) (nmS ns p.2.1), max (nmS ns p.1) (nmS ns p.2.1), armS sw k p.2.2)
def renSTo (ps : List (Int × Int × Int)) (ns : List Int) (k : Nat) : List (Int × Int × Int) := (List.range k).map fun i => renP ns (swS ps ns) i (ps.getD i (0, 0, 0))
theorem renSTo_len (ps : List (Int × Int × Int)) (ns : List Int) (k : Nat) : (renSTo ps ns k).length = k := by simp [renSTo]
theorem renSTo_step {ps : List (Int × Int × Int)} {ns : List Int} {k : Nat} (h : k < ps.length) : renSTo ps ns (k + 1) = renSTo ps ns k ++ [renP ns (swS ps ns) k ps[k]] := by
  unfold renSTo
  rw [List.range_succ, List.map_append]
  simp [h]
def renSL (ps : List (Int × Int × Int)) (ns : List Int) : List (Int × Int × Int) := if okL ps && areB ns then renSTo ps ns ps.length else []
theorem renSL_len (ps : List (Int × Int × Int)) (ns : List Int) : (renSL ps ns).length ≤ 110 := by
  unfold renSL
  split
  · rename_i h
    rw [Bool.and_eq_true] at h
    have := okL_len h.1
    rw [renSTo_len]
    omega
  · simp
theorem hdP_get {ps : List (Int × Int × Int)} (h : 0 < ps.length) : hdP ps = ps[0] := by
  cases ps with
  | nil => simp at h
  | cons p r => rfl
theorem okL_playR {ps : List (Int × Int × Int)} (h : okL ps = true) {k : Nat} (hk : k < ps.length) : numB ps[k].1 = true ∧ numB ps[k].2.1 = true ∧ numB ps[k].2.2 = true := by
  have h1 : brdL (ps.take (k + 1)) ≠ none := fun e => by
    have := brdL_stop e
    unfold okL at h
    rw [this] at h
    cases h
  rw [brdL_take hk] at h1
  cases hb : brdL (ps.take k) with
  | none => rw [hb] at h1; exact absurd rfl h1
  | some B =>
    rw [hb] at h1
    have hf : fitsL B ps[k] = true := by
      cases hf : fitsL B ps[k]
      · exact absurd (by simp [stepL, hf]) h1
      · rfl
    have h4 : B.arms.length ≤ 4 := by have := (brdD_ok (ps.take k)).four; rw [(brdD_some hb).1] at this; omega
    unfold fitsL at hf
    simp only [Bool.and_eq_true] at hf
    obtain ⟨⟨⟨_, hg⟩, _⟩, ha⟩ := hf
    simp only [goodB, Bool.and_eq_true] at hg
    refine ⟨hg.1, hg.2.1, ?_⟩
    unfold numB
    split at ha
    · simp only [decide_eq_true_eq] at ha
      rw [ha]
      rfl
    · simp only [Bool.and_eq_true, decide_eq_true_eq] at ha ⊢
      omega
theorem nodup_take {ns : List Int} (h : ∀ j (hj : j < ns.length), ns[j] ∉ ns.take j) : ∀ k, k ≤ ns.length → (ns.take k).Nodup
  | 0, _ => by simp
  | k + 1, hk => by
    rw [List.take_succ_eq_append_getElem (by omega), List.nodup_append]
    refine ⟨nodup_take h k (by omega), by simp, fun a ha b hb e => ?_⟩
    rw [List.mem_singleton] at hb
    exact h k (by omega) (by rw [← hb, ← e]; exact ha)
theorem are_yes {ns : List Int} (h10 : ns.length = 10) (hn : ∀ x ∈ ns, numB x = true) (h : ∀ j (hj : j < ns.length), ns[j] ∉ ns.take j) : areB ns = true := by
  refine decide_eq_true ⟨h10, hn, ?_⟩
  have := nodup_take h ns.length (Nat.le_refl _)
  rwa [List.take_length] at this

set_option maxRecDepth 100000 in
set_option maxHeartbeats 4000000 in
theorem c_specRenS (A : Option Addr) (c : Nat) (ps : List (Int × Int × Int)) (B : Option Addr) (d : Nat) (ns : List Int) (w : World) (hr : RdP w A ps) (hl : ps.length ≤ 1048576) (hn : RdI w B ns) (hln : ns.length ≤ 1048576) (hcap : ns.length ≤ d) :
    Calls Try.prog 29 #[.slice A ps.length c, .slice B ns.length d] w (RetP w (renSL ps ns) (okL ps && areB ns)) := by
  have con := Lib.hid (c_lyRead A c ps w hr hl)
  cases hh : okL ps
  · have e1 : renSL ps ns = [] := by simp [renSL, hh]
    rw [e1, Bool.false_and]
    rw [hh] at con
    clear e1 hr hn hh
    go_enter Try.func29, Try.ntmps29
    go_wp2_with (go_at_call 68; refine con.out.mono ?_; rintro e w1 ⟨g, S, rfl, _, hb1⟩)
    go_ret2
    exact ⟨none, 0, rfl, World.ownsRow_nil _ _ _ _, hb1⟩
  · rw [hh] at con
    by_cases h10 : ns.length = 10
    · have h10' : ((ns.length : Int) != 10) = false := by simp; omega
      have conA := Lib.hid (fun W (hb : Below w.heap.size w W) => c_l1All B d ns W (hn.below hb) (by omega))
      by_cases hall : ∀ x ∈ ns, numB x = true
      · have hd : decide (∀ x ∈ ns, numB x = true) = true := decide_eq_true hall
        rw [hd] at conA
        have H10 := Lib.hid h10
        have Hh := Lib.hid hh
        have Hall := Lib.hid hall
        have Hcap := Lib.hid hcap
        have ConL := Lib.hid (fun (k : Nat) (x : Int) W (hb : Below w.heap.size w W) => c_l1Has B d (ns.take k) x W (rdi_takeS (hn.below hb) k) (by simp; omega))
        have Hr := Lib.hid hr
        have Hn := Lib.hid hn
        clear hh h10 hall hd hcap hr hn
        go_enter Try.func29, Try.ntmps29
        go_wp2_with (first | (go_at_call 68; refine con.out.mono ?_; rintro e w1 ⟨g, S, rfl, _, hb1⟩) | (go_at_call 69; refine (conA.out _ hb1).mono ?_; rintro e w2 ⟨rfl, hb2⟩; have Hb2 := Lib.hid (bstep hb1 hb2); clear hb1 hb2))
        clear con conA
        go_loopw [34] (fun i wr => ∃ k : Nat, k ≤ ns.length ∧ i = .int .i64 k ∧ (∀ j (hj : j < ns.length), j < k → ns[j] ∉ ns.take j) ∧ Below w.heap.size w wr) (fun i _ => ns.length - (intOf i).toNat)
        case atStart => exact ⟨0, Nat.zero_le _, rfl, by omega, Hb2.out⟩
        case round =>
          obtain ⟨k, hk, rfl, hm, hb⟩ := hrel
          by_cases hlt : k < ns.length
          · obtain ⟨bk, off, rfl, hbk, hc⟩ := Hn.out.at_ hlt
            have g1 := (hb.cell (p := ⟨bk, _, none⟩) hbk).trans (hc k hlt)
            have conL := ConL.out k ns[k] wr hb
            have et : (ns.take k).length = k := by rw [List.length_take]; omega
            rw [et] at conL
            have j0 : (0 : Int) ≤ (k : Int) := by omega
            have j1 : (k : Int) < (ns.length : Int) := by omega
            have j2 : (k : Int) ≤ (d : Int) := by have := Hcap.out; omega
            have Hm := Lib.hid hm
            have Hb := Lib.hid hb
            by_cases hin : ns[k] ∈ ns.take k
            · rw [decide_eq_true hin] at conL
              have Con := Lib.hid conL
              have hA := are_twice hlt hin
              have e1 : renSL ps ns = [] := by simp [renSL, hA]
              have E1 := Lib.hid e1
              have HA := Lib.hid hA
              generalize ns[k] = x at *
              clear hin conL et hm hb hc e1 hA ConL
              go_wp2_with (go_at_call 70; refine Con.out.mono ?_; rintro e w3 ⟨rfl, hb3⟩)
              go_ret2
              rw [E1.out, HA.out, Bool.and_false]
              exact ⟨none, 0, rfl, World.ownsRow_nil _ _ _ _, bstep Hb.out hb3⟩
            · rw [decide_eq_false hin] at conL
              have Con := Lib.hid conL
              have Hin := Lib.hid hin
              generalize hx : ns[k] = x at *
              have Hx := Lib.hid hx
              clear hin conL et hm hb hc hx ConL
              go_wp2_with (go_at_call 70; refine Con.out.mono ?_; rintro e w3 ⟨rfl, hb3⟩)
              go_roundw
              case rel =>
                refine ⟨k + 1, by omega, by go_num, fun j hj hjk => ?_, bstep Hb.out hb3⟩
                rcases Nat.lt_succ_iff_lt_or_eq.1 hjk with h | rfl
                · exact Hm.out j hj h
                · rw [Hx.out]; exact Hin.out
              case measure => simp [intOf]; omega
          · have hA : areB ns = true := are_yes H10.out Hall.out (fun j hj => hm j hj (by omega))
            have HA := Lib.hid hA
            have Hb := Lib.hid hb
            have e1 : renSL ps ns = renSTo ps ns ps.length := by unfold renSL; rw [Hh.out, hA]; rfl
            have E1 := Lib.hid e1
            clear hm e1 hA ConL hb
            by_cases h0 : ps.length = 0
            · have q0 : ¬ (0 : Int) < (ps.length : Int) := by omega
              have e2 : renSTo ps ns ps.length = [] := by rw [h0]; rfl
              have E2 := Lib.hid (E1.out.trans e2)
              have H0 := Lib.hid h0
              clear h0 e2
              have q0e : decide (0 < ps.length) = false := decide_eq_false (by have := H0.out; omega)
              have hbv0 := Hb.out
              go_wp2
              go_quiet (fail)
              go_wp2
              obtain ⟨v1, hv1⟩ : ∃ v1, v1 = wr.drewN nq := ⟨_, rfl⟩
              rw [← hv1]
              have Hbv := Lib.hid (show Below w.heap.size w v1 from by rw [hv1]; exact belowN hbv0 _)
              clear hv1 hbv0
              go_loopw [11, 69] (fun v i w' => v = .slice none 0 0 ∧ i = .int .i64 0 ∧ Below v1.heap.size v1 w') (fun _ i _ => 0)
              case atStart => exact ⟨rfl, rfl, Below.refl _ _⟩
              case round =>
                obtain ⟨rfl, rfl, hb2⟩ := hrel
                go_wp2
                go_ret2
                rw [E2.out, HA.out]
                exact ⟨none, 0, rfl, World.ownsRow_nil _ _ _ _, bstep Hbv.out hb2⟩
            · have q0 : (0 : Int) < (ps.length : Int) := by omega
              have q0d : decide ((0 : Int) < (ps.length : Int)) = true := decide_eq_true q0
              have q0e : decide (0 < ps.length) = true := decide_eq_true (by omega)
              obtain ⟨bk, off, rfl, hbk, hc⟩ := Hr.out.at_ (k := 0) (by omega)
              obtain ⟨bn, on, rfl, hbn, hcn⟩ := Hn.out.at_ (k := 0) (by have := H10.out; omega)
              have HC := Lib.hid hc
              have HN := Lib.hid (fun m (hm : m ≤ 9) => (show w.cell? ⟨bn, on + m, none⟩ = some (.int .i64 (nmS ns m)) from by rw [nmS_cell (by have := H10.out; omega)]; exact hcn m (by have := H10.out; omega)))
              have Hp := Lib.hid (fun k (hk : k < ps.length) => okL_playR Hh.out hk)
              have h28 := okL_len Hh.out
              obtain ⟨hp0, hq0, _⟩ := Hp.out 0 (by omega)
              obtain ⟨i1, hi1, ei1⟩ := numB_nat hp0
              obtain ⟨i2, hi2, ei2⟩ := numB_nat hq0
              have g1 := (Hb.out.cell (p := ⟨bk, _, none⟩) hbk).trans (hc 0 (by omega)).1
              have g2 := (Hb.out.cell (p := ⟨bk, _, none⟩) hbk).trans (hc 0 (by omega)).2.1
              rw [ei1] at g1
              rw [ei2] at g2
              rw [show off + 0 * 3 = off from by omega] at g1 g2
              have g3 := (Hb.out.cell (p := ⟨bn, _, none⟩) hbn).trans (HN.out i1 hi1)
              have g4 := (Hb.out.cell (p := ⟨bn, _, none⟩) hbn).trans (HN.out i2 hi2)
              have hsw : swS ps ns = decide (nmS ns (i2 : Int) < nmS ns (i1 : Int)) := by unfold swS; rw [hdP_get (by omega), ei1, ei2]
              generalize nmS ns (i1 : Int) = a at g3 hsw
              generalize nmS ns (i2 : Int) = b at g4 hsw
              have J10 : 10 ≤ ns.length := by have := H10.out; omega
              have j0 : (0 : Int) ≤ (i1 : Int) := by omega
              have j1 : (i1 : Int) < (ns.length : Int) := by omega
              have j2 : (0 : Int) ≤ (i2 : Int) := by omega
              have j3 : (i2 : Int) < (ns.length : Int) := by omega
              clear hc hcn hp0 hq0 ei1 ei2 h0 hk
              by_cases hab : b < a
              · have HS := Lib.hid (hsw.trans (decide_eq_true hab))
                have qd : decide (b < a) = true := decide_eq_true hab
                have hbv0 := Hb.out
                clear hsw
                go_wp2
                go_quiet (fail)
                go_wp2
                obtain ⟨v1, hv1⟩ : ∃ v1, v1 = wr.drewN nq := ⟨_, rfl⟩
                rw [← hv1]
                have Hbv := Lib.hid (show Below w.heap.size w v1 from by rw [hv1]; exact belowN hbv0 _)
                clear hv1 hbv0 g1 g2 g3 g4 j0 j1 j2 j3 qd hab
                go_loopw [11, 69] (fun v i w' => ∃ (k : Nat) (A2 : Option Addr) (c2 : Nat), k ≤ ps.length ∧ i = .int .i64 k ∧ v = .slice A2 (renSTo ps ns k).length c2 ∧ w'.ownsRow v1.heap.size 32 3 (.slice A2 (renSTo ps ns k).length c2) (renSTo ps ns k).length (cellsP (renSTo ps ns k)) ∧ Below v1.heap.size v1 w') (fun _ i _ => ps.length - (intOf i).toNat)
                case atStart => exact ⟨0, none, 0, Nat.zero_le _, rfl, rfl, World.ownsRow_nil _ _ _ _, Below.refl _ _⟩
                case round =>
                  obtain ⟨k, A2, c2, hk, rfl, rfl, ho, hb2⟩ := hrel
                  have hpl := renSTo_len ps ns k
                  have hpl2 : (renSTo ps ns k).length ≤ 28 := by omega
                  have hbw := bstep Hbv.out hb2
                  by_cases hlt : k < ps.length
                  · obtain ⟨n1, n2, n3⟩ := Hp.out k hlt
                    obtain ⟨m1, hm1, em1⟩ := numB_nat n1
                    obtain ⟨m2, hm2, em2⟩ := numB_nat n2
                    have hr9 : 0 ≤ ps[k].2.2 ∧ ps[k].2.2 ≤ 9 := by simpa [numB] using n3
                    have t0 := (hbw.cell (p := ⟨bk, _, none⟩) hbk).trans (HC.out k hlt).1
                    have t1 := (hbw.cell (p := ⟨bk, _, none⟩) hbk).trans (HC.out k hlt).2.1
                    have t2 := (hbw.cell (p := ⟨bk, _, none⟩) hbk).trans (HC.out k hlt).2.2
                    have t3 := (hbw.cell (p := ⟨bn, _, none⟩) hbn).trans (HN.out m1 hm1)
                    have t4 := (hbw.cell (p := ⟨bn, _, none⟩) hbn).trans (HN.out m2 hm2)
                    have hst := renSTo_step (ns := ns) hlt
                    unfold renP at hst
                    rw [HS.out, em1, em2] at hst
                    rw [em1] at t0
                    rw [em2] at t1
                    generalize ps[k].2.2 = r at *
                    generalize nmS ns (m1 : Int) = x at t3 hst
                    generalize nmS ns (m2 : Int) = y at t4 hst
                    generalize renSTo ps ns k = T at *
                    have u0 : (0 : Int) ≤ (m1 : Int) := by omega
                    have u1 : (m1 : Int) < (ns.length : Int) := by omega
                    have u2 : (0 : Int) ≤ (m2 : Int) := by omega
                    have u3 : (m2 : Int) < (ns.length : Int) := by omega
                    have u4 : (0 : Int) ≤ (k : Int) := by omega
                    have u5 : (k : Int) < (ps.length : Int) := by omega
                    have iw : IntKind.i64.wrap (1 - r) = 1 - r := IntWalk.i64_in _ (by omega)
                    obtain ⟨w2, hw2⟩ : ∃ w2, w2 = wr := ⟨_, rfl⟩
                    rw [← hw2] at t0 t1 t2 t3 t4 ho hb2 hbw ⊢
                    clear hw2
                    have Hbq := Lib.hid hb2
                    have hsz := hb2.size
                    have hln := Lib.hid hpl
                    have Ho1 := Lib.hid (ho.alloc (.cells #[.int .i64 m1, .int .i64 m2, .int .i64 r] 32))
                    have hlo0 := Lib.hid (fun g (h : (Value.slice A2 T.length c2).ownBlock = some g) => ho.lt g h)
                    have x0 : (w2.alloc (.cells #[.int .i64 m1, .int .i64 m2, .int .i64 r] 32)).cell? ⟨w2.heap.size, 0, none⟩ = some (.int .i64 m1) := by simp
                    have x1 : (w2.alloc (.cells #[.int .i64 m1, .int .i64 m2, .int .i64 r] 32)).cell? ⟨w2.heap.size, 1, none⟩ = some (.int .i64 m2) := by simp
                    have x2 : (w2.alloc (.cells #[.int .i64 m1, .int .i64 m2, .int .i64 r] 32)).cell? ⟨w2.heap.size, 2, none⟩ = some (.int .i64 r) := by simp
                    have x3 := keepc ((Below.refl _ w2).alloc (o := .cells #[.int .i64 m1, .int .i64 m2, .int .i64 r] 32) (Nat.le_refl _)) t3
                    have x4 := keepc ((Below.refl _ w2).alloc (o := .cells #[.int .i64 m1, .int .i64 m2, .int .i64 r] 32) (Nat.le_refl _)) t4
                    clear n1 n2 n3 em1 em2 hm1 hm2 hpl ho hb2 hbw
                    by_cases hk0 : 0 < k
                    · have v0 : (0 : Int) < (k : Int) := by omega
                      by_cases hr2 : r < 2
                      · have hst2 : armS true k r = 1 - r := by unfold armS; rw [decide_eq_true hk0, decide_eq_true hr2]; rfl
                        rw [hst2] at hst
                        have Hst := Lib.hid hst
                        clear hst hst2
                        go_wp2_with fail
                        clear t0 t1 t2 t3 t4
                        obtain ⟨wv, hwv⟩ : ∃ wv, wv = (w2.alloc (.cells #[.int .i64 m1, .int .i64 m2, .int .i64 r] 32)) := ⟨_, rfl⟩
                        have hsv : w2.heap.size < wv.heap.size := by rw [hwv]; simp
                        have Hbv2 := Lib.hid (show Below v1.heap.size v1 wv from by rw [hwv]; exact Hbq.out.alloc hsz _)
                        rw [← hwv] at Ho1 x0 x1 x2 x3 x4 ⊢
                        obtain ⟨G, hG⟩ : ∃ G, G = w2.heap.size := ⟨_, rfl⟩
                        have hlo := Lib.hid (fun g (h : (Value.slice A2 T.length c2).ownBlock = some g) => (show v1.heap.size ≤ g ∧ g < G from by rw [hG]; exact hlo0.out g h))
                        rw [← hG] at x0 x1 x2 hsv ⊢
                        have hbn1 : bn < v1.heap.size := Nat.lt_of_lt_of_le hbn Hbv.out.size
                        clear hwv hG hlo0
                        go_region_held3 (fun w' => w'.cell? ⟨G, 0, none⟩ = some (.int .i64 m1) ∧ w'.cell? ⟨G, 1, none⟩ = some (.int .i64 m2) ∧ w'.cell? ⟨bn, on + m1, none⟩ = some (.int .i64 x) ∧ w'.cell? ⟨bn, on + m2, none⟩ = some (.int .i64 y)) (first | exact ⟨z0, z1, z3, z4⟩ | exact ⟨y0, y1, y3, y4⟩ | exact ⟨x0, x1, x3, x4⟩ | go_keep) (first | (go_at_call 71; refine (c_tiOf _ _ _).mono ?_; rintro e w4 ⟨rfl, hb4⟩; have y0 := keepc hb4 (g1d _ x0); have y1 := keepc hb4 (g1d _ x1); have y3 := keepc hb4 (g1d _ x3); have y4 := keepc hb4 (g1d _ x4); have hb04 := bstep Hbv2.out.drew hb4; have hz4 : v1.heap.size ≤ w4.heap.size := hb04.size; have Ho4 := Lib.hid ((own_keep (own_drew Ho1.out) hb4).alloc (.cells #[.int .i64 (min x y), .int .i64 (max x y), .int .i64 (1 - r)] 32))) | (refine step_append_PO rfl (.tmp 87) (.tmp 103) rfl v1.heap.size (.slice A2 T.length c2) T T.length rfl rfl Ho4.out (min x y) (max x y) (1 - r) w4.heap.size rfl (by simp) (by simp) (by simp) (by omega) (by rw [World.size_alloc]; omega) ?_; intro A3 c3 w5 hown5 hg5; have z0 := World.grownBy.cell hg5 (keepc ((Below.refl _ w4).alloc (Nat.le_refl _) _) y0) (fun e => by have := (hlo.out _ e.symm).2; simp only at this; omega); have z1 := World.grownBy.cell hg5 (keepc ((Below.refl _ w4).alloc (Nat.le_refl _) _) y1) (fun e => by have := (hlo.out _ e.symm).2; simp only at this; omega); have z3 := World.grownBy.cell hg5 (keepc ((Below.refl _ w4).alloc (Nat.le_refl _) _) y3) (fun e => by have := (hlo.out _ e.symm).1; simp only at this; omega); have z4 := World.grownBy.cell hg5 (keepc ((Below.refl _ w4).alloc (Nat.le_refl _) _) y4) (fun e => by have := (hlo.out _ e.symm).1; simp only at this; omega)))
                        go_wp2
                        go_roundw
                        case rel =>
                          refine ⟨k + 1, A3, c3, by omega, by go_num, by rw [Hst.out, List.length_append]; rfl, ?_, ?_⟩
                          · rw [Hst.out, List.length_append]; exact hown5
                          · exact Below.grown (hb04.alloc hz4 _) hg5 (by simp; omega) (fun g hg => (hlo.out g hg).1)
                        case measure => simp [intOf]; omega
                      · have hst2 : armS true k r = r := by unfold armS; rw [decide_eq_true hk0, decide_eq_false hr2]; rfl
                        rw [hst2] at hst
                        have Hst := Lib.hid hst
                        clear hst hst2
                        go_wp2_with fail
                        clear t0 t1 t2 t3 t4
                        obtain ⟨wv, hwv⟩ : ∃ wv, wv = (w2.alloc (.cells #[.int .i64 m1, .int .i64 m2, .int .i64 r] 32)) := ⟨_, rfl⟩
                        have hsv : w2.heap.size < wv.heap.size := by rw [hwv]; simp
                        have Hbv2 := Lib.hid (show Below v1.heap.size v1 wv from by rw [hwv]; exact Hbq.out.alloc hsz _)
                        rw [← hwv] at Ho1 x0 x1 x2 x3 x4 ⊢
                        obtain ⟨G, hG⟩ : ∃ G, G = w2.heap.size := ⟨_, rfl⟩
                        have hlo := Lib.hid (fun g (h : (Value.slice A2 T.length c2).ownBlock = some g) => (show v1.heap.size ≤ g ∧ g < G from by rw [hG]; exact hlo0.out g h))
                        rw [← hG] at x0 x1 x2 hsv ⊢
                        have hbn1 : bn < v1.heap.size := Nat.lt_of_lt_of_le hbn Hbv.out.size
                        clear hwv hG hlo0
                        go_region_held3 (fun w' => w'.cell? ⟨G, 0, none⟩ = some (.int .i64 m1) ∧ w'.cell? ⟨G, 1, none⟩ = some (.int .i64 m2) ∧ w'.cell? ⟨bn, on + m1, none⟩ = some (.int .i64 x) ∧ w'.cell? ⟨bn, on + m2, none⟩ = some (.int .i64 y)) (first | exact ⟨z0, z1, z3, z4⟩ | exact ⟨y0, y1, y3, y4⟩ | exact ⟨x0, x1, x3, x4⟩ | go_keep) (first | (go_at_call 71; refine (c_tiOf _ _ _).mono ?_; rintro e w4 ⟨rfl, hb4⟩; have y0 := keepc hb4 (g1d _ x0); have y1 := keepc hb4 (g1d _ x1); have y3 := keepc hb4 (g1d _ x3); have y4 := keepc hb4 (g1d _ x4); have hb04 := bstep Hbv2.out.drew hb4; have hz4 : v1.heap.size ≤ w4.heap.size := hb04.size; have Ho4 := Lib.hid ((own_keep (own_drew Ho1.out) hb4).alloc (.cells #[.int .i64 (min x y), .int .i64 (max x y), .int .i64 (r)] 32))) | (refine step_append_PO rfl (.tmp 87) (.tmp 103) rfl v1.heap.size (.slice A2 T.length c2) T T.length rfl rfl Ho4.out (min x y) (max x y) (r) w4.heap.size rfl (by simp) (by simp) (by simp) (by omega) (by rw [World.size_alloc]; omega) ?_; intro A3 c3 w5 hown5 hg5; have z0 := World.grownBy.cell hg5 (keepc ((Below.refl _ w4).alloc (Nat.le_refl _) _) y0) (fun e => by have := (hlo.out _ e.symm).2; simp only at this; omega); have z1 := World.grownBy.cell hg5 (keepc ((Below.refl _ w4).alloc (Nat.le_refl _) _) y1) (fun e => by have := (hlo.out _ e.symm).2; simp only at this; omega); have z3 := World.grownBy.cell hg5 (keepc ((Below.refl _ w4).alloc (Nat.le_refl _) _) y3) (fun e => by have := (hlo.out _ e.symm).1; simp only at this; omega); have z4 := World.grownBy.cell hg5 (keepc ((Below.refl _ w4).alloc (Nat.le_refl _) _) y4) (fun e => by have := (hlo.out _ e.symm).1; simp only at this; omega)))
                        go_wp2
                        go_roundw
                        case rel =>
                          refine ⟨k + 1, A3, c3, by omega, by go_num, by rw [Hst.out, List.length_append]; rfl, ?_, ?_⟩
                          · rw [Hst.out, List.length_append]; exact hown5
                          · exact Below.grown (hb04.alloc hz4 _) hg5 (by simp; omega) (fun g hg => (hlo.out g hg).1)
                        case measure => simp [intOf]; omega
                    · have v0 : ¬ (0 : Int) < (k : Int) := by omega
                      have hst2 : armS true k r = r := by unfold armS; rw [decide_eq_false hk0]; rfl
                      rw [hst2] at hst
                      have Hst := Lib.hid hst
                      clear hst hst2
                      go_wp2_with fail
                      clear t0 t1 t2 t3 t4
                      obtain ⟨wv, hwv⟩ : ∃ wv, wv = (w2.alloc (.cells #[.int .i64 m1, .int .i64 m2, .int .i64 r] 32)) := ⟨_, rfl⟩
                      have hsv : w2.heap.size < wv.heap.size := by rw [hwv]; simp
                      have Hbv2 := Lib.hid (show Below v1.heap.size v1 wv from by rw [hwv]; exact Hbq.out.alloc hsz _)
                      rw [← hwv] at Ho1 x0 x1 x2 x3 x4 ⊢
                      obtain ⟨G, hG⟩ : ∃ G, G = w2.heap.size := ⟨_, rfl⟩
                      have hlo := Lib.hid (fun g (h : (Value.slice A2 T.length c2).ownBlock = some g) => (show v1.heap.size ≤ g ∧ g < G from by rw [hG]; exact hlo0.out g h))
                      rw [← hG] at x0 x1 x2 hsv ⊢
                      have hbn1 : bn < v1.heap.size := Nat.lt_of_lt_of_le hbn Hbv.out.size
                      clear hwv hG hlo0
                      go_region_held3 (fun w' => w'.cell? ⟨G, 0, none⟩ = some (.int .i64 m1) ∧ w'.cell? ⟨G, 1, none⟩ = some (.int .i64 m2) ∧ w'.cell? ⟨bn, on + m1, none⟩ = some (.int .i64 x) ∧ w'.cell? ⟨bn, on + m2, none⟩ = some (.int .i64 y)) (first | exact ⟨z0, z1, z3, z4⟩ | exact ⟨y0, y1, y3, y4⟩ | exact ⟨x0, x1, x3, x4⟩ | go_keep) (first | (go_at_call 71; refine (c_tiOf _ _ _).mono ?_; rintro e w4 ⟨rfl, hb4⟩; have y0 := keepc hb4 (g1d _ x0); have y1 := keepc hb4 (g1d _ x1); have y3 := keepc hb4 (g1d _ x3); have y4 := keepc hb4 (g1d _ x4); have hb04 := bstep Hbv2.out.drew hb4; have hz4 : v1.heap.size ≤ w4.heap.size := hb04.size; have Ho4 := Lib.hid ((own_keep (own_drew Ho1.out) hb4).alloc (.cells #[.int .i64 (min x y), .int .i64 (max x y), .int .i64 (r)] 32))) | (refine step_append_PO rfl (.tmp 87) (.tmp 103) rfl v1.heap.size (.slice A2 T.length c2) T T.length rfl rfl Ho4.out (min x y) (max x y) (r) w4.heap.size rfl (by simp) (by simp) (by simp) (by omega) (by rw [World.size_alloc]; omega) ?_; intro A3 c3 w5 hown5 hg5; have z0 := World.grownBy.cell hg5 (keepc ((Below.refl _ w4).alloc (Nat.le_refl _) _) y0) (fun e => by have := (hlo.out _ e.symm).2; simp only at this; omega); have z1 := World.grownBy.cell hg5 (keepc ((Below.refl _ w4).alloc (Nat.le_refl _) _) y1) (fun e => by have := (hlo.out _ e.symm).2; simp only at this; omega); have z3 := World.grownBy.cell hg5 (keepc ((Below.refl _ w4).alloc (Nat.le_refl _) _) y3) (fun e => by have := (hlo.out _ e.symm).1; simp only at this; omega); have z4 := World.grownBy.cell hg5 (keepc ((Below.refl _ w4).alloc (Nat.le_refl _) _) y4) (fun e => by have := (hlo.out _ e.symm).1; simp only at this; omega)))
                      go_wp2
                      go_roundw
                      case rel =>
                        refine ⟨k + 1, A3, c3, by omega, by go_num, by rw [Hst.out, List.length_append]; rfl, ?_, ?_⟩
                        · rw [Hst.out, List.length_append]; exact hown5
                        · exact Below.grown (hb04.alloc hz4 _) hg5 (by simp; omega) (fun g hg => (hlo.out g hg).1)
                      case measure => simp [intOf]; omega
                  · obtain rfl : k = ps.length := by omega
                    have Ho := Lib.hid ho
                    clear hpl
                    go_wp2
                    go_ret2
                    rw [E1.out, HA.out]
                    exact ⟨A2, c2, rfl, own_base Ho.out Hbv.out.size, hbw⟩
              · have HS := Lib.hid (hsw.trans (decide_eq_false hab))
                have qd : decide (b < a) = false := decide_eq_false hab
                have hbv0 := Hb.out
                clear hsw
                go_wp2
                go_quiet (fail)
                go_wp2
                obtain ⟨v1, hv1⟩ : ∃ v1, v1 = wr.drewN nq := ⟨_, rfl⟩
                rw [← hv1]
                have Hbv := Lib.hid (show Below w.heap.size w v1 from by rw [hv1]; exact belowN hbv0 _)
                clear hv1 hbv0 g1 g2 g3 g4 j0 j1 j2 j3 qd hab
                go_loopw [11, 69] (fun v i w' => ∃ (k : Nat) (A2 : Option Addr) (c2 : Nat), k ≤ ps.length ∧ i = .int .i64 k ∧ v = .slice A2 (renSTo ps ns k).length c2 ∧ w'.ownsRow v1.heap.size 32 3 (.slice A2 (renSTo ps ns k).length c2) (renSTo ps ns k).length (cellsP (renSTo ps ns k)) ∧ Below v1.heap.size v1 w') (fun _ i _ => ps.length - (intOf i).toNat)
                case atStart => exact ⟨0, none, 0, Nat.zero_le _, rfl, rfl, World.ownsRow_nil _ _ _ _, Below.refl _ _⟩
                case round =>
                  obtain ⟨k, A2, c2, hk, rfl, rfl, ho, hb2⟩ := hrel
                  have hpl := renSTo_len ps ns k
                  have hpl2 : (renSTo ps ns k).length ≤ 28 := by omega
                  have hbw := bstep Hbv.out hb2
                  by_cases hlt : k < ps.length
                  · obtain ⟨n1, n2, n3⟩ := Hp.out k hlt
                    obtain ⟨m1, hm1, em1⟩ := numB_nat n1
                    obtain ⟨m2, hm2, em2⟩ := numB_nat n2
                    have hr9 : 0 ≤ ps[k].2.2 ∧ ps[k].2.2 ≤ 9 := by simpa [numB] using n3
                    have t0 := (hbw.cell (p := ⟨bk, _, none⟩) hbk).trans (HC.out k hlt).1
                    have t1 := (hbw.cell (p := ⟨bk, _, none⟩) hbk).trans (HC.out k hlt).2.1
                    have t2 := (hbw.cell (p := ⟨bk, _, none⟩) hbk).trans (HC.out k hlt).2.2
                    have t3 := (hbw.cell (p := ⟨bn, _, none⟩) hbn).trans (HN.out m1 hm1)
                    have t4 := (hbw.cell (p := ⟨bn, _, none⟩) hbn).trans (HN.out m2 hm2)
                    have hst := renSTo_step (ns := ns) hlt
                    unfold renP at hst
                    rw [HS.out, em1, em2] at hst
                    rw [em1] at t0
                    rw [em2] at t1
                    generalize ps[k].2.2 = r at *
                    generalize nmS ns (m1 : Int) = x at t3 hst
                    generalize nmS ns (m2 : Int) = y at t4 hst
                    generalize renSTo ps ns k = T at *
                    have u0 : (0 : Int) ≤ (m1 : Int) := by omega
                    have u1 : (m1 : Int) < (ns.length : Int) := by omega
                    have u2 : (0 : Int) ≤ (m2 : Int) := by omega
                    have u3 : (m2 : Int) < (ns.length : Int) := by omega
                    have u4 : (0 : Int) ≤ (k : Int) := by omega
                    have u5 : (k : Int) < (ps.length : Int) := by omega
                    have iw : IntKind.i64.wrap (1 - r) = 1 - r := IntWalk.i64_in _ (by omega)
                    obtain ⟨w2, hw2⟩ : ∃ w2, w2 = wr := ⟨_, rfl⟩
                    rw [← hw2] at t0 t1 t2 t3 t4 ho hb2 hbw ⊢
                    clear hw2
                    have Hbq := Lib.hid hb2
                    have hsz := hb2.size
                    have hln := Lib.hid hpl
                    have Ho1 := Lib.hid (ho.alloc (.cells #[.int .i64 m1, .int .i64 m2, .int .i64 r] 32))
                    have hlo0 := Lib.hid (fun g (h : (Value.slice A2 T.length c2).ownBlock = some g) => ho.lt g h)
                    have x0 : (w2.alloc (.cells #[.int .i64 m1, .int .i64 m2, .int .i64 r] 32)).cell? ⟨w2.heap.size, 0, none⟩ = some (.int .i64 m1) := by simp
                    have x1 : (w2.alloc (.cells #[.int .i64 m1, .int .i64 m2, .int .i64 r] 32)).cell? ⟨w2.heap.size, 1, none⟩ = some (.int .i64 m2) := by simp
                    have x2 : (w2.alloc (.cells #[.int .i64 m1, .int .i64 m2, .int .i64 r] 32)).cell? ⟨w2.heap.size, 2, none⟩ = some (.int .i64 r) := by simp
                    have x3 := keepc ((Below.refl _ w2).alloc (o := .cells #[.int .i64 m1, .int .i64 m2, .int .i64 r] 32) (Nat.le_refl _)) t3
                    have x4 := keepc ((Below.refl _ w2).alloc (o := .cells #[.int .i64 m1, .int .i64 m2, .int .i64 r] 32) (Nat.le_refl _)) t4
                    clear n1 n2 n3 em1 em2 hm1 hm2 hpl ho hb2 hbw
                    have hst2 : armS false k r = r := by rfl
                    rw [hst2] at hst
                    have Hst := Lib.hid hst
                    clear hst hst2
                    go_wp2_with fail
                    clear t0 t1 t2 t3 t4
                    obtain ⟨wv, hwv⟩ : ∃ wv, wv = (w2.alloc (.cells #[.int .i64 m1, .int .i64 m2, .int .i64 r] 32)) := ⟨_, rfl⟩
                    have hsv : w2.heap.size < wv.heap.size := by rw [hwv]; simp
                    have Hbv2 := Lib.hid (show Below v1.heap.size v1 wv from by rw [hwv]; exact Hbq.out.alloc hsz _)
                    rw [← hwv] at Ho1 x0 x1 x2 x3 x4 ⊢
                    obtain ⟨G, hG⟩ : ∃ G, G = w2.heap.size := ⟨_, rfl⟩
                    have hlo := Lib.hid (fun g (h : (Value.slice A2 T.length c2).ownBlock = some g) => (show v1.heap.size ≤ g ∧ g < G from by rw [hG]; exact hlo0.out g h))
                    rw [← hG] at x0 x1 x2 hsv ⊢
                    have hbn1 : bn < v1.heap.size := Nat.lt_of_lt_of_le hbn Hbv.out.size
                    clear hwv hG hlo0
                    go_region_held3 (fun w' => w'.cell? ⟨G, 0, none⟩ = some (.int .i64 m1) ∧ w'.cell? ⟨G, 1, none⟩ = some (.int .i64 m2) ∧ w'.cell? ⟨bn, on + m1, none⟩ = some (.int .i64 x) ∧ w'.cell? ⟨bn, on + m2, none⟩ = some (.int .i64 y)) (first | exact ⟨z0, z1, z3, z4⟩ | exact ⟨y0, y1, y3, y4⟩ | exact ⟨x0, x1, x3, x4⟩ | go_keep) (first | (go_at_call 71; refine (c_tiOf _ _ _).mono ?_; rintro e w4 ⟨rfl, hb4⟩; have y0 := keepc hb4 (g1d _ x0); have y1 := keepc hb4 (g1d _ x1); have y3 := keepc hb4 (g1d _ x3); have y4 := keepc hb4 (g1d _ x4); have hb04 := bstep Hbv2.out.drew hb4; have hz4 : v1.heap.size ≤ w4.heap.size := hb04.size; have Ho4 := Lib.hid ((own_keep (own_drew Ho1.out) hb4).alloc (.cells #[.int .i64 (min x y), .int .i64 (max x y), .int .i64 (r)] 32))) | (refine step_append_PO rfl (.tmp 87) (.tmp 103) rfl v1.heap.size (.slice A2 T.length c2) T T.length rfl rfl Ho4.out (min x y) (max x y) (r) w4.heap.size rfl (by simp) (by simp) (by simp) (by omega) (by rw [World.size_alloc]; omega) ?_; intro A3 c3 w5 hown5 hg5; have z0 := World.grownBy.cell hg5 (keepc ((Below.refl _ w4).alloc (Nat.le_refl _) _) y0) (fun e => by have := (hlo.out _ e.symm).2; simp only at this; omega); have z1 := World.grownBy.cell hg5 (keepc ((Below.refl _ w4).alloc (Nat.le_refl _) _) y1) (fun e => by have := (hlo.out _ e.symm).2; simp only at this; omega); have z3 := World.grownBy.cell hg5 (keepc ((Below.refl _ w4).alloc (Nat.le_refl _) _) y3) (fun e => by have := (hlo.out _ e.symm).1; simp only at this; omega); have z4 := World.grownBy.cell hg5 (keepc ((Below.refl _ w4).alloc (Nat.le_refl _) _) y4) (fun e => by have := (hlo.out _ e.symm).1; simp only at this; omega)))
                    go_wp2
                    go_roundw
                    case rel =>
                      refine ⟨k + 1, A3, c3, by omega, by go_num, by rw [Hst.out, List.length_append]; rfl, ?_, ?_⟩
                      · rw [Hst.out, List.length_append]; exact hown5
                      · exact Below.grown (hb04.alloc hz4 _) hg5 (by simp; omega) (fun g hg => (hlo.out g hg).1)
                    case measure => simp [intOf]; omega
                  · obtain rfl : k = ps.length := by omega
                    have Ho := Lib.hid ho
                    clear hpl
                    go_wp2
                    go_ret2
                    rw [E1.out, HA.out]
                    exact ⟨A2, c2, rfl, own_base Ho.out Hbv.out.size, hbw⟩
      · have hd : decide (∀ x ∈ ns, numB x = true) = false := decide_eq_false hall
        rw [hd] at conA
        have hA : areB ns = false := decide_eq_false (fun hp => hall hp.2.1)
        have e1 : renSL ps ns = [] := by simp [renSL, hA]
        rw [e1, hA, Bool.and_false]
        clear e1 hA hd hall hh hr hn h10
        go_enter Try.func29, Try.ntmps29
        go_wp2_with (first | (go_at_call 68; refine con.out.mono ?_; rintro e w1 ⟨g, S, rfl, _, hb1⟩) | (go_at_call 69; refine (conA.out _ hb1).mono ?_; rintro e w2 ⟨rfl, hb2⟩))
        go_ret2
        exact ⟨none, 0, rfl, World.ownsRow_nil _ _ _ _, bstep hb1 hb2⟩
    · have h10' : ((ns.length : Int) != 10) = true := by simp; omega
      have hA : areB ns = false := are_len h10
      have e1 : renSL ps ns = [] := by simp [renSL, hA]
      rw [e1, hA, Bool.and_false]
      clear e1 hA hr hn hh h10
      go_enter Try.func29, Try.ntmps29
      go_wp2_with (go_at_call 68; refine con.out.mono ?_; rintro e w1 ⟨g, S, rfl, _, hb1⟩)
      go_ret2
      exact ⟨none, 0, rfl, World.ownsRow_nil _ _ _ _, hb1⟩
end Go.Proofs.Ytnnkdnleencofab

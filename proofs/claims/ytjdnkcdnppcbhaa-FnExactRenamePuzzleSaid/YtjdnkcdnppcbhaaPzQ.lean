/- Puzzles renamed: the specification. -/
import Derived.Test.YtjdnkcdnppcbhaaPzS
import Derived.Test.YtjdnkcdnppcbhaaRen
import Derived.Test.YtjdnkcdnppcbhaaInts
import Derived.Test.YtjdnkcdnppcbhaaChain
import Derived.Test.YtjdnkcdnppcbhaaCat
import Derived.Deep.Cut
import Derived.BigQuiet
namespace Go.Proofs.Ytjdnkcdnppcbhaa
open Go.RowKit
set_option linter.unusedVariables false

theorem nr_cell {ns : List Int} {m : Nat} (h : m < ns.length) : nm ns m = ns[m] := nm_cell h
/-- A number by its name; a gap stays. -/
def cn (ns : List Int) (x : Int) : Int := if x < 0 then x else nm ns x
def cnL (C ns : List Int) : List Int := C.map (cn ns)
def cnTo (C ns : List Int) (k : Nat) : List Int := (C.take k).map (cn ns)
theorem cnTo_step {C ns : List Int} {k : Nat} (h : k < C.length) : cnTo C ns (k + 1) = cnTo C ns k ++ [cn ns C[k]] := by
  unfold cnTo
  rw [List.take_succ_eq_append_getElem h, List.map_append]
  rfl
theorem cnTo_len (C ns : List Int) (k : Nat) : (cnTo C ns k).length ≤ C.length := by
  unfold cnTo
  rw [List.length_map, List.length_take]
  omega
theorem cnTo_all (C ns : List Int) : cnTo C ns C.length = cnL C ns := by unfold cnTo cnL; rw [List.take_length]
/-- A list of which the first k are renamed. -/
def cnMix (C ns : List Int) (k : Nat) : List Int := cnTo C ns k ++ C.drop k
theorem cnMix_zero (C ns : List Int) : cnMix C ns 0 = C := by simp [cnMix, cnTo]
theorem cnMix_all (C ns : List Int) : cnMix C ns C.length = cnL C ns := by simp [cnMix, cnTo_all]
theorem cnTo_lenE {C ns : List Int} {k : Nat} (h : k ≤ C.length) : (cnTo C ns k).length = k := by simp [cnTo]; omega
theorem cnMix_len {C ns : List Int} {k : Nat} (h : k ≤ C.length) : (cnMix C ns k).length = C.length := by
  unfold cnMix
  rw [List.length_append, cnTo_lenE h, List.length_drop]
  omega
theorem cnMix_keep {C ns : List Int} {k : Nat} (h : k < C.length) (h0 : C[k] < 0) : cnMix C ns (k + 1) = cnMix C ns k := by
  unfold cnMix
  rw [cnTo_step h, List.drop_eq_getElem_cons h, List.append_assoc]
  simp [cn, h0]
theorem cnMix_set {C ns : List Int} {k : Nat} (h : k < C.length) (h0 : ¬ C[k] < 0) : cnMix C ns (k + 1) = (cnMix C ns k).set k (nm ns C[k]) := by
  unfold cnMix
  rw [cnTo_step h, List.drop_eq_getElem_cons h, List.set_append_right _ _ (by rw [cnTo_lenE (by omega)]; omega), cnTo_lenE (by omega), Nat.sub_self, List.set_cons_zero, List.append_assoc]
  simp [cn, h0]
def renPB (T : List (Int × Int)) (C ns : List Int) : Bool := pzB T C && areB ns
def renPT (T : List (Int × Int)) (C ns : List Int) : List (Int × Int) := if renPB T C ns then sortL (renL T ns) else []
def renPC (T : List (Int × Int)) (C ns : List Int) : List Int := if renPB T C ns then cnL C ns else []
theorem renP_len (T : List (Int × Int)) (C ns : List Int) : (renPT T C ns).length + (renPC T C ns).length ≤ 1048576 := by
  unfold renPT renPC
  split
  · rename_i h
    have h1 := sortL_len (renL T ns)
    unfold renPB at h
    rw [Bool.and_eq_true] at h
    obtain ⟨_, h9, _, h3, _, _⟩ := pzB_parts h.1
    have : (cnL C ns).length = C.length := by simp [cnL]
    omega
  · simp

set_option maxRecDepth 100000 in
set_option maxHeartbeats 4000000 in
theorem c_specRenPz (AT : Option Addr) (cT : Nat) (T : List (Int × Int)) (AC : Option Addr) (cC : Nat) (C : List Int) (B : Option Addr) (d : Nat) (ns : List Int) (w : World) (hT : RdT w AT T) (hC : RdI w AC C) (hn : RdI w B ns) (lT : T.length + C.length ≤ 1048576) (ln : ns.length ≤ 1048576) (kT : T.length ≤ cT) (kn : ns.length ≤ d) :
    Calls Try.prog 37 #[.agg #[.slice AT T.length cT, .slice AC C.length cC], .slice B ns.length d] w (RetPB w (renPT T C ns) (renPC T C ns) (renPB T C ns)) := by
  have con1 := fun W (hb : Below w.heap.size w W) => c_pzGood AT cT T AC cC C W (hT.below hb) (hC.below hb) lT kT
  have con2 := fun W (hb : Below w.heap.size w W) => c_l1All B d ns W (hn.below hb) (by omega)
  have hbad : renPB T C ns = false → (renPT T C ns = [] ∧ renPC T C ns = []) := fun h => ⟨by unfold renPT; rw [h]; rfl, by unfold renPC; rw [h]; rfl⟩
  cases h1 : pzB T C
  · have hB : renPB T C ns = false := by unfold renPB; rw [h1]; rfl
    obtain ⟨e1, e2⟩ := hbad hB
    rw [hB, e1, e2]
    simp only [h1] at con1
    have Con1 := Lib.hid con1
    clear con1 con2 hT hC hn hB e1 e2 h1 hbad
    show Calls _ _ _ _ (RetPB w [] [] false)
    go_enter Try.func37, Try.ntmps37
    go_wp2_with fail
    obtain ⟨w0, hw0⟩ : ∃ w0, w0 = (w.alloc (.cells #[.slice AT T.length cT, .slice AC C.length cC] 30)).alloc (.cells #[.slice none 0 0, .slice none 0 0] 30) := ⟨_, rfl⟩
    rw [← hw0]
    have hs0 : w0.heap.size = w.heap.size + 2 := by rw [hw0]; simp
    have ba : Bx2 w0 w.heap.size (.slice AT T.length cT) (.slice AC C.length cC) := by rw [hw0]; exact (Bx2.fresh w _ _ _).more _
    have br : Bx2 w0 (w.heap.size + 1) (.slice none 0 0) (.slice none 0 0) := by
      have h1 := Bx2.fresh (w.alloc (.cells #[.slice AT T.length cT, .slice AC C.length cC] 30)) (.slice none 0 0) (.slice none 0 0) 30
      rw [World.size_alloc] at h1
      rw [hw0]; exact h1
    have hb : Below w.heap.size w w0 := by rw [hw0]; go_grown
    have nr : w.heap.size + 1 < w0.heap.size := br.lt
    clear hw0 hs0
    refine (Con1.out _ hb).mono ?_
    rintro e w1 ⟨rfl, h1⟩
    replace hb := bstep hb h1
    replace br := br.keep h1
    replace ba := ba.keep h1
    clear nr h1
    clear ba
    have y0 := br.c0
    have y1 := br.c1
    have f0 := br.fz 0
    have f1 := br.fz 1
    have nr := br.lt
    have HB := Lib.hid hb
    clear hb br
    go_wp2
    refine bodyPost_ret (v := .tuple #[.agg #[.slice none 0 0, .slice none 0 0], .bool false]) (by simp [results, Try.results37, go_sem, y0, y1]) rfl ⟨none, 0, none, 0, rfl, OwnP.none_ _ _ _, below_box (below_box HB.out (by omega)) (by omega)⟩
  simp only [h1] at con1
  have Con1 := Lib.hid con1
  clear con1
  have hbad2 : areB ns = false → (renPT T C ns = [] ∧ renPC T C ns = [] ∧ renPB T C ns = false) := fun h => by
    have hB : renPB T C ns = false := by unfold renPB; rw [h1, h]; rfl
    exact ⟨(hbad hB).1, (hbad hB).2, hB⟩
  clear hbad
  by_cases h10 : ns.length = 10
  · skip
    have h10' : ((ns.length : Int) != 10) = false := by simp; omega
    have H10 := Lib.hid h10
    have h10a : ns.length ≤ 10 := by omega
    have h10b : 10 ≤ ns.length := by omega
    clear h10
    cases h2 : decide (∀ x ∈ ns, numB x = true)
    · skip
      have hA : areB ns = false := decide_eq_false fun hp => of_decide_eq_false h2 hp.2.1
      obtain ⟨e1, e2, hB⟩ := hbad2 hA
      rw [hB, e1, e2]
      simp only [h2] at con2
      have Con2 := Lib.hid con2
      clear con2 hT hC hn hB e1 e2 h1 h2 hA hbad2
      show Calls _ _ _ _ (RetPB w [] [] false)
      go_enter Try.func37, Try.ntmps37
      go_wp2_with fail
      obtain ⟨w0, hw0⟩ : ∃ w0, w0 = (w.alloc (.cells #[.slice AT T.length cT, .slice AC C.length cC] 30)).alloc (.cells #[.slice none 0 0, .slice none 0 0] 30) := ⟨_, rfl⟩
      rw [← hw0]
      have hs0 : w0.heap.size = w.heap.size + 2 := by rw [hw0]; simp
      have ba : Bx2 w0 w.heap.size (.slice AT T.length cT) (.slice AC C.length cC) := by rw [hw0]; exact (Bx2.fresh w _ _ _).more _
      have br : Bx2 w0 (w.heap.size + 1) (.slice none 0 0) (.slice none 0 0) := by
        have h1 := Bx2.fresh (w.alloc (.cells #[.slice AT T.length cT, .slice AC C.length cC] 30)) (.slice none 0 0) (.slice none 0 0) 30
        rw [World.size_alloc] at h1
        rw [hw0]; exact h1
      have hb : Below w.heap.size w w0 := by rw [hw0]; go_grown
      have nr : w.heap.size + 1 < w0.heap.size := br.lt
      clear hw0 hs0
      refine (Con1.out _ hb).mono ?_
      rintro e w1 ⟨rfl, h1⟩
      replace hb := bstep hb h1
      replace br := br.keep h1
      replace ba := ba.keep h1
      clear nr h1
      clear ba
      go_wp2_with fail
      refine (Con2.out _ hb).mono ?_
      rintro e w2 ⟨rfl, h2⟩
      replace hb := bstep hb h2
      replace br := br.keep h2
      have y0 := br.c0
      have y1 := br.c1
      have f0 := br.fz 0
      have f1 := br.fz 1
      have nr := br.lt
      have HB := Lib.hid hb
      clear hb br
      go_wp2
      refine bodyPost_ret (v := .tuple #[.agg #[.slice none 0 0, .slice none 0 0], .bool false]) (by simp [results, Try.results37, go_sem, y0, y1]) rfl ⟨none, 0, none, 0, rfl, OwnP.none_ _ _ _, below_box (below_box HB.out (by omega)) (by omega)⟩
    simp only [h2] at con2
    have Con2 := Lib.hid con2
    have Hnum := Lib.hid (of_decide_eq_true h2)
    have conL := Lib.hid (fun (k : Nat) (hk : k < ns.length) W (hb : Below w.heap.size w W) => (show Calls Try.prog 88 #[.slice B k d, .int .i64 ns[k]] W (fun e w' => e = .returned (.bool (decide (ns[k] ∈ ns.take k))) ∧ Below W.heap.size W w') from by
      have h := c_l1Has B d (ns.take k) ns[k] W ((hn.below hb).take k) (by simp; omega)
      rw [List.length_take, Nat.min_eq_left (by omega)] at h
      exact h))
    clear con2 h2
    go_enter Try.func37, Try.ntmps37
    go_wp2_with fail
    obtain ⟨w0, hw0⟩ : ∃ w0, w0 = (w.alloc (.cells #[.slice AT T.length cT, .slice AC C.length cC] 30)).alloc (.cells #[.slice none 0 0, .slice none 0 0] 30) := ⟨_, rfl⟩
    rw [← hw0]
    have hs0 : w0.heap.size = w.heap.size + 2 := by rw [hw0]; simp
    have ba : Bx2 w0 w.heap.size (.slice AT T.length cT) (.slice AC C.length cC) := by rw [hw0]; exact (Bx2.fresh w _ _ _).more _
    have br : Bx2 w0 (w.heap.size + 1) (.slice none 0 0) (.slice none 0 0) := by
      have h1 := Bx2.fresh (w.alloc (.cells #[.slice AT T.length cT, .slice AC C.length cC] 30)) (.slice none 0 0) (.slice none 0 0) 30
      rw [World.size_alloc] at h1
      rw [hw0]; exact h1
    have hb : Below w.heap.size w w0 := by rw [hw0]; go_grown
    have nr : w.heap.size + 1 < w0.heap.size := br.lt
    clear hw0 hs0
    refine (Con1.out _ hb).mono ?_
    rintro e w1 ⟨rfl, h1⟩
    replace hb := bstep hb h1
    replace br := br.keep h1
    replace ba := ba.keep h1
    clear nr h1
    have x0 := ba.c0
    have x1 := ba.c1
    go_wp2_with fail
    refine (Con2.out _ hb).mono ?_
    rintro e w2 ⟨rfl, h2⟩
    replace hb := bstep hb h2
    replace br := br.keep h2
    replace ba := ba.keep h2
    have nr := br.lt
    clear h2 x0 x1
    go_wp2
    go_loopw [30] (fun i wr => ∃ k : Nat, k ≤ ns.length ∧ i = .int .i64 k ∧ (ns.take k).Nodup ∧ Below w2.heap.size w2 wr) (fun i _ => ns.length - (intOf i).toNat)
    case atStart => exact ⟨0, Nat.zero_le _, rfl, by simp, Below.refl _ _⟩
    case round =>
      obtain ⟨k, hk, rfl, hnd, hbq⟩ := hrel
      by_cases hlt : k < ns.length
      · skip
        obtain ⟨bk, off, rfl, hbk, hc⟩ := hn.at_ hlt
        have g1 := keepc hbq (keepc hb (hc k hlt))
        have con3 := Lib.hid (conL.out k hlt wr (bstep hb hbq))
        have i0 : (0 : Int) ≤ (k : Int) := by omega
        have i1 : (k : Int) ≤ (d : Int) := by omega
        have i2 : (k : Int) ≤ (ns.length : Int) := by omega
        have Step := Lib.hid (fun (h : ns[k] ∉ ns.take k) => (show (ns.take (k + 1)).Nodup from by
          rw [List.take_succ_eq_append_getElem hlt, List.nodup_append]
          exact ⟨hnd, by simp, fun a ha b hb => by rw [List.mem_singleton.1 hb]; rintro rfl; exact h ha⟩))
        have Bad := Lib.hid (fun (h : ns[k] ∈ ns.take k) => hbad2 (are_twice hlt h))
        obtain ⟨x, hx⟩ : ∃ x, ns[k] = x := ⟨_, rfl⟩
        rw [hx] at g1
        have con4 := con3.out
        simp only [hx] at con4 Step Bad
        have Con4 := Lib.hid con4
        clear hc hx con3 con4 conL hnd hn hT hC Hnum hbad2
        by_cases hin : x ∈ ns.take k
        · skip
          have hd : decide (x ∈ ns.take k) = true := decide_eq_true hin
          obtain ⟨e1, e2, hB⟩ := Bad.out hin
          rw [hB, e1, e2]
          have con5 := Con4.out
          rw [hd] at con5
          have Con5 := Lib.hid con5
          clear hd hin con5 Con4 Step Bad e1 e2 hB
          go_wp2_with fail
          refine Con5.out.mono ?_
          rintro e w3 ⟨rfl, h3⟩
          replace hb := bstep (bstep hb hbq) h3
          replace br := (br.keep hbq).keep h3
          clear ba hbq h3 nr
          have y0 := br.c0
          have y1 := br.c1
          have f0 := br.fz 0
          have f1 := br.fz 1
          have nr := br.lt
          have HB := Lib.hid hb
          clear hb br
          go_wp2
          refine bodyPost_ret (v := .tuple #[.agg #[.slice none 0 0, .slice none 0 0], .bool false]) (by simp [results, Try.results37, go_sem, y0, y1]) rfl ⟨none, 0, none, 0, rfl, OwnP.none_ _ _ _, below_box (below_box HB.out (by omega)) (by omega)⟩
        · skip
          have hd : decide (x ∈ ns.take k) = false := decide_eq_false hin
          have st := Lib.hid (Step.out hin)
          have con5 := Con4.out
          rw [hd] at con5
          have Con5 := Lib.hid con5
          have Hbq := Lib.hid hbq
          clear hd hin con5 Con4 Step Bad
          go_wp2_with fail
          refine Con5.out.mono ?_
          rintro e w3 ⟨rfl, h3⟩
          go_wp2
          go_roundw
          case rel => exact ⟨k + 1, by omega, by go_num, st.out, bstep Hbq.out h3⟩
          case measure => simp [intOf]; omega
      · skip
        have ek : k = ns.length := by omega
        have hA : areB ns = true := decide_eq_true ⟨H10.out, Hnum.out, by rw [ek, List.take_length] at hnd; exact hnd⟩
        have hB : renPB T C ns = true := by unfold renPB; rw [h1, hA]; rfl
        have eT : renPT T C ns = sortL (renL T ns) := by unfold renPT; rw [hB]; rfl
        have eC : renPC T C ns = cnL C ns := by unfold renPC; rw [hB]; rfl
        have EB := Lib.hid hB
        have ET := Lib.hid eT
        have EC := Lib.hid eC
        have hbw := bstep hb hbq
        obtain ⟨_, hT9, hhT, hC10, hgap, _⟩ := pzB_parts h1
        have Hn := Lib.hid (fun (m : Nat) (hm' : m ≤ 9) W (hbW : Below w.heap.size w W) => rdi_nm hn hA hbW (m := m) hm')
        have Hg := Lib.hid (ren_good hhT hA)
        have Hgap := Lib.hid hgap
        have e3 : renTo T ns T.length = renL T ns := by unfold renTo; rw [List.take_length]
        have E3 := Lib.hid e3
        have HT := Lib.hid (hT.below hbw)
        have HC := Lib.hid (hC.below hbw)
        replace br := br.keep hbq
        replace ba := ba.keep hbq
        have HB := Lib.hid hbw
        have nr := br.lt
        have hlC : C.length ≤ 10 := by omega
        have x0 := ba.c0
        have hw0 := hbw.size
        clear hnd hb hbq hbw hT hC hn hA hB eT eC e3 hgap hC10 hbad2 conL ek hk Hnum h1
        go_wp2
        rename World => wo
        go_loopw [8, 45] (fun v i wr => ∃ (k : Nat) (A' : Option Addr) (c' : Nat), k ≤ T.length ∧ i = .int .i64 k ∧ v = .slice A' (renTo T ns k).length c' ∧ wr.ownsRow wo.heap.size 82 2 (.slice A' (renTo T ns k).length c') (renTo T ns k).length (cellsT (renTo T ns k)) ∧ Below wo.heap.size wo wr) (fun _ i _ => T.length - (intOf i).toNat)
        case atStart => exact ⟨0, none, 0, Nat.zero_le _, rfl, rfl, World.ownsRow_nil _ _ _ _, Below.refl _ _⟩
        case round =>
          obtain ⟨k, A', c', hk, rfl, rfl, hown, hbq⟩ := hrel
          have hpl := renTo_len T ns k
          have hbw := bstep HB.out hbq
          by_cases hlt : k < T.length
          · obtain ⟨bk, off, rfl, hbk, hc⟩ := HT.out.at_ hlt
            have g1 := (hbq.cell (p := ⟨bk, _, none⟩) hbk).trans (hc k hlt).1
            have g2 := (hbq.cell (p := ⟨bk, _, none⟩) hbk).trans (hc k hlt).2
            obtain ⟨n1, n2, _⟩ := Hg.out _ (List.getElem_mem hlt)
            obtain ⟨i1, hi1, ei1⟩ := numB_nat n1
            obtain ⟨i2, hi2, ei2⟩ := numB_nat n2
            obtain ⟨bn, on, rfl, hbnw, g3⟩ := Hn.out i1 hi1 wr hbw
            obtain ⟨bn', on', e, _, g4⟩ := Hn.out i2 hi2 wr hbw
            injection e with e
            injection e with e5 e6
            subst e5 e6
            have hst := renTo_step (ns := ns) hlt
            rw [ei1, ei2] at hst
            rw [ei1] at g1
            rw [ei2] at g2
            generalize nm ns (i1 : Int) = p at g3 hst
            generalize nm ns (i2 : Int) = q at g4 hst
            have hst := Lib.hid hst
            have Hbq := Lib.hid hbq
            have Ho := Lib.hid hown
            have hsz := hbq.size
            have j0 : (0 : Int) ≤ (i1 : Int) := by omega
            have j1 : (i1 : Int) < (ns.length : Int) := by omega
            have j2 : (0 : Int) ≤ (i2 : Int) := by omega
            have j3 : (i2 : Int) < (ns.length : Int) := by omega
            have hbn := block_lt g3
            have Ho1 := Lib.hid (Ho.out.alloc (.cells #[.int .i64 i1, .int .i64 i2] 82))
            have x0 : (wr.alloc (.cells #[.int .i64 i1, .int .i64 i2] 82)).cell? ⟨bn, on + i1, none⟩ = some (.int .i64 p) := keepc ((Below.refl _ _).alloc (Nat.le_refl _) _) g3
            have x1 : (wr.alloc (.cells #[.int .i64 i1, .int .i64 i2] 82)).cell? ⟨bn, on + i2, none⟩ = some (.int .i64 q) := keepc ((Below.refl _ _).alloc (Nat.le_refl _) _) g4
            have x2 : (wr.alloc (.cells #[.int .i64 i1, .int .i64 i2] 82)).cell? ⟨wr.heap.size, 0, none⟩ = some (.int .i64 i1) := by simp
            have x3 : (wr.alloc (.cells #[.int .i64 i1, .int .i64 i2] 82)).cell? ⟨wr.heap.size, 1, none⟩ = some (.int .i64 i2) := by simp
            have hbn' : bn < wo.heap.size := Nat.lt_of_lt_of_le hbnw hw0
            clear hc hown hbq hbw n1 n2 ei1 ei2
            go_wp2_with fail
            clear g1 g2 g3 g4
            obtain ⟨wv, hwv⟩ : ∃ wv, wv = wr.alloc (.cells #[.int .i64 i1, .int .i64 i2] 82) := ⟨_, rfl⟩
            have hsv : wr.heap.size < wv.heap.size := by rw [hwv]; simp
            have hbv : Below wo.heap.size wo wv := by rw [hwv]; exact Hbq.out.alloc hsz _
            rw [← hwv] at Ho1 x0 x1 x2 x3 ⊢
            obtain ⟨G, hG⟩ : ∃ G, G = wr.heap.size := ⟨_, rfl⟩
            have hlo := Lib.hid (fun g (h : (Value.slice A' (renTo T ns k).length c').ownBlock = some g) => (show wo.heap.size ≤ g ∧ g < G from by rw [hG]; exact Ho.out.lt g h))
            rw [← hG] at x2 x3 hsv ⊢
            have Hbv := Lib.hid hbv
            clear hwv hG hbn hbv
            go_region_held3 (fun w' => w'.cell? ⟨G, 0, none⟩ = some (.int .i64 i1) ∧ w'.cell? ⟨G, 1, none⟩ = some (.int .i64 i2) ∧ w'.cell? ⟨bn, on + i1, none⟩ = some (.int .i64 p) ∧ w'.cell? ⟨bn, on + i2, none⟩ = some (.int .i64 q)) (first | exact ⟨z2, z3, z0, z1⟩ | exact ⟨y2, y3, y0, y1⟩ | exact ⟨x2, x3, x0, x1⟩ | go_keep) (first | (go_at_call 89; refine (c_tiOf _ _ _).mono ?_; rintro e w2 ⟨rfl, hb2⟩; have y0 := keepc hb2 (g1d _ x0); have y1 := keepc hb2 (g1d _ x1); have y2 := keepc hb2 (g1d _ x2); have y3 := keepc hb2 (g1d _ x3); have hb02 := bstep Hbv.out.drew hb2; have hz2 : wo.heap.size ≤ w2.heap.size := hb02.size; have Ho2 := Lib.hid ((own_keep (own_drew Ho1.out) hb2).alloc (.cells #[.int .i64 (min p q), .int .i64 (max p q)] 82))) | (refine step_append_tile rfl (.tmp 49) (.tmp 61) rfl wo.heap.size (.slice A' (renTo T ns k).length c') (renTo T ns k) rfl Ho2.out (min p q) (max p q) w2.heap.size rfl (by simp) (by simp) (by omega) (by rw [World.size_alloc]; omega) ?_; intro A2 c2 w3 hown3 hg3; have z0 := World.grownBy.cell hg3 (keepc ((Below.refl _ w2).alloc (Nat.le_refl _) _) y0) (fun e => by have := (hlo.out _ e.symm).1; simp only at this; omega); have z1 := World.grownBy.cell hg3 (keepc ((Below.refl _ w2).alloc (Nat.le_refl _) _) y1) (fun e => by have := (hlo.out _ e.symm).1; simp only at this; omega); have z2 := World.grownBy.cell hg3 (keepc ((Below.refl _ w2).alloc (Nat.le_refl _) _) y2) (fun e => by have := (hlo.out _ e.symm).2; simp only at this; omega); have z3 := World.grownBy.cell hg3 (keepc ((Below.refl _ w2).alloc (Nat.le_refl _) _) y3) (fun e => by have := (hlo.out _ e.symm).2; simp only at this; omega)))
            go_wp2
            go_roundw
            case rel =>
              refine ⟨k + 1, A2, c2, by omega, by go_num, by rw [hst.out, List.length_append]; rfl, ?_, ?_⟩
              · rw [hst.out, List.length_append]; exact hown3
              · exact Below.grown (hb02.alloc hz2 _) hg3 (by simp; omega) (fun g hg => (hlo.out g hg).1)
            case measure => simp [intOf]; omega
          · skip
            obtain rfl : k = T.length := by omega
            have e3 := E3.out
            rw [e3] at hown ⊢
            have hrl := RdT.of_own hown
            have con := Lib.hid (c_tiSort A' c' (renL T ns) _ hrl (by rw [renL_len]; omega))
            have hsl := sortL_len (renL T ns)
            have ba3 := ba.keep hbq
            have br3 := br.keep hbq
            have HB3 := Lib.hid hbw
            have nr3 := br3.lt
            obtain ⟨us, hus⟩ : ∃ us, us = sortL (renL T ns) := ⟨_, rfl⟩
            have con2 := con.out
            simp only [← hus] at con2
            have Con := Lib.hid con2
            have ET2 := Lib.hid (ET.out.trans hus.symm)
            rw [← hus] at hsl
            clear ET
            have HCr := Lib.hid (HC.out.below hbq)
            clear hbq hbw hown hrl con con2 hus ba br HC HT x0
            go_wp2_with fail
            refine Con.out.mono ?_
            rintro e w5 ⟨A1, c1, rfl, oT, h5⟩
            have ba5 := ba3.keep h5
            have br5 := br3.keep h5
            have hb5 := bstep HB3.out h5
            have HC5 := Lib.hid (HCr.out.below h5)
            have oT1 := own_base (b' := w.heap.size + 2) oT (by omega)
            have nr5 := br5.lt
            clear h5 oT ba3 br3 HB3 HCr Con
            go_upto_region 16 with (fail)
            obtain ⟨nb, hnb⟩ : ∃ nb, nb = w5.heap.size := ⟨_, rfl⟩
            obtain ⟨w6, hw6⟩ : ∃ w6, w6 = w5.alloc (.cells #[.slice A1 us.length c1, .slice none 0 0] 30) := ⟨_, rfl⟩
            rw [← hw6]
            have h6 : Below w5.heap.size w5 w6 := by rw [hw6]; exact (Below.refl _ _).alloc (Nat.le_refl _) _
            have bx : Bx2 w6 nb (.slice A1 us.length c1) (.slice none 0 0) := by rw [hw6, hnb]; exact Bx2.fresh w5 _ _ _
            rw [← hnb]
            have nbw : w.heap.size + 1 < nb := by omega
            have hT3 : ∀ g, (Value.slice A1 us.length c1).ownBlock = some g → g < nb := fun g hg => by have := (oT1.lt g hg).2; omega
            have ba6 := ba5.keep h6
            have br6 := br5.keep h6
            have oT2 := own_keep oT1 h6
            have hb6 := bstep hb5 h6
            have HCn := Lib.hid (fun k (hk : k < C.length) => (show ∃ b o, AC = some ⟨b, o, none⟩ ∧ b < nb ∧ w6.cell? ⟨b, o + k, none⟩ = some (.int .i64 C[k]) from by
              obtain ⟨b, o, h1, h2, h3⟩ := HC5.out.at_ hk
              exact ⟨b, o, h1, by omega, keepc h6 (h3 k hk)⟩))
            have Hn6 := Lib.hid (fun (m : Nat) (hm' : m ≤ 9) => (show ∃ b o, B = some ⟨b, o, none⟩ ∧ b < nb ∧ w6.cell? ⟨b, o + m, none⟩ = some (.int .i64 (nm ns m)) from by
              obtain ⟨b, o, h1, h2, h3⟩ := Hn.out m hm' w6 hb6
              exact ⟨b, o, h1, by omega, h3⟩))
            have zn : nb + 1 ≤ w6.heap.size := bx.lt
            have x1 := ba6.c1
            have BR := Lib.hid br6
            have HB6 := Lib.hid hb6
            clear hw6 hnb h6 oT1 ba5 br5 hb5 HC5 br6 hb6 Hn
            go_wp2
            clear x1
            go_loopw [70] (fun i wr => ∃ (k : Nat) (A2 : Option Addr) (c2 : Nat), k ≤ C.length ∧ i = .int .i64 k ∧ Bx2 wr nb (.slice A1 us.length c1) (.slice A2 (cnTo C ns k).length c2) ∧ wr.ownsRow (nb + 1) 3 1 (.slice A2 (cnTo C ns k).length c2) (cnTo C ns k).length (cellsI (cnTo C ns k)) ∧ Below nb w6 wr ∧ w6.heap.size ≤ wr.heap.size) (fun i _ => C.length - (intOf i).toNat)
            case atStart => exact ⟨0, none, 0, Nat.zero_le _, rfl, bx, World.ownsRow_nil _ _ _ _, Below.refl _ _, Nat.le_refl _⟩
            case round =>
              obtain ⟨k, A2, c2, hk, rfl, bxr, own, hbr, hsz⟩ := hrel
              have hml := cnTo_len C ns k
              by_cases hlt : k < C.length
              · skip
                obtain ⟨bk, off, rfl, hbk, hc⟩ := HCn.out k hlt
                have g1 := (hbr.cell (p := ⟨bk, _, none⟩) hbk).trans hc
                have x1 := bxr.c1
                have nbx := bxr.lt
                have hstep := cnTo_step (ns := ns) hlt
                have hgx := Hgap.out _ (List.getElem_mem hlt)
                obtain ⟨x, hx⟩ : ∃ x, C[k] = x := ⟨_, rfl⟩
                rw [hx] at g1 hstep hgx
                clear hc hx
                by_cases h0 : x < 0
                · skip
                  have d0 : decide (0 ≤ x) = false := decide_eq_false (by omega)
                  have d1 : ¬ 0 ≤ x := by omega
                  have e4 : cn ns x = x := by unfold cn; rw [if_pos h0]
                  rw [e4] at hstep
                  have Xst := Lib.hid hstep
                  have Ho2 := Lib.hid (own.alloc (.cells #[.int .i64 x] 3))
                  have bxa := bxr.more (.cells #[.int .i64 x] 3)
                  have Hb2 := Lib.hid (hbr.alloc (show nb ≤ wr.heap.size by omega) (.cells #[.int .i64 x] 3))
                  clear own hbr h0 e4 hstep hgx
                  go_wp2_with (at_builtin; refine wp_append_int rfl _ _ rfl (nb + 1) _ _ rfl Ho2.out x wr.heap.size rfl (by simp) (by omega) (by simp; omega) ?_; intro A3 c3 w7 own7 hg7; have bx7 := bxa.of_block (hg7.block nb bxa.lt (fun e => by have := (Ho2.out.lt _ e.symm).1; omega)); have y1 := bx7.c1; have fz1 := bx7.fz 1; have nb7 := bx7.lt; have s7 := hg7.size; simp only [World.size_alloc] at s7)
                  go_roundw
                  case rel =>
                    refine ⟨k + 1, A3, c3, by omega, by go_num, ?_, ?_, ?_, ?_⟩
                    · rw [Xst.out, List.length_append]
                      exact bx7.set1 _
                    · rw [Xst.out, List.length_append]
                      exact own_box own7 (by omega)
                    · exact below_box (Hb2.out.trans (below_of_grown hg7 (by simp; omega) (fun g hg => by have := (Ho2.out.lt g hg).1; omega))) (Nat.le_refl _)
                    · simp [World.setCell]; omega
                  case measure => simp [intOf]; omega
                · skip
                  obtain ⟨m, hm9, rfl⟩ := numB_nat (gapB_num hgx (by intro h; rw [h] at h0; exact h0 (by decide)))
                  have d0 : decide (0 ≤ (m : Int)) = true := decide_eq_true (by omega)
                  have d1 : (0 : Int) ≤ (m : Int) := by omega
                  have d2 : (m : Int) < (ns.length : Int) := by omega
                  have e4 : cn ns (m : Int) = nm ns m := by unfold cn; rw [if_neg h0]
                  rw [e4] at hstep
                  obtain ⟨bn, on, rfl, hbn, h3⟩ := Hn6.out m hm9
                  have g2 := (hbr.cell (p := ⟨bn, _, none⟩) hbn).trans h3
                  obtain ⟨p, hp⟩ : ∃ p, nm ns (m : Int) = p := ⟨_, rfl⟩
                  rw [hp] at g2 hstep
                  clear h3 hp
                  have Xst := Lib.hid hstep
                  have Ho2 := Lib.hid (own.alloc (.cells #[.int .i64 p] 3))
                  have bxa := bxr.more (.cells #[.int .i64 p] 3)
                  have Hb2 := Lib.hid (hbr.alloc (show nb ≤ wr.heap.size by omega) (.cells #[.int .i64 p] 3))
                  clear own hbr h0 e4 hstep hgx
                  go_wp2_with (at_builtin; refine wp_append_int rfl _ _ rfl (nb + 1) _ _ rfl Ho2.out p wr.heap.size rfl (by simp) (by omega) (by simp; omega) ?_; intro A3 c3 w7 own7 hg7; have bx7 := bxa.of_block (hg7.block nb bxa.lt (fun e => by have := (Ho2.out.lt _ e.symm).1; omega)); have y1 := bx7.c1; have fz1 := bx7.fz 1; have nb7 := bx7.lt; have s7 := hg7.size; simp only [World.size_alloc] at s7)
                  go_roundw
                  case rel =>
                    refine ⟨k + 1, A3, c3, by omega, by go_num, ?_, ?_, ?_, ?_⟩
                    · rw [Xst.out, List.length_append]
                      exact bx7.set1 _
                    · rw [Xst.out, List.length_append]
                      exact own_box own7 (by omega)
                    · exact below_box (Hb2.out.trans (below_of_grown hg7 (by simp; omega) (fun g hg => by have := (Ho2.out.lt g hg).1; omega))) (Nat.le_refl _)
                    · simp [World.setCell]; omega
                  case measure => simp [intOf]; omega
              · skip
                have : k = C.length := by omega
                subst this
                rw [cnTo_all] at own bxr
                have bR := BR.out.of_block (hbr.block _ nbw)
                have x0 := bxr.c0
                have x1 := bxr.c1
                have y0 := bR.c0
                have y1 := bR.c1
                have f0 := bR.fz 0
                have f1 := bR.fz 1
                have m1 := bxr.lt
                have m2 := bR.lt
                have oT3 := own_below oT2 hbr hT3
                have OT := Lib.hid oT3
                have OC := Lib.hid own
                have HB7 := Lib.hid (HB6.out.trans (hbr.mono (by omega)))
                have apTC : ApG (.slice A1 us.length c1) (.slice A2 (cnL C ns).length c2) := ApG.of_lt (m := nb) hT3 (fun g hg => by have := (own.lt g hg).1; omega)
                have EC2 := EC.out
                generalize cnL C ns = D at *
                have ED := Lib.hid EC2
                clear EC EC2 oT3 own hbr bR bxr oT2 bx BR HB6 HCn Hn6 Hg Hgap ba6
                go_wp2
                refine bodyPost_ret (v := .tuple #[.agg #[.slice A1 us.length c1, .slice A2 D.length c2], .bool true]) (by simp [results, Try.results37, go_sem, y0, y1]) rfl ?_
                rw [EB.out, ET2.out, ED.out]
                refine ⟨A1, c1, A2, c2, rfl, ?_, below_box (below_box HB7.out (by omega)) (by omega)⟩
                have oU := own_box (own_box OT.out (a := w.heap.size + 1) (j := 0) (u := .slice A1 us.length c1) (by omega)) (a := w.heap.size + 1) (j := 1) (u := .slice A2 D.length c2) (by omega)
                have oV := own_box (own_box OC.out (a := w.heap.size + 1) (j := 0) (u := .slice A1 us.length c1) (by omega)) (a := w.heap.size + 1) (j := 1) (u := .slice A2 D.length c2) (by omega)
                exact { f := own_base oU (by omega), r := own_base oV (by omega), hf := fun g h => (oU.lt g h).2, hr := fun g h => (oV.lt g h).2, fr := apTC }
  · skip
    have h10' : ((ns.length : Int) != 10) = true := by simp; omega
    obtain ⟨e1, e2, hB⟩ := hbad2 (are_len h10)
    rw [hB, e1, e2]
    clear con2 hT hC hn hB e1 e2 h1 h10 hbad2
    show Calls _ _ _ _ (RetPB w [] [] false)
    go_enter Try.func37, Try.ntmps37
    go_wp2_with fail
    obtain ⟨w0, hw0⟩ : ∃ w0, w0 = (w.alloc (.cells #[.slice AT T.length cT, .slice AC C.length cC] 30)).alloc (.cells #[.slice none 0 0, .slice none 0 0] 30) := ⟨_, rfl⟩
    rw [← hw0]
    have hs0 : w0.heap.size = w.heap.size + 2 := by rw [hw0]; simp
    have ba : Bx2 w0 w.heap.size (.slice AT T.length cT) (.slice AC C.length cC) := by rw [hw0]; exact (Bx2.fresh w _ _ _).more _
    have br : Bx2 w0 (w.heap.size + 1) (.slice none 0 0) (.slice none 0 0) := by
      have h1 := Bx2.fresh (w.alloc (.cells #[.slice AT T.length cT, .slice AC C.length cC] 30)) (.slice none 0 0) (.slice none 0 0) 30
      rw [World.size_alloc] at h1
      rw [hw0]; exact h1
    have hb : Below w.heap.size w w0 := by rw [hw0]; go_grown
    have nr : w.heap.size + 1 < w0.heap.size := br.lt
    clear hw0 hs0
    refine (Con1.out _ hb).mono ?_
    rintro e w1 ⟨rfl, h1⟩
    replace hb := bstep hb h1
    replace br := br.keep h1
    replace ba := ba.keep h1
    clear nr h1
    clear ba
    have y0 := br.c0
    have y1 := br.c1
    have f0 := br.fz 0
    have f1 := br.fz 1
    have nr := br.lt
    have HB := Lib.hid hb
    clear hb br
    go_wp2
    refine bodyPost_ret (v := .tuple #[.agg #[.slice none 0 0, .slice none 0 0], .bool false]) (by simp [results, Try.results37, go_sem, y0, y1]) rfl ⟨none, 0, none, 0, rfl, OwnP.none_ _ _ _, below_box (below_box HB.out (by omega)) (by omega)⟩

end Go.Proofs.Ytjdnkcdnppcbhaa

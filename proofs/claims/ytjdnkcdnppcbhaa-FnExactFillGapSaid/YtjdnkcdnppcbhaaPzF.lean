/- Gaps filled and opened, the program. -/
import Derived.Test.YtjdnkcdnppcbhaaPzD
import Derived.Test.YtjdnkcdnppcbhaaPzE
import Derived.Deep.Cut
import Derived.BigQuiet
namespace Go.Proofs.Ytjdnkcdnppcbhaa
open Go.RowKit
set_option linter.unusedVariables false

set_option maxRecDepth 100000 in
set_option maxHeartbeats 2000000 in
theorem c_hasPlace (AT : Option Addr) (cT : Nat) (T : List (Int × Int)) (AC : Option Addr) (cC : Nat) (C : List Int) (x : Int) (w : World) (hT : RdT w AT T) (hC : RdI w AC C) (lT : T.length + C.length ≤ 1048576) :
    Calls Try.prog 76 #[.agg #[.slice AT T.length cT, .slice AC C.length cC], .int .i64 x] w fun e w' => e = .returned (.bool (pzB T C && inAt C x)) ∧ Below w.heap.size w w' := by
  have con := fun W (hb : Below w.heap.size w W) => c_implIsPuzzle AT cT T AC cC C W (hT.below hb) (hC.below hb) lT
  cases h : pzB T C
  · simp only [h] at con
    have Con := Lib.hid con
    clear con h hT hC
    simp only [Bool.false_and]
    go_enter Try.func76, Try.ntmps76
    go_wp2_with fail
    refine (Con.out _ (by go_grown)).mono ?_
    rintro e w1 ⟨rfl, h1⟩
    have hb1 := bstep (show Below w.heap.size w _ by go_grown) h1
    go_wp2
    go_ret
    exact ⟨rfl, hb1⟩
  have hC10 : C.length ≤ 10 := by
    obtain ⟨_, _, _, h10, _⟩ := pzB_parts h
    omega
  simp only [h] at con
  have Con := Lib.hid con
  clear con h hT hC
  simp only [Bool.true_and]
  have hin : inAt C x = (decide (0 ≤ x) && decide (x < (C.length : Int))) := by
    unfold inAt
    congr 1
    by_cases h : x < (C.length : Int)
    · rw [decide_eq_true h]; exact decide_eq_true (by omega)
    · rw [decide_eq_false h]; exact decide_eq_false (by omega)
  rw [hin]
  clear hin
  cases h0 : decide (0 ≤ x)
  · go_enter Try.func76, Try.ntmps76
    go_wp2_with fail
    obtain ⟨w0, hw0⟩ : ∃ w0, w0 = w.alloc (.cells #[.slice AT T.length cT, .slice AC C.length cC] 30) := ⟨_, rfl⟩
    rw [← hw0]
    have ba0 : Bx2 w0 w.heap.size (.slice AT T.length cT) (.slice AC C.length cC) := by rw [hw0]; exact Bx2.fresh w _ _ _
    have hb0 : Below w.heap.size w w0 := by rw [hw0]; go_grown
    clear hw0
    refine (Con.out _ hb0).mono ?_
    rintro e w1 ⟨rfl, h1⟩
    have hb1 := bstep hb0 h1
    have ba1 := ba0.keep h1
    have x1 := ba1.c1
    go_wp2
    go_ret
    exact ⟨rfl, hb1⟩
  · go_enter Try.func76, Try.ntmps76
    go_wp2_with fail
    obtain ⟨w0, hw0⟩ : ∃ w0, w0 = w.alloc (.cells #[.slice AT T.length cT, .slice AC C.length cC] 30) := ⟨_, rfl⟩
    rw [← hw0]
    have ba0 : Bx2 w0 w.heap.size (.slice AT T.length cT) (.slice AC C.length cC) := by rw [hw0]; exact Bx2.fresh w _ _ _
    have hb0 : Below w.heap.size w w0 := by rw [hw0]; go_grown
    clear hw0
    refine (Con.out _ hb0).mono ?_
    rintro e w1 ⟨rfl, h1⟩
    have hb1 := bstep hb0 h1
    have ba1 := ba0.keep h1
    have x1 := ba1.c1
    go_wp2
    go_ret
    exact ⟨rfl, hb1⟩

set_option maxRecDepth 100000 in
set_option maxHeartbeats 2000000 in
theorem c_implFill (AT : Option Addr) (cT : Nat) (T : List (Int × Int)) (AC : Option Addr) (cC : Nat) (C : List Int) (x y : Int) (w : World) (hT : RdT w AT T) (hC : RdI w AC C) (lT : T.length + C.length ≤ 1048576) :
    Calls Try.prog 27 #[.agg #[.slice AT T.length cT, .slice AC C.length cC], .int .i64 x, .int .i64 y] w (RetPB w (selPT (fillB T C x y) T) (selPI (fillB T C x y) (C.set x.toNat y)) (fillB T C x y)) := by
  have conP := fun W (hb : Below w.heap.size w W) => c_hasPlace AT cT T AC cC C x W (hT.below hb) (hC.below hb) lT
  have hbt : fillB T C x y = ((pzB T C && inAt C x) && (numB y && gapAt C x)) := rfl
  rw [hbt]
  clear hbt
  cases h : (pzB T C && inAt C x)
  · simp only [h] at conP
    have ConP := Lib.hid conP
    clear conP h hT hC
    show Calls _ _ _ _ (RetPB w [] [] false)
    go_enter Try.func27, Try.ntmps27
    go_wp2_with fail
    obtain ⟨w0, hw0⟩ : ∃ w0, w0 = (w.alloc (.cells #[.slice AT T.length cT, .slice AC C.length cC] 30)).alloc (.cells #[.slice none 0 0, .slice none 0 0] 30) := ⟨_, rfl⟩
    rw [← hw0]
    have hs0 : w0.heap.size = w.heap.size + 2 := by rw [hw0]; simp
    have ba : Bx2 w0 w.heap.size (.slice AT T.length cT) (.slice AC C.length cC) := by rw [hw0]; exact (Bx2.fresh w _ _ _).more _
    have br : Bx2 w0 (w.heap.size + 1) (.slice none 0 0) (.slice none 0 0) := by
      have h1 := Bx2.fresh (w.alloc (.cells #[.slice AT T.length cT, .slice AC C.length cC] 30)) (.slice none 0 0) (.slice none 0 0) 30
      rw [World.size_alloc] at h1
      rw [hw0]; exact h1
    have hb : Below w.heap.size w w0 := by rw [hw0]; go_grown
    have nr : w.heap.size + 1 < w0.heap.size := br.lt
    clear hw0 hs0
    have x0 := ba.c0
    have x1 := ba.c1
    refine (ConP.out _ hb).mono ?_
    rintro e w1 ⟨rfl, h1⟩
    replace hb := bstep hb h1
    replace br := br.keep h1
    replace ba := ba.keep h1
    clear x0 x1 nr h1
    have x1 := ba.c1
    have y0 := br.c0
    have y1 := br.c1
    have f0 := br.fz 0
    have f1 := br.fz 1
    have nr := br.lt
    have HB := Lib.hid hb
    clear hb br ba
    go_wp2
    refine bodyPost_ret (v := .tuple #[.agg #[.slice none 0 0, .slice none 0 0], .bool false]) (by simp [results, Try.results27, go_sem, y0, y1]) rfl ⟨none, 0, none, 0, rfl, OwnP.none_ _ _ _, below_box (below_box HB.out (by omega)) (by omega)⟩
  simp only [h] at conP
  have ConP := Lib.hid conP
  simp only [Bool.true_and]
  obtain ⟨hpz, hin⟩ := (Bool.and_eq_true _ _).mp h
  obtain ⟨hp1, hp9, _, hC10, hgap, _⟩ := pzB_parts hpz
  obtain ⟨k, rfl, hk⟩ := inAt_nat hin
  have hposT : 0 < T.length := by omega
  have hlC : C.length ≤ 10 := by omega
  have conW := Lib.hid (fun W (hb : Below w.heap.size w W) => c_implWith AT cT T AC cC C k y W (hT.below hb) (hC.below hb) lT hposT hk)
  obtain ⟨bk, off, hA, hbk, hc⟩ := hC.at_ hk
  subst hA
  have gc := hc k hk
  have hg0 := gapB_neg (hgap _ (List.getElem_mem hk))
  have hga : gapAt C (k : Int) = decide (C[k] < 0) := by unfold gapAt; simp [hk]
  rw [hga]
  rw [show ((k : Int)).toNat = k from by simp]
  obtain ⟨z, hz⟩ : ∃ z, z = C[k] := ⟨_, rfl⟩
  rw [← hz] at gc hg0 ⊢
  have i0 : (0 : Int) ≤ (k : Int) := by omega
  have i1 : (k : Int) < (C.length : Int) := by omega
  clear conP h hpz hin hC10 hgap hT hC hc hga hz
  have conN := fun W => c_isNumber y W
  cases hy : numB y
  · simp only [hy] at conN
    simp only [Bool.false_and]
    clear hg0 gc conW hy
    show Calls _ _ _ _ (RetPB w [] [] false)
    go_enter Try.func27, Try.ntmps27
    go_wp2_with fail
    obtain ⟨w0, hw0⟩ : ∃ w0, w0 = (w.alloc (.cells #[.slice AT T.length cT, .slice (some ⟨bk, off, none⟩) C.length cC] 30)).alloc (.cells #[.slice none 0 0, .slice none 0 0] 30) := ⟨_, rfl⟩
    rw [← hw0]
    have hs0 : w0.heap.size = w.heap.size + 2 := by rw [hw0]; simp
    have ba : Bx2 w0 w.heap.size (.slice AT T.length cT) (.slice (some ⟨bk, off, none⟩) C.length cC) := by rw [hw0]; exact (Bx2.fresh w _ _ _).more _
    have br : Bx2 w0 (w.heap.size + 1) (.slice none 0 0) (.slice none 0 0) := by
      have h1 := Bx2.fresh (w.alloc (.cells #[.slice AT T.length cT, .slice (some ⟨bk, off, none⟩) C.length cC] 30)) (.slice none 0 0) (.slice none 0 0) 30
      rw [World.size_alloc] at h1
      rw [hw0]; exact h1
    have hb : Below w.heap.size w w0 := by rw [hw0]; go_grown
    have nr : w.heap.size + 1 < w0.heap.size := br.lt
    clear hw0 hs0
    have x0 := ba.c0
    have x1 := ba.c1
    refine (ConP.out _ hb).mono ?_
    rintro e w1 ⟨rfl, h1⟩
    replace hb := bstep hb h1
    replace br := br.keep h1
    replace ba := ba.keep h1
    clear x0 x1 nr h1
    have x1 := ba.c1
    go_wp2_with fail
    refine (conN _).mono ?_
    rintro e w2 ⟨rfl, rfl⟩
    have y0 := br.c0
    have y1 := br.c1
    have f0 := br.fz 0
    have f1 := br.fz 1
    have nr := br.lt
    have HB := Lib.hid hb
    clear hb br ba
    go_wp2
    refine bodyPost_ret (v := .tuple #[.agg #[.slice none 0 0, .slice none 0 0], .bool false]) (by simp [results, Try.results27, go_sem, y0, y1]) rfl ⟨none, 0, none, 0, rfl, OwnP.none_ _ _ _, below_box (below_box HB.out (by omega)) (by omega)⟩
  simp only [hy] at conN
  simp only [Bool.true_and]
  clear hy
  by_cases hn : z < 0
  · skip
    have hd : decide (z < 0) = true := decide_eq_true hn
    rw [hd]
    clear hd
    have ie : (z == (-1 : Int)) = true := by rw [beq_iff_eq]; exact hg0.1 hn
    have ie2 : (z != (-1 : Int)) = false := by rw [bne_eq_false_iff_eq]; exact hg0.1 hn
    clear hg0
    generalize C.set k y = D at conW ⊢
    show Calls _ _ _ _ (RetPB w T D true)
    go_enter Try.func27, Try.ntmps27
    go_wp2_with fail
    obtain ⟨w0, hw0⟩ : ∃ w0, w0 = (w.alloc (.cells #[.slice AT T.length cT, .slice (some ⟨bk, off, none⟩) C.length cC] 30)).alloc (.cells #[.slice none 0 0, .slice none 0 0] 30) := ⟨_, rfl⟩
    rw [← hw0]
    have hs0 : w0.heap.size = w.heap.size + 2 := by rw [hw0]; simp
    have ba : Bx2 w0 w.heap.size (.slice AT T.length cT) (.slice (some ⟨bk, off, none⟩) C.length cC) := by rw [hw0]; exact (Bx2.fresh w _ _ _).more _
    have br : Bx2 w0 (w.heap.size + 1) (.slice none 0 0) (.slice none 0 0) := by
      have h1 := Bx2.fresh (w.alloc (.cells #[.slice AT T.length cT, .slice (some ⟨bk, off, none⟩) C.length cC] 30)) (.slice none 0 0) (.slice none 0 0) 30
      rw [World.size_alloc] at h1
      rw [hw0]; exact h1
    have hb : Below w.heap.size w w0 := by rw [hw0]; go_grown
    have nr : w.heap.size + 1 < w0.heap.size := br.lt
    clear hw0 hs0
    have x0 := ba.c0
    have x1 := ba.c1
    refine (ConP.out _ hb).mono ?_
    rintro e w1 ⟨rfl, h1⟩
    replace hb := bstep hb h1
    replace br := br.keep h1
    replace ba := ba.keep h1
    clear x0 x1 nr h1
    have x0 := ba.c0
    have x1 := ba.c1
    have brlt : w.heap.size + 1 < w1.heap.size := br.lt
    have gk := keepc hb gc
    go_wp2_with fail
    refine (conN _).mono ?_
    rintro e w2 ⟨rfl, rfl⟩
    go_wp2_with fail
    refine (conW.out _ hb).mono ?_
    rintro e w3 ⟨A1, c1, A2, c2, rfl, oP, h3⟩
    have HB := Lib.hid (bstep hb h3)
    replace br := br.keep h3
    have z3 := h3.size
    have nr0 := (br.lt)
    have y0 := br.c0
    have y1 := br.c1
    have f0 := br.fz 0
    have f1 := br.fz 1
    have nlo := brlt
    have OP := Lib.hid oP
    clear hb br ba oP h3 x0 x1
    go_wp2
    refine bodyPost_ret (v := .tuple #[.agg #[.slice A1 T.length c1, .slice A2 D.length c2], .bool true]) (by simp [results, Try.results27, go_sem, y0, y1]) rfl ⟨A1, c1, A2, c2, rfl, (((OP.out.box (by omega)).box (by omega)).base (by omega)).top (by simp [World.setCell]), below_box (below_box HB.out (by omega)) (by omega)⟩
  · skip
    have hd : decide (z < 0) = false := decide_eq_false hn
    rw [hd]
    clear hd
    have ie : (z == (-1 : Int)) = false := by rw [beq_eq_false_iff_ne]; exact fun h => hn (hg0.2 h)
    have ie2 : (z != (-1 : Int)) = true := by rw [bne_iff_ne]; exact fun h => hn (hg0.2 h)
    clear hg0
    clear conW
    show Calls _ _ _ _ (RetPB w [] [] false)
    go_enter Try.func27, Try.ntmps27
    go_wp2_with fail
    obtain ⟨w0, hw0⟩ : ∃ w0, w0 = (w.alloc (.cells #[.slice AT T.length cT, .slice (some ⟨bk, off, none⟩) C.length cC] 30)).alloc (.cells #[.slice none 0 0, .slice none 0 0] 30) := ⟨_, rfl⟩
    rw [← hw0]
    have hs0 : w0.heap.size = w.heap.size + 2 := by rw [hw0]; simp
    have ba : Bx2 w0 w.heap.size (.slice AT T.length cT) (.slice (some ⟨bk, off, none⟩) C.length cC) := by rw [hw0]; exact (Bx2.fresh w _ _ _).more _
    have br : Bx2 w0 (w.heap.size + 1) (.slice none 0 0) (.slice none 0 0) := by
      have h1 := Bx2.fresh (w.alloc (.cells #[.slice AT T.length cT, .slice (some ⟨bk, off, none⟩) C.length cC] 30)) (.slice none 0 0) (.slice none 0 0) 30
      rw [World.size_alloc] at h1
      rw [hw0]; exact h1
    have hb : Below w.heap.size w w0 := by rw [hw0]; go_grown
    have nr : w.heap.size + 1 < w0.heap.size := br.lt
    clear hw0 hs0
    have x0 := ba.c0
    have x1 := ba.c1
    refine (ConP.out _ hb).mono ?_
    rintro e w1 ⟨rfl, h1⟩
    replace hb := bstep hb h1
    replace br := br.keep h1
    replace ba := ba.keep h1
    clear x0 x1 nr h1
    have x1 := ba.c1
    go_wp2_with fail
    refine (conN _).mono ?_
    rintro e w2 ⟨rfl, rfl⟩
    have gk := keepc (hb.trans (Below.refl _ _)) gc
    have y0 := br.c0
    have y1 := br.c1
    have f0 := br.fz 0
    have f1 := br.fz 1
    have nr := br.lt
    have HB := Lib.hid hb
    clear hb br ba
    go_wp2
    refine bodyPost_ret (v := .tuple #[.agg #[.slice none 0 0, .slice none 0 0], .bool false]) (by simp [results, Try.results27, go_sem, y0, y1]) rfl ⟨none, 0, none, 0, rfl, OwnP.none_ _ _ _, below_box (below_box HB.out (by omega)) (by omega)⟩

set_option maxRecDepth 100000 in
set_option maxHeartbeats 2000000 in
theorem c_implOpen (AT : Option Addr) (cT : Nat) (T : List (Int × Int)) (AC : Option Addr) (cC : Nat) (C : List Int) (x : Int) (w : World) (hT : RdT w AT T) (hC : RdI w AC C) (lT : T.length + C.length ≤ 1048576) :
    Calls Try.prog 31 #[.agg #[.slice AT T.length cT, .slice AC C.length cC], .int .i64 x] w (RetPB w (selPT (openB T C x) T) (selPI (openB T C x) (C.set x.toNat (-1))) (openB T C x)) := by
  have conP := fun W (hb : Below w.heap.size w W) => c_hasPlace AT cT T AC cC C x W (hT.below hb) (hC.below hb) lT
  have hbt : openB T C x = ((pzB T C && inAt C x) && !gapAt C x) := rfl
  rw [hbt]
  clear hbt
  cases h : (pzB T C && inAt C x)
  · simp only [h] at conP
    have ConP := Lib.hid conP
    clear conP h hT hC
    show Calls _ _ _ _ (RetPB w [] [] false)
    go_enter Try.func31, Try.ntmps31
    go_wp2_with fail
    obtain ⟨w0, hw0⟩ : ∃ w0, w0 = (w.alloc (.cells #[.slice AT T.length cT, .slice AC C.length cC] 30)).alloc (.cells #[.slice none 0 0, .slice none 0 0] 30) := ⟨_, rfl⟩
    rw [← hw0]
    have hs0 : w0.heap.size = w.heap.size + 2 := by rw [hw0]; simp
    have ba : Bx2 w0 w.heap.size (.slice AT T.length cT) (.slice AC C.length cC) := by rw [hw0]; exact (Bx2.fresh w _ _ _).more _
    have br : Bx2 w0 (w.heap.size + 1) (.slice none 0 0) (.slice none 0 0) := by
      have h1 := Bx2.fresh (w.alloc (.cells #[.slice AT T.length cT, .slice AC C.length cC] 30)) (.slice none 0 0) (.slice none 0 0) 30
      rw [World.size_alloc] at h1
      rw [hw0]; exact h1
    have hb : Below w.heap.size w w0 := by rw [hw0]; go_grown
    have nr : w.heap.size + 1 < w0.heap.size := br.lt
    clear hw0 hs0
    have x0 := ba.c0
    have x1 := ba.c1
    refine (ConP.out _ hb).mono ?_
    rintro e w1 ⟨rfl, h1⟩
    replace hb := bstep hb h1
    replace br := br.keep h1
    replace ba := ba.keep h1
    clear x0 x1 nr h1
    have x1 := ba.c1
    have y0 := br.c0
    have y1 := br.c1
    have f0 := br.fz 0
    have f1 := br.fz 1
    have nr := br.lt
    have HB := Lib.hid hb
    clear hb br ba
    go_wp2
    refine bodyPost_ret (v := .tuple #[.agg #[.slice none 0 0, .slice none 0 0], .bool false]) (by simp [results, Try.results31, go_sem, y0, y1]) rfl ⟨none, 0, none, 0, rfl, OwnP.none_ _ _ _, below_box (below_box HB.out (by omega)) (by omega)⟩
  simp only [h] at conP
  have ConP := Lib.hid conP
  simp only [Bool.true_and]
  obtain ⟨hpz, hin⟩ := (Bool.and_eq_true _ _).mp h
  obtain ⟨hp1, hp9, _, hC10, hgap, _⟩ := pzB_parts hpz
  obtain ⟨k, rfl, hk⟩ := inAt_nat hin
  have hposT : 0 < T.length := by omega
  have hlC : C.length ≤ 10 := by omega
  have conW := Lib.hid (fun W (hb : Below w.heap.size w W) => c_implWith AT cT T AC cC C k (-1) W (hT.below hb) (hC.below hb) lT hposT hk)
  obtain ⟨bk, off, hA, hbk, hc⟩ := hC.at_ hk
  subst hA
  have gc := hc k hk
  have hg0 := gapB_neg (hgap _ (List.getElem_mem hk))
  have hga : gapAt C (k : Int) = decide (C[k] < 0) := by unfold gapAt; simp [hk]
  rw [hga]
  rw [show ((k : Int)).toNat = k from by simp]
  obtain ⟨z, hz⟩ : ∃ z, z = C[k] := ⟨_, rfl⟩
  rw [← hz] at gc hg0 ⊢
  have i0 : (0 : Int) ≤ (k : Int) := by omega
  have i1 : (k : Int) < (C.length : Int) := by omega
  clear conP h hpz hin hC10 hgap hT hC hc hga hz
  by_cases hn : z < 0
  · skip
    have hd : decide (z < 0) = true := decide_eq_true hn
    rw [hd]
    clear hd
    have ie : (z == (-1 : Int)) = true := by rw [beq_iff_eq]; exact hg0.1 hn
    have ie2 : (z != (-1 : Int)) = false := by rw [bne_eq_false_iff_eq]; exact hg0.1 hn
    clear hg0
    clear conW
    show Calls _ _ _ _ (RetPB w [] [] false)
    go_enter Try.func31, Try.ntmps31
    go_wp2_with fail
    obtain ⟨w0, hw0⟩ : ∃ w0, w0 = (w.alloc (.cells #[.slice AT T.length cT, .slice (some ⟨bk, off, none⟩) C.length cC] 30)).alloc (.cells #[.slice none 0 0, .slice none 0 0] 30) := ⟨_, rfl⟩
    rw [← hw0]
    have hs0 : w0.heap.size = w.heap.size + 2 := by rw [hw0]; simp
    have ba : Bx2 w0 w.heap.size (.slice AT T.length cT) (.slice (some ⟨bk, off, none⟩) C.length cC) := by rw [hw0]; exact (Bx2.fresh w _ _ _).more _
    have br : Bx2 w0 (w.heap.size + 1) (.slice none 0 0) (.slice none 0 0) := by
      have h1 := Bx2.fresh (w.alloc (.cells #[.slice AT T.length cT, .slice (some ⟨bk, off, none⟩) C.length cC] 30)) (.slice none 0 0) (.slice none 0 0) 30
      rw [World.size_alloc] at h1
      rw [hw0]; exact h1
    have hb : Below w.heap.size w w0 := by rw [hw0]; go_grown
    have nr : w.heap.size + 1 < w0.heap.size := br.lt
    clear hw0 hs0
    have x0 := ba.c0
    have x1 := ba.c1
    refine (ConP.out _ hb).mono ?_
    rintro e w1 ⟨rfl, h1⟩
    replace hb := bstep hb h1
    replace br := br.keep h1
    replace ba := ba.keep h1
    clear x0 x1 nr h1
    have x1 := ba.c1
    have gk := keepc (hb.trans (Below.refl _ _)) gc
    have y0 := br.c0
    have y1 := br.c1
    have f0 := br.fz 0
    have f1 := br.fz 1
    have nr := br.lt
    have HB := Lib.hid hb
    clear hb br ba
    go_wp2
    refine bodyPost_ret (v := .tuple #[.agg #[.slice none 0 0, .slice none 0 0], .bool false]) (by simp [results, Try.results31, go_sem, y0, y1]) rfl ⟨none, 0, none, 0, rfl, OwnP.none_ _ _ _, below_box (below_box HB.out (by omega)) (by omega)⟩
  · skip
    have hd : decide (z < 0) = false := decide_eq_false hn
    rw [hd]
    clear hd
    have ie : (z == (-1 : Int)) = false := by rw [beq_eq_false_iff_ne]; exact fun h => hn (hg0.2 h)
    have ie2 : (z != (-1 : Int)) = true := by rw [bne_iff_ne]; exact fun h => hn (hg0.2 h)
    clear hg0
    generalize C.set k (-1) = D at conW ⊢
    show Calls _ _ _ _ (RetPB w T D true)
    go_enter Try.func31, Try.ntmps31
    go_wp2_with fail
    obtain ⟨w0, hw0⟩ : ∃ w0, w0 = (w.alloc (.cells #[.slice AT T.length cT, .slice (some ⟨bk, off, none⟩) C.length cC] 30)).alloc (.cells #[.slice none 0 0, .slice none 0 0] 30) := ⟨_, rfl⟩
    rw [← hw0]
    have hs0 : w0.heap.size = w.heap.size + 2 := by rw [hw0]; simp
    have ba : Bx2 w0 w.heap.size (.slice AT T.length cT) (.slice (some ⟨bk, off, none⟩) C.length cC) := by rw [hw0]; exact (Bx2.fresh w _ _ _).more _
    have br : Bx2 w0 (w.heap.size + 1) (.slice none 0 0) (.slice none 0 0) := by
      have h1 := Bx2.fresh (w.alloc (.cells #[.slice AT T.length cT, .slice (some ⟨bk, off, none⟩) C.length cC] 30)) (.slice none 0 0) (.slice none 0 0) 30
      rw [World.size_alloc] at h1
      rw [hw0]; exact h1
    have hb : Below w.heap.size w w0 := by rw [hw0]; go_grown
    have nr : w.heap.size + 1 < w0.heap.size := br.lt
    clear hw0 hs0
    have x0 := ba.c0
    have x1 := ba.c1
    refine (ConP.out _ hb).mono ?_
    rintro e w1 ⟨rfl, h1⟩
    replace hb := bstep hb h1
    replace br := br.keep h1
    replace ba := ba.keep h1
    clear x0 x1 nr h1
    have x0 := ba.c0
    have x1 := ba.c1
    have brlt : w.heap.size + 1 < w1.heap.size := br.lt
    have gk := keepc hb gc
    go_wp2_with fail
    refine (conW.out _ hb).mono ?_
    rintro e w3 ⟨A1, c1, A2, c2, rfl, oP, h3⟩
    have HB := Lib.hid (bstep hb h3)
    replace br := br.keep h3
    have z3 := h3.size
    have nr0 := (br.lt)
    have y0 := br.c0
    have y1 := br.c1
    have f0 := br.fz 0
    have f1 := br.fz 1
    have nlo := brlt
    have OP := Lib.hid oP
    clear hb br ba oP h3 x0 x1
    go_wp2
    refine bodyPost_ret (v := .tuple #[.agg #[.slice A1 T.length c1, .slice A2 D.length c2], .bool true]) (by simp [results, Try.results31, go_sem, y0, y1]) rfl ⟨A1, c1, A2, c2, rfl, (((OP.out.box (by omega)).box (by omega)).base (by omega)).top (by simp [World.setCell]), below_box (below_box HB.out (by omega)) (by omega)⟩

end Go.Proofs.Ytjdnkcdnppcbhaa

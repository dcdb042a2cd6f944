/- The texts of puzzles: both sides. -/
import Derived.Test.YtjdnkcdnppcbhabDoorPzS
import Derived.Test.YtjdnkcdnppcbhabDoorPzI
import Derived.Test.YtjdnkcdnppcbhabDoorHTextI
import Derived.Deep.Cut
import Derived.BigQuiet
namespace Go.Proofs.YtjdnkcdnppcbhabDoor
open Go.RowKit
set_option linter.unusedVariables false

/-- A place's letter. -/
def pzCh (x : Int) : UInt8 := if x < 0 then 46 else dgU x
def pzRow (C : List Int) (k : Nat) : List UInt8 := (C.take k).map pzCh
def pzTx (T : List (Int × Int)) (C : List Int) (k : Nat) : ByteArray := (textHB T ++ ⟨#[58]⟩) ++ ⟨(pzRow C k).toArray⟩
def pzTxV (T : List (Int × Int)) (C : List Int) : ByteArray := if pzB T C then pzTx T C C.length else ⟨#[]⟩
theorem pzRow_step {C : List Int} {k : Nat} (h : k < C.length) : pzRow C (k + 1) = pzRow C k ++ [pzCh C[k]] := by
  unfold pzRow
  rw [List.take_succ_eq_append_getElem h, List.map_append]
  rfl
theorem pzRow_len (C : List Int) {k : Nat} (h : k ≤ C.length) : (pzRow C k).length = k := by simp [pzRow]; omega
theorem pzTx_step {T : List (Int × Int)} {C : List Int} {k : Nat} (h : k < C.length) : pzTx T C (k + 1) = pzTx T C k ++ ⟨#[pzCh C[k]]⟩ := by
  unfold pzTx
  apply ByteArray.ext
  rw [ByteArray.data_append, ByteArray.data_append, ByteArray.data_append, ByteArray.data_append, ByteArray.data_append, pzRow_step h, Array.append_assoc]
  simp
theorem pzTx_zero (T : List (Int × Int)) (C : List Int) : pzTx T C 0 = textHB T ++ ⟨#[58]⟩ := by
  unfold pzTx
  apply ByteArray.ext
  rw [ByteArray.data_append]
  simp [pzRow]
theorem textHB_size (T : List (Int × Int)) : (textHB T).size ≤ 3 * T.length + 1 := by
  unfold textHB
  split
  · show 1 ≤ _
    omega
  · have := joinB_size T
    omega
theorem pzTx_size {T : List (Int × Int)} {C : List Int} (k : Nat) (h : T.length ≤ 9) (h2 : C.length ≤ 10) : (pzTx T C k).size ≤ 60 := by
  unfold pzTx
  have h1 := textHB_size T
  have h3 : (⟨(pzRow C k).toArray⟩ : ByteArray).size = (pzRow C k).length := by show (pzRow C k).toArray.size = _; simp
  have h4 : (pzRow C k).length ≤ C.length := by simp [pzRow]; omega
  rw [ByteArray.size_append, ByteArray.size_append, h3]
  show (textHB T).size + 1 + _ ≤ 60
  omega
theorem pzCh_dg {x : Int} (h : ¬ x < 0) : (⟨#[pzCh x]⟩ : ByteArray) = dgB x := by unfold pzCh dgB; rw [if_neg h]
theorem pzCh_gap {x : Int} (h : x < 0) : (⟨#[pzCh x]⟩ : ByteArray) = ⟨#[46]⟩ := by unfold pzCh; rw [if_pos h]
def cellsU (us : List UInt8) : List Value := us.map fun u => .int .u8 (u.toNat : Int)
/-- The letters under way: the first k written. -/
def pzMix (C : List Int) (k : Nat) : List UInt8 := pzRow C k ++ List.replicate (C.length - k) 0
theorem pzMix_len {C : List Int} {k : Nat} (h : k ≤ C.length) : (pzMix C k).length = C.length := by
  unfold pzMix
  rw [List.length_append, pzRow_len C h, List.length_replicate]
  omega
theorem pzMix_all (C : List Int) : pzMix C C.length = pzRow C C.length := by simp [pzMix]
theorem pzMix_step {C : List Int} {k : Nat} (h : k < C.length) : (cellsU (pzMix C k)).set k (.int .u8 ((pzCh C[k]).toNat : Int)) = cellsU (pzMix C (k + 1)) := by
  unfold pzMix cellsU
  rw [show C.length - k = (C.length - (k + 1)) + 1 by omega, List.replicate_succ, List.map_append, List.map_cons, pzRow_step h, List.map_append, List.map_append, List.set_append_right _ _ (by rw [List.length_map, pzRow_len C (by omega)]; exact Nat.le_refl _)]
  rw [List.length_map, pzRow_len C (by omega), Nat.sub_self, List.set_cons_zero, List.append_assoc]
  rfl
theorem cellsU_zero (n : Nat) : cellsU (List.replicate n 0) = (madeCells (Value.int .u8 0).cells (n * 1)).toList := by
  rw [Nat.mul_one]
  exact (by simp [cellsU] : cellsU (List.replicate n 0) = List.replicate n (Value.int .u8 0)).trans (toList_madeCells_one (.int .u8 0) n).symm
theorem Tryd.info_u8P : (Tryd.prog.info? 5).map (fun i => (i.zero, i.size, i.bytes)) = some (some (.int .u8 0), 1, 1) := by kernel_rfl

set_option maxRecDepth 100000 in
set_option maxHeartbeats 2000000 in
theorem c_pzText (AT : Option Addr) (cT : Nat) (T : List (Int × Int)) (AC : Option Addr) (cC : Nat) (C : List Int) (w : World) (hT : RdT w AT T) (hC : RdI w AC C) (hp : pzB T C = true) (kT : T.length ≤ cT) :
    Calls Tryd.prog 17 #[.agg #[.slice AT T.length cT, .slice AC C.length cC]] w fun e w' => e = .returned (.string (pzTx T C C.length)) ∧ Below w.heap.size w w' := by
  obtain ⟨_, h9, hh, hCl, hg, _⟩ := pzB_parts hp
  have hC10 : C.length ≤ 10 := by omega
  clear hCl
  have con := Lib.hid (fun W (hb : Below w.heap.size w W) => c_tiText AT cT T W (hT.below hb) (by omega) (hd_nums hh))
  have hz := Lib.hid (pzTx_zero T C)
  have hsz := Lib.hid (fun k => pzTx_size (T := T) (C := C) k h9 hC10)
  have hst := Lib.hid (fun k (h : k < C.length) => pzTx_step (T := T) h)
  have hgap := Lib.hid (fun k (h : k < C.length) => hg _ (List.getElem_mem h))
  have ht1 := textHB_size T
  generalize textHB T = X at *
  obtain ⟨F, hF⟩ : ∃ F : Nat → ByteArray, F = pzTx T C := ⟨_, rfl⟩
  rw [← hF] at hz hsz hst ⊢
  have hadd : ¬ 9223372036854775807 < X.size + 1 := by omega
  clear hg hT hp hF hh
  go_enter Tryd.func17, Tryd.ntmps17
  go_wp2_with fail
  obtain ⟨w0, hw0⟩ : ∃ w0, w0 = w.alloc (.cells #[.slice AT T.length cT, .slice AC C.length cC] 31) := ⟨_, rfl⟩
  rw [← hw0]
  have ba0 : Bx2 w0 w.heap.size (.slice AT T.length cT) (.slice AC C.length cC) := by rw [hw0]; exact Bx2.fresh w _ _ _
  have hb0 : Below w.heap.size w w0 := by rw [hw0]; go_grown
  clear hw0
  refine (con.out _ hb0).mono ?_
  rintro e w1 ⟨rfl, q1⟩
  have hb1 := bstep hb0 q1
  have ba1 := ba0.keep q1
  have x1 := ba1.c1
  clear ba0 q1 hb0 con
  go_wp2
  go_loopw [3, 13] (fun s i wr => ∃ k : Nat, k ≤ C.length ∧ i = .int .i64 k ∧ s = .string (F k) ∧ Below w.heap.size w wr) (fun _ i _ => C.length - (intOf i).toNat)
  case atStart => exact ⟨0, Nat.zero_le _, rfl, by rw [hz.out], hb1⟩
  case round =>
    clear hb1 x1 ba1
    obtain ⟨k, hk, rfl, rfl, hb⟩ := hrel
    by_cases hlt : k < C.length
    · obtain ⟨bk, off, rfl, hbk, hc⟩ := hC.at_ hlt
      have g1 := keepc hb (hc k hlt)
      have hgx := hgap.out k hlt
      have s1 := hst.out k hlt
      have hs60 := hsz.out k
      obtain ⟨x, hx⟩ : ∃ x, C[k] = x := ⟨_, rfl⟩
      rw [hx] at g1 hgx s1
      have Hb := Lib.hid hb
      clear hc hx hb hadd
      by_cases hn : x < 0
      · rw [pzCh_gap hn] at s1
        have S1 := Lib.hid s1
        have hadd : ¬ 9223372036854775807 < (F k).size + 1 := by omega
        generalize F k = Y at *
        clear s1 hgx
        go_wp2
        go_roundw
        case rel => exact ⟨k + 1, by omega, by go_num, by rw [S1.out], Hb.out⟩
        case measure => simp [intOf]; omega
      · rw [pzCh_dg hn] at s1
        have S1 := Lib.hid s1
        have conN := Lib.hid (fun W => c_l1NumD x (gapB_num hgx (fun h => hn (by rw [h]; decide))) W)
        have hadd : ¬ 9223372036854775807 < (F k).size + 1 := by omega
        have sp := dgB_size x
        generalize F k = Y at *
        generalize dgB x = Z at *
        clear s1 hgx
        go_wp2_with (go_at_call 37; refine (conN.out _).mono ?_; rintro e w2 ⟨rfl, hb2⟩)
        go_roundw
        case rel => exact ⟨k + 1, by omega, by go_num, by rw [S1.out], bstep Hb.out hb2⟩
        case measure => simp [intOf]; omega
    · have : k = C.length := by omega
      subst this
      go_wp2
      go_ret
      exact ⟨rfl, hb⟩

set_option maxRecDepth 100000 in
set_option maxHeartbeats 2000000 in
theorem c_specPzText (AT : Option Addr) (cT : Nat) (T : List (Int × Int)) (AC : Option Addr) (cC : Nat) (C : List Int) (w : World) (hT : RdT w AT T) (hC : RdI w AC C) (lT : T.length + C.length ≤ 1048576) (kT : T.length ≤ cT) :
    Calls Tryd.prog 6 #[.agg #[.slice AT T.length cT, .slice AC C.length cC]] w fun e w' => e = .returned (.tuple #[.string (pzTxV T C), .bool (pzB T C)]) ∧ Below w.heap.size w w' := by
  have con1 := fun W (hb : Below w.heap.size w W) => c_pzGood AT cT T AC cC C W (hT.below hb) (hC.below hb) lT kT
  cases h : pzB T C
  · have e1 : pzTxV T C = ⟨#[]⟩ := by unfold pzTxV; rw [h]; rfl
    rw [e1]
    simp only [h] at con1
    have Con1 := Lib.hid con1
    clear con1 e1 h hT hC
    go_enter Tryd.func6, Tryd.ntmps6
    go_wp2_with fail
    refine (Con1.out _ (by go_grown)).mono ?_
    rintro e w1 ⟨rfl, q1⟩
    have hb1 := bstep (show Below w.heap.size w _ by go_grown) q1
    go_wp2
    go_ret2
    exact ⟨rfl, hb1⟩
  · have e1 : pzTxV T C = pzTx T C C.length := by unfold pzTxV; rw [h]; rfl
    rw [e1]
    have con2 := Lib.hid (fun W (hb : Below w.heap.size w W) => c_pzText AT cT T AC cC C W (hT.below hb) (hC.below hb) h kT)
    simp only [h] at con1
    have Con1 := Lib.hid con1
    generalize pzTx T C C.length = X at *
    clear con1 e1 h hT hC
    go_enter Tryd.func6, Tryd.ntmps6
    go_wp2_with fail
    obtain ⟨w0, hw0⟩ : ∃ w0, w0 = w.alloc (.cells #[.slice AT T.length cT, .slice AC C.length cC] 31) := ⟨_, rfl⟩
    rw [← hw0]
    have ba0 : Bx2 w0 w.heap.size (.slice AT T.length cT) (.slice AC C.length cC) := by rw [hw0]; exact Bx2.fresh w _ _ _
    have hb0 : Below w.heap.size w w0 := by rw [hw0]; go_grown
    clear hw0
    refine (Con1.out _ hb0).mono ?_
    rintro e w1 ⟨rfl, q1⟩
    have hb1 := bstep hb0 q1
    have ba1 := ba0.keep q1
    have x0 := ba1.c0
    have x1 := ba1.c1
    go_wp2_with fail
    refine (con2.out _ hb1).mono ?_
    rintro e w2 ⟨rfl, q2⟩
    have hb2 := bstep hb1 q2
    go_wp2
    go_ret2
    exact ⟨rfl, hb2⟩

set_option maxRecDepth 100000 in
set_option maxHeartbeats 2000000 in
theorem c_implPzText (AT : Option Addr) (cT : Nat) (T : List (Int × Int)) (AC : Option Addr) (cC : Nat) (C : List Int) (w : World) (hT : RdT w AT T) (hC : RdI w AC C) (lT : T.length + C.length ≤ 1048576) :
    Calls Tryd.prog 8 #[.agg #[.slice AT T.length cT, .slice AC C.length cC]] w fun e w' => e = .returned (.tuple #[.string (pzTxV T C), .bool (pzB T C)]) ∧ Below w.heap.size w w' := by
  have con1 := fun W (hb : Below w.heap.size w W) => c_implIsPuzzle AT cT T AC cC C W (hT.below hb) (hC.below hb) lT
  cases h : pzB T C
  · have e1 : pzTxV T C = ⟨#[]⟩ := by unfold pzTxV; rw [h]; rfl
    rw [e1]
    simp only [h] at con1
    have Con1 := Lib.hid con1
    clear con1 e1 h hT hC
    go_enter Tryd.func8, Tryd.ntmps8
    go_wp2_with fail
    refine (Con1.out _ (by go_grown)).mono ?_
    rintro e w1 ⟨rfl, q1⟩
    have hb1 := bstep (show Below w.heap.size w _ by go_grown) q1
    go_wp2
    go_ret2
    exact ⟨rfl, hb1⟩
  have e1 : pzTxV T C = (textHB T ++ ⟨#[58]⟩) ++ ⟨(pzRow C C.length).toArray⟩ := by unfold pzTxV; rw [h]; rfl
  rw [e1]
  obtain ⟨_, h9, hh, hCl, hg, _⟩ := pzB_parts h
  have hC10 : C.length ≤ 10 := by omega
  have hC1 : 1 ≤ C.length := by omega
  clear hCl
  simp only [h] at con1
  have Con1 := Lib.hid con1
  have eV : textHV T = textHB T := by unfold textHV; rw [hh]; rfl
  have con2 := fun W (hb : Below w.heap.size w W) => c_implHandText AT cT T W (hT.below hb) (by omega)
  simp only [hh, eV] at con2
  have hgap := Lib.hid (fun k (h : k < C.length) => hg _ (List.getElem_mem h))
  have ht1 := textHB_size T
  generalize textHB T = X at *
  have Con2 := Lib.hid con2
  have hrl := pzRow_len C (Nat.le_refl C.length)
  have Hst := Lib.hid (fun k (h : k < C.length) => pzMix_step h)
  have Hml := Lib.hid (fun k (h : k ≤ C.length) => pzMix_len h)
  have Hall := Lib.hid (pzMix_all C)
  have Hrl := Lib.hid hrl
  obtain ⟨i0, hi, hz0, hz1, hz2⟩ := info_parts Tryd.info_u8P
  obtain ⟨R, hR⟩ : ∃ R : ByteArray, R = ⟨(pzRow C C.length).toArray⟩ := ⟨_, rfl⟩
  rw [← hR]
  have HR := Lib.hid hR
  have hrs : R.size ≤ 10 := by rw [hR]; show (pzRow C C.length).toArray.size ≤ 10; rw [List.size_toArray, hrl]; exact hC10
  clear con1 con2 e1 h hg hh eV hrl hT hR
  go_enter Tryd.func8, Tryd.ntmps8
  go_wp2_with fail
  obtain ⟨w0, hw0⟩ : ∃ w0, w0 = w.alloc (.cells #[.slice AT T.length cT, .slice AC C.length cC] 31) := ⟨_, rfl⟩
  rw [← hw0]
  have ba0 : Bx2 w0 w.heap.size (.slice AT T.length cT) (.slice AC C.length cC) := by rw [hw0]; exact Bx2.fresh w _ _ _
  have hb0 : Below w.heap.size w w0 := by rw [hw0]; go_grown
  clear hw0
  refine (Con1.out _ hb0).mono ?_
  rintro e w1 ⟨rfl, q1⟩
  have hb1 := bstep hb0 q1
  have ba1 := ba0.keep q1
  have x1 := ba1.c1
  clear ba0 q1 hb0 Con1
  go_wp2_with (refine wpList_make_full _ rfl _ _ _ rfl w1.heap.size 5 i0 _ 1 Tryd.underlying45 hi hz0 hz1 .i64 .i64 _ _ C.length rfl rfl rfl rfl (by rw [hz2]; omega) (by unfold maxLen; omega) (Nat.le_refl _) ?_; intro w2 hown2 hg2; have hb12 := below_of_grown hg2 (Nat.le_refl _) (by simp); have x2 := keepc hb12 x1)
  have hown : w2.ownsRow w1.heap.size 5 1 (.slice (some ⟨w1.heap.size, 0, none⟩) C.length C.length) C.length (cellsU (pzMix C 0)) := by
    have e : pzMix C 0 = List.replicate C.length 0 := by simp [pzMix, pzRow]
    rw [e, cellsU_zero]
    exact hown2
  have hbb : Below w.heap.size w w2 := bstep hb1 hb12
  have hsz := hb1.size
  have ba2 := ba1.keep hb12
  clear hown2 hg2 hb12 hb1 hz0 hz1 hz2 hi ba1 x1 x2
  obtain ⟨G, hG⟩ : ∃ G, G = w1.heap.size := ⟨_, rfl⟩
  have hGw : w.heap.size ≤ G := by omega
  rw [← hG] at hown ⊢
  clear hG
  go_loopw [19] (fun i wr => ∃ k : Nat, k ≤ C.length ∧ i = .int .i64 k ∧ wr.ownsRow G 5 1 (.slice (some ⟨G, 0, none⟩) C.length C.length) C.length (cellsU (pzMix C k)) ∧ Below w.heap.size w wr ∧ Bx2 wr w.heap.size (.slice AT T.length cT) (.slice AC C.length cC)) (fun i _ => C.length - (intOf i).toNat)
  case atStart => exact ⟨0, Nat.zero_le _, rfl, hown, hbb, ba2⟩
  case round =>
    clear hown hbb ba2
    obtain ⟨k, hk, rfl, hown, hb, ba⟩ := hrel
    by_cases hlt : k < C.length
    · obtain ⟨bk, off, hA, hbk, hc⟩ := hC.at_ hlt
      have g1 := keepc hb (hc k hlt)
      have hgx := hgap.out k hlt
      have hst := Hst.out k hlt
      have hml := Hml.out k hk
      have x1 := ba.c1
      have nbG : w.heap.size ≠ G := by
        intro e
        have h1 := ba.c0
        have h2 := hown.cellAt 0 (by omega)
        rw [← e, h1] at h2
        have h3 : (cellsU (pzMix C k))[0]? = some (.int .u8 (((pzMix C k)[0]'(by omega)).toNat : Int)) := by simp [cellsU, show 0 < (pzMix C k).length by omega]
        rw [h3] at h2
        cases h2
      have ck : ∃ u, wr.cell? ⟨G, k, none⟩ = some u := ⟨.int .u8 (((pzMix C k)[k]'(by omega)).toNat : Int), (hown.cellAt k (by omega)).trans (by simp [cellsU, show k < (pzMix C k).length by omega])⟩
      obtain ⟨u, ck⟩ := ck
      have fk := hown.frozenAt k
      have j0 : (0 : Int) ≤ (k : Int) := by omega
      have j1 : (k : Int) < (C.length : Int) := by omega
      obtain ⟨x, hx⟩ : ∃ x, C[k] = x := ⟨_, rfl⟩
      rw [hx] at g1 hgx hst
      have Hb := Lib.hid hb
      have Ho := Lib.hid hown
      have Hba := Lib.hid ba
      have Hs := Lib.hid hst
      clear hc hx hb hown ba hml hst
      subst hA
      by_cases hn : x < 0
      · have ie : (x == (-1 : Int)) = true := by rw [beq_iff_eq]; exact (gapB_neg hgx).1 hn
        have e46 : ((pzCh x).toNat : Int) = 46 := by unfold pzCh; rw [if_pos hn]; rfl
        have Hs2 := Hs.out
        rw [e46] at Hs2
        have HS := Lib.hid Hs2
        clear Hs Hs2 hgx e46 hn
        go_wp2
        go_roundw
        case rel =>
          refine ⟨k + 1, by omega, by go_num, ?_, below_box Hb.out hGw, Hba.out.far _ nbG⟩
          rw [← HS.out]
          exact (Ho.out.stored _ _).1
        case measure => simp [intOf]; omega
      · have ie : (x == (-1 : Int)) = false := by rw [beq_eq_false_iff_ne]; exact fun h => hn (by rw [h]; decide)
        have hnum : numB x = true := gapB_num hgx (fun h => hn (by rw [h]; decide))
        have e48 : ((pzCh x).toNat : Int) = 48 + x := by unfold pzCh; rw [if_neg hn]; exact dgU_nat hnum
        have hx2 : 0 ≤ x ∧ x ≤ 9 := by simpa [numB] using hnum
        have w1x : IntKind.u8.wrap x = x := dg_u8 (by omega) (by omega)
        have w2x : IntKind.u8.wrap (48 + x) = 48 + x := dg_u8 (by omega) (by omega)
        have Hs2 := Hs.out
        rw [e48] at Hs2
        have HS := Lib.hid Hs2
        clear Hs Hs2 hgx e48 hn hnum hx2
        go_wp2
        go_roundw
        case rel =>
          refine ⟨k + 1, by omega, by go_num, ?_, below_box Hb.out hGw, Hba.out.far _ nbG⟩
          rw [← HS.out]
          exact (Ho.out.stored _ _).1
        case measure => simp [intOf]; omega
    · have : k = C.length := by omega
      subst this
      rw [Hall.out] at hown
      have x0 := ba.c0
      go_wp2_with fail
      refine (Con2.out _ hb).mono ?_
      rintro e w5 ⟨rfl, q5⟩
      have hb5 := bstep hb q5
      have own5 := own_keep hown q5
      have hrun : (convert 45 9 (.slice (some ⟨G, 0, none⟩) C.length C.length)).run Tryd.prog w5 = .ok (.string R) w5 := by
        have h := run_convert_bytes_back w5 45 9 5 ⟨G, 0, none⟩ C.length (pzRow C C.length) Tryd.underlying45 Tryd.underlying5 Tryd.underlying9 (fun j hj => by
          rw [addr_addH]
          have hj2 : j < C.length := by rw [← Hrl.out]; exact hj
          exact (own5.cellAt j (by omega)).trans (by simp [cellsU, hj]))
        rw [Hrl.out, ← HR.out] at h
        exact h
      have hadd : ¬ 9223372036854775807 < X.size + 1 := by omega
      have hadd2 : ¬ 9223372036854775807 < X.size + 1 + R.size := by omega
      clear hown own5 ba x0 hb q5
      go_wp2
      go_ret2
      exact ⟨rfl, hb5⟩

end Go.Proofs.YtjdnkcdnppcbhabDoor

/- The law on hands as sets: hands are joined, cut and taken away as sets, numbers of pips add up, and sorted ones are in order. No condition. -/
import Derived.Test.YtllfjffcogpaiacHasW
import Derived.Test.YtllfjffcogpaiacDrawH
import Derived.Test.YtllfjffcogpaiacBoth
import Derived.Test.YtllfjffcogpaiacMiss
import Derived.Test.YtllfjffcogpaiacReg
namespace Go.Proofs.Ytllfjffcogpaiac
open Go.ChangeShapes Go.WideShapes Go.ChangeAt Go.RowKit Go.Joins
set_option linter.unusedVariables false

theorem keepH {w : World} {a : Addr} {v : Value} {o : Obj} (h : w.cell? a = some v) : (w.alloc o).cell? a = some v := keepc ((Below.refl _ _).alloc (Nat.le_refl _) _) h
theorem pips_bds {ts : List (Int × Int)} (h : handB ts = true) : 0 ≤ pipsI ts ∧ pipsI ts ≤ 990 := by
  have h1 := pipsI_bd (handB_good h).2 ts.length (Nat.le_refl _)
  rw [List.take_length] at h1
  have := (handB_good h).1
  omega
theorem set_mem {m : Nat} (hm : m ≤ 9) {t : Int × Int} : t ∈ setL m ↔ goodB t.1 t.2 = true ∧ t.2 ≤ (m : Int) := by
  constructor
  · intro h
    have := (setn_facts ⟨m, by omega⟩).2.2.2 t h
    exact ⟨this.2, this.1⟩
  · rintro ⟨h1, h2⟩
    have key : ∀ m : Fin 10, ∀ a b : Fin 10, a.1 ≤ b.1 → b.1 ≤ m.1 → ((a.1 : Int), (b.1 : Int)) ∈ setL m.1 := by decide +kernel
    obtain ⟨a1, a2, a3⟩ := good_bd h1
    have := key ⟨m, by omega⟩ ⟨t.1.toNat, by omega⟩ ⟨t.2.toNat, by omega⟩ (by simp only; omega) (by simp only; omega)
    simp only at this
    rw [show ((t.1.toNat : Nat) : Int) = t.1 from by omega, show ((t.2.toNat : Nat) : Int) = t.2 from by omega] at this
    exact this
theorem setn_nodup {m : Nat} (hm : m ≤ 9) : (setL m).Nodup := hand_nodup (setn_facts ⟨m, by omega⟩).1
/-- What is missing from a hand makes the set with it. -/
theorem miss_facts {hs : List (Int × Int)} {n : Int} (h : okMiss hs n = true) : okAB (missL hs n) hs = true ∧ joinHL (missL hs n) hs = setOfL n ∧ ((missL hs n).length : Int) + hs.length = countV n ∧ numB n = true := by
  simp only [okMiss, Bool.and_eq_true] at h
  obtain ⟨⟨hh, hn⟩, hw⟩ := h
  obtain ⟨m, hm, rfl⟩ := numB_nat hn
  have hw' : ∀ t ∈ hs, t.2 ≤ (m : Int) := of_decide_eq_true hw
  have e1 : missL hs m = pickL m hs false := by simp [missL, okMiss, hh, hn, hw]
  have e2 : setOfL (m : Int) = setL m := by simp [setOfL, hn]
  have hset := (setn_facts ⟨m, by omega⟩)
  have hsub : ∀ t ∈ hs, t ∈ setL m := fun t ht => (set_mem hm).2 ⟨(handB_good hh).2 t ht, hw' t ht⟩
  have hp : handB (pickL m hs false) = true := sub_hand hset.1 ((setn_nodup hm).sublist List.filter_sublist) (fun t ht => (List.mem_filter.1 ht).1)
  have hok : okAB (pickL m hs false) hs = true := by simp [okAB, hp, hh]
  rw [e1, e2]
  refine ⟨hok, ?_, ?_, hn⟩
  · have e3 : joinHL (pickL m hs false) hs = sortL (pickL m hs false ++ hs) := by simp [joinHL, hok]
    rw [e3, ← set_sorted hm]
    unfold sortL pickL
    refine List.filter_congr fun t _ => ?_
    unfold pickB
    congr 1
    rw [decide_eq_decide, List.mem_append, List.mem_filter]
    by_cases h1 : t ∈ hs
    · simp [h1, hsub t h1]
    · simp [h1]
  · rw [← hset.2.2.1, len_sum, len_sum, len_sum, sum_hand _ hh]
    rw [show pickL m hs false = (setL m).filter (pickB hs false) from rfl]
    have e4 : sumF (fun _ => 1) (sortL hs) = sumF (fun _ => 1) ((setL m).filter (pickB hs true)) :=
      sumF_same _ _ _ (sort_nodup hs) ((setn_nodup hm).sublist List.filter_sublist) (fun t => by
        rw [mem_sortL (handB_good hh).2, List.mem_filter]
        simp only [pickB, beq_true, decide_eq_true_eq]
        exact ⟨fun h1 => ⟨hsub t h1, h1⟩, fun h1 => h1.2⟩)
    rw [e4, sumF_filter, sumF_filter, ← sumF_add]
    refine sumF_congr fun t _ => ?_
    by_cases h1 : t ∈ hs <;> simp [pickB, h1]

set_option maxRecDepth 100000 in
set_option maxHeartbeats 16000000 in
theorem w_FnHandsAsSets (A0 : Option Addr) (c0 n0 : Nat) (A1 : Option Addr) (c1 n1 : Nat) (w : World) (hr0 : RdB w A0 n0) (hl0 : n0 ≤ 9223372036854775807) (hr1 : RdB w A1 n1) (hl1 : n1 ≤ 9223372036854775807) :
    Calls Try.prog 3 #[.slice A0 n0 c0, .slice A1 n1 c1] w fun e w' => e = .returned (.bool true) ∧ Below w.heap.size w w' := by
  by_cases hbig : n0 + n1 ≤ 1048576
  · have con1 := Lib.hid (c_big_no A0 A1 c0 c1 n0 n1 w hbig)
    go_enter Try.func3, Try.ntmps3
    go_wp2_with fail
    refine con1.out.mono ?_
    rintro e w0 ⟨rfl, rfl⟩
    have B := Below.refl w.heap.size w
    clear con1
    go_wp2_with fail
    refine (c_DrawJoinHands n0 c0 A0 _ hr0 (by omega)).mono ?_
    rintro e w1 ⟨A, c, ts, A', c', us, rfl, hs1, hlt1, hs2, hlt2, hb⟩
    have hr0 := RdB.below hr0 hb
    have hr1 := RdB.below hr1 hb
    have B := bstep B hb
    have ra := RdT.of_own hs1
    have rb := RdT.of_own hs2
    have ka := own_cap hs1
    have kb := own_cap hs2
    clear hs1 hs2
    have lj := joinHL_len ts us
    have lk := bothHL_len ts us
    have ll := lessHL_len ts us
    by_cases ha : handB ts = true
    · by_cases hb' : handB us = true
      · have okv : okAB ts us = true := by simp [okAB, ha, hb']
        have cJ := fun W (h1 : RdT W A ts) (h2 : RdT W A' us) => c_implJoinHands A c ts A' c' us W h1 (by omega) h2 (by omega)
        have cJ' := fun W (h1 : RdT W A ts) (h2 : RdT W A' us) => c_specJoinHands A c ts A' c' us W h1 (by omega) ka h2 (by omega) kb
        have cK := fun W (h1 : RdT W A ts) (h2 : RdT W A' us) => c_implBothHands A c ts A' c' us W h1 (by omega) h2 (by omega)
        have cK' := fun W (h1 : RdT W A ts) (h2 : RdT W A' us) => c_specBothHands A c ts A' c' us W h1 (by omega) ka h2 (by omega) kb
        have cL := fun W (h1 : RdT W A ts) (h2 : RdT W A' us) => c_implLessHand A c ts A' c' us W h1 (by omega) h2 (by omega)
        have cL' := fun W (h1 : RdT W A ts) (h2 : RdT W A' us) => c_specLessHand A c ts A' c' us W h1 (by omega) ka h2 (by omega) kb
        have cH := fun W (h1 : RdT W A ts) => c_implIsHand A c ts W h1 (by omega)
        have cH' := fun W (h1 : RdT W A' us) => c_implIsHand A' c' us W h1 (by omega)
        have eJ : joinHL ts us = sortL (ts ++ us) := by simp [joinHL, okv]
        have eK : bothHL ts us = thoseL ts us true := by simp [bothHL, okv]
        have eL : lessHL ts us = thoseL ts us false := by simp [lessHL, okv]
        have gab : ∀ t ∈ ts ++ us, goodB t.1 t.2 = true := fun t ht => by
          rcases List.mem_append.1 ht with h | h
          · exact (handB_good ha).2 t h
          · exact (handB_good hb').2 t h
        have hj := sort_hand gab
        have hk := those_hand (b := us) true ha
        have hl := those_hand (b := us) false ha
        have pb1 := pips_bds ha
        have pb2 := pips_bds hb'
        have pb3 := pips_bds hj
        have pb4 := pips_bds hk
        have psum := pips_sets ha hb'
        have lsum := len_sets ha hb'
        have mJ : ∀ t ∈ sortL (ts ++ us), t ∈ ts ∨ t ∈ us := fun t ht => List.mem_append.1 ((mem_sortL gab t).1 ht)
        have mK : ∀ t, t ∈ thoseL ts us true ↔ t ∈ ts ∧ t ∈ us := fun t => by
          unfold thoseL
          rw [List.mem_filter, mem_sortL (handB_good ha).2]
          simp [pickB]
        have mL : ∀ t, t ∈ thoseL ts us false ↔ t ∈ ts ∧ ¬ t ∈ us := fun t => by
          unfold thoseL
          rw [List.mem_filter, mem_sortL (handB_good ha).2]
          simp [pickB]
        have oJ : ∀ i j (hi : i < (sortL (ts ++ us)).length) (hj : j < (sortL (ts ++ us)).length), i < j → ltT (sortL (ts ++ us))[i] (sortL (ts ++ us))[j] := fun i j hi hj hij => List.pairwise_iff_getElem.1 (pickL_sorted (ts ++ us) true) i j hi hj hij
        have gJ := (handB_good hj).2
        have cP1 := fun W (h1 : RdT W A ts) => c_implPipsOf A c ts W h1 (by omega)
        have cP2 := fun W (h1 : RdT W A' us) => c_implPipsOf A' c' us W h1 (by omega)
        have cP3 := fun W A2 d2 (h1 : RdT W A2 (sortL (ts ++ us))) => c_implPipsOf A2 d2 (sortL (ts ++ us)) W h1 (by rw [← eJ]; omega)
        have cP4 := fun W A2 d2 (h1 : RdT W A2 (thoseL ts us true)) => c_implPipsOf A2 d2 (thoseL ts us true) W h1 (by rw [← eK]; omega)
        have cAg := fun W A2 d2 (h1 : RdT W A2 (thoseL ts us false)) A3 d3 (h2 : RdT W A3 (thoseL ts us true)) => c_implJoinHands A2 d2 (thoseL ts us false) A3 d3 (thoseL ts us true) W h1 (by rw [← eL]; omega) h2 (by rw [← eK]; omega)
        have eAg : joinHL (thoseL ts us false) (thoseL ts us true) = sortL ts := by simp [joinHL, okAB, hk, hl, less_both ha]
        have oAg : okAB (thoseL ts us false) (thoseL ts us true) = true := by simp [okAB, hk, hl]
        have cSo := fun W (h1 : RdT W A ts) => c_implSortHand A c ts W h1 (by omega)
        have eSo : sortHL ts = sortL ts := by simp [sortHL, ha]
        have cTu := fun W (h1 : RdT W A' us) (h2 : RdT W A ts) => c_implJoinHands A' c' us A c ts W h1 (by omega) h2 (by omega)
        have eTu : joinHL us ts = sortL (ts ++ us) := by simp [joinHL, okAB, ha, hb', join_comm]
        have oTu : okAB us ts = true := by simp [okAB, ha, hb']
        have lso := sortL_len ts
        simp only [eAg, oAg] at cAg
        simp only [eSo, ha] at cSo
        simp only [eTu, oTu] at cTu
        simp only [pipsV, ha, hb', hj, hk, if_true] at cP1 cP2 cP3 cP4
        rw [eJ] at lj
        rw [eK] at lk
        rw [eL] at ll
        simp only [okv, eJ] at cJ cJ'
        simp only [okv, eK] at cK cK'
        simp only [okv, eL] at cL cL'
        simp only [ha] at cH
        simp only [hb'] at cH'
        generalize sortL (ts ++ us) = J at *
        generalize thoseL ts us true = KT at *
        generalize thoseL ts us false = L at *
        generalize sortL ts = SA at *
        obtain ⟨P1, hP1⟩ : ∃ x, x = pipsI ts := ⟨_, rfl⟩
        obtain ⟨P2, hP2⟩ : ∃ x, x = pipsI us := ⟨_, rfl⟩
        obtain ⟨P3, hP3⟩ : ∃ x, x = pipsI J := ⟨_, rfl⟩
        obtain ⟨P4, hP4⟩ : ∃ x, x = pipsI KT := ⟨_, rfl⟩
        simp only [← hP1, ← hP2, ← hP3, ← hP4] at cP1 cP2 cP3 cP4 pb1 pb2 pb3 pb4 psum
        have iwa : IntKind.i64.wrap (P1 + P2) = P1 + P2 := IntWalk.i64_in _ (by omega)
        have iwb : IntKind.i64.wrap (P3 + P4) = P3 + P4 := IntWalk.i64_in _ (by omega)
        have hpp : ((P1 + P2) != (P3 + P4)) = false := by rw [psum]; simp
        have iwc : IntKind.i64.wrap ((ts.length : Int) + us.length) = (ts.length : Int) + us.length := IntWalk.i64_in _ (by omega)
        have iwd : IntKind.i64.wrap ((J.length : Int) + KT.length) = (J.length : Int) + KT.length := IntWalk.i64_in _ (by omega)
        have hll : (((ts.length : Int) + us.length) != ((J.length : Int) + KT.length)) = false := by rw [lsum]; simp
        have HJ := Lib.hid mJ
        have HK := Lib.hid mK
        have HL := Lib.hid mL
        have HS := Lib.hid oJ
        have HG := Lib.hid gJ
        have CJ := Lib.hid cJ
        have CJ' := Lib.hid cJ'
        have CK := Lib.hid cK
        have CK' := Lib.hid cK'
        have CL := Lib.hid cL
        have CL' := Lib.hid cL'
        have CH := Lib.hid cH
        have CH' := Lib.hid cH'
        have CP1 := Lib.hid cP1
        have CP2 := Lib.hid cP2
        have CP3 := Lib.hid cP3
        have CP4 := Lib.hid cP4
        have CAG := Lib.hid cAg
        have CSO := Lib.hid cSo
        have CTU := Lib.hid cTu
        clear cJ cJ' cK cK' cL cL' cH cH' cP1 cP2 cP3 cP4 cAg cSo cTu eJ eK eL eAg oAg eSo eTu oTu mJ mK mL oJ gJ hj hk hl gab ha hb' okv pb1 pb2 pb3 pb4 psum lsum hP1 hP2 hP3 hP4
        go_wp2_with fail
        refine (CJ.out _ ra rb).mono ?_
        rintro e w2 ⟨SJ, cJ, rfl, hs, hb⟩
        have hr1 := RdB.below hr1 hb
        have ra := RdT.below ra hb
        have rb := RdT.below rb hb
        have B := bstep B hb
        have rJ := RdT.of_own hs
        have kJ := own_cap hs
        clear hs
        go_wp2_with fail
        refine (CJ'.out _ ra rb).mono ?_
        rintro e w3 ⟨SJ1, cJ1, rfl, hs, hb⟩
        have hr1 := RdB.below hr1 hb
        have ra := RdT.below ra hb
        have rb := RdT.below rb hb
        have rJ := RdT.below rJ hb
        have B := bstep B hb
        have rJ1 := RdT.of_own hs
        have kJ1 := own_cap hs
        clear hs
        go_wp2_with fail
        refine (CK.out _ ra rb).mono ?_
        rintro e w4 ⟨SK, cK, rfl, hs, hb⟩
        have hr1 := RdB.below hr1 hb
        have ra := RdT.below ra hb
        have rb := RdT.below rb hb
        have rJ := RdT.below rJ hb
        have rJ1 := RdT.below rJ1 hb
        have B := bstep B hb
        have rK := RdT.of_own hs
        have kK := own_cap hs
        clear hs
        go_wp2_with fail
        refine (CK'.out _ ra rb).mono ?_
        rintro e w5 ⟨SK1, cK1, rfl, hs, hb⟩
        have hr1 := RdB.below hr1 hb
        have ra := RdT.below ra hb
        have rb := RdT.below rb hb
        have rJ := RdT.below rJ hb
        have rJ1 := RdT.below rJ1 hb
        have rK := RdT.below rK hb
        have B := bstep B hb
        have rK1 := RdT.of_own hs
        have kK1 := own_cap hs
        clear hs
        go_wp2_with fail
        refine (CL.out _ ra rb).mono ?_
        rintro e w6 ⟨SL, cL, rfl, hs, hb⟩
        have hr1 := RdB.below hr1 hb
        have ra := RdT.below ra hb
        have rb := RdT.below rb hb
        have rJ := RdT.below rJ hb
        have rJ1 := RdT.below rJ1 hb
        have rK := RdT.below rK hb
        have rK1 := RdT.below rK1 hb
        have B := bstep B hb
        have rL := RdT.of_own hs
        have kL := own_cap hs
        clear hs
        go_wp2_with fail
        refine (CL'.out _ ra rb).mono ?_
        rintro e w7 ⟨SL1, cL1, rfl, hs, hb⟩
        have hr1 := RdB.below hr1 hb
        have ra := RdT.below ra hb
        have rb := RdT.below rb hb
        have rJ := RdT.below rJ hb
        have rJ1 := RdT.below rJ1 hb
        have rK := RdT.below rK hb
        have rK1 := RdT.below rK1 hb
        have rL := RdT.below rL hb
        have B := bstep B hb
        have rL1 := RdT.of_own hs
        have kL1 := own_cap hs
        clear hs
        go_wp2_with fail
        refine (c_mTiles_same _ _ _ _ J _ rJ rJ1 (by omega)).mono ?_
        rintro e w8 ⟨rfl, hb⟩
        have hr1 := RdB.below hr1 hb
        have ra := RdT.below ra hb
        have rb := RdT.below rb hb
        have rJ := RdT.below rJ hb
        have rJ1 := RdT.below rJ1 hb
        have rK := RdT.below rK hb
        have rK1 := RdT.below rK1 hb
        have rL := RdT.below rL hb
        have rL1 := RdT.below rL1 hb
        have B := bstep B hb
        go_wp2_with fail
        refine (c_mTiles_same _ _ _ _ KT _ rK rK1 (by omega)).mono ?_
        rintro e w9 ⟨rfl, hb⟩
        have hr1 := RdB.below hr1 hb
        have ra := RdT.below ra hb
        have rb := RdT.below rb hb
        have rJ := RdT.below rJ hb
        have rJ1 := RdT.below rJ1 hb
        have rK := RdT.below rK hb
        have rK1 := RdT.below rK1 hb
        have rL := RdT.below rL hb
        have rL1 := RdT.below rL1 hb
        have B := bstep B hb
        go_wp2_with fail
        refine (c_mTiles_same _ _ _ _ L _ rL rL1 (by omega)).mono ?_
        rintro e w10 ⟨rfl, hb⟩
        have hr1 := RdB.below hr1 hb
        have ra := RdT.below ra hb
        have rb := RdT.below rb hb
        have rJ := RdT.below rJ hb
        have rJ1 := RdT.below rJ1 hb
        have rK := RdT.below rK hb
        have rK1 := RdT.below rK1 hb
        have rL := RdT.below rL hb
        have rL1 := RdT.below rL1 hb
        have B := bstep B hb
        clear rJ1 rK1 rL1
        go_wp2_with fail
        refine (CH.out _ ra).mono ?_
        rintro e w11 ⟨rfl, hb⟩
        have hr1 := RdB.below hr1 hb
        have ra := RdT.below ra hb
        have rb := RdT.below rb hb
        have rJ := RdT.below rJ hb
        have rK := RdT.below rK hb
        have rL := RdT.below rL hb
        have B := bstep B hb
        go_wp2_with fail
        refine (CH'.out _ rb).mono ?_
        rintro e w12 ⟨rfl, hb⟩
        have hr1 := RdB.below hr1 hb
        have ra := RdT.below ra hb
        have rb := RdT.below rb hb
        have rJ := RdT.below rJ hb
        have rK := RdT.below rK hb
        have rL := RdT.below rL hb
        have B := bstep B hb
        go_wp2_with fail
        refine (CP1.out _ ra).mono ?_
        rintro e w13 ⟨rfl, hb⟩
        have hr1 := RdB.below hr1 hb
        have ra := RdT.below ra hb
        have rb := RdT.below rb hb
        have rJ := RdT.below rJ hb
        have rK := RdT.below rK hb
        have rL := RdT.below rL hb
        have B := bstep B hb
        go_wp2_with fail
        refine (CP2.out _ rb).mono ?_
        rintro e w14 ⟨rfl, hb⟩
        have hr1 := RdB.below hr1 hb
        have ra := RdT.below ra hb
        have rb := RdT.below rb hb
        have rJ := RdT.below rJ hb
        have rK := RdT.below rK hb
        have rL := RdT.below rL hb
        have B := bstep B hb
        go_wp2_with fail
        refine (CP3.out _ _ _ rJ).mono ?_
        rintro e w15 ⟨rfl, hb⟩
        have hr1 := RdB.below hr1 hb
        have ra := RdT.below ra hb
        have rb := RdT.below rb hb
        have rJ := RdT.below rJ hb
        have rK := RdT.below rK hb
        have rL := RdT.below rL hb
        have B := bstep B hb
        go_wp2_with fail
        refine (CP4.out _ _ _ rK).mono ?_
        rintro e w16 ⟨rfl, hb⟩
        have hr1 := RdB.below hr1 hb
        have ra := RdT.below ra hb
        have rb := RdT.below rb hb
        have rJ := RdT.below rJ hb
        have rK := RdT.below rK hb
        have rL := RdT.below rL hb
        have B := bstep B hb
        go_wp2_with fail
        refine (CAG.out _ _ _ rL _ _ rK).mono ?_
        rintro e w17 ⟨SA2, cA2, rfl, hs, hb⟩
        have hr1 := RdB.below hr1 hb
        have ra := RdT.below ra hb
        have rb := RdT.below rb hb
        have rJ := RdT.below rJ hb
        have rK := RdT.below rK hb
        have rL := RdT.below rL hb
        have B := bstep B hb
        have rA2 := RdT.of_own hs
        have kA2 := own_cap hs
        clear hs
        go_wp2_with fail
        refine (CSO.out _ ra).mono ?_
        rintro e w18 ⟨SA3, cA3, rfl, hs, hb⟩
        have hr1 := RdB.below hr1 hb
        have ra := RdT.below ra hb
        have rb := RdT.below rb hb
        have rJ := RdT.below rJ hb
        have rK := RdT.below rK hb
        have rL := RdT.below rL hb
        have rA2 := RdT.below rA2 hb
        have B := bstep B hb
        have rA3 := RdT.of_own hs
        have kA3 := own_cap hs
        clear hs
        go_wp2_with fail
        refine (CTU.out _ rb ra).mono ?_
        rintro e w19 ⟨SA4, cA4, rfl, hs, hb⟩
        have hr1 := RdB.below hr1 hb
        have ra := RdT.below ra hb
        have rb := RdT.below rb hb
        have rJ := RdT.below rJ hb
        have rK := RdT.below rK hb
        have rL := RdT.below rL hb
        have rA2 := RdT.below rA2 hb
        have rA3 := RdT.below rA3 hb
        have B := bstep B hb
        have rA4 := RdT.of_own hs
        have kA4 := own_cap hs
        clear hs
        go_wp2_with fail
        refine (c_mTiles_same _ _ _ _ SA _ rA2 rA3 (by omega)).mono ?_
        rintro e w20 ⟨rfl, hb⟩
        have hr1 := RdB.below hr1 hb
        have ra := RdT.below ra hb
        have rb := RdT.below rb hb
        have rJ := RdT.below rJ hb
        have rK := RdT.below rK hb
        have rL := RdT.below rL hb
        have rA2 := RdT.below rA2 hb
        have rA3 := RdT.below rA3 hb
        have rA4 := RdT.below rA4 hb
        have B := bstep B hb
        go_wp2_with fail
        refine (c_mTiles_same _ _ _ _ J _ rA4 rJ (by omega)).mono ?_
        rintro e w21 ⟨rfl, hb⟩
        have hr1 := RdB.below hr1 hb
        have ra := RdT.below ra hb
        have rb := RdT.below rb hb
        have rJ := RdT.below rJ hb
        have rK := RdT.below rK hb
        have rL := RdT.below rL hb
        have rA2 := RdT.below rA2 hb
        have rA3 := RdT.below rA3 hb
        have rA4 := RdT.below rA4 hb
        have B := bstep B hb
        clear rA2 rA3 rA4
        clear CJ CJ' CK CK' CL CL' CH CH' CP1 CP2 CP3 CP4 CAG CSO CTU
        go_wp2_with fail
        go_loopw [255] (fun i wr => ∃ k : Nat, k ≤ J.length ∧ i = .int .i64 k ∧ Below w21.heap.size w21 wr) (fun i _ => J.length - (intOf i).toNat)
        case atStart => exact ⟨0, Nat.zero_le _, rfl, Below.refl _ _⟩
        case round =>
          obtain ⟨k, hk, rfl, hb⟩ := hrel
          have hr1 := RdB.below hr1 hb
          have ra := RdT.below ra hb
          have rb := RdT.below rb hb
          have rJ := RdT.below rJ hb
          have rK := RdT.below rK hb
          have rL := RdT.below rL hb
          have B := bstep B hb
          by_cases hlt : k < J.length
          · obtain ⟨bk, off, rfl, hbk, hc⟩ := rJ.at_ hlt
            obtain ⟨p, hp⟩ : ∃ p, p = J[k].1 := ⟨_, rfl⟩
            obtain ⟨q, hq⟩ : ∃ q, q = J[k].2 := ⟨_, rfl⟩
            have hpq : J[k] = (p, q) := Prod.ext hp.symm hq.symm
            have hmemJ := HJ.out (p, q) (by rw [← hpq]; exact List.getElem_mem hlt)
            have hmemK := HK.out (p, q)
            have hmemL := HL.out (p, q)
            have hprev : ∀ k', k = k' + 1 → ∀ (h' : k' < J.length), rankV J[k'].1 J[k'].2 < rankV p q ∧ goodB J[k'].1 J[k'].2 = true ∧ goodB p q = true := fun k' e h' => by
              subst e
              have h1 := HS.out k' (k' + 1) h' hlt (Nat.lt_succ_self _)
              rw [hpq] at h1
              have h2 := HG.out _ (List.getElem_mem h')
              have h3 := HG.out _ (List.getElem_mem hlt)
              rw [hpq] at h3
              exact ⟨rank_lt h2 h3 h1, h2, h3⟩
            have g1 := (hc k hlt).1
            have g2 := (hc k hlt).2
            rw [← hp] at g1
            rw [← hq] at g2
            have Hprev := Lib.hid hprev
            have Hc := Lib.hid hc
            have Hb := Lib.hid hb
            have i0 : (0 : Int) ≤ (k : Int) := by omega
            have i1 : (k : Int) < (J.length : Int) := by omega
            have s0 : (wr.alloc (.cells #[.int .i64 p, .int .i64 q] 35)).cell? ⟨wr.heap.size, 0, none⟩ = some (.int .i64 p) := by simp
            have s1 : (wr.alloc (.cells #[.int .i64 p, .int .i64 q] 35)).cell? ⟨wr.heap.size, 1, none⟩ = some (.int .i64 q) := by simp
            have bc : Below wr.heap.size wr (wr.alloc (.cells #[.int .i64 p, .int .i64 q] 35)).drew := ((Below.refl _ _).alloc (Nat.le_refl _) _).drew
            clear hc hb hprev hp hq hpq B hr1
            by_cases ta : (p, q) ∈ ts
            · by_cases tb : (p, q) ∈ us
              · as_aux_lemma =>
                  have da : decide ((p, q) ∈ ts) = true := decide_eq_true ta
                  have db : decide ((p, q) ∈ us) = true := decide_eq_true tb
                  have dK : decide ((p, q) ∈ KT) = true := decide_eq_true (hmemK.2 ⟨ta, tb⟩)
                  have dL : decide ((p, q) ∈ L) = false := decide_eq_false (fun h => (hmemL.1 h).2 tb)
                  clear ta tb hmemJ hmemK hmemL
                  go_wp2
                  refine wp_region_held_drew (S := fun w' => w'.cell? ⟨wr.heap.size, 0, none⟩ = some (.int .i64 p) ∧ w'.cell? ⟨wr.heap.size, 1, none⟩ = some (.int .i64 q)) (by kernel_rfl) ⟨s0, s1⟩ (fun hH0 => ?_)
                  refine reg_take 0 rfl (by kernel_rfl) (by kernel_rfl) (by kernel_rfl) (fun _ _ _ h => h) (by rfl) (fun w _ => by first | (go_simp; done) | (go_simp; with_reducible rfl)) (by assumption) ?_
                  try simp only [Act.put, List.setIfInBounds_toArray, List.set_cons_zero, List.set_cons_succ, List.getElem_toArray, List.getElem_cons_zero, List.getElem_cons_succ]
                  refine reg_take 1 rfl (by kernel_rfl) (by kernel_rfl) (by kernel_rfl) (fun _ _ _ h => h) (by rfl) (fun w hSw => by (try dsimp only at hSw); first | (go_simp; done) | (go_simp; with_reducible rfl)) (by assumption) ?_
                  try simp only [Act.put, List.setIfInBounds_toArray, List.set_cons_zero, List.set_cons_succ, List.getElem_toArray, List.getElem_cons_zero, List.getElem_cons_succ]
                  refine wpAnyH_ready (rs := [2]) (by kernel_rfl) (by simp) ?_
                  refine AllReadyH.cons (i := 2) rfl (fun K hK => ?_) AllReadyH.nil
                  go_simp
                  go_at_call 16
                  refine (c_mHas _ _ ts p q _ (RdT.below ra bc) (by omega)).mono ?_
                  rw [da]
                  rintro e wz ⟨rfl, hbz⟩
                  have bc := bstep bc hbz
                  have s0 := keepc hbz s0
                  have s1 := keepc hbz s1
                  clear hbz
                  refine hK.out _ _ ⟨s0, s1⟩ (fun hH2 => ?_)
                  clear hK K
                  try simp only [Act.put, List.setIfInBounds_toArray, List.set_cons_zero, List.set_cons_succ, List.getElem_toArray, List.getElem_cons_zero, List.getElem_cons_succ]
                  refine reg_take 3 rfl (by kernel_rfl) (by kernel_rfl) (by kernel_rfl) (fun _ _ _ h => h) (by rfl) (fun w _ => by first | (go_simp; done) | (go_simp; with_reducible rfl)) (by assumption) ?_
                  try simp only [Act.put, List.setIfInBounds_toArray, List.set_cons_zero, List.set_cons_succ, List.getElem_toArray, List.getElem_cons_zero, List.getElem_cons_succ]
                  refine reg_take 4 rfl (by kernel_rfl) (by kernel_rfl) (by kernel_rfl) (fun _ _ _ h => h) (by rfl) (fun w _ => by first | (go_simp; done) | (go_simp; with_reducible rfl)) (by assumption) ?_
                  try simp only [Act.put, List.setIfInBounds_toArray, List.set_cons_zero, List.set_cons_succ, List.getElem_toArray, List.getElem_cons_zero, List.getElem_cons_succ]
                  refine reg_skip 5 rfl (by kernel_rfl) (by kernel_rfl) (by kernel_rfl) (fun _ _ _ h => h) (by rfl) (by assumption) ?_
                  try simp only [Act.put, List.setIfInBounds_toArray, List.set_cons_zero, List.set_cons_succ, List.getElem_toArray, List.getElem_cons_zero, List.getElem_cons_succ]
                  refine reg_skip 6 rfl (by kernel_rfl) (by kernel_rfl) (by kernel_rfl) (fun _ _ _ h => h) (by rfl) (by assumption) ?_
                  try simp only [Act.put, List.setIfInBounds_toArray, List.set_cons_zero, List.set_cons_succ, List.getElem_toArray, List.getElem_cons_zero, List.getElem_cons_succ]
                  refine reg_skip 7 rfl (by kernel_rfl) (by kernel_rfl) (by kernel_rfl) (fun _ _ _ h => h) (by rfl) (by assumption) ?_
                  try simp only [Act.put, List.setIfInBounds_toArray, List.set_cons_zero, List.set_cons_succ, List.getElem_toArray, List.getElem_cons_zero, List.getElem_cons_succ]
                  refine reg_skip 8 rfl (by kernel_rfl) (by kernel_rfl) (by kernel_rfl) (fun _ _ _ h => h) (by rfl) (by assumption) ?_
                  try simp only [Act.put, List.setIfInBounds_toArray, List.set_cons_zero, List.set_cons_succ, List.getElem_toArray, List.getElem_cons_zero, List.getElem_cons_succ]
                  refine reg_take 9 rfl (by kernel_rfl) (by kernel_rfl) (by kernel_rfl) (fun _ _ _ h => h) (by rfl) (fun w _ => by first | (go_simp; done) | (go_simp; with_reducible rfl)) (by assumption) ?_
                  try simp only [Act.put, List.setIfInBounds_toArray, List.set_cons_zero, List.set_cons_succ, List.getElem_toArray, List.getElem_cons_zero, List.getElem_cons_succ]
                  refine reg_take 10 rfl (by kernel_rfl) (by kernel_rfl) (by kernel_rfl) (fun _ _ _ h => h) (by rfl) (fun w _ => by first | (go_simp; done) | (go_simp; with_reducible rfl)) (by assumption) ?_
                  try simp only [Act.put, List.setIfInBounds_toArray, List.set_cons_zero, List.set_cons_succ, List.getElem_toArray, List.getElem_cons_zero, List.getElem_cons_succ]
                  refine reg_take 11 rfl (by kernel_rfl) (by kernel_rfl) (by kernel_rfl) (fun _ _ _ h => h) (by rfl) (fun w _ => by first | (go_simp; done) | (go_simp; with_reducible rfl)) (by assumption) ?_
                  try simp only [Act.put, List.setIfInBounds_toArray, List.set_cons_zero, List.set_cons_succ, List.getElem_toArray, List.getElem_cons_zero, List.getElem_cons_succ]
                  refine reg_take 12 rfl (by kernel_rfl) (by kernel_rfl) (by kernel_rfl) (fun _ _ _ h => h) (by rfl) (fun w hSw => by (try dsimp only at hSw); first | (go_simp; done) | (go_simp; with_reducible rfl)) (by assumption) ?_
                  try simp only [Act.put, List.setIfInBounds_toArray, List.set_cons_zero, List.set_cons_succ, List.getElem_toArray, List.getElem_cons_zero, List.getElem_cons_succ]
                  refine reg_take 14 rfl (by kernel_rfl) (by kernel_rfl) (by kernel_rfl) (fun _ _ _ h => h) (by rfl) (fun w _ => by first | (go_simp; done) | (go_simp; with_reducible rfl)) (by assumption) ?_
                  try simp only [Act.put, List.setIfInBounds_toArray, List.set_cons_zero, List.set_cons_succ, List.getElem_toArray, List.getElem_cons_zero, List.getElem_cons_succ]
                  refine reg_take 15 rfl (by kernel_rfl) (by kernel_rfl) (by kernel_rfl) (fun _ _ _ h => h) (by rfl) (fun w hSw => by (try dsimp only at hSw); first | (go_simp; done) | (go_simp; with_reducible rfl)) (by assumption) ?_
                  try simp only [Act.put, List.setIfInBounds_toArray, List.set_cons_zero, List.set_cons_succ, List.getElem_toArray, List.getElem_cons_zero, List.getElem_cons_succ]
                  refine wpAnyH_ready (rs := [13]) (by kernel_rfl) (by simp) ?_
                  refine AllReadyH.cons (i := 13) rfl (fun K hK => ?_) AllReadyH.nil
                  go_simp
                  go_at_call 16
                  refine (c_mHas _ _ KT p q _ (RdT.below rK bc) (by omega)).mono ?_
                  rw [dK]
                  rintro e wz ⟨rfl, hbz⟩
                  have bc := bstep bc hbz
                  have s0 := keepc hbz s0
                  have s1 := keepc hbz s1
                  clear hbz
                  refine hK.out _ _ ⟨s0, s1⟩ (fun hH13 => ?_)
                  clear hK K
                  try simp only [Act.put, List.setIfInBounds_toArray, List.set_cons_zero, List.set_cons_succ, List.getElem_toArray, List.getElem_cons_zero, List.getElem_cons_succ]
                  refine wpAnyH_ready (rs := [16]) (by kernel_rfl) (by simp) ?_
                  refine AllReadyH.cons (i := 16) rfl (fun K hK => ?_) AllReadyH.nil
                  go_simp
                  go_at_call 16
                  refine (c_mHas _ _ ts p q _ (RdT.below ra bc) (by omega)).mono ?_
                  rw [da]
                  rintro e wz ⟨rfl, hbz⟩
                  have bc := bstep bc hbz
                  have s0 := keepc hbz s0
                  have s1 := keepc hbz s1
                  clear hbz
                  refine hK.out _ _ ⟨s0, s1⟩ (fun hH16 => ?_)
                  clear hK K
                  try simp only [Act.put, List.setIfInBounds_toArray, List.set_cons_zero, List.set_cons_succ, List.getElem_toArray, List.getElem_cons_zero, List.getElem_cons_succ]
                  refine reg_take 17 rfl (by kernel_rfl) (by kernel_rfl) (by kernel_rfl) (fun _ _ _ h => h) (by rfl) (fun w _ => by first | (go_simp; done) | (go_simp; with_reducible rfl)) (by assumption) ?_
                  try simp only [Act.put, List.setIfInBounds_toArray, List.set_cons_zero, List.set_cons_succ, List.getElem_toArray, List.getElem_cons_zero, List.getElem_cons_succ]
                  refine reg_take 18 rfl (by kernel_rfl) (by kernel_rfl) (by kernel_rfl) (fun _ _ _ h => h) (by rfl) (fun w _ => by first | (go_simp; done) | (go_simp; with_reducible rfl)) (by assumption) ?_
                  try simp only [Act.put, List.setIfInBounds_toArray, List.set_cons_zero, List.set_cons_succ, List.getElem_toArray, List.getElem_cons_zero, List.getElem_cons_succ]
                  refine reg_take 19 rfl (by kernel_rfl) (by kernel_rfl) (by kernel_rfl) (fun _ _ _ h => h) (by rfl) (fun w hSw => by (try dsimp only at hSw); first | (go_simp; done) | (go_simp; with_reducible rfl)) (by assumption) ?_
                  try simp only [Act.put, List.setIfInBounds_toArray, List.set_cons_zero, List.set_cons_succ, List.getElem_toArray, List.getElem_cons_zero, List.getElem_cons_succ]
                  refine wpAnyH_ready (rs := [20]) (by kernel_rfl) (by simp) ?_
                  refine AllReadyH.cons (i := 20) rfl (fun K hK => ?_) AllReadyH.nil
                  go_simp
                  go_at_call 16
                  refine (c_mHas _ _ us p q _ (RdT.below rb bc) (by omega)).mono ?_
                  rw [db]
                  rintro e wz ⟨rfl, hbz⟩
                  have bc := bstep bc hbz
                  have s0 := keepc hbz s0
                  have s1 := keepc hbz s1
                  clear hbz
                  refine hK.out _ _ ⟨s0, s1⟩ (fun hH20 => ?_)
                  clear hK K
                  try simp only [Act.put, List.setIfInBounds_toArray, List.set_cons_zero, List.set_cons_succ, List.getElem_toArray, List.getElem_cons_zero, List.getElem_cons_succ]
                  refine reg_take 21 rfl (by kernel_rfl) (by kernel_rfl) (by kernel_rfl) (fun _ _ _ h => h) (by rfl) (fun w _ => by first | (go_simp; done) | (go_simp; with_reducible rfl)) (by assumption) ?_
                  try simp only [Act.put, List.setIfInBounds_toArray, List.set_cons_zero, List.set_cons_succ, List.getElem_toArray, List.getElem_cons_zero, List.getElem_cons_succ]
                  refine reg_take 22 rfl (by kernel_rfl) (by kernel_rfl) (by kernel_rfl) (fun _ _ _ h => h) (by rfl) (fun w _ => by first | (go_simp; done) | (go_simp; with_reducible rfl)) (by assumption) ?_
                  try simp only [Act.put, List.setIfInBounds_toArray, List.set_cons_zero, List.set_cons_succ, List.getElem_toArray, List.getElem_cons_zero, List.getElem_cons_succ]
                  refine reg_take 23 rfl (by kernel_rfl) (by kernel_rfl) (by kernel_rfl) (fun _ _ _ h => h) (by rfl) (fun w _ => by first | (go_simp; done) | (go_simp; with_reducible rfl)) (by assumption) ?_
                  try simp only [Act.put, List.setIfInBounds_toArray, List.set_cons_zero, List.set_cons_succ, List.getElem_toArray, List.getElem_cons_zero, List.getElem_cons_succ]
                  refine reg_take 24 rfl (by kernel_rfl) (by kernel_rfl) (by kernel_rfl) (fun _ _ _ h => h) (by rfl) (fun w _ => by first | (go_simp; done) | (go_simp; with_reducible rfl)) (by assumption) ?_
                  try simp only [Act.put, List.setIfInBounds_toArray, List.set_cons_zero, List.set_cons_succ, List.getElem_toArray, List.getElem_cons_zero, List.getElem_cons_succ]
                  refine reg_take 25 rfl (by kernel_rfl) (by kernel_rfl) (by kernel_rfl) (fun _ _ _ h => h) (by rfl) (fun w _ => by first | (go_simp; done) | (go_simp; with_reducible rfl)) (by assumption) ?_
                  try simp only [Act.put, List.setIfInBounds_toArray, List.set_cons_zero, List.set_cons_succ, List.getElem_toArray, List.getElem_cons_zero, List.getElem_cons_succ]
                  refine reg_take 26 rfl (by kernel_rfl) (by kernel_rfl) (by kernel_rfl) (fun _ _ _ h => h) (by rfl) (fun w hSw => by (try dsimp only at hSw); first | (go_simp; done) | (go_simp; with_reducible rfl)) (by assumption) ?_
                  try simp only [Act.put, List.setIfInBounds_toArray, List.set_cons_zero, List.set_cons_succ, List.getElem_toArray, List.getElem_cons_zero, List.getElem_cons_succ]
                  refine reg_take 28 rfl (by kernel_rfl) (by kernel_rfl) (by kernel_rfl) (fun _ _ _ h => h) (by rfl) (fun w _ => by first | (go_simp; done) | (go_simp; with_reducible rfl)) (by assumption) ?_
                  try simp only [Act.put, List.setIfInBounds_toArray, List.set_cons_zero, List.set_cons_succ, List.getElem_toArray, List.getElem_cons_zero, List.getElem_cons_succ]
                  refine reg_take 29 rfl (by kernel_rfl) (by kernel_rfl) (by kernel_rfl) (fun _ _ _ h => h) (by rfl) (fun w hSw => by (try dsimp only at hSw); first | (go_simp; done) | (go_simp; with_reducible rfl)) (by assumption) ?_
                  try simp only [Act.put, List.setIfInBounds_toArray, List.set_cons_zero, List.set_cons_succ, List.getElem_toArray, List.getElem_cons_zero, List.getElem_cons_succ]
                  refine wpAnyH_ready (rs := [27]) (by kernel_rfl) (by simp) ?_
                  refine AllReadyH.cons (i := 27) rfl (fun K hK => ?_) AllReadyH.nil
                  go_simp
                  go_at_call 16
                  refine (c_mHas _ _ L p q _ (RdT.below rL bc) (by omega)).mono ?_
                  rw [dL]
                  rintro e wz ⟨rfl, hbz⟩
                  have bc := bstep bc hbz
                  have s0 := keepc hbz s0
                  have s1 := keepc hbz s1
                  clear hbz
                  refine hK.out _ _ ⟨s0, s1⟩ (fun hH27 => ?_)
                  clear hK K
                  try simp only [Act.put, List.setIfInBounds_toArray, List.set_cons_zero, List.set_cons_succ, List.getElem_toArray, List.getElem_cons_zero, List.getElem_cons_succ]
                  refine wpAnyH_ready (rs := [30]) (by kernel_rfl) (by simp) ?_
                  refine AllReadyH.cons (i := 30) rfl (fun K hK => ?_) AllReadyH.nil
                  go_simp
                  go_at_call 16
                  refine (c_mHas _ _ ts p q _ (RdT.below ra bc) (by omega)).mono ?_
                  rw [da]
                  rintro e wz ⟨rfl, hbz⟩
                  have bc := bstep bc hbz
                  have s0 := keepc hbz s0
                  have s1 := keepc hbz s1
                  clear hbz
                  refine hK.out _ _ ⟨s0, s1⟩ (fun hH30 => ?_)
                  clear hK K
                  try simp only [Act.put, List.setIfInBounds_toArray, List.set_cons_zero, List.set_cons_succ, List.getElem_toArray, List.getElem_cons_zero, List.getElem_cons_succ]
                  refine reg_take 31 rfl (by kernel_rfl) (by kernel_rfl) (by kernel_rfl) (fun _ _ _ h => h) (by rfl) (fun w _ => by first | (go_simp; done) | (go_simp; with_reducible rfl)) (by assumption) ?_
                  try simp only [Act.put, List.setIfInBounds_toArray, List.set_cons_zero, List.set_cons_succ, List.getElem_toArray, List.getElem_cons_zero, List.getElem_cons_succ]
                  refine reg_take 32 rfl (by kernel_rfl) (by kernel_rfl) (by kernel_rfl) (fun _ _ _ h => h) (by rfl) (fun w _ => by first | (go_simp; done) | (go_simp; with_reducible rfl)) (by assumption) ?_
                  try simp only [Act.put, List.setIfInBounds_toArray, List.set_cons_zero, List.set_cons_succ, List.getElem_toArray, List.getElem_cons_zero, List.getElem_cons_succ]
                  refine reg_take 33 rfl (by kernel_rfl) (by kernel_rfl) (by kernel_rfl) (fun _ _ _ h => h) (by rfl) (fun w hSw => by (try dsimp only at hSw); first | (go_simp; done) | (go_simp; with_reducible rfl)) (by assumption) ?_
                  try simp only [Act.put, List.setIfInBounds_toArray, List.set_cons_zero, List.set_cons_succ, List.getElem_toArray, List.getElem_cons_zero, List.getElem_cons_succ]
                  refine wpAnyH_ready (rs := [34]) (by kernel_rfl) (by simp) ?_
                  refine AllReadyH.cons (i := 34) rfl (fun K hK => ?_) AllReadyH.nil
                  go_simp
                  go_at_call 16
                  refine (c_mHas _ _ us p q _ (RdT.below rb bc) (by omega)).mono ?_
                  rw [db]
                  rintro e wz ⟨rfl, hbz⟩
                  have bc := bstep bc hbz
                  have s0 := keepc hbz s0
                  have s1 := keepc hbz s1
                  clear hbz
                  refine hK.out _ _ ⟨s0, s1⟩ (fun hH34 => ?_)
                  clear hK K
                  try simp only [Act.put, List.setIfInBounds_toArray, List.set_cons_zero, List.set_cons_succ, List.getElem_toArray, List.getElem_cons_zero, List.getElem_cons_succ]
                  refine reg_take 35 rfl (by kernel_rfl) (by kernel_rfl) (by kernel_rfl) (fun _ _ _ h => h) (by rfl) (fun w _ => by first | (go_simp; done) | (go_simp; with_reducible rfl)) (by assumption) ?_
                  try simp only [Act.put, List.setIfInBounds_toArray, List.set_cons_zero, List.set_cons_succ, List.getElem_toArray, List.getElem_cons_zero, List.getElem_cons_succ]
                  refine reg_take 36 rfl (by kernel_rfl) (by kernel_rfl) (by kernel_rfl) (fun _ _ _ h => h) (by rfl) (fun w _ => by first | (go_simp; done) | (go_simp; with_reducible rfl)) (by assumption) ?_
                  try simp only [Act.put, List.setIfInBounds_toArray, List.set_cons_zero, List.set_cons_succ, List.getElem_toArray, List.getElem_cons_zero, List.getElem_cons_succ]
                  refine reg_take 37 rfl (by kernel_rfl) (by kernel_rfl) (by kernel_rfl) (fun _ _ _ h => h) (by rfl) (fun w _ => by first | (go_simp; done) | (go_simp; with_reducible rfl)) (by assumption) ?_
                  try simp only [Act.put, List.setIfInBounds_toArray, List.set_cons_zero, List.set_cons_succ, List.getElem_toArray, List.getElem_cons_zero, List.getElem_cons_succ]
                  refine reg_take 38 rfl (by kernel_rfl) (by kernel_rfl) (by kernel_rfl) (fun _ _ _ h => h) (by rfl) (fun w _ => by first | (go_simp; done) | (go_simp; with_reducible rfl)) (by assumption) ?_
                  try simp only [Act.put, List.setIfInBounds_toArray, List.set_cons_zero, List.set_cons_succ, List.getElem_toArray, List.getElem_cons_zero, List.getElem_cons_succ]
                  refine wpAnyH_done (by kernel_rfl) ?_ _
                  cases k with
                  | zero =>
                    go_wp2
                    go_roundw
                    case rel => exact ⟨0 + 1, by omega, by go_num, bstep Hb.out bc⟩
                    case measure => simp [intOf]; omega
                  | succ k' =>
                    have hk' : k' < J.length := by omega
                    obtain ⟨x1, x2, x3⟩ := Hprev.out k' rfl hk'
                    have m1 := (bc.cell (p := ⟨bk, _, none⟩) hbk).trans (Hc.out k' hk').1
                    have m2 := (bc.cell (p := ⟨bk, _, none⟩) hbk).trans (Hc.out k' hk').2
                    have iw1 : IntKind.i64.wrap ((k' : Int) + 1 - 1) = (k' : Int) := by rw [IntWalk.i64_in _ (by omega)]; omega
                    have iw2 : IntKind.i64.wrap (k' : Int) = (k' : Int) := IntWalk.i64_in _ (by omega)
                    have j0 : (0 : Int) ≤ (k' : Int) := by omega
                    have j1 : (k' : Int) < (J.length : Int) := by omega
                    have j2 : (0 : Int) < (k' : Int) + 1 := by omega
                    have c1 := fun W => c_implRankOf J[k'].1 J[k'].2 W
                    have c2 := fun W => c_implRankOf p q W
                    simp only [x2] at c1
                    simp only [x3] at c2
                    obtain ⟨y1, hy1⟩ : ∃ y1, y1 = rankV J[k'].1 J[k'].2 := ⟨_, rfl⟩
                    obtain ⟨y2, hy2⟩ : ∃ y2, y2 = rankV p q := ⟨_, rfl⟩
                    simp only [← hy1] at c1
                    simp only [← hy2] at c2
                    rw [← hy1, ← hy2] at x1
                    have x4 : ¬ y2 ≤ y1 := by omega
                    have C1 := Lib.hid c1
                    have C2 := Lib.hid c2
                    clear c1 c2 hy1 hy2 x2 x3 g1 g2
                    go_wp2_with fail
                    refine (C1.out _).mono ?_
                    rintro e wy ⟨rfl, hbz⟩
                    have bc := bstep bc hbz
                    have s0 := keepc hbz s0
                    have s1 := keepc hbz s1
                    clear hbz
                    go_wp2_with fail
                    refine (C2.out _).mono ?_
                    rintro e wx ⟨rfl, hbz⟩
                    have bc := bstep bc hbz
                    clear hbz s0 s1
                    go_wp2
                    go_roundw
                    case rel => exact ⟨k' + 1 + 1, by omega, by go_num, bstep Hb.out bc⟩
                    case measure => simp [intOf]; omega
              · as_aux_lemma =>
                  have da : decide ((p, q) ∈ ts) = true := decide_eq_true ta
                  have db : decide ((p, q) ∈ us) = false := decide_eq_false tb
                  have dK : decide ((p, q) ∈ KT) = false := decide_eq_false (fun h => tb (hmemK.1 h).2)
                  have dL : decide ((p, q) ∈ L) = true := decide_eq_true (hmemL.2 ⟨ta, tb⟩)
                  clear ta tb hmemJ hmemK hmemL
                  go_wp2
                  refine wp_region_held_drew (S := fun w' => w'.cell? ⟨wr.heap.size, 0, none⟩ = some (.int .i64 p) ∧ w'.cell? ⟨wr.heap.size, 1, none⟩ = some (.int .i64 q)) (by kernel_rfl) ⟨s0, s1⟩ (fun hH0 => ?_)
                  refine reg_take 0 rfl (by kernel_rfl) (by kernel_rfl) (by kernel_rfl) (fun _ _ _ h => h) (by rfl) (fun w _ => by first | (go_simp; done) | (go_simp; with_reducible rfl)) (by assumption) ?_
                  try simp only [Act.put, List.setIfInBounds_toArray, List.set_cons_zero, List.set_cons_succ, List.getElem_toArray, List.getElem_cons_zero, List.getElem_cons_succ]
                  refine reg_take 1 rfl (by kernel_rfl) (by kernel_rfl) (by kernel_rfl) (fun _ _ _ h => h) (by rfl) (fun w hSw => by (try dsimp only at hSw); first | (go_simp; done) | (go_simp; with_reducible rfl)) (by assumption) ?_
                  try simp only [Act.put, List.setIfInBounds_toArray, List.set_cons_zero, List.set_cons_succ, List.getElem_toArray, List.getElem_cons_zero, List.getElem_cons_succ]
                  refine wpAnyH_ready (rs := [2]) (by kernel_rfl) (by simp) ?_
                  refine AllReadyH.cons (i := 2) rfl (fun K hK => ?_) AllReadyH.nil
                  go_simp
                  go_at_call 16
                  refine (c_mHas _ _ ts p q _ (RdT.below ra bc) (by omega)).mono ?_
                  rw [da]
                  rintro e wz ⟨rfl, hbz⟩
                  have bc := bstep bc hbz
                  have s0 := keepc hbz s0
                  have s1 := keepc hbz s1
                  clear hbz
                  refine hK.out _ _ ⟨s0, s1⟩ (fun hH2 => ?_)
                  clear hK K
                  try simp only [Act.put, List.setIfInBounds_toArray, List.set_cons_zero, List.set_cons_succ, List.getElem_toArray, List.getElem_cons_zero, List.getElem_cons_succ]
                  refine reg_take 3 rfl (by kernel_rfl) (by kernel_rfl) (by kernel_rfl) (fun _ _ _ h => h) (by rfl) (fun w _ => by first | (go_simp; done) | (go_simp; with_reducible rfl)) (by assumption) ?_
                  try simp only [Act.put, List.setIfInBounds_toArray, List.set_cons_zero, List.set_cons_succ, List.getElem_toArray, List.getElem_cons_zero, List.getElem_cons_succ]
                  refine reg_take 4 rfl (by kernel_rfl) (by kernel_rfl) (by kernel_rfl) (fun _ _ _ h => h) (by rfl) (fun w _ => by first | (go_simp; done) | (go_simp; with_reducible rfl)) (by assumption) ?_
                  try simp only [Act.put, List.setIfInBounds_toArray, List.set_cons_zero, List.set_cons_succ, List.getElem_toArray, List.getElem_cons_zero, List.getElem_cons_succ]
                  refine reg_skip 5 rfl (by kernel_rfl) (by kernel_rfl) (by kernel_rfl) (fun _ _ _ h => h) (by rfl) (by assumption) ?_
                  try simp only [Act.put, List.setIfInBounds_toArray, List.set_cons_zero, List.set_cons_succ, List.getElem_toArray, List.getElem_cons_zero, List.getElem_cons_succ]
                  refine reg_skip 6 rfl (by kernel_rfl) (by kernel_rfl) (by kernel_rfl) (fun _ _ _ h => h) (by rfl) (by assumption) ?_
                  try simp only [Act.put, List.setIfInBounds_toArray, List.set_cons_zero, List.set_cons_succ, List.getElem_toArray, List.getElem_cons_zero, List.getElem_cons_succ]
                  refine reg_skip 7 rfl (by kernel_rfl) (by kernel_rfl) (by kernel_rfl) (fun _ _ _ h => h) (by rfl) (by assumption) ?_
                  try simp only [Act.put, List.setIfInBounds_toArray, List.set_cons_zero, List.set_cons_succ, List.getElem_toArray, List.getElem_cons_zero, List.getElem_cons_succ]
                  refine reg_skip 8 rfl (by kernel_rfl) (by kernel_rfl) (by kernel_rfl) (fun _ _ _ h => h) (by rfl) (by assumption) ?_
                  try simp only [Act.put, List.setIfInBounds_toArray, List.set_cons_zero, List.set_cons_succ, List.getElem_toArray, List.getElem_cons_zero, List.getElem_cons_succ]
                  refine reg_take 9 rfl (by kernel_rfl) (by kernel_rfl) (by kernel_rfl) (fun _ _ _ h => h) (by rfl) (fun w _ => by first | (go_simp; done) | (go_simp; with_reducible rfl)) (by assumption) ?_
                  try simp only [Act.put, List.setIfInBounds_toArray, List.set_cons_zero, List.set_cons_succ, List.getElem_toArray, List.getElem_cons_zero, List.getElem_cons_succ]
                  refine reg_take 10 rfl (by kernel_rfl) (by kernel_rfl) (by kernel_rfl) (fun _ _ _ h => h) (by rfl) (fun w _ => by first | (go_simp; done) | (go_simp; with_reducible rfl)) (by assumption) ?_
                  try simp only [Act.put, List.setIfInBounds_toArray, List.set_cons_zero, List.set_cons_succ, List.getElem_toArray, List.getElem_cons_zero, List.getElem_cons_succ]
                  refine reg_take 11 rfl (by kernel_rfl) (by kernel_rfl) (by kernel_rfl) (fun _ _ _ h => h) (by rfl) (fun w _ => by first | (go_simp; done) | (go_simp; with_reducible rfl)) (by assumption) ?_
                  try simp only [Act.put, List.setIfInBounds_toArray, List.set_cons_zero, List.set_cons_succ, List.getElem_toArray, List.getElem_cons_zero, List.getElem_cons_succ]
                  refine reg_take 12 rfl (by kernel_rfl) (by kernel_rfl) (by kernel_rfl) (fun _ _ _ h => h) (by rfl) (fun w hSw => by (try dsimp only at hSw); first | (go_simp; done) | (go_simp; with_reducible rfl)) (by assumption) ?_
                  try simp only [Act.put, List.setIfInBounds_toArray, List.set_cons_zero, List.set_cons_succ, List.getElem_toArray, List.getElem_cons_zero, List.getElem_cons_succ]
                  refine reg_take 14 rfl (by kernel_rfl) (by kernel_rfl) (by kernel_rfl) (fun _ _ _ h => h) (by rfl) (fun w _ => by first | (go_simp; done) | (go_simp; with_reducible rfl)) (by assumption) ?_
                  try simp only [Act.put, List.setIfInBounds_toArray, List.set_cons_zero, List.set_cons_succ, List.getElem_toArray, List.getElem_cons_zero, List.getElem_cons_succ]
                  refine reg_take 15 rfl (by kernel_rfl) (by kernel_rfl) (by kernel_rfl) (fun _ _ _ h => h) (by rfl) (fun w hSw => by (try dsimp only at hSw); first | (go_simp; done) | (go_simp; with_reducible rfl)) (by assumption) ?_
                  try simp only [Act.put, List.setIfInBounds_toArray, List.set_cons_zero, List.set_cons_succ, List.getElem_toArray, List.getElem_cons_zero, List.getElem_cons_succ]
                  refine wpAnyH_ready (rs := [13]) (by kernel_rfl) (by simp) ?_
                  refine AllReadyH.cons (i := 13) rfl (fun K hK => ?_) AllReadyH.nil
                  go_simp
                  go_at_call 16
                  refine (c_mHas _ _ KT p q _ (RdT.below rK bc) (by omega)).mono ?_
                  rw [dK]
                  rintro e wz ⟨rfl, hbz⟩
                  have bc := bstep bc hbz
                  have s0 := keepc hbz s0
                  have s1 := keepc hbz s1
                  clear hbz
                  refine hK.out _ _ ⟨s0, s1⟩ (fun hH13 => ?_)
                  clear hK K
                  try simp only [Act.put, List.setIfInBounds_toArray, List.set_cons_zero, List.set_cons_succ, List.getElem_toArray, List.getElem_cons_zero, List.getElem_cons_succ]
                  refine wpAnyH_ready (rs := [16]) (by kernel_rfl) (by simp) ?_
                  refine AllReadyH.cons (i := 16) rfl (fun K hK => ?_) AllReadyH.nil
                  go_simp
                  go_at_call 16
                  refine (c_mHas _ _ ts p q _ (RdT.below ra bc) (by omega)).mono ?_
                  rw [da]
                  rintro e wz ⟨rfl, hbz⟩
                  have bc := bstep bc hbz
                  have s0 := keepc hbz s0
                  have s1 := keepc hbz s1
                  clear hbz
                  refine hK.out _ _ ⟨s0, s1⟩ (fun hH16 => ?_)
                  clear hK K
                  try simp only [Act.put, List.setIfInBounds_toArray, List.set_cons_zero, List.set_cons_succ, List.getElem_toArray, List.getElem_cons_zero, List.getElem_cons_succ]
                  refine reg_take 17 rfl (by kernel_rfl) (by kernel_rfl) (by kernel_rfl) (fun _ _ _ h => h) (by rfl) (fun w _ => by first | (go_simp; done) | (go_simp; with_reducible rfl)) (by assumption) ?_
                  try simp only [Act.put, List.setIfInBounds_toArray, List.set_cons_zero, List.set_cons_succ, List.getElem_toArray, List.getElem_cons_zero, List.getElem_cons_succ]
                  refine reg_take 18 rfl (by kernel_rfl) (by kernel_rfl) (by kernel_rfl) (fun _ _ _ h => h) (by rfl) (fun w _ => by first | (go_simp; done) | (go_simp; with_reducible rfl)) (by assumption) ?_
                  try simp only [Act.put, List.setIfInBounds_toArray, List.set_cons_zero, List.set_cons_succ, List.getElem_toArray, List.getElem_cons_zero, List.getElem_cons_succ]
                  refine reg_take 19 rfl (by kernel_rfl) (by kernel_rfl) (by kernel_rfl) (fun _ _ _ h => h) (by rfl) (fun w hSw => by (try dsimp only at hSw); first | (go_simp; done) | (go_simp; with_reducible rfl)) (by assumption) ?_
                  try simp only [Act.put, List.setIfInBounds_toArray, List.set_cons_zero, List.set_cons_succ, List.getElem_toArray, List.getElem_cons_zero, List.getElem_cons_succ]
                  refine wpAnyH_ready (rs := [20]) (by kernel_rfl) (by simp) ?_
                  refine AllReadyH.cons (i := 20) rfl (fun K hK => ?_) AllReadyH.nil
                  go_simp
                  go_at_call 16
                  refine (c_mHas _ _ us p q _ (RdT.below rb bc) (by omega)).mono ?_
                  rw [db]
                  rintro e wz ⟨rfl, hbz⟩
                  have bc := bstep bc hbz
                  have s0 := keepc hbz s0
                  have s1 := keepc hbz s1
                  clear hbz
                  refine hK.out _ _ ⟨s0, s1⟩ (fun hH20 => ?_)
                  clear hK K
                  try simp only [Act.put, List.setIfInBounds_toArray, List.set_cons_zero, List.set_cons_succ, List.getElem_toArray, List.getElem_cons_zero, List.getElem_cons_succ]
                  refine reg_take 21 rfl (by kernel_rfl) (by kernel_rfl) (by kernel_rfl) (fun _ _ _ h => h) (by rfl) (fun w _ => by first | (go_simp; done) | (go_simp; with_reducible rfl)) (by assumption) ?_
                  try simp only [Act.put, List.setIfInBounds_toArray, List.set_cons_zero, List.set_cons_succ, List.getElem_toArray, List.getElem_cons_zero, List.getElem_cons_succ]
                  refine reg_take 22 rfl (by kernel_rfl) (by kernel_rfl) (by kernel_rfl) (fun _ _ _ h => h) (by rfl) (fun w _ => by first | (go_simp; done) | (go_simp; with_reducible rfl)) (by assumption) ?_
                  try simp only [Act.put, List.setIfInBounds_toArray, List.set_cons_zero, List.set_cons_succ, List.getElem_toArray, List.getElem_cons_zero, List.getElem_cons_succ]
                  refine reg_take 23 rfl (by kernel_rfl) (by kernel_rfl) (by kernel_rfl) (fun _ _ _ h => h) (by rfl) (fun w _ => by first | (go_simp; done) | (go_simp; with_reducible rfl)) (by assumption) ?_
                  try simp only [Act.put, List.setIfInBounds_toArray, List.set_cons_zero, List.set_cons_succ, List.getElem_toArray, List.getElem_cons_zero, List.getElem_cons_succ]
                  refine reg_take 24 rfl (by kernel_rfl) (by kernel_rfl) (by kernel_rfl) (fun _ _ _ h => h) (by rfl) (fun w _ => by first | (go_simp; done) | (go_simp; with_reducible rfl)) (by assumption) ?_
                  try simp only [Act.put, List.setIfInBounds_toArray, List.set_cons_zero, List.set_cons_succ, List.getElem_toArray, List.getElem_cons_zero, List.getElem_cons_succ]
                  refine reg_take 25 rfl (by kernel_rfl) (by kernel_rfl) (by kernel_rfl) (fun _ _ _ h => h) (by rfl) (fun w _ => by first | (go_simp; done) | (go_simp; with_reducible rfl)) (by assumption) ?_
                  try simp only [Act.put, List.setIfInBounds_toArray, List.set_cons_zero, List.set_cons_succ, List.getElem_toArray, List.getElem_cons_zero, List.getElem_cons_succ]
                  refine reg_take 26 rfl (by kernel_rfl) (by kernel_rfl) (by kernel_rfl) (fun _ _ _ h => h) (by rfl) (fun w hSw => by (try dsimp only at hSw); first | (go_simp; done) | (go_simp; with_reducible rfl)) (by assumption) ?_
                  try simp only [Act.put, List.setIfInBounds_toArray, List.set_cons_zero, List.set_cons_succ, List.getElem_toArray, List.getElem_cons_zero, List.getElem_cons_succ]
                  refine reg_take 28 rfl (by kernel_rfl) (by kernel_rfl) (by kernel_rfl) (fun _ _ _ h => h) (by rfl) (fun w _ => by first | (go_simp; done) | (go_simp; with_reducible rfl)) (by assumption) ?_
                  try simp only [Act.put, List.setIfInBounds_toArray, List.set_cons_zero, List.set_cons_succ, List.getElem_toArray, List.getElem_cons_zero, List.getElem_cons_succ]
                  refine reg_take 29 rfl (by kernel_rfl) (by kernel_rfl) (by kernel_rfl) (fun _ _ _ h => h) (by rfl) (fun w hSw => by (try dsimp only at hSw); first | (go_simp; done) | (go_simp; with_reducible rfl)) (by assumption) ?_
                  try simp only [Act.put, List.setIfInBounds_toArray, List.set_cons_zero, List.set_cons_succ, List.getElem_toArray, List.getElem_cons_zero, List.getElem_cons_succ]
                  refine wpAnyH_ready (rs := [27]) (by kernel_rfl) (by simp) ?_
                  refine AllReadyH.cons (i := 27) rfl (fun K hK => ?_) AllReadyH.nil
                  go_simp
                  go_at_call 16
                  refine (c_mHas _ _ L p q _ (RdT.below rL bc) (by omega)).mono ?_
                  rw [dL]
                  rintro e wz ⟨rfl, hbz⟩
                  have bc := bstep bc hbz
                  have s0 := keepc hbz s0
                  have s1 := keepc hbz s1
                  clear hbz
                  refine hK.out _ _ ⟨s0, s1⟩ (fun hH27 => ?_)
                  clear hK K
                  try simp only [Act.put, List.setIfInBounds_toArray, List.set_cons_zero, List.set_cons_succ, List.getElem_toArray, List.getElem_cons_zero, List.getElem_cons_succ]
                  refine wpAnyH_ready (rs := [30]) (by kernel_rfl) (by simp) ?_
                  refine AllReadyH.cons (i := 30) rfl (fun K hK => ?_) AllReadyH.nil
                  go_simp
                  go_at_call 16
                  refine (c_mHas _ _ ts p q _ (RdT.below ra bc) (by omega)).mono ?_
                  rw [da]
                  rintro e wz ⟨rfl, hbz⟩
                  have bc := bstep bc hbz
                  have s0 := keepc hbz s0
                  have s1 := keepc hbz s1
                  clear hbz
                  refine hK.out _ _ ⟨s0, s1⟩ (fun hH30 => ?_)
                  clear hK K
                  try simp only [Act.put, List.setIfInBounds_toArray, List.set_cons_zero, List.set_cons_succ, List.getElem_toArray, List.getElem_cons_zero, List.getElem_cons_succ]
                  refine reg_take 31 rfl (by kernel_rfl) (by kernel_rfl) (by kernel_rfl) (fun _ _ _ h => h) (by rfl) (fun w _ => by first | (go_simp; done) | (go_simp; with_reducible rfl)) (by assumption) ?_
                  try simp only [Act.put, List.setIfInBounds_toArray, List.set_cons_zero, List.set_cons_succ, List.getElem_toArray, List.getElem_cons_zero, List.getElem_cons_succ]
                  refine reg_take 32 rfl (by kernel_rfl) (by kernel_rfl) (by kernel_rfl) (fun _ _ _ h => h) (by rfl) (fun w _ => by first | (go_simp; done) | (go_simp; with_reducible rfl)) (by assumption) ?_
                  try simp only [Act.put, List.setIfInBounds_toArray, List.set_cons_zero, List.set_cons_succ, List.getElem_toArray, List.getElem_cons_zero, List.getElem_cons_succ]
                  refine reg_take 33 rfl (by kernel_rfl) (by kernel_rfl) (by kernel_rfl) (fun _ _ _ h => h) (by rfl) (fun w hSw => by (try dsimp only at hSw); first | (go_simp; done) | (go_simp; with_reducible rfl)) (by assumption) ?_
                  try simp only [Act.put, List.setIfInBounds_toArray, List.set_cons_zero, List.set_cons_succ, List.getElem_toArray, List.getElem_cons_zero, List.getElem_cons_succ]
                  refine wpAnyH_ready (rs := [34]) (by kernel_rfl) (by simp) ?_
                  refine AllReadyH.cons (i := 34) rfl (fun K hK => ?_) AllReadyH.nil
                  go_simp
                  go_at_call 16
                  refine (c_mHas _ _ us p q _ (RdT.below rb bc) (by omega)).mono ?_
                  rw [db]
                  rintro e wz ⟨rfl, hbz⟩
                  have bc := bstep bc hbz
                  have s0 := keepc hbz s0
                  have s1 := keepc hbz s1
                  clear hbz
                  refine hK.out _ _ ⟨s0, s1⟩ (fun hH34 => ?_)
                  clear hK K
                  try simp only [Act.put, List.setIfInBounds_toArray, List.set_cons_zero, List.set_cons_succ, List.getElem_toArray, List.getElem_cons_zero, List.getElem_cons_succ]
                  refine reg_take 35 rfl (by kernel_rfl) (by kernel_rfl) (by kernel_rfl) (fun _ _ _ h => h) (by rfl) (fun w _ => by first | (go_simp; done) | (go_simp; with_reducible rfl)) (by assumption) ?_
                  try simp only [Act.put, List.setIfInBounds_toArray, List.set_cons_zero, List.set_cons_succ, List.getElem_toArray, List.getElem_cons_zero, List.getElem_cons_succ]
                  refine reg_take 36 rfl (by kernel_rfl) (by kernel_rfl) (by kernel_rfl) (fun _ _ _ h => h) (by rfl) (fun w _ => by first | (go_simp; done) | (go_simp; with_reducible rfl)) (by assumption) ?_
                  try simp only [Act.put, List.setIfInBounds_toArray, List.set_cons_zero, List.set_cons_succ, List.getElem_toArray, List.getElem_cons_zero, List.getElem_cons_succ]
                  refine reg_take 37 rfl (by kernel_rfl) (by kernel_rfl) (by kernel_rfl) (fun _ _ _ h => h) (by rfl) (fun w _ => by first | (go_simp; done) | (go_simp; with_reducible rfl)) (by assumption) ?_
                  try simp only [Act.put, List.setIfInBounds_toArray, List.set_cons_zero, List.set_cons_succ, List.getElem_toArray, List.getElem_cons_zero, List.getElem_cons_succ]
                  refine reg_take 38 rfl (by kernel_rfl) (by kernel_rfl) (by kernel_rfl) (fun _ _ _ h => h) (by rfl) (fun w _ => by first | (go_simp; done) | (go_simp; with_reducible rfl)) (by assumption) ?_
                  try simp only [Act.put, List.setIfInBounds_toArray, List.set_cons_zero, List.set_cons_succ, List.getElem_toArray, List.getElem_cons_zero, List.getElem_cons_succ]
                  refine wpAnyH_done (by kernel_rfl) ?_ _
                  cases k with
                  | zero =>
                    go_wp2
                    go_roundw
                    case rel => exact ⟨0 + 1, by omega, by go_num, bstep Hb.out bc⟩
                    case measure => simp [intOf]; omega
                  | succ k' =>
                    have hk' : k' < J.length := by omega
                    obtain ⟨x1, x2, x3⟩ := Hprev.out k' rfl hk'
                    have m1 := (bc.cell (p := ⟨bk, _, none⟩) hbk).trans (Hc.out k' hk').1
                    have m2 := (bc.cell (p := ⟨bk, _, none⟩) hbk).trans (Hc.out k' hk').2
                    have iw1 : IntKind.i64.wrap ((k' : Int) + 1 - 1) = (k' : Int) := by rw [IntWalk.i64_in _ (by omega)]; omega
                    have iw2 : IntKind.i64.wrap (k' : Int) = (k' : Int) := IntWalk.i64_in _ (by omega)
                    have j0 : (0 : Int) ≤ (k' : Int) := by omega
                    have j1 : (k' : Int) < (J.length : Int) := by omega
                    have j2 : (0 : Int) < (k' : Int) + 1 := by omega
                    have c1 := fun W => c_implRankOf J[k'].1 J[k'].2 W
                    have c2 := fun W => c_implRankOf p q W
                    simp only [x2] at c1
                    simp only [x3] at c2
                    obtain ⟨y1, hy1⟩ : ∃ y1, y1 = rankV J[k'].1 J[k'].2 := ⟨_, rfl⟩
                    obtain ⟨y2, hy2⟩ : ∃ y2, y2 = rankV p q := ⟨_, rfl⟩
                    simp only [← hy1] at c1
                    simp only [← hy2] at c2
                    rw [← hy1, ← hy2] at x1
                    have x4 : ¬ y2 ≤ y1 := by omega
                    have C1 := Lib.hid c1
                    have C2 := Lib.hid c2
                    clear c1 c2 hy1 hy2 x2 x3 g1 g2
                    go_wp2_with fail
                    refine (C1.out _).mono ?_
                    rintro e wy ⟨rfl, hbz⟩
                    have bc := bstep bc hbz
                    have s0 := keepc hbz s0
                    have s1 := keepc hbz s1
                    clear hbz
                    go_wp2_with fail
                    refine (C2.out _).mono ?_
                    rintro e wx ⟨rfl, hbz⟩
                    have bc := bstep bc hbz
                    clear hbz s0 s1
                    go_wp2
                    go_roundw
                    case rel => exact ⟨k' + 1 + 1, by omega, by go_num, bstep Hb.out bc⟩
                    case measure => simp [intOf]; omega
            · have tb : (p, q) ∈ us := by
                rcases hmemJ with h | h
                · exact absurd h ta
                · exact h
              as_aux_lemma =>
                have da : decide ((p, q) ∈ ts) = false := decide_eq_false ta
                have db : decide ((p, q) ∈ us) = true := decide_eq_true tb
                have dK : decide ((p, q) ∈ KT) = false := decide_eq_false (fun h => ta (hmemK.1 h).1)
                have dL : decide ((p, q) ∈ L) = false := decide_eq_false (fun h => ta (hmemL.1 h).1)
                clear ta tb hmemJ hmemK hmemL
                go_wp2
                refine wp_region_held_drew (S := fun w' => w'.cell? ⟨wr.heap.size, 0, none⟩ = some (.int .i64 p) ∧ w'.cell? ⟨wr.heap.size, 1, none⟩ = some (.int .i64 q)) (by kernel_rfl) ⟨s0, s1⟩ (fun hH0 => ?_)
                refine reg_take 0 rfl (by kernel_rfl) (by kernel_rfl) (by kernel_rfl) (fun _ _ _ h => h) (by rfl) (fun w _ => by first | (go_simp; done) | (go_simp; with_reducible rfl)) (by assumption) ?_
                try simp only [Act.put, List.setIfInBounds_toArray, List.set_cons_zero, List.set_cons_succ, List.getElem_toArray, List.getElem_cons_zero, List.getElem_cons_succ]
                refine reg_take 1 rfl (by kernel_rfl) (by kernel_rfl) (by kernel_rfl) (fun _ _ _ h => h) (by rfl) (fun w hSw => by (try dsimp only at hSw); first | (go_simp; done) | (go_simp; with_reducible rfl)) (by assumption) ?_
                try simp only [Act.put, List.setIfInBounds_toArray, List.set_cons_zero, List.set_cons_succ, List.getElem_toArray, List.getElem_cons_zero, List.getElem_cons_succ]
                refine wpAnyH_ready (rs := [2]) (by kernel_rfl) (by simp) ?_
                refine AllReadyH.cons (i := 2) rfl (fun K hK => ?_) AllReadyH.nil
                go_simp
                go_at_call 16
                refine (c_mHas _ _ ts p q _ (RdT.below ra bc) (by omega)).mono ?_
                rw [da]
                rintro e wz ⟨rfl, hbz⟩
                have bc := bstep bc hbz
                have s0 := keepc hbz s0
                have s1 := keepc hbz s1
                clear hbz
                refine hK.out _ _ ⟨s0, s1⟩ (fun hH2 => ?_)
                clear hK K
                try simp only [Act.put, List.setIfInBounds_toArray, List.set_cons_zero, List.set_cons_succ, List.getElem_toArray, List.getElem_cons_zero, List.getElem_cons_succ]
                refine reg_take 3 rfl (by kernel_rfl) (by kernel_rfl) (by kernel_rfl) (fun _ _ _ h => h) (by rfl) (fun w _ => by first | (go_simp; done) | (go_simp; with_reducible rfl)) (by assumption) ?_
                try simp only [Act.put, List.setIfInBounds_toArray, List.set_cons_zero, List.set_cons_succ, List.getElem_toArray, List.getElem_cons_zero, List.getElem_cons_succ]
                refine reg_take 4 rfl (by kernel_rfl) (by kernel_rfl) (by kernel_rfl) (fun _ _ _ h => h) (by rfl) (fun w _ => by first | (go_simp; done) | (go_simp; with_reducible rfl)) (by assumption) ?_
                try simp only [Act.put, List.setIfInBounds_toArray, List.set_cons_zero, List.set_cons_succ, List.getElem_toArray, List.getElem_cons_zero, List.getElem_cons_succ]
                refine reg_take 5 rfl (by kernel_rfl) (by kernel_rfl) (by kernel_rfl) (fun _ _ _ h => h) (by rfl) (fun w _ => by first | (go_simp; done) | (go_simp; with_reducible rfl)) (by assumption) ?_
                try simp only [Act.put, List.setIfInBounds_toArray, List.set_cons_zero, List.set_cons_succ, List.getElem_toArray, List.getElem_cons_zero, List.getElem_cons_succ]
                refine reg_take 6 rfl (by kernel_rfl) (by kernel_rfl) (by kernel_rfl) (fun _ _ _ h => h) (by rfl) (fun w hSw => by (try dsimp only at hSw); first | (go_simp; done) | (go_simp; with_reducible rfl)) (by assumption) ?_
                try simp only [Act.put, List.setIfInBounds_toArray, List.set_cons_zero, List.set_cons_succ, List.getElem_toArray, List.getElem_cons_zero, List.getElem_cons_succ]
                refine wpAnyH_ready (rs := [7]) (by kernel_rfl) (by simp) ?_
                refine AllReadyH.cons (i := 7) rfl (fun K hK => ?_) AllReadyH.nil
                go_simp
                go_at_call 16
                refine (c_mHas _ _ us p q _ (RdT.below rb bc) (by omega)).mono ?_
                rw [db]
                rintro e wz ⟨rfl, hbz⟩
                have bc := bstep bc hbz
                have s0 := keepc hbz s0
                have s1 := keepc hbz s1
                clear hbz
                refine hK.out _ _ ⟨s0, s1⟩ (fun hH7 => ?_)
                clear hK K
                try simp only [Act.put, List.setIfInBounds_toArray, List.set_cons_zero, List.set_cons_succ, List.getElem_toArray, List.getElem_cons_zero, List.getElem_cons_succ]
                refine reg_take 8 rfl (by kernel_rfl) (by kernel_rfl) (by kernel_rfl) (fun _ _ _ h => h) (by rfl) (fun w _ => by first | (go_simp; done) | (go_simp; with_reducible rfl)) (by assumption) ?_
                try simp only [Act.put, List.setIfInBounds_toArray, List.set_cons_zero, List.set_cons_succ, List.getElem_toArray, List.getElem_cons_zero, List.getElem_cons_succ]
                refine reg_take 9 rfl (by kernel_rfl) (by kernel_rfl) (by kernel_rfl) (fun _ _ _ h => h) (by rfl) (fun w _ => by first | (go_simp; done) | (go_simp; with_reducible rfl)) (by assumption) ?_
                try simp only [Act.put, List.setIfInBounds_toArray, List.set_cons_zero, List.set_cons_succ, List.getElem_toArray, List.getElem_cons_zero, List.getElem_cons_succ]
                refine reg_take 10 rfl (by kernel_rfl) (by kernel_rfl) (by kernel_rfl) (fun _ _ _ h => h) (by rfl) (fun w _ => by first | (go_simp; done) | (go_simp; with_reducible rfl)) (by assumption) ?_
                try simp only [Act.put, List.setIfInBounds_toArray, List.set_cons_zero, List.set_cons_succ, List.getElem_toArray, List.getElem_cons_zero, List.getElem_cons_succ]
                refine reg_take 11 rfl (by kernel_rfl) (by kernel_rfl) (by kernel_rfl) (fun _ _ _ h => h) (by rfl) (fun w _ => by first | (go_simp; done) | (go_simp; with_reducible rfl)) (by assumption) ?_
                try simp only [Act.put, List.setIfInBounds_toArray, List.set_cons_zero, List.set_cons_succ, List.getElem_toArray, List.getElem_cons_zero, List.getElem_cons_succ]
                refine reg_take 12 rfl (by kernel_rfl) (by kernel_rfl) (by kernel_rfl) (fun _ _ _ h => h) (by rfl) (fun w hSw => by (try dsimp only at hSw); first | (go_simp; done) | (go_simp; with_reducible rfl)) (by assumption) ?_
                try simp only [Act.put, List.setIfInBounds_toArray, List.set_cons_zero, List.set_cons_succ, List.getElem_toArray, List.getElem_cons_zero, List.getElem_cons_succ]
                refine reg_take 14 rfl (by kernel_rfl) (by kernel_rfl) (by kernel_rfl) (fun _ _ _ h => h) (by rfl) (fun w _ => by first | (go_simp; done) | (go_simp; with_reducible rfl)) (by assumption) ?_
                try simp only [Act.put, List.setIfInBounds_toArray, List.set_cons_zero, List.set_cons_succ, List.getElem_toArray, List.getElem_cons_zero, List.getElem_cons_succ]
                refine reg_take 15 rfl (by kernel_rfl) (by kernel_rfl) (by kernel_rfl) (fun _ _ _ h => h) (by rfl) (fun w hSw => by (try dsimp only at hSw); first | (go_simp; done) | (go_simp; with_reducible rfl)) (by assumption) ?_
                try simp only [Act.put, List.setIfInBounds_toArray, List.set_cons_zero, List.set_cons_succ, List.getElem_toArray, List.getElem_cons_zero, List.getElem_cons_succ]
                refine wpAnyH_ready (rs := [13]) (by kernel_rfl) (by simp) ?_
                refine AllReadyH.cons (i := 13) rfl (fun K hK => ?_) AllReadyH.nil
                go_simp
                go_at_call 16
                refine (c_mHas _ _ KT p q _ (RdT.below rK bc) (by omega)).mono ?_
                rw [dK]
                rintro e wz ⟨rfl, hbz⟩
                have bc := bstep bc hbz
                have s0 := keepc hbz s0
                have s1 := keepc hbz s1
                clear hbz
                refine hK.out _ _ ⟨s0, s1⟩ (fun hH13 => ?_)
                clear hK K
                try simp only [Act.put, List.setIfInBounds_toArray, List.set_cons_zero, List.set_cons_succ, List.getElem_toArray, List.getElem_cons_zero, List.getElem_cons_succ]
                refine wpAnyH_ready (rs := [16]) (by kernel_rfl) (by simp) ?_
                refine AllReadyH.cons (i := 16) rfl (fun K hK => ?_) AllReadyH.nil
                go_simp
                go_at_call 16
                refine (c_mHas _ _ ts p q _ (RdT.below ra bc) (by omega)).mono ?_
                rw [da]
                rintro e wz ⟨rfl, hbz⟩
                have bc := bstep bc hbz
                have s0 := keepc hbz s0
                have s1 := keepc hbz s1
                clear hbz
                refine hK.out _ _ ⟨s0, s1⟩ (fun hH16 => ?_)
                clear hK K
                try simp only [Act.put, List.setIfInBounds_toArray, List.set_cons_zero, List.set_cons_succ, List.getElem_toArray, List.getElem_cons_zero, List.getElem_cons_succ]
                refine reg_take 17 rfl (by kernel_rfl) (by kernel_rfl) (by kernel_rfl) (fun _ _ _ h => h) (by rfl) (fun w _ => by first | (go_simp; done) | (go_simp; with_reducible rfl)) (by assumption) ?_
                try simp only [Act.put, List.setIfInBounds_toArray, List.set_cons_zero, List.set_cons_succ, List.getElem_toArray, List.getElem_cons_zero, List.getElem_cons_succ]
                refine reg_skip 18 rfl (by kernel_rfl) (by kernel_rfl) (by kernel_rfl) (fun _ _ _ h => h) (by rfl) (by assumption) ?_
                try simp only [Act.put, List.setIfInBounds_toArray, List.set_cons_zero, List.set_cons_succ, List.getElem_toArray, List.getElem_cons_zero, List.getElem_cons_succ]
                refine reg_skip 19 rfl (by kernel_rfl) (by kernel_rfl) (by kernel_rfl) (fun _ _ _ h => h) (by rfl) (by assumption) ?_
                try simp only [Act.put, List.setIfInBounds_toArray, List.set_cons_zero, List.set_cons_succ, List.getElem_toArray, List.getElem_cons_zero, List.getElem_cons_succ]
                refine reg_skip 20 rfl (by kernel_rfl) (by kernel_rfl) (by kernel_rfl) (fun _ _ _ h => h) (by rfl) (by assumption) ?_
                try simp only [Act.put, List.setIfInBounds_toArray, List.set_cons_zero, List.set_cons_succ, List.getElem_toArray, List.getElem_cons_zero, List.getElem_cons_succ]
                refine reg_take 21 rfl (by kernel_rfl) (by kernel_rfl) (by kernel_rfl) (fun _ _ _ h => h) (by rfl) (fun w _ => by first | (go_simp; done) | (go_simp; with_reducible rfl)) (by assumption) ?_
                try simp only [Act.put, List.setIfInBounds_toArray, List.set_cons_zero, List.set_cons_succ, List.getElem_toArray, List.getElem_cons_zero, List.getElem_cons_succ]
                refine reg_take 22 rfl (by kernel_rfl) (by kernel_rfl) (by kernel_rfl) (fun _ _ _ h => h) (by rfl) (fun w _ => by first | (go_simp; done) | (go_simp; with_reducible rfl)) (by assumption) ?_
                try simp only [Act.put, List.setIfInBounds_toArray, List.set_cons_zero, List.set_cons_succ, List.getElem_toArray, List.getElem_cons_zero, List.getElem_cons_succ]
                refine reg_take 23 rfl (by kernel_rfl) (by kernel_rfl) (by kernel_rfl) (fun _ _ _ h => h) (by rfl) (fun w _ => by first | (go_simp; done) | (go_simp; with_reducible rfl)) (by assumption) ?_
                try simp only [Act.put, List.setIfInBounds_toArray, List.set_cons_zero, List.set_cons_succ, List.getElem_toArray, List.getElem_cons_zero, List.getElem_cons_succ]
                refine reg_take 24 rfl (by kernel_rfl) (by kernel_rfl) (by kernel_rfl) (fun _ _ _ h => h) (by rfl) (fun w _ => by first | (go_simp; done) | (go_simp; with_reducible rfl)) (by assumption) ?_
                try simp only [Act.put, List.setIfInBounds_toArray, List.set_cons_zero, List.set_cons_succ, List.getElem_toArray, List.getElem_cons_zero, List.getElem_cons_succ]
                refine reg_take 25 rfl (by kernel_rfl) (by kernel_rfl) (by kernel_rfl) (fun _ _ _ h => h) (by rfl) (fun w _ => by first | (go_simp; done) | (go_simp; with_reducible rfl)) (by assumption) ?_
                try simp only [Act.put, List.setIfInBounds_toArray, List.set_cons_zero, List.set_cons_succ, List.getElem_toArray, List.getElem_cons_zero, List.getElem_cons_succ]
                refine reg_take 26 rfl (by kernel_rfl) (by kernel_rfl) (by kernel_rfl) (fun _ _ _ h => h) (by rfl) (fun w hSw => by (try dsimp only at hSw); first | (go_simp; done) | (go_simp; with_reducible rfl)) (by assumption) ?_
                try simp only [Act.put, List.setIfInBounds_toArray, List.set_cons_zero, List.set_cons_succ, List.getElem_toArray, List.getElem_cons_zero, List.getElem_cons_succ]
                refine reg_take 28 rfl (by kernel_rfl) (by kernel_rfl) (by kernel_rfl) (fun _ _ _ h => h) (by rfl) (fun w _ => by first | (go_simp; done) | (go_simp; with_reducible rfl)) (by assumption) ?_
                try simp only [Act.put, List.setIfInBounds_toArray, List.set_cons_zero, List.set_cons_succ, List.getElem_toArray, List.getElem_cons_zero, List.getElem_cons_succ]
                refine reg_take 29 rfl (by kernel_rfl) (by kernel_rfl) (by kernel_rfl) (fun _ _ _ h => h) (by rfl) (fun w hSw => by (try dsimp only at hSw); first | (go_simp; done) | (go_simp; with_reducible rfl)) (by assumption) ?_
                try simp only [Act.put, List.setIfInBounds_toArray, List.set_cons_zero, List.set_cons_succ, List.getElem_toArray, List.getElem_cons_zero, List.getElem_cons_succ]
                refine wpAnyH_ready (rs := [27]) (by kernel_rfl) (by simp) ?_
                refine AllReadyH.cons (i := 27) rfl (fun K hK => ?_) AllReadyH.nil
                go_simp
                go_at_call 16
                refine (c_mHas _ _ L p q _ (RdT.below rL bc) (by omega)).mono ?_
                rw [dL]
                rintro e wz ⟨rfl, hbz⟩
                have bc := bstep bc hbz
                have s0 := keepc hbz s0
                have s1 := keepc hbz s1
                clear hbz
                refine hK.out _ _ ⟨s0, s1⟩ (fun hH27 => ?_)
                clear hK K
                try simp only [Act.put, List.setIfInBounds_toArray, List.set_cons_zero, List.set_cons_succ, List.getElem_toArray, List.getElem_cons_zero, List.getElem_cons_succ]
                refine wpAnyH_ready (rs := [30]) (by kernel_rfl) (by simp) ?_
                refine AllReadyH.cons (i := 30) rfl (fun K hK => ?_) AllReadyH.nil
                go_simp
                go_at_call 16
                refine (c_mHas _ _ ts p q _ (RdT.below ra bc) (by omega)).mono ?_
                rw [da]
                rintro e wz ⟨rfl, hbz⟩
                have bc := bstep bc hbz
                have s0 := keepc hbz s0
                have s1 := keepc hbz s1
                clear hbz
                refine hK.out _ _ ⟨s0, s1⟩ (fun hH30 => ?_)
                clear hK K
                try simp only [Act.put, List.setIfInBounds_toArray, List.set_cons_zero, List.set_cons_succ, List.getElem_toArray, List.getElem_cons_zero, List.getElem_cons_succ]
                refine reg_take 31 rfl (by kernel_rfl) (by kernel_rfl) (by kernel_rfl) (fun _ _ _ h => h) (by rfl) (fun w _ => by first | (go_simp; done) | (go_simp; with_reducible rfl)) (by assumption) ?_
                try simp only [Act.put, List.setIfInBounds_toArray, List.set_cons_zero, List.set_cons_succ, List.getElem_toArray, List.getElem_cons_zero, List.getElem_cons_succ]
                refine reg_skip 32 rfl (by kernel_rfl) (by kernel_rfl) (by kernel_rfl) (fun _ _ _ h => h) (by rfl) (by assumption) ?_
                try simp only [Act.put, List.setIfInBounds_toArray, List.set_cons_zero, List.set_cons_succ, List.getElem_toArray, List.getElem_cons_zero, List.getElem_cons_succ]
                refine reg_skip 33 rfl (by kernel_rfl) (by kernel_rfl) (by kernel_rfl) (fun _ _ _ h => h) (by rfl) (by assumption) ?_
                try simp only [Act.put, List.setIfInBounds_toArray, List.set_cons_zero, List.set_cons_succ, List.getElem_toArray, List.getElem_cons_zero, List.getElem_cons_succ]
                refine reg_skip 34 rfl (by kernel_rfl) (by kernel_rfl) (by kernel_rfl) (fun _ _ _ h => h) (by rfl) (by assumption) ?_
                try simp only [Act.put, List.setIfInBounds_toArray, List.set_cons_zero, List.set_cons_succ, List.getElem_toArray, List.getElem_cons_zero, List.getElem_cons_succ]
                refine reg_skip 35 rfl (by kernel_rfl) (by kernel_rfl) (by kernel_rfl) (fun _ _ _ h => h) (by rfl) (by assumption) ?_
                try simp only [Act.put, List.setIfInBounds_toArray, List.set_cons_zero, List.set_cons_succ, List.getElem_toArray, List.getElem_cons_zero, List.getElem_cons_succ]
                refine reg_take 36 rfl (by kernel_rfl) (by kernel_rfl) (by kernel_rfl) (fun _ _ _ h => h) (by rfl) (fun w _ => by first | (go_simp; done) | (go_simp; with_reducible rfl)) (by assumption) ?_
                try simp only [Act.put, List.setIfInBounds_toArray, List.set_cons_zero, List.set_cons_succ, List.getElem_toArray, List.getElem_cons_zero, List.getElem_cons_succ]
                refine reg_take 37 rfl (by kernel_rfl) (by kernel_rfl) (by kernel_rfl) (fun _ _ _ h => h) (by rfl) (fun w _ => by first | (go_simp; done) | (go_simp; with_reducible rfl)) (by assumption) ?_
                try simp only [Act.put, List.setIfInBounds_toArray, List.set_cons_zero, List.set_cons_succ, List.getElem_toArray, List.getElem_cons_zero, List.getElem_cons_succ]
                refine reg_take 38 rfl (by kernel_rfl) (by kernel_rfl) (by kernel_rfl) (fun _ _ _ h => h) (by rfl) (fun w _ => by first | (go_simp; done) | (go_simp; with_reducible rfl)) (by assumption) ?_
                try simp only [Act.put, List.setIfInBounds_toArray, List.set_cons_zero, List.set_cons_succ, List.getElem_toArray, List.getElem_cons_zero, List.getElem_cons_succ]
                refine wpAnyH_done (by kernel_rfl) ?_ _
                cases k with
                | zero =>
                  go_wp2
                  go_roundw
                  case rel => exact ⟨0 + 1, by omega, by go_num, bstep Hb.out bc⟩
                  case measure => simp [intOf]; omega
                | succ k' =>
                  have hk' : k' < J.length := by omega
                  obtain ⟨x1, x2, x3⟩ := Hprev.out k' rfl hk'
                  have m1 := (bc.cell (p := ⟨bk, _, none⟩) hbk).trans (Hc.out k' hk').1
                  have m2 := (bc.cell (p := ⟨bk, _, none⟩) hbk).trans (Hc.out k' hk').2
                  have iw1 : IntKind.i64.wrap ((k' : Int) + 1 - 1) = (k' : Int) := by rw [IntWalk.i64_in _ (by omega)]; omega
                  have iw2 : IntKind.i64.wrap (k' : Int) = (k' : Int) := IntWalk.i64_in _ (by omega)
                  have j0 : (0 : Int) ≤ (k' : Int) := by omega
                  have j1 : (k' : Int) < (J.length : Int) := by omega
                  have j2 : (0 : Int) < (k' : Int) + 1 := by omega
                  have c1 := fun W => c_implRankOf J[k'].1 J[k'].2 W
                  have c2 := fun W => c_implRankOf p q W
                  simp only [x2] at c1
                  simp only [x3] at c2
                  obtain ⟨y1, hy1⟩ : ∃ y1, y1 = rankV J[k'].1 J[k'].2 := ⟨_, rfl⟩
                  obtain ⟨y2, hy2⟩ : ∃ y2, y2 = rankV p q := ⟨_, rfl⟩
                  simp only [← hy1] at c1
                  simp only [← hy2] at c2
                  rw [← hy1, ← hy2] at x1
                  have x4 : ¬ y2 ≤ y1 := by omega
                  have C1 := Lib.hid c1
                  have C2 := Lib.hid c2
                  clear c1 c2 hy1 hy2 x2 x3 g1 g2
                  go_wp2_with fail
                  refine (C1.out _).mono ?_
                  rintro e wy ⟨rfl, hbz⟩
                  have bc := bstep bc hbz
                  have s0 := keepc hbz s0
                  have s1 := keepc hbz s1
                  clear hbz
                  go_wp2_with fail
                  refine (C2.out _).mono ?_
                  rintro e wx ⟨rfl, hbz⟩
                  have bc := bstep bc hbz
                  clear hbz s0 s1
                  go_wp2
                  go_roundw
                  case rel => exact ⟨k' + 1 + 1, by omega, by go_num, bstep Hb.out bc⟩
                  case measure => simp [intOf]; omega
          · have : k = J.length := by omega
            subst this
            clear ra rb rK rL rJ HJ HK HL HS HG
            as_aux_lemma =>
              go_wp2_with fail
              refine (c_DrawMissingFrom n1 c1 A1 _ hr1 (by omega)).mono ?_
              rintro e w22 ⟨SM, cM, hs0, n, rfl, hs, hlm, hnb, hb⟩
              have hr1 := RdB.below hr1 hb
              have B := bstep B hb
              have rM := RdT.of_own hs
              have kM := own_cap hs
              clear hs
              go_wp2_with fail
              refine (c_implMissingFrom _ _ hs0 n _ rM (by omega)).mono ?_
              rintro e w23 ⟨SN, cN, rfl, hs, hb⟩
              have hr1 := RdB.below hr1 hb
              have rM := RdT.below rM hb
              have B := bstep B hb
              have rN := RdT.of_own hs
              have kN := own_cap hs
              clear hs
              go_wp2_with fail
              refine (c_specMissingFrom _ _ hs0 n _ rM (by omega) kM).mono ?_
              rintro e w24 ⟨SO, cO, rfl, hs, hb⟩
              have hr1 := RdB.below hr1 hb
              have rM := RdT.below rM hb
              have rN := RdT.below rN hb
              have B := bstep B hb
              have rO := RdT.of_own hs
              have kO := own_cap hs
              clear hs
              have hml := missL_len hs0 n
              go_wp2_with fail
              refine (c_mTiles_same _ _ _ _ (missL hs0 n) _ rN rO (by omega)).mono ?_
              rintro e w25 ⟨rfl, hb⟩
              have hr1 := RdB.below hr1 hb
              have rM := RdT.below rM hb
              have rN := RdT.below rN hb
              have rO := RdT.below rO hb
              have B := bstep B hb
              by_cases hmiss : okMiss hs0 n = true
              · obtain ⟨f1, f2, f3, f4⟩ := miss_facts hmiss
                have conSet := fun W => c_implSetOf n W
                simp only [f4] at conSet
                have conCnt := fun W => c_implCountSet n W
                simp only [f4] at conCnt
                have conJn := fun W A2 d2 (h1 : RdT W A2 (missL hs0 n)) A3 d3 (h2 : RdT W A3 hs0) => c_implJoinHands A2 d2 (missL hs0 n) A3 d3 hs0 W h1 (by omega) h2 (by omega)
                simp only [f1, f2] at conJn
                have hq : (((missL hs0 n).length : Int) + hs0.length != countV n) = false := by rw [f3]; simp
                have iwq : IntKind.i64.wrap (((missL hs0 n).length : Int) + hs0.length) = ((missL hs0 n).length : Int) + hs0.length := IntWalk.i64_in _ (by omega)
                have ConSet := Lib.hid conSet
                have ConCnt := Lib.hid conCnt
                have ConJn := Lib.hid conJn
                rw [hmiss]
                have hsl2 := setOfL_len n
                clear f1 f2 f3 f4 conSet conCnt conJn hmiss
                go_wp2_with fail
                refine (ConSet.out _).mono ?_
                rintro e w26 ⟨SU, cU, rfl, hs, hb⟩
                have hr1 := RdB.below hr1 hb
                have rM := RdT.below rM hb
                have rN := RdT.below rN hb
                have rO := RdT.below rO hb
                have B := bstep B hb
                have rU := RdT.of_own hs
                have kU := own_cap hs
                clear hs
                go_wp2_with fail
                refine (ConJn.out _ _ _ rN _ _ rM).mono ?_
                rintro e w27 ⟨SV, cV, rfl, hs, hb⟩
                have hr1 := RdB.below hr1 hb
                have rM := RdT.below rM hb
                have rN := RdT.below rN hb
                have rO := RdT.below rO hb
                have rU := RdT.below rU hb
                have B := bstep B hb
                have rV := RdT.of_own hs
                have kV := own_cap hs
                clear hs
                go_wp2_with fail
                refine (ConCnt.out _).mono ?_
                rintro e w28 ⟨rfl, hb⟩
                have hr1 := RdB.below hr1 hb
                have rM := RdT.below rM hb
                have rN := RdT.below rN hb
                have rO := RdT.below rO hb
                have rU := RdT.below rU hb
                have rV := RdT.below rV hb
                have B := bstep B hb
                go_wp2_with fail
                refine (c_mTiles_same _ _ _ _ (setOfL n) _ rV rU (by omega)).mono ?_
                rintro e w29 ⟨rfl, hb⟩
                have hr1 := RdB.below hr1 hb
                have rM := RdT.below rM hb
                have rN := RdT.below rN hb
                have rO := RdT.below rO hb
                have rU := RdT.below rU hb
                have rV := RdT.below rV hb
                have B := bstep B hb
                clear rN rO rM rU rV hml
                as_aux_lemma =>
                  go_wp2_with fail
                  refine (c_DrawSortHand n1 c1 A1 _ hr1 (by omega)).mono ?_
                  rintro e w30 ⟨SH, cH, ht, rfl, hs, hlh, hb⟩
                  have hr1 := RdB.below hr1 hb
                  have B := bstep B hb
                  have rH := RdT.of_own hs
                  have kH := own_cap hs
                  clear hs
                  go_wp2_with fail
                  refine (c_implSortHand _ _ ht _ rH (by omega)).mono ?_
                  rintro e w31 ⟨SP, cP, rfl, hs, hb⟩
                  have rH := RdT.below rH hb
                  have B := bstep B hb
                  have rP := RdT.of_own hs
                  have kP := own_cap hs
                  clear hs
                  go_wp2_with fail
                  refine (c_specSortHand _ _ ht _ rH (by omega) kH).mono ?_
                  rintro e w32 ⟨SQ, cQ, rfl, hs, hb⟩
                  have rH := RdT.below rH hb
                  have rP := RdT.below rP hb
                  have B := bstep B hb
                  have rQ := RdT.of_own hs
                  have kQ := own_cap hs
                  clear hs
                  go_wp2_with fail
                  refine (c_implPipsOf _ _ ht _ rH (by omega)).mono ?_
                  rintro e w33 ⟨rfl, hb⟩
                  have rH := RdT.below rH hb
                  have rP := RdT.below rP hb
                  have rQ := RdT.below rQ hb
                  have B := bstep B hb
                  go_wp2_with fail
                  refine (c_specPipsOf _ _ ht _ rH (by omega) kH).mono ?_
                  rintro e w34 ⟨rfl, hb⟩
                  have rH := RdT.below rH hb
                  have rP := RdT.below rP hb
                  have rQ := RdT.below rQ hb
                  have B := bstep B hb
                  have hsl := sortHL_len ht
                  go_wp2_with fail
                  refine (c_mTiles_same _ _ _ _ (sortHL ht) _ rP rQ (by omega)).mono ?_
                  rintro e w35 ⟨rfl, hb⟩
                  have rH := RdT.below rH hb
                  have rP := RdT.below rP hb
                  have rQ := RdT.below rQ hb
                  have B := bstep B hb
                  go_wp2_with fail
                  refine (c_implIsHand _ _ ht _ rH (by omega)).mono ?_
                  rintro e w36 ⟨rfl, hb⟩
                  have rH := RdT.below rH hb
                  have rP := RdT.below rP hb
                  have rQ := RdT.below rQ hb
                  have B := bstep B hb
                  go_wp2_with fail
                  refine (c_specIsHand _ _ ht _ rH (by omega) kH).mono ?_
                  rintro e w37 ⟨rfl, hb⟩
                  have rH := RdT.below rH hb
                  have rP := RdT.below rP hb
                  have rQ := RdT.below rQ hb
                  have B := bstep B hb
                  go_wp2_with fail
                  refine (c_implIsHand _ _ ht _ rH (by omega)).mono ?_
                  rintro e w38 ⟨rfl, hb⟩
                  have rH := RdT.below rH hb
                  have rP := RdT.below rP hb
                  have rQ := RdT.below rQ hb
                  have B := bstep B hb
                  go_wp2
                  go_ret
                  exact ⟨rfl, B⟩
              · have hmiss' : okMiss hs0 n = false := by simpa using hmiss
                rw [hmiss']
                clear hmiss hmiss' rN rO rM hml
                as_aux_lemma =>
                  go_wp2_with fail
                  refine (c_DrawSortHand n1 c1 A1 _ hr1 (by omega)).mono ?_
                  rintro e w26 ⟨SH, cH, ht, rfl, hs, hlh, hb⟩
                  have hr1 := RdB.below hr1 hb
                  have B := bstep B hb
                  have rH := RdT.of_own hs
                  have kH := own_cap hs
                  clear hs
                  go_wp2_with fail
                  refine (c_implSortHand _ _ ht _ rH (by omega)).mono ?_
                  rintro e w27 ⟨SP, cP, rfl, hs, hb⟩
                  have rH := RdT.below rH hb
                  have B := bstep B hb
                  have rP := RdT.of_own hs
                  have kP := own_cap hs
                  clear hs
                  go_wp2_with fail
                  refine (c_specSortHand _ _ ht _ rH (by omega) kH).mono ?_
                  rintro e w28 ⟨SQ, cQ, rfl, hs, hb⟩
                  have rH := RdT.below rH hb
                  have rP := RdT.below rP hb
                  have B := bstep B hb
                  have rQ := RdT.of_own hs
                  have kQ := own_cap hs
                  clear hs
                  go_wp2_with fail
                  refine (c_implPipsOf _ _ ht _ rH (by omega)).mono ?_
                  rintro e w29 ⟨rfl, hb⟩
                  have rH := RdT.below rH hb
                  have rP := RdT.below rP hb
                  have rQ := RdT.below rQ hb
                  have B := bstep B hb
                  go_wp2_with fail
                  refine (c_specPipsOf _ _ ht _ rH (by omega) kH).mono ?_
                  rintro e w30 ⟨rfl, hb⟩
                  have rH := RdT.below rH hb
                  have rP := RdT.below rP hb
                  have rQ := RdT.below rQ hb
                  have B := bstep B hb
                  have hsl := sortHL_len ht
                  go_wp2_with fail
                  refine (c_mTiles_same _ _ _ _ (sortHL ht) _ rP rQ (by omega)).mono ?_
                  rintro e w31 ⟨rfl, hb⟩
                  have rH := RdT.below rH hb
                  have rP := RdT.below rP hb
                  have rQ := RdT.below rQ hb
                  have B := bstep B hb
                  go_wp2_with fail
                  refine (c_implIsHand _ _ ht _ rH (by omega)).mono ?_
                  rintro e w32 ⟨rfl, hb⟩
                  have rH := RdT.below rH hb
                  have rP := RdT.below rP hb
                  have rQ := RdT.below rQ hb
                  have B := bstep B hb
                  go_wp2_with fail
                  refine (c_specIsHand _ _ ht _ rH (by omega) kH).mono ?_
                  rintro e w33 ⟨rfl, hb⟩
                  have rH := RdT.below rH hb
                  have rP := RdT.below rP hb
                  have rQ := RdT.below rQ hb
                  have B := bstep B hb
                  go_wp2_with fail
                  refine (c_implIsHand _ _ ht _ rH (by omega)).mono ?_
                  rintro e w34 ⟨rfl, hb⟩
                  have rH := RdT.below rH hb
                  have rP := RdT.below rP hb
                  have rQ := RdT.below rQ hb
                  have B := bstep B hb
                  go_wp2
                  go_ret
                  exact ⟨rfl, B⟩
      · have hb' : handB us = false := by simpa using hb'
        have okv : okAB ts us = false := by simp [okAB, ha, hb']
        have cJ := fun W (h1 : RdT W A ts) (h2 : RdT W A' us) => c_implJoinHands A c ts A' c' us W h1 (by omega) h2 (by omega)
        have cJ' := fun W (h1 : RdT W A ts) (h2 : RdT W A' us) => c_specJoinHands A c ts A' c' us W h1 (by omega) ka h2 (by omega) kb
        have cK := fun W (h1 : RdT W A ts) (h2 : RdT W A' us) => c_implBothHands A c ts A' c' us W h1 (by omega) h2 (by omega)
        have cK' := fun W (h1 : RdT W A ts) (h2 : RdT W A' us) => c_specBothHands A c ts A' c' us W h1 (by omega) ka h2 (by omega) kb
        have cL := fun W (h1 : RdT W A ts) (h2 : RdT W A' us) => c_implLessHand A c ts A' c' us W h1 (by omega) h2 (by omega)
        have cL' := fun W (h1 : RdT W A ts) (h2 : RdT W A' us) => c_specLessHand A c ts A' c' us W h1 (by omega) ka h2 (by omega) kb
        have cH := fun W (h1 : RdT W A ts) => c_implIsHand A c ts W h1 (by omega)
        have cH' := fun W (h1 : RdT W A' us) => c_implIsHand A' c' us W h1 (by omega)
        simp only [okv] at cJ cJ' cK cK' cL cL'
        simp only [ha] at cH
        simp only [hb'] at cH'
        obtain ⟨J, hJ⟩ : ∃ x, x = joinHL ts us := ⟨_, rfl⟩
        obtain ⟨KT, hK⟩ : ∃ x, x = bothHL ts us := ⟨_, rfl⟩
        obtain ⟨L, hL⟩ : ∃ x, x = lessHL ts us := ⟨_, rfl⟩
        simp only [← hJ] at cJ cJ'
        simp only [← hK] at cK cK'
        simp only [← hL] at cL cL'
        rw [← hJ] at lj
        rw [← hK] at lk
        rw [← hL] at ll
        have CJ := Lib.hid cJ
        have CJ' := Lib.hid cJ'
        have CK := Lib.hid cK
        have CK' := Lib.hid cK'
        have CL := Lib.hid cL
        have CL' := Lib.hid cL'
        have CH := Lib.hid cH
        have CH' := Lib.hid cH'
        clear cJ cJ' cK cK' cL cL' cH cH' hJ hK hL ha okv hb'
        go_wp2_with fail
        refine (CJ.out _ ra rb).mono ?_
        rintro e w2 ⟨SJ, cJ, rfl, hs, hb⟩
        have hr1 := RdB.below hr1 hb
        have ra := RdT.below ra hb
        have rb := RdT.below rb hb
        have B := bstep B hb
        have rJ := RdT.of_own hs
        have kJ := own_cap hs
        clear hs
        go_wp2_with fail
        refine (CJ'.out _ ra rb).mono ?_
        rintro e w3 ⟨SJ1, cJ1, rfl, hs, hb⟩
        have hr1 := RdB.below hr1 hb
        have ra := RdT.below ra hb
        have rb := RdT.below rb hb
        have rJ := RdT.below rJ hb
        have B := bstep B hb
        have rJ1 := RdT.of_own hs
        have kJ1 := own_cap hs
        clear hs
        go_wp2_with fail
        refine (CK.out _ ra rb).mono ?_
        rintro e w4 ⟨SK, cK, rfl, hs, hb⟩
        have hr1 := RdB.below hr1 hb
        have ra := RdT.below ra hb
        have rb := RdT.below rb hb
        have rJ := RdT.below rJ hb
        have rJ1 := RdT.below rJ1 hb
        have B := bstep B hb
        have rK := RdT.of_own hs
        have kK := own_cap hs
        clear hs
        go_wp2_with fail
        refine (CK'.out _ ra rb).mono ?_
        rintro e w5 ⟨SK1, cK1, rfl, hs, hb⟩
        have hr1 := RdB.below hr1 hb
        have ra := RdT.below ra hb
        have rb := RdT.below rb hb
        have rJ := RdT.below rJ hb
        have rJ1 := RdT.below rJ1 hb
        have rK := RdT.below rK hb
        have B := bstep B hb
        have rK1 := RdT.of_own hs
        have kK1 := own_cap hs
        clear hs
        go_wp2_with fail
        refine (CL.out _ ra rb).mono ?_
        rintro e w6 ⟨SL, cL, rfl, hs, hb⟩
        have hr1 := RdB.below hr1 hb
        have ra := RdT.below ra hb
        have rb := RdT.below rb hb
        have rJ := RdT.below rJ hb
        have rJ1 := RdT.below rJ1 hb
        have rK := RdT.below rK hb
        have rK1 := RdT.below rK1 hb
        have B := bstep B hb
        have rL := RdT.of_own hs
        have kL := own_cap hs
        clear hs
        go_wp2_with fail
        refine (CL'.out _ ra rb).mono ?_
        rintro e w7 ⟨SL1, cL1, rfl, hs, hb⟩
        have hr1 := RdB.below hr1 hb
        have ra := RdT.below ra hb
        have rb := RdT.below rb hb
        have rJ := RdT.below rJ hb
        have rJ1 := RdT.below rJ1 hb
        have rK := RdT.below rK hb
        have rK1 := RdT.below rK1 hb
        have rL := RdT.below rL hb
        have B := bstep B hb
        have rL1 := RdT.of_own hs
        have kL1 := own_cap hs
        clear hs
        go_wp2_with fail
        refine (c_mTiles_same _ _ _ _ J _ rJ rJ1 (by omega)).mono ?_
        rintro e w8 ⟨rfl, hb⟩
        have hr1 := RdB.below hr1 hb
        have ra := RdT.below ra hb
        have rb := RdT.below rb hb
        have rJ := RdT.below rJ hb
        have rJ1 := RdT.below rJ1 hb
        have rK := RdT.below rK hb
        have rK1 := RdT.below rK1 hb
        have rL := RdT.below rL hb
        have rL1 := RdT.below rL1 hb
        have B := bstep B hb
        go_wp2_with fail
        refine (c_mTiles_same _ _ _ _ KT _ rK rK1 (by omega)).mono ?_
        rintro e w9 ⟨rfl, hb⟩
        have hr1 := RdB.below hr1 hb
        have ra := RdT.below ra hb
        have rb := RdT.below rb hb
        have rJ := RdT.below rJ hb
        have rJ1 := RdT.below rJ1 hb
        have rK := RdT.below rK hb
        have rK1 := RdT.below rK1 hb
        have rL := RdT.below rL hb
        have rL1 := RdT.below rL1 hb
        have B := bstep B hb
        go_wp2_with fail
        refine (c_mTiles_same _ _ _ _ L _ rL rL1 (by omega)).mono ?_
        rintro e w10 ⟨rfl, hb⟩
        have hr1 := RdB.below hr1 hb
        have ra := RdT.below ra hb
        have rb := RdT.below rb hb
        have rJ := RdT.below rJ hb
        have rJ1 := RdT.below rJ1 hb
        have rK := RdT.below rK hb
        have rK1 := RdT.below rK1 hb
        have rL := RdT.below rL hb
        have rL1 := RdT.below rL1 hb
        have B := bstep B hb
        clear rJ1 rK1 rL1
        go_wp2_with fail
        refine (CH.out _ ra).mono ?_
        rintro e w11 ⟨rfl, hb⟩
        have hr1 := RdB.below hr1 hb
        have ra := RdT.below ra hb
        have rb := RdT.below rb hb
        have rJ := RdT.below rJ hb
        have rK := RdT.below rK hb
        have rL := RdT.below rL hb
        have B := bstep B hb
        go_wp2_with fail
        refine (CH'.out _ rb).mono ?_
        rintro e w12 ⟨rfl, hb⟩
        have hr1 := RdB.below hr1 hb
        have ra := RdT.below ra hb
        have rb := RdT.below rb hb
        have rJ := RdT.below rJ hb
        have rK := RdT.below rK hb
        have rL := RdT.below rL hb
        have B := bstep B hb
        clear ra rb rJ rK rL lj lk ll
        as_aux_lemma =>
          go_wp2_with fail
          refine (c_DrawMissingFrom n1 c1 A1 _ hr1 (by omega)).mono ?_
          rintro e w13 ⟨SM, cM, hs0, n, rfl, hs, hlm, hnb, hb⟩
          have hr1 := RdB.below hr1 hb
          have B := bstep B hb
          have rM := RdT.of_own hs
          have kM := own_cap hs
          clear hs
          go_wp2_with fail
          refine (c_implMissingFrom _ _ hs0 n _ rM (by omega)).mono ?_
          rintro e w14 ⟨SN, cN, rfl, hs, hb⟩
          have hr1 := RdB.below hr1 hb
          have rM := RdT.below rM hb
          have B := bstep B hb
          have rN := RdT.of_own hs
          have kN := own_cap hs
          clear hs
          go_wp2_with fail
          refine (c_specMissingFrom _ _ hs0 n _ rM (by omega) kM).mono ?_
          rintro e w15 ⟨SO, cO, rfl, hs, hb⟩
          have hr1 := RdB.below hr1 hb
          have rM := RdT.below rM hb
          have rN := RdT.below rN hb
          have B := bstep B hb
          have rO := RdT.of_own hs
          have kO := own_cap hs
          clear hs
          have hml := missL_len hs0 n
          go_wp2_with fail
          refine (c_mTiles_same _ _ _ _ (missL hs0 n) _ rN rO (by omega)).mono ?_
          rintro e w16 ⟨rfl, hb⟩
          have hr1 := RdB.below hr1 hb
          have rM := RdT.below rM hb
          have rN := RdT.below rN hb
          have rO := RdT.below rO hb
          have B := bstep B hb
          by_cases hmiss : okMiss hs0 n = true
          · obtain ⟨f1, f2, f3, f4⟩ := miss_facts hmiss
            have conSet := fun W => c_implSetOf n W
            simp only [f4] at conSet
            have conCnt := fun W => c_implCountSet n W
            simp only [f4] at conCnt
            have conJn := fun W A2 d2 (h1 : RdT W A2 (missL hs0 n)) A3 d3 (h2 : RdT W A3 hs0) => c_implJoinHands A2 d2 (missL hs0 n) A3 d3 hs0 W h1 (by omega) h2 (by omega)
            simp only [f1, f2] at conJn
            have hq : (((missL hs0 n).length : Int) + hs0.length != countV n) = false := by rw [f3]; simp
            have iwq : IntKind.i64.wrap (((missL hs0 n).length : Int) + hs0.length) = ((missL hs0 n).length : Int) + hs0.length := IntWalk.i64_in _ (by omega)
            have ConSet := Lib.hid conSet
            have ConCnt := Lib.hid conCnt
            have ConJn := Lib.hid conJn
            rw [hmiss]
            have hsl2 := setOfL_len n
            clear f1 f2 f3 f4 conSet conCnt conJn hmiss
            go_wp2_with fail
            refine (ConSet.out _).mono ?_
            rintro e w17 ⟨SU, cU, rfl, hs, hb⟩
            have hr1 := RdB.below hr1 hb
            have rM := RdT.below rM hb
            have rN := RdT.below rN hb
            have rO := RdT.below rO hb
            have B := bstep B hb
            have rU := RdT.of_own hs
            have kU := own_cap hs
            clear hs
            go_wp2_with fail
            refine (ConJn.out _ _ _ rN _ _ rM).mono ?_
            rintro e w18 ⟨SV, cV, rfl, hs, hb⟩
            have hr1 := RdB.below hr1 hb
            have rM := RdT.below rM hb
            have rN := RdT.below rN hb
            have rO := RdT.below rO hb
            have rU := RdT.below rU hb
            have B := bstep B hb
            have rV := RdT.of_own hs
            have kV := own_cap hs
            clear hs
            go_wp2_with fail
            refine (ConCnt.out _).mono ?_
            rintro e w19 ⟨rfl, hb⟩
            have hr1 := RdB.below hr1 hb
            have rM := RdT.below rM hb
            have rN := RdT.below rN hb
            have rO := RdT.below rO hb
            have rU := RdT.below rU hb
            have rV := RdT.below rV hb
            have B := bstep B hb
            go_wp2_with fail
            refine (c_mTiles_same _ _ _ _ (setOfL n) _ rV rU (by omega)).mono ?_
            rintro e w20 ⟨rfl, hb⟩
            have hr1 := RdB.below hr1 hb
            have rM := RdT.below rM hb
            have rN := RdT.below rN hb
            have rO := RdT.below rO hb
            have rU := RdT.below rU hb
            have rV := RdT.below rV hb
            have B := bstep B hb
            clear rN rO rM rU rV hml
            as_aux_lemma =>
              go_wp2_with fail
              refine (c_DrawSortHand n1 c1 A1 _ hr1 (by omega)).mono ?_
              rintro e w21 ⟨SH, cH, ht, rfl, hs, hlh, hb⟩
              have hr1 := RdB.below hr1 hb
              have B := bstep B hb
              have rH := RdT.of_own hs
              have kH := own_cap hs
              clear hs
              go_wp2_with fail
              refine (c_implSortHand _ _ ht _ rH (by omega)).mono ?_
              rintro e w22 ⟨SP, cP, rfl, hs, hb⟩
              have rH := RdT.below rH hb
              have B := bstep B hb
              have rP := RdT.of_own hs
              have kP := own_cap hs
              clear hs
              go_wp2_with fail
              refine (c_specSortHand _ _ ht _ rH (by omega) kH).mono ?_
              rintro e w23 ⟨SQ, cQ, rfl, hs, hb⟩
              have rH := RdT.below rH hb
              have rP := RdT.below rP hb
              have B := bstep B hb
              have rQ := RdT.of_own hs
              have kQ := own_cap hs
              clear hs
              go_wp2_with fail
              refine (c_implPipsOf _ _ ht _ rH (by omega)).mono ?_
              rintro e w24 ⟨rfl, hb⟩
              have rH := RdT.below rH hb
              have rP := RdT.below rP hb
              have rQ := RdT.below rQ hb
              have B := bstep B hb
              go_wp2_with fail
              refine (c_specPipsOf _ _ ht _ rH (by omega) kH).mono ?_
              rintro e w25 ⟨rfl, hb⟩
              have rH := RdT.below rH hb
              have rP := RdT.below rP hb
              have rQ := RdT.below rQ hb
              have B := bstep B hb
              have hsl := sortHL_len ht
              go_wp2_with fail
              refine (c_mTiles_same _ _ _ _ (sortHL ht) _ rP rQ (by omega)).mono ?_
              rintro e w26 ⟨rfl, hb⟩
              have rH := RdT.below rH hb
              have rP := RdT.below rP hb
              have rQ := RdT.below rQ hb
              have B := bstep B hb
              go_wp2_with fail
              refine (c_implIsHand _ _ ht _ rH (by omega)).mono ?_
              rintro e w27 ⟨rfl, hb⟩
              have rH := RdT.below rH hb
              have rP := RdT.below rP hb
              have rQ := RdT.below rQ hb
              have B := bstep B hb
              go_wp2_with fail
              refine (c_specIsHand _ _ ht _ rH (by omega) kH).mono ?_
              rintro e w28 ⟨rfl, hb⟩
              have rH := RdT.below rH hb
              have rP := RdT.below rP hb
              have rQ := RdT.below rQ hb
              have B := bstep B hb
              go_wp2_with fail
              refine (c_implIsHand _ _ ht _ rH (by omega)).mono ?_
              rintro e w29 ⟨rfl, hb⟩
              have rH := RdT.below rH hb
              have rP := RdT.below rP hb
              have rQ := RdT.below rQ hb
              have B := bstep B hb
              go_wp2
              go_ret
              exact ⟨rfl, B⟩
          · have hmiss' : okMiss hs0 n = false := by simpa using hmiss
            rw [hmiss']
            clear hmiss hmiss' rN rO rM hml
            as_aux_lemma =>
              go_wp2_with fail
              refine (c_DrawSortHand n1 c1 A1 _ hr1 (by omega)).mono ?_
              rintro e w17 ⟨SH, cH, ht, rfl, hs, hlh, hb⟩
              have hr1 := RdB.below hr1 hb
              have B := bstep B hb
              have rH := RdT.of_own hs
              have kH := own_cap hs
              clear hs
              go_wp2_with fail
              refine (c_implSortHand _ _ ht _ rH (by omega)).mono ?_
              rintro e w18 ⟨SP, cP, rfl, hs, hb⟩
              have rH := RdT.below rH hb
              have B := bstep B hb
              have rP := RdT.of_own hs
              have kP := own_cap hs
              clear hs
              go_wp2_with fail
              refine (c_specSortHand _ _ ht _ rH (by omega) kH).mono ?_
              rintro e w19 ⟨SQ, cQ, rfl, hs, hb⟩
              have rH := RdT.below rH hb
              have rP := RdT.below rP hb
              have B := bstep B hb
              have rQ := RdT.of_own hs
              have kQ := own_cap hs
              clear hs
              go_wp2_with fail
              refine (c_implPipsOf _ _ ht _ rH (by omega)).mono ?_
              rintro e w20 ⟨rfl, hb⟩
              have rH := RdT.below rH hb
              have rP := RdT.below rP hb
              have rQ := RdT.below rQ hb
              have B := bstep B hb
              go_wp2_with fail
              refine (c_specPipsOf _ _ ht _ rH (by omega) kH).mono ?_
              rintro e w21 ⟨rfl, hb⟩
              have rH := RdT.below rH hb
              have rP := RdT.below rP hb
              have rQ := RdT.below rQ hb
              have B := bstep B hb
              have hsl := sortHL_len ht
              go_wp2_with fail
              refine (c_mTiles_same _ _ _ _ (sortHL ht) _ rP rQ (by omega)).mono ?_
              rintro e w22 ⟨rfl, hb⟩
              have rH := RdT.below rH hb
              have rP := RdT.below rP hb
              have rQ := RdT.below rQ hb
              have B := bstep B hb
              go_wp2_with fail
              refine (c_implIsHand _ _ ht _ rH (by omega)).mono ?_
              rintro e w23 ⟨rfl, hb⟩
              have rH := RdT.below rH hb
              have rP := RdT.below rP hb
              have rQ := RdT.below rQ hb
              have B := bstep B hb
              go_wp2_with fail
              refine (c_specIsHand _ _ ht _ rH (by omega) kH).mono ?_
              rintro e w24 ⟨rfl, hb⟩
              have rH := RdT.below rH hb
              have rP := RdT.below rP hb
              have rQ := RdT.below rQ hb
              have B := bstep B hb
              go_wp2_with fail
              refine (c_implIsHand _ _ ht _ rH (by omega)).mono ?_
              rintro e w25 ⟨rfl, hb⟩
              have rH := RdT.below rH hb
              have rP := RdT.below rP hb
              have rQ := RdT.below rQ hb
              have B := bstep B hb
              go_wp2
              go_ret
              exact ⟨rfl, B⟩
    · have ha : handB ts = false := by simpa using ha
      have okv : okAB ts us = false := by simp [okAB, ha]
      have cJ := fun W (h1 : RdT W A ts) (h2 : RdT W A' us) => c_implJoinHands A c ts A' c' us W h1 (by omega) h2 (by omega)
      have cJ' := fun W (h1 : RdT W A ts) (h2 : RdT W A' us) => c_specJoinHands A c ts A' c' us W h1 (by omega) ka h2 (by omega) kb
      have cK := fun W (h1 : RdT W A ts) (h2 : RdT W A' us) => c_implBothHands A c ts A' c' us W h1 (by omega) h2 (by omega)
      have cK' := fun W (h1 : RdT W A ts) (h2 : RdT W A' us) => c_specBothHands A c ts A' c' us W h1 (by omega) ka h2 (by omega) kb
      have cL := fun W (h1 : RdT W A ts) (h2 : RdT W A' us) => c_implLessHand A c ts A' c' us W h1 (by omega) h2 (by omega)
      have cL' := fun W (h1 : RdT W A ts) (h2 : RdT W A' us) => c_specLessHand A c ts A' c' us W h1 (by omega) ka h2 (by omega) kb
      have cH := fun W (h1 : RdT W A ts) => c_implIsHand A c ts W h1 (by omega)
      simp only [okv] at cJ cJ' cK cK' cL cL'
      simp only [ha] at cH
      obtain ⟨J, hJ⟩ : ∃ x, x = joinHL ts us := ⟨_, rfl⟩
      obtain ⟨KT, hK⟩ : ∃ x, x = bothHL ts us := ⟨_, rfl⟩
      obtain ⟨L, hL⟩ : ∃ x, x = lessHL ts us := ⟨_, rfl⟩
      simp only [← hJ] at cJ cJ'
      simp only [← hK] at cK cK'
      simp only [← hL] at cL cL'
      rw [← hJ] at lj
      rw [← hK] at lk
      rw [← hL] at ll
      have CJ := Lib.hid cJ
      have CJ' := Lib.hid cJ'
      have CK := Lib.hid cK
      have CK' := Lib.hid cK'
      have CL := Lib.hid cL
      have CL' := Lib.hid cL'
      have CH := Lib.hid cH
      clear cJ cJ' cK cK' cL cL' cH hJ hK hL ha okv
      go_wp2_with fail
      refine (CJ.out _ ra rb).mono ?_
      rintro e w2 ⟨SJ, cJ, rfl, hs, hb⟩
      have hr1 := RdB.below hr1 hb
      have ra := RdT.below ra hb
      have rb := RdT.below rb hb
      have B := bstep B hb
      have rJ := RdT.of_own hs
      have kJ := own_cap hs
      clear hs
      go_wp2_with fail
      refine (CJ'.out _ ra rb).mono ?_
      rintro e w3 ⟨SJ1, cJ1, rfl, hs, hb⟩
      have hr1 := RdB.below hr1 hb
      have ra := RdT.below ra hb
      have rb := RdT.below rb hb
      have rJ := RdT.below rJ hb
      have B := bstep B hb
      have rJ1 := RdT.of_own hs
      have kJ1 := own_cap hs
      clear hs
      go_wp2_with fail
      refine (CK.out _ ra rb).mono ?_
      rintro e w4 ⟨SK, cK, rfl, hs, hb⟩
      have hr1 := RdB.below hr1 hb
      have ra := RdT.below ra hb
      have rb := RdT.below rb hb
      have rJ := RdT.below rJ hb
      have rJ1 := RdT.below rJ1 hb
      have B := bstep B hb
      have rK := RdT.of_own hs
      have kK := own_cap hs
      clear hs
      go_wp2_with fail
      refine (CK'.out _ ra rb).mono ?_
      rintro e w5 ⟨SK1, cK1, rfl, hs, hb⟩
      have hr1 := RdB.below hr1 hb
      have ra := RdT.below ra hb
      have rb := RdT.below rb hb
      have rJ := RdT.below rJ hb
      have rJ1 := RdT.below rJ1 hb
      have rK := RdT.below rK hb
      have B := bstep B hb
      have rK1 := RdT.of_own hs
      have kK1 := own_cap hs
      clear hs
      go_wp2_with fail
      refine (CL.out _ ra rb).mono ?_
      rintro e w6 ⟨SL, cL, rfl, hs, hb⟩
      have hr1 := RdB.below hr1 hb
      have ra := RdT.below ra hb
      have rb := RdT.below rb hb
      have rJ := RdT.below rJ hb
      have rJ1 := RdT.below rJ1 hb
      have rK := RdT.below rK hb
      have rK1 := RdT.below rK1 hb
      have B := bstep B hb
      have rL := RdT.of_own hs
      have kL := own_cap hs
      clear hs
      go_wp2_with fail
      refine (CL'.out _ ra rb).mono ?_
      rintro e w7 ⟨SL1, cL1, rfl, hs, hb⟩
      have hr1 := RdB.below hr1 hb
      have ra := RdT.below ra hb
      have rb := RdT.below rb hb
      have rJ := RdT.below rJ hb
      have rJ1 := RdT.below rJ1 hb
      have rK := RdT.below rK hb
      have rK1 := RdT.below rK1 hb
      have rL := RdT.below rL hb
      have B := bstep B hb
      have rL1 := RdT.of_own hs
      have kL1 := own_cap hs
      clear hs
      go_wp2_with fail
      refine (c_mTiles_same _ _ _ _ J _ rJ rJ1 (by omega)).mono ?_
      rintro e w8 ⟨rfl, hb⟩
      have hr1 := RdB.below hr1 hb
      have ra := RdT.below ra hb
      have rb := RdT.below rb hb
      have rJ := RdT.below rJ hb
      have rJ1 := RdT.below rJ1 hb
      have rK := RdT.below rK hb
      have rK1 := RdT.below rK1 hb
      have rL := RdT.below rL hb
      have rL1 := RdT.below rL1 hb
      have B := bstep B hb
      go_wp2_with fail
      refine (c_mTiles_same _ _ _ _ KT _ rK rK1 (by omega)).mono ?_
      rintro e w9 ⟨rfl, hb⟩
      have hr1 := RdB.below hr1 hb
      have ra := RdT.below ra hb
      have rb := RdT.below rb hb
      have rJ := RdT.below rJ hb
      have rJ1 := RdT.below rJ1 hb
      have rK := RdT.below rK hb
      have rK1 := RdT.below rK1 hb
      have rL := RdT.below rL hb
      have rL1 := RdT.below rL1 hb
      have B := bstep B hb
      go_wp2_with fail
      refine (c_mTiles_same _ _ _ _ L _ rL rL1 (by omega)).mono ?_
      rintro e w10 ⟨rfl, hb⟩
      have hr1 := RdB.below hr1 hb
      have ra := RdT.below ra hb
      have rb := RdT.below rb hb
      have rJ := RdT.below rJ hb
      have rJ1 := RdT.below rJ1 hb
      have rK := RdT.below rK hb
      have rK1 := RdT.below rK1 hb
      have rL := RdT.below rL hb
      have rL1 := RdT.below rL1 hb
      have B := bstep B hb
      clear rJ1 rK1 rL1
      go_wp2_with fail
      refine (CH.out _ ra).mono ?_
      rintro e w11 ⟨rfl, hb⟩
      have hr1 := RdB.below hr1 hb
      have ra := RdT.below ra hb
      have rb := RdT.below rb hb
      have rJ := RdT.below rJ hb
      have rK := RdT.below rK hb
      have rL := RdT.below rL hb
      have B := bstep B hb
      clear ra rb rJ rK rL lj lk ll
      as_aux_lemma =>
        go_wp2_with fail
        refine (c_DrawMissingFrom n1 c1 A1 _ hr1 (by omega)).mono ?_
        rintro e w12 ⟨SM, cM, hs0, n, rfl, hs, hlm, hnb, hb⟩
        have hr1 := RdB.below hr1 hb
        have B := bstep B hb
        have rM := RdT.of_own hs
        have kM := own_cap hs
        clear hs
        go_wp2_with fail
        refine (c_implMissingFrom _ _ hs0 n _ rM (by omega)).mono ?_
        rintro e w13 ⟨SN, cN, rfl, hs, hb⟩
        have hr1 := RdB.below hr1 hb
        have rM := RdT.below rM hb
        have B := bstep B hb
        have rN := RdT.of_own hs
        have kN := own_cap hs
        clear hs
        go_wp2_with fail
        refine (c_specMissingFrom _ _ hs0 n _ rM (by omega) kM).mono ?_
        rintro e w14 ⟨SO, cO, rfl, hs, hb⟩
        have hr1 := RdB.below hr1 hb
        have rM := RdT.below rM hb
        have rN := RdT.below rN hb
        have B := bstep B hb
        have rO := RdT.of_own hs
        have kO := own_cap hs
        clear hs
        have hml := missL_len hs0 n
        go_wp2_with fail
        refine (c_mTiles_same _ _ _ _ (missL hs0 n) _ rN rO (by omega)).mono ?_
        rintro e w15 ⟨rfl, hb⟩
        have hr1 := RdB.below hr1 hb
        have rM := RdT.below rM hb
        have rN := RdT.below rN hb
        have rO := RdT.below rO hb
        have B := bstep B hb
        by_cases hmiss : okMiss hs0 n = true
        · obtain ⟨f1, f2, f3, f4⟩ := miss_facts hmiss
          have conSet := fun W => c_implSetOf n W
          simp only [f4] at conSet
          have conCnt := fun W => c_implCountSet n W
          simp only [f4] at conCnt
          have conJn := fun W A2 d2 (h1 : RdT W A2 (missL hs0 n)) A3 d3 (h2 : RdT W A3 hs0) => c_implJoinHands A2 d2 (missL hs0 n) A3 d3 hs0 W h1 (by omega) h2 (by omega)
          simp only [f1, f2] at conJn
          have hq : (((missL hs0 n).length : Int) + hs0.length != countV n) = false := by rw [f3]; simp
          have iwq : IntKind.i64.wrap (((missL hs0 n).length : Int) + hs0.length) = ((missL hs0 n).length : Int) + hs0.length := IntWalk.i64_in _ (by omega)
          have ConSet := Lib.hid conSet
          have ConCnt := Lib.hid conCnt
          have ConJn := Lib.hid conJn
          rw [hmiss]
          have hsl2 := setOfL_len n
          clear f1 f2 f3 f4 conSet conCnt conJn hmiss
          go_wp2_with fail
          refine (ConSet.out _).mono ?_
          rintro e w16 ⟨SU, cU, rfl, hs, hb⟩
          have hr1 := RdB.below hr1 hb
          have rM := RdT.below rM hb
          have rN := RdT.below rN hb
          have rO := RdT.below rO hb
          have B := bstep B hb
          have rU := RdT.of_own hs
          have kU := own_cap hs
          clear hs
          go_wp2_with fail
          refine (ConJn.out _ _ _ rN _ _ rM).mono ?_
          rintro e w17 ⟨SV, cV, rfl, hs, hb⟩
          have hr1 := RdB.below hr1 hb
          have rM := RdT.below rM hb
          have rN := RdT.below rN hb
          have rO := RdT.below rO hb
          have rU := RdT.below rU hb
          have B := bstep B hb
          have rV := RdT.of_own hs
          have kV := own_cap hs
          clear hs
          go_wp2_with fail
          refine (ConCnt.out _).mono ?_
          rintro e w18 ⟨rfl, hb⟩
          have hr1 := RdB.below hr1 hb
          have rM := RdT.below rM hb
          have rN := RdT.below rN hb
          have rO := RdT.below rO hb
          have rU := RdT.below rU hb
          have rV := RdT.below rV hb
          have B := bstep B hb
          go_wp2_with fail
          refine (c_mTiles_same _ _ _ _ (setOfL n) _ rV rU (by omega)).mono ?_
          rintro e w19 ⟨rfl, hb⟩
          have hr1 := RdB.below hr1 hb
          have rM := RdT.below rM hb
          have rN := RdT.below rN hb
          have rO := RdT.below rO hb
          have rU := RdT.below rU hb
          have rV := RdT.below rV hb
          have B := bstep B hb
          clear rN rO rM rU rV hml
          as_aux_lemma =>
            go_wp2_with fail
            refine (c_DrawSortHand n1 c1 A1 _ hr1 (by omega)).mono ?_
            rintro e w20 ⟨SH, cH, ht, rfl, hs, hlh, hb⟩
            have hr1 := RdB.below hr1 hb
            have B := bstep B hb
            have rH := RdT.of_own hs
            have kH := own_cap hs
            clear hs
            go_wp2_with fail
            refine (c_implSortHand _ _ ht _ rH (by omega)).mono ?_
            rintro e w21 ⟨SP, cP, rfl, hs, hb⟩
            have rH := RdT.below rH hb
            have B := bstep B hb
            have rP := RdT.of_own hs
            have kP := own_cap hs
            clear hs
            go_wp2_with fail
            refine (c_specSortHand _ _ ht _ rH (by omega) kH).mono ?_
            rintro e w22 ⟨SQ, cQ, rfl, hs, hb⟩
            have rH := RdT.below rH hb
            have rP := RdT.below rP hb
            have B := bstep B hb
            have rQ := RdT.of_own hs
            have kQ := own_cap hs
            clear hs
            go_wp2_with fail
            refine (c_implPipsOf _ _ ht _ rH (by omega)).mono ?_
            rintro e w23 ⟨rfl, hb⟩
            have rH := RdT.below rH hb
            have rP := RdT.below rP hb
            have rQ := RdT.below rQ hb
            have B := bstep B hb
            go_wp2_with fail
            refine (c_specPipsOf _ _ ht _ rH (by omega) kH).mono ?_
            rintro e w24 ⟨rfl, hb⟩
            have rH := RdT.below rH hb
            have rP := RdT.below rP hb
            have rQ := RdT.below rQ hb
            have B := bstep B hb
            have hsl := sortHL_len ht
            go_wp2_with fail
            refine (c_mTiles_same _ _ _ _ (sortHL ht) _ rP rQ (by omega)).mono ?_
            rintro e w25 ⟨rfl, hb⟩
            have rH := RdT.below rH hb
            have rP := RdT.below rP hb
            have rQ := RdT.below rQ hb
            have B := bstep B hb
            go_wp2_with fail
            refine (c_implIsHand _ _ ht _ rH (by omega)).mono ?_
            rintro e w26 ⟨rfl, hb⟩
            have rH := RdT.below rH hb
            have rP := RdT.below rP hb
            have rQ := RdT.below rQ hb
            have B := bstep B hb
            go_wp2_with fail
            refine (c_specIsHand _ _ ht _ rH (by omega) kH).mono ?_
            rintro e w27 ⟨rfl, hb⟩
            have rH := RdT.below rH hb
            have rP := RdT.below rP hb
            have rQ := RdT.below rQ hb
            have B := bstep B hb
            go_wp2_with fail
            refine (c_implIsHand _ _ ht _ rH (by omega)).mono ?_
            rintro e w28 ⟨rfl, hb⟩
            have rH := RdT.below rH hb
            have rP := RdT.below rP hb
            have rQ := RdT.below rQ hb
            have B := bstep B hb
            go_wp2
            go_ret
            exact ⟨rfl, B⟩
        · have hmiss' : okMiss hs0 n = false := by simpa using hmiss
          rw [hmiss']
          clear hmiss hmiss' rN rO rM hml
          as_aux_lemma =>
            go_wp2_with fail
            refine (c_DrawSortHand n1 c1 A1 _ hr1 (by omega)).mono ?_
            rintro e w16 ⟨SH, cH, ht, rfl, hs, hlh, hb⟩
            have hr1 := RdB.below hr1 hb
            have B := bstep B hb
            have rH := RdT.of_own hs
            have kH := own_cap hs
            clear hs
            go_wp2_with fail
            refine (c_implSortHand _ _ ht _ rH (by omega)).mono ?_
            rintro e w17 ⟨SP, cP, rfl, hs, hb⟩
            have rH := RdT.below rH hb
            have B := bstep B hb
            have rP := RdT.of_own hs
            have kP := own_cap hs
            clear hs
            go_wp2_with fail
            refine (c_specSortHand _ _ ht _ rH (by omega) kH).mono ?_
            rintro e w18 ⟨SQ, cQ, rfl, hs, hb⟩
            have rH := RdT.below rH hb
            have rP := RdT.below rP hb
            have B := bstep B hb
            have rQ := RdT.of_own hs
            have kQ := own_cap hs
            clear hs
            go_wp2_with fail
            refine (c_implPipsOf _ _ ht _ rH (by omega)).mono ?_
            rintro e w19 ⟨rfl, hb⟩
            have rH := RdT.below rH hb
            have rP := RdT.below rP hb
            have rQ := RdT.below rQ hb
            have B := bstep B hb
            go_wp2_with fail
            refine (c_specPipsOf _ _ ht _ rH (by omega) kH).mono ?_
            rintro e w20 ⟨rfl, hb⟩
            have rH := RdT.below rH hb
            have rP := RdT.below rP hb
            have rQ := RdT.below rQ hb
            have B := bstep B hb
            have hsl := sortHL_len ht
            go_wp2_with fail
            refine (c_mTiles_same _ _ _ _ (sortHL ht) _ rP rQ (by omega)).mono ?_
            rintro e w21 ⟨rfl, hb⟩
            have rH := RdT.below rH hb
            have rP := RdT.below rP hb
            have rQ := RdT.below rQ hb
            have B := bstep B hb
            go_wp2_with fail
            refine (c_implIsHand _ _ ht _ rH (by omega)).mono ?_
            rintro e w22 ⟨rfl, hb⟩
            have rH := RdT.below rH hb
            have rP := RdT.below rP hb
            have rQ := RdT.below rQ hb
            have B := bstep B hb
            go_wp2_with fail
            refine (c_specIsHand _ _ ht _ rH (by omega) kH).mono ?_
            rintro e w23 ⟨rfl, hb⟩
            have rH := RdT.below rH hb
            have rP := RdT.below rP hb
            have rQ := RdT.below rQ hb
            have B := bstep B hb
            go_wp2_with fail
            refine (c_implIsHand _ _ ht _ rH (by omega)).mono ?_
            rintro e w24 ⟨rfl, hb⟩
            have rH := RdT.below rH hb
            have rP := RdT.below rP hb
            have rQ := RdT.below rQ hb
            have B := bstep B hb
            go_wp2
            go_ret
            exact ⟨rfl, B⟩
  · have con := c_big_yes A0 A1 c0 c1 n0 n1 w hl0 hl1 (by omega)
    clear hbig
    go_enter Try.func3, Try.ntmps3
    go_wp2_with (go_at_call 4; refine con.mono ?_; rintro e w' ⟨rfl, rfl⟩)
    go_ret
    exact ⟨rfl, Below.refl _ _⟩

set_option maxRecDepth 100000 in
theorem lifted_FnHandsAsSets (os : Os) (started : os.Started) (H : Type) (enc : TypeId × Value → H) :
    ReturnsInHanded {} Try.checked os 3 .any (Rows.fnHandsAsSetsSpec.pre6 enc Try.prog Try.f3 Rows.fnHandsAsSetsRow.domain false) (Rows.fnHandsAsSetsSpec.post enc Try.prog Try.f3 false true false false) := by
  refine returnsInHanded_of_change (C := Try.checked) Try.own_ started (by kernel_rfl) Try.func3
    (ChangeSpec.witness6 (enc := enc) (C := Try.checked) false ⟨#[], #[.slice none 0 0, .slice none 0 0], []⟩ 8 (by kernel_rfl) (by kernel_rfl) (by kernel_rfl) (by kernel_rfl)) ?_
  intro W base args ds gs before hval0 hW hcnd _
  have hval : ∀ (j : Nat) t v, Try.f3.params[j]? = some t → args[j]? = some v → Value.okWide Try.prog W .any base t v := hval0
  have hW' := hW
  obtain ⟨p, q, hA0, hV, rfl, hfz, hnd⟩ := hW
  have hA : DataW.TrodAll enc Try.prog W 0 (fun _ => true) true Try.f3.params.toList args.toList ds p := hA0
  rw [Try.params3] at hA hval
  obtain ⟨v0, vs0, d0, ds0, p0, q0, hargs0, rfl, rfl, h0, r0⟩ := trodAll_cons hA
  obtain ⟨v1, vs1, d1, ds1, p1, q1, rfl, rfl, rfl, h1, r1⟩ := trodAll_cons r0
  obtain ⟨rfl, rfl, rfl⟩ := trodAll_nil r1
  obtain rfl : args = #[v0, v1] := by cases args; simp_all
  obtain ⟨rfl, rfl⟩ := trodVars_none hV
  obtain ⟨A0, c0, n0, rfl, hr0, hl0⟩ := open_bytes (hval 0 22 v0 rfl rfl) h0
  obtain ⟨A1, c1, n1, rfl, hr1, hl1⟩ := open_bytes (hval 1 22 v1 rfl rfl) h1
  refine (w_FnHandsAsSets A0 c0 n0 A1 c1 n1 W hr0 hl0 hr1 hl1).mono fun e W' ⟨he, hg⟩ => ?_
  subst he
  exact ⟨_, rfl, law_post rfl rfl (of_decide_eq_true (by kernel_rfl)) hW' rfl hg⟩

theorem fnHandsAsSets_holds : Rows.FnHandsAsSetsSaid :=
  OpenClaim.holds_of_wide 3 Try.f3 rfl rfl rfl rfl rfl rfl rfl ⟨rfl, rfl, rfl, rfl, rfl⟩ rfl rfl rfl rfl rfl (by kernel_rfl) Try.func3 (by kernel_rfl)
    (of_decide_eq_true (by kernel_rfl)) (by unfold Func.isWrapper; first | (rw [if_pos (by decide +kernel)]; kernel_rfl) | (rw [if_neg (by decide +kernel)]; exact ⟨rfl, rfl⟩))
    (fun os started H enc _ => lifted_FnHandsAsSets os started H enc)
#print axioms fnHandsAsSets_holds
end Go.Proofs.Ytllfjffcogpaiac

/- The texts of hands: the program's own. -/
import Derived.Test.YtjdnkcdnppcbhabDoorHText
namespace Go.Proofs.YtjdnkcdnppcbhabDoor
open Go.RowKit
set_option linter.unusedVariables false

theorem hd_good {ts : List (Int × Int)} (h : handB ts = true) : ts.length ≤ 55 ∧ ∀ t ∈ ts, goodB t.1 t.2 = true := ⟨(of_decide_eq_true h).1, (of_decide_eq_true h).2.1⟩
theorem hd_nums {ts : List (Int × Int)} (h : handB ts = true) : ∀ t ∈ ts, numB t.1 = true ∧ numB t.2 = true := fun t ht => by
  have := (hd_good h).2 t ht
  simp only [goodB, Bool.and_eq_true] at this
  exact ⟨this.1, this.2.1⟩
theorem nat_num {n : Int} (h : numB n = true) : ∃ m : Nat, m ≤ 9 ∧ n = m := by
  simp only [numB, Bool.and_eq_true, decide_eq_true_eq] at h
  exact ⟨n.toNat, by omega, by omega⟩
theorem set1_far {w : World} {b G : Nat} (h : b ≠ G) (i o : Nat) (u : Value) : (w.setCell ⟨G, i, none⟩ u).drew.cell? ⟨b, o, none⟩ = w.cell? ⟨b, o, none⟩ :=
  World.cell?_setCell_other _ _ _ _ (fun e => h (by injection e with e; exact e.symm))
theorem dec_dg {i : Nat} (h : i ≤ 9) : (⟨(Lib.decDigits i).toArray⟩ : ByteArray) = dgB (i : Int) := by
  rw [Lib.decDigits, dif_pos (by omega)]
  rfl
theorem c_itoaD (x : Int) (hx : numB x = true) (w : World) :
    Calls Tryd.prog 57 #[.int .i64 x] w fun e w' => e = .returned (.string (dgB x)) ∧ w' = w := by
  obtain ⟨i, hi, rfl⟩ := nat_num hx
  rw [← dec_dg hi]
  exact Tryd.strconv_Itoa_small i (by omega) w

def tileS (t : Int × Int) : ByteArray := dgB t.1 ++ dgB t.2
def cellsS (us : List ByteArray) : List Value := us.map Value.string
def copyS (k : Nat) (xs : List ByteArray) : List ByteArray := xs.take k ++ List.replicate (xs.length - k) ⟨#[]⟩
theorem copyS_all (xs : List ByteArray) : copyS xs.length xs = xs := by simp [copyS]
theorem copyS_length {k : Nat} {xs : List ByteArray} (h : k ≤ xs.length) : (copyS k xs).length = xs.length := by
  simp [copyS]
  omega
theorem cellsS_zero (n : Nat) : cellsS (List.replicate n ⟨#[]⟩) = (madeCells (Value.string ⟨#[]⟩).cells (n * 1)).toList := by
  rw [Nat.mul_one]
  exact (by simp [cellsS] : cellsS (List.replicate n ⟨#[]⟩) = List.replicate n (Value.string ⟨#[]⟩)).trans (toList_madeCells_one (.string ⟨#[]⟩) n).symm
theorem cellsS_step {k : Nat} {xs : List ByteArray} (h : k < xs.length) : (cellsS (copyS k xs)).set k (.string xs[k]) = cellsS (copyS (k + 1) xs) := by
  unfold copyS cellsS
  rw [show xs.length - k = (xs.length - (k + 1)) + 1 from by omega, List.replicate_succ, List.map_append, List.map_cons, List.take_succ_eq_append_getElem h, List.map_append, List.map_append]
  rw [List.set_append_right _ _ (by simp; omega)]
  simp [Nat.min_eq_left (Nat.le_of_lt h)]
theorem join_tileS (ts : List (Int × Int)) : (⟨(Lib.join ((ts.map tileS).map (·.data.toList)) (⟨#[44]⟩ : ByteArray).data.toList).toArray⟩ : ByteArray) = joinB ts := by
  have e : (ts.map tileS).map (·.data.toList) = ts.map tileU := by
    rw [List.map_map]
    apply List.map_congr_left
    intro t _
    show (dgB t.1 ++ dgB t.2).data.toList = tileU t
    rw [ByteArray.data_append]
    simp [dgB, tileU]
  rw [e]
  rfl
theorem Tryd.info_str : (Tryd.prog.info? 9).map (fun i => (i.zero, i.size, i.bytes)) = some (some (.string ⟨#[]⟩), 1, 16) := by kernel_rfl

set_option maxRecDepth 100000 in
set_option maxHeartbeats 1000000 in
theorem c_tileText (p q : Int) (hp : numB p = true) (hq : numB q = true) (w : World) :
    Calls Tryd.prog 43 #[.agg #[.int .i64 p, .int .i64 q]] w fun e w' => e = .returned (.string (dgB p ++ dgB q)) ∧ Below w.heap.size w w' := by
  have conP := Lib.hid (fun W => c_itoaD p hp W)
  have conQ := Lib.hid (fun W => c_itoaD q hq W)
  have sp := dgB_size p
  have sq := dgB_size q
  generalize dgB p = P at *
  generalize dgB q = R at *
  have x0 : (w.alloc (.cells #[.int .i64 p, .int .i64 q] 61)).cell? ⟨w.heap.size, 0, none⟩ = some (.int .i64 p) := by simp
  have x1 : (w.alloc (.cells #[.int .i64 p, .int .i64 q] 61)).cell? ⟨w.heap.size, 1, none⟩ = some (.int .i64 q) := by simp
  have hb0 : Below w.heap.size w (w.alloc (.cells #[.int .i64 p, .int .i64 q] 61)) := by go_grown
  have hadd : ¬ 9223372036854775807 < 1 + 1 := by omega
  clear hp hq
  go_enter Tryd.func43, Tryd.ntmps43
  go_wp2_with fail
  obtain ⟨wv, hwv⟩ : ∃ wv, wv = w.alloc (.cells #[.int .i64 p, .int .i64 q] 61) := ⟨_, rfl⟩
  rw [← hwv] at x0 x1 hb0 ⊢
  obtain ⟨G, hG⟩ : ∃ G, G = w.heap.size := ⟨_, rfl⟩
  rw [← hG] at x0 x1 ⊢
  have HG := Lib.hid hG
  clear hwv hG
  refine wp_region_held_drew (S := fun w' => w'.cell? ⟨G, 0, none⟩ = some (.int .i64 p) ∧ w'.cell? ⟨G, 1, none⟩ = some (.int .i64 q)) (by kernel_rfl) ⟨x0, x1⟩ (fun hH0 => ?_)
  refine reg_take 0 rfl (by kernel_rfl) (by kernel_rfl) (by kernel_rfl) (fun _ _ _ h => h) (by rfl) (fun w _ => by first | (go_simp; done) | (go_simp; with_reducible rfl)) (by assumption) ?_
  try simp only [Act.put, List.setIfInBounds_toArray, List.set_cons_zero, List.set_cons_succ, List.getElem_toArray, List.getElem_cons_zero]
  refine reg_take 1 rfl (by kernel_rfl) (by kernel_rfl) (by kernel_rfl) (fun _ _ _ h => h) (by rfl) (fun w hSw => by (try dsimp only at hSw); first | (go_simp; done) | (go_simp; with_reducible rfl)) (by assumption) ?_
  try simp only [Act.put, List.setIfInBounds_toArray, List.set_cons_zero, List.set_cons_succ, List.getElem_toArray, List.getElem_cons_zero, List.getElem_cons_succ]
  refine reg_take 3 rfl (by kernel_rfl) (by kernel_rfl) (by kernel_rfl) (fun _ _ _ h => h) (by rfl) (fun w _ => by first | (go_simp; done) | (go_simp; with_reducible rfl)) (by assumption) ?_
  try simp only [Act.put, List.setIfInBounds_toArray, List.set_cons_zero, List.set_cons_succ, List.getElem_toArray, List.getElem_cons_zero, List.getElem_cons_succ]
  refine reg_take 4 rfl (by kernel_rfl) (by kernel_rfl) (by kernel_rfl) (fun _ _ _ h => h) (by rfl) (fun w hSw => by (try dsimp only at hSw); first | (go_simp; done) | (go_simp; with_reducible rfl)) (by assumption) ?_
  try simp only [Act.put, List.setIfInBounds_toArray, List.set_cons_zero, List.set_cons_succ, List.getElem_toArray, List.getElem_cons_zero, List.getElem_cons_succ]
  refine wpAnyH_ready (rs := [2]) (by kernel_rfl) (by simp) ?_
  refine AllReadyH.cons (i := 2) rfl (fun K hK => ?_) AllReadyH.nil
  go_simp
  go_at_call 57
  refine (conP.out _).mono ?_
  rintro e w2 ⟨rfl, rfl⟩
  refine hK.out _ _ ⟨x0, x1⟩ (fun hH2 => ?_)
  clear hK K
  try simp only [Act.put, List.setIfInBounds_toArray, List.set_cons_zero, List.set_cons_succ, List.getElem_toArray, List.getElem_cons_zero, List.getElem_cons_succ]
  refine wpAnyH_ready (rs := [5]) (by kernel_rfl) (by simp) ?_
  refine AllReadyH.cons (i := 5) rfl (fun K hK => ?_) AllReadyH.nil
  go_simp
  go_at_call 57
  refine (conQ.out _).mono ?_
  rintro e w3 ⟨rfl, rfl⟩
  refine hK.out _ _ ⟨x0, x1⟩ (fun hH5 => ?_)
  clear hK K
  try simp only [Act.put, List.setIfInBounds_toArray, List.set_cons_zero, List.set_cons_succ, List.getElem_toArray, List.getElem_cons_zero, List.getElem_cons_succ]
  refine reg_take 6 rfl (by kernel_rfl) (by kernel_rfl) (by kernel_rfl) (fun _ _ _ h => h) (by rfl) (fun w _ => by first | (go_simp; done) | (go_simp; with_reducible rfl)) (by assumption) ?_
  try simp only [Act.put, List.setIfInBounds_toArray, List.set_cons_zero, List.set_cons_succ, List.getElem_toArray, List.getElem_cons_zero, List.getElem_cons_succ]
  refine reg_take 7 rfl (by kernel_rfl) (by kernel_rfl) (by kernel_rfl) (fun _ _ _ h => h) (by rfl) (fun w _ => by first | (go_simp; done) | (go_simp; with_reducible rfl)) (by assumption) ?_
  try simp only [Act.put, List.setIfInBounds_toArray, List.set_cons_zero, List.set_cons_succ, List.getElem_toArray, List.getElem_cons_zero, List.getElem_cons_succ]
  refine wpAnyH_done (by kernel_rfl) ?_ _
  go_wp2
  go_ret
  exact ⟨rfl, hb0.drew⟩

set_option maxRecDepth 100000 in
set_option maxHeartbeats 1000000 in
theorem c_implHandText (A : Option Addr) (c : Nat) (ts : List (Int × Int)) (w : World) (hr : RdT w A ts) (hl : ts.length ≤ 1048576) :
    Calls Tryd.prog 21 #[.slice A ts.length c] w fun e w' => e = .returned (.tuple #[.string (textHV ts), .bool (handB ts)]) ∧ Below w.heap.size w w' := by
  have con := Lib.hid (c_implIsHand A c ts w hr (by omega))
  cases hc : handB ts
  · have e1 : textHV ts = ⟨#[]⟩ := by simp [textHV, hc]
    rw [e1]
    rw [hc] at con
    clear e1 hc hr
    go_enter Tryd.func21, Tryd.ntmps21
    go_wp2_with (go_at_call 40; refine con.out.mono ?_; rintro e w1 ⟨rfl, hb1⟩)
    go_ret2
    exact ⟨rfl, hb1⟩
  · have e1 : textHV ts = textHB ts := by simp [textHV, hc]
    rw [e1]
    rw [hc] at con
    clear e1
    by_cases h00 : ts.length = 0
    · have hcc : ((ts.length : Int) == 0) = true := by rw [h00]; rfl
      have e1 : textHB ts = ⟨#[45]⟩ := if_pos (List.length_eq_zero_iff.1 h00)
      rw [e1]
      clear e1 h00 hr hc
      go_enter Tryd.func21, Tryd.ntmps21
      go_wp2_with (go_at_call 40; refine con.out.mono ?_; rintro e w1 ⟨rfl, hb1⟩)
      go_ret2
      exact ⟨rfl, hb1⟩
    · have hcc : ((ts.length : Int) == 0) = false := beq_eq_false_iff_ne.2 (by omega)
      have e1 : textHB ts = joinB ts := if_neg (fun h => h00 (by rw [h]; rfl))
      rw [e1]
      have hx55 := (hd_good hc).1
      have hnum := Lib.hid (fun k (hk : k < ts.length) => hd_nums hc _ (List.getElem_mem hk))
      have hjl := joinH_length ts
      have hje := join_tileS ts
      obtain ⟨ss, hss⟩ : ∃ ss : List ByteArray, ss = ts.map tileS := ⟨_, rfl⟩
      have hsl : ss.length = ts.length := by rw [hss]; simp
      have hsk := Lib.hid (fun k (hk : k < ts.length) (hk' : k < ss.length) => (show ss[k] = dgB ts[k].1 ++ dgB ts[k].2 from by subst hss; simp [tileS]))
      rw [← hss] at hje
      have Hje := Lib.hid hje
      have Hsl := Lib.hid hsl
      have hjl2 : (Lib.join (ss.map (·.data.toList)) (⟨#[44]⟩ : ByteArray).data.toList).length ≤ 140737488355328 := by
        have e := congrArg ByteArray.size hje
        have e2 := joinB_size ts
        have e3 : (⟨(Lib.join (ss.map (·.data.toList)) (⟨#[44]⟩ : ByteArray).data.toList).toArray⟩ : ByteArray).size = (Lib.join (ss.map (·.data.toList)) (⟨#[44]⟩ : ByteArray).data.toList).length := by
          show (Lib.join (ss.map (·.data.toList)) (⟨#[44]⟩ : ByteArray).data.toList).toArray.size = _
          simp only [List.size_toArray]
        omega
      obtain ⟨i0, hi, hz0, hz1, hz2⟩ := info_parts Tryd.info_str
      clear e1 hc hss hsl hje hjl h00
      go_enter Tryd.func21, Tryd.ntmps21
      go_wp2_with (first | (go_at_call 40; refine con.out.mono ?_; rintro e w1 ⟨rfl, hb1⟩) | (refine wpList_make_full _ rfl _ _ _ rfl w1.heap.size 9 i0 _ 1 Tryd.underlying69 hi hz0 hz1 .i64 .i64 _ _ ts.length rfl rfl rfl rfl (by rw [hz2]; omega) (by unfold maxLen; omega) (Nat.le_refl _) ?_; intro w2 hown2 hg2))
      have hown : w2.ownsRow w1.heap.size 9 1 (.slice (some ⟨w1.heap.size, 0, none⟩) ts.length ts.length) ts.length (cellsS (copyS 0 ss)) := by
        have e : copyS 0 ss = List.replicate ts.length ⟨#[]⟩ := by simp [copyS, Hsl.out]
        rw [e, cellsS_zero]
        exact hown2
      have hb2 : Below w1.heap.size w1 w2 := below_of_grown hg2 (Nat.le_refl _) (by simp)
      have hbb : Below w.heap.size w w2 := bstep hb1 hb2
      have hsz := hb1.size
      clear hown2 hg2 hb2 hb1 hz0 hz1 hz2 hi con
      go_loopw [18] (fun i wr => ∃ k : Nat, k ≤ ts.length ∧ i = .int .i64 k ∧ wr.ownsRow w1.heap.size 9 1 (.slice (some ⟨w1.heap.size, 0, none⟩) ts.length ts.length) ts.length (cellsS (copyS k ss)) ∧ Below w.heap.size w wr) (fun i _ => ts.length - (intOf i).toNat)
      case atStart => exact ⟨0, Nat.zero_le _, rfl, hown, hbb⟩
      case round =>
        clear hown hbb
        obtain ⟨k, hk, rfl, hown, hb⟩ := hrel
        by_cases hlt : k < ts.length
        · obtain ⟨bk, off, rfl, hbk, hcc2⟩ := hr.at_ hlt
          have g1 := (hb.cell (p := ⟨bk, _, none⟩) hbk).trans (hcc2 k hlt).1
          have g2 := (hb.cell (p := ⟨bk, _, none⟩) hbk).trans (hcc2 k hlt).2
          obtain ⟨hp, hq⟩ := hnum.out k hlt
          have hl2 : k < ss.length := by rw [Hsl.out]; exact hlt
          have hst := cellsS_step (xs := ss) hl2
          rw [hsk.out k hlt hl2] at hst
          generalize ts[k].1 = p at *
          generalize ts[k].2 = q at *
          have conT := Lib.hid (fun W => c_tileText p q hp hq W)
          generalize dgB p ++ dgB q = P at *
          have hcg : (cellsS (copyS k ss))[k]? = some (.string ((copyS k ss)[k]'(by rw [copyS_length (by omega)]; exact hl2))) := by
            simp [cellsS, copyS_length (show k ≤ ss.length by omega), hl2]
          generalize (copyS k ss)[k]'(by rw [copyS_length (by omega)]; exact hl2) = Z at hcg
          have Hst := Lib.hid hst
          have n1 : wr.heap.size ≠ w1.heap.size := by have := (hown.lt w1.heap.size rfl).2; omega
          have Hb := Lib.hid (hb.alloc (o := .cells #[.int .i64 p, .int .i64 q] 61) hb.size)
          have Ho := Lib.hid (hown.alloc (.cells #[.int .i64 p, .int .i64 q] 61))
          have x0 : (wr.alloc (.cells #[.int .i64 p, .int .i64 q] 61)).cell? ⟨wr.heap.size, 0, none⟩ = some (.int .i64 p) := by simp
          have x1 : (wr.alloc (.cells #[.int .i64 p, .int .i64 q] 61)).cell? ⟨wr.heap.size, 1, none⟩ = some (.int .i64 q) := by simp
          have x2 := (Ho.out.cellAt k (by omega)).trans hcg
          have f1 := Ho.out.frozenAt k
          have j0 : (0 : Int) ≤ (k : Int) := by omega
          have j1 : (k : Int) < (ts.length : Int) := by omega
          clear hcc2 hcg hown hb hst hr hp hq
          go_wp2_with (go_at_call 43; refine (conT.out _).mono ?_; rintro e w4 ⟨rfl, hb4⟩; have x3 := keepc hb4 x2; have f3 := (hb4.frozen (p := ⟨w1.heap.size, k, none⟩) (block_lt x2)).trans f1; have Ho4 := Lib.hid (own_keep Ho.out hb4); have Hb4 := Lib.hid (bstep Hb.out hb4); clear hb4)
          go_roundw
          case rel =>
            refine ⟨k + 1, by omega, by go_num, ?_, Below.setCell Hb4.out (p := ⟨w1.heap.size, k, none⟩) hsz _⟩
            rw [← Hst.out]
            exact (Ho4.out.stored _ _).1
          case measure => simp [intOf]; omega
        · obtain rfl : k = ts.length := by omega
          have e2 : copyS ts.length ss = ss := by rw [← Hsl.out]; exact copyS_all ss
          rw [e2] at hown
          have conJ := Tryd.strings_Join w1.heap.size 0 ts.length ss ⟨#[44]⟩ wr (fun j x hj => by
            obtain ⟨hj1, hj2⟩ := List.getElem?_eq_some_iff.1 hj
            have hj3 : j < ts.length := by rw [← Hsl.out]; exact hj1
            have e3 : (cellsS ss)[j]? = some (.string x) := by simp [cellsS, hj]
            have := (hown.cellAt j (by omega)).trans e3
            rw [Nat.zero_add]
            exact this) (hown.lt w1.heap.size rfl).2 (by rw [Hsl.out]; omega) (by rw [Hsl.out]; exact Nat.le_refl _) hjl2
          rw [Hsl.out, Hje.out] at conJ
          have ConJ := Lib.hid conJ
          clear conJ hr hown
          go_wp2_with (go_at_call 44; refine ConJ.out.mono ?_; rintro e w5 ⟨rfl, hb5⟩)
          go_ret2
          exact ⟨rfl, bstep hb hb5⟩

end Go.Proofs.YtjdnkcdnppcbhabDoor

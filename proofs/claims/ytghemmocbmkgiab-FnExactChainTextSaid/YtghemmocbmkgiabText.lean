/- The texts of chains. -/
import Derived.Test.YtghemmocbmkgiabChn
import Derived.Laws.IdiomStrings
namespace Go.Proofs.Ytghemmocbmkgiab
open Go.RowKit
set_option linter.unusedVariables false

/-- A number's digit. -/
def digU (x : Int) : UInt8 := UInt8.ofNat (48 + x.toNat)
theorem digU_nat {x : Int} (h : numB x = true) : ((digU x).toNat : Int) = 48 + x := by
  simp only [numB, Bool.and_eq_true, decide_eq_true_eq] at h
  unfold digU
  rw [UInt8.toNat_ofNat', Nat.mod_eq_of_lt (by omega)]
  omega
def textB (xs : List Int) : ByteArray := ⟨(xs.map digU).toArray⟩
theorem textB_snoc (xs : List Int) (x : Int) : textB (xs ++ [x]) = textB xs ++ textB [x] := by
  apply ByteArray.ext
  rw [ByteArray.data_append]
  simp [textB]
theorem textB_nil : textB [] = ⟨#[]⟩ := rfl
theorem textB_size (xs : List Int) : (textB xs).size = xs.length := by
  show (textB xs).data.size = xs.length
  simp [textB]
def textV (xs : List Int) : ByteArray := if chainB xs then textB xs else ⟨#[]⟩

def cellsU (us : List Int) : List Value := us.map (Value.int .u8)
theorem cellsU_zero (n : Nat) : cellsU (List.replicate n 0) = (madeCells (Value.int .u8 0).cells (n * 1)).toList := by
  rw [Nat.mul_one]
  exact (by simp [cellsU] : cellsU (List.replicate n 0) = List.replicate n (Value.int .u8 0)).trans (toList_madeCells_one (.int .u8 0) n).symm
theorem cellsU_step {k : Nat} {xs : List Int} (h : k < xs.length) : (cellsU (copyI k xs)).set k (.int .u8 xs[k]) = cellsU (copyI (k + 1) xs) := by
  unfold copyI cellsU
  rw [show xs.length - k = (xs.length - (k + 1)) + 1 from by omega, List.replicate_succ, List.map_append, List.map_cons, List.take_succ_eq_append_getElem h, List.map_append, List.map_append]
  rw [List.set_append_right _ _ (by simp; omega)]
  simp [Nat.min_eq_left (Nat.le_of_lt h)]
theorem addr_add (g j : Nat) : (⟨g, 0, none⟩ : Addr).add j = ⟨g, j, none⟩ := by
  unfold Addr.add
  split <;> simp_all

theorem Try.info_byte : (Try.prog.info? 5).map (fun i => (i.zero, i.size, i.bytes)) = some (some (.int .u8 0), 1, 1) := by kernel_rfl
theorem u8_in {x : Int} (h0 : 0 ≤ x) (h1 : x ≤ 255) : IntKind.u8.wrap x = x := by
  have : IntKind.u8.wrap x = x % 256 := rfl
  omega

set_option maxRecDepth 100000 in
set_option maxHeartbeats 1000000 in
theorem c_l1Num1 (x : Int) (hx : numB x = true) (w : World) :
    Calls Try.prog 162 #[.int .i64 x] w fun e w' => e = .returned (.string (textB [x])) ∧ Below w.heap.size w w' := by
  have hd := digU_nat hx
  have hx2 : 0 ≤ x ∧ x ≤ 9 := by simpa [numB] using hx
  have hrun : (convert 39 9 (.slice (some ⟨w.heap.size, 0, none⟩) 1 1)).run Try.prog (w.alloc (.cells #[.int .u8 (48 + x)] 5)) = .ok (.string (textB [x])) (w.alloc (.cells #[.int .u8 (48 + x)] 5)) :=
    run_convert_bytes_back _ 39 9 5 ⟨w.heap.size, 0, none⟩ 1 [digU x] Try.underlying39 Try.underlying5 Try.underlying9 (fun j hj => by
      obtain rfl : j = 0 := by simpa using hj
      rw [addr_add]
      simp [hd])
  have i1 := hx2.1
  have i2 := hx2.2
  have iw : IntKind.u8.wrap (48 + x) = 48 + x := u8_in (by omega) (by omega)
  clear hd hx hx2
  go_enter Try.func162, Try.ntmps162
  go_wp2
  go_ret
  exact ⟨rfl, by go_grown⟩

set_option maxRecDepth 100000 in
set_option maxHeartbeats 1000000 in
theorem c_haText (A : Option Addr) (c : Nat) (xs : List Int) (w : World) (hr : RdI w A xs) (hl : xs.length ≤ 56) (hn : ∀ x ∈ xs, numB x = true) :
    Calls Try.prog 135 #[.slice A xs.length c] w fun e w' => e = .returned (.string (textB xs)) ∧ Below w.heap.size w w' := by
  have e1 : textB xs = textB (xs.take xs.length) := by rw [List.take_length]
  rw [e1]
  clear e1
  have hnum := Lib.hid (fun k (hk : k < xs.length) => hn _ (List.getElem_mem hk))
  clear hn
  go_enter Try.func135, Try.ntmps135
  go_wp2
  go_loopw [3, 8] (fun v i wr => ∃ k : Nat, k ≤ xs.length ∧ i = .int .i64 k ∧ v = .string (textB (xs.take k)) ∧ Below w.heap.size w wr) (fun _ i _ => xs.length - (intOf i).toNat)
  case atStart => exact ⟨0, Nat.zero_le _, rfl, rfl, Below.refl _ _⟩
  case round =>
    obtain ⟨k, hk, rfl, rfl, hb⟩ := hrel
    by_cases hlt : k < xs.length
    · obtain ⟨bk, off, rfl, hbk, hc⟩ := hr.at_ hlt
      have g1 := (hb.cell (p := ⟨bk, _, none⟩) hbk).trans (hc k hlt)
      have hx := hnum.out k hlt
      have hst : textB (xs.take (k + 1)) = textB (xs.take k) ++ textB [xs[k]] := by rw [List.take_succ_eq_append_getElem hlt, textB_snoc]
      have hsz : (textB (xs.take k)).size ≤ 56 := by rw [textB_size]; simp; omega
      have hsz2 : (textB [xs[k]]).size ≤ 1 := by rw [textB_size]; simp
      generalize xs[k] = x at *
      have con := Lib.hid (fun W => c_l1Num1 x hx W)
      have Hst := Lib.hid hst
      have Hb := Lib.hid hb
      generalize textB (xs.take k) = T at *
      generalize textB [x] = D at *
      clear hc hr hb hst hx
      go_wp2_with (go_at_call 162; refine (con.out _).mono ?_; rintro e w2 ⟨rfl, hb2⟩)
      go_roundw
      case rel => exact ⟨k + 1, by omega, by go_num, by rw [Hst.out], bstep Hb.out hb2⟩
      case measure => simp [intOf]; omega
    · obtain rfl : k = xs.length := by omega
      go_wp2
      go_ret
      exact ⟨rfl, hb⟩

set_option maxRecDepth 100000 in
set_option maxHeartbeats 1000000 in
theorem c_specText (A : Option Addr) (c : Nat) (xs : List Int) (w : World) (hr : RdI w A xs) (hl : xs.length ≤ 1048576) :
    Calls Try.prog 74 #[.slice A xs.length c] w fun e w' => e = .returned (.tuple #[.string (textV xs), .bool (chainB xs)]) ∧ Below w.heap.size w w' := by
  have con := Lib.hid (c_haGood A c xs w hr (by omega))
  cases hc : chainB xs
  · have e1 : textV xs = ⟨#[]⟩ := by simp [textV, hc]
    rw [e1]
    rw [hc] at con
    clear e1 hc hr
    go_enter Try.func74, Try.ntmps74
    go_wp2_with (go_at_call 131; refine con.out.mono ?_; rintro e w1 ⟨rfl, hb1⟩)
    go_ret2
    exact ⟨rfl, hb1⟩
  · have e1 : textV xs = textB xs := by simp [textV, hc]
    rw [e1]
    rw [hc] at con
    have conT := Lib.hid (fun W (hb : Below w.heap.size w W) => c_haText A c xs W (hr.below hb) (chain_len hc).2 (chain_num hc))
    generalize textB xs = T at *
    clear e1 hc hr
    go_enter Try.func74, Try.ntmps74
    go_wp2_with (first | (go_at_call 131; refine con.out.mono ?_; rintro e w1 ⟨rfl, hb1⟩) | (go_at_call 135; refine (conT.out _ hb1).mono ?_; rintro e w2 ⟨rfl, hb2⟩))
    go_ret2
    exact ⟨rfl, bstep hb1 hb2⟩

set_option maxRecDepth 100000 in
set_option maxHeartbeats 1000000 in
theorem c_implText (A : Option Addr) (c : Nat) (xs : List Int) (w : World) (hr : RdI w A xs) (hl : xs.length ≤ 1048576) :
    Calls Try.prog 73 #[.slice A xs.length c] w fun e w' => e = .returned (.tuple #[.string (textV xs), .bool (chainB xs)]) ∧ Below w.heap.size w w' := by
  have con := Lib.hid (c_implIsChain A c xs w hr (by omega))
  cases hc : chainB xs
  · have e1 : textV xs = ⟨#[]⟩ := by simp [textV, hc]
    rw [e1]
    rw [hc] at con
    clear e1 hc hr
    go_enter Try.func73, Try.ntmps73
    go_wp2_with (go_at_call 77; refine con.out.mono ?_; rintro e w1 ⟨rfl, hb1⟩)
    go_ret2
    exact ⟨rfl, hb1⟩
  · have e1 : textV xs = textB xs := by simp [textV, hc]
    rw [e1]
    rw [hc] at con
    have hx56 := (chain_len hc).2
    have hnum := Lib.hid (fun k (hk : k < xs.length) => chain_num hc _ (List.getElem_mem hk))
    obtain ⟨ys, hys⟩ : ∃ ys : List Int, ys = xs.map (fun x => 48 + x) := ⟨_, rfl⟩
    have hyl : ys.length = xs.length := by rw [hys]; simp
    have hyk := Lib.hid (fun k (hk : k < xs.length) (hk' : k < ys.length) => (show ys[k] = 48 + xs[k] from by subst hys; simp))
    have Hyl := Lib.hid hyl
    obtain ⟨i0, hi, hz0, hz1, hz2⟩ := info_parts Try.info_byte
    clear e1 hc hys hyl
    go_enter Try.func73, Try.ntmps73
    go_wp2_with (first | (go_at_call 77; refine con.out.mono ?_; rintro e w1 ⟨rfl, hb1⟩) | (refine wpList_make_full _ rfl _ _ _ rfl w1.heap.size 5 i0 _ 1 Try.underlying39 hi hz0 hz1 .i64 .i64 _ _ xs.length rfl rfl rfl rfl (by rw [hz2]; omega) (by unfold maxLen; omega) (Nat.le_refl _) ?_; intro w2 hown2 hg2))
    have hown : w2.ownsRow w1.heap.size 5 1 (.slice (some ⟨w1.heap.size, 0, none⟩) xs.length xs.length) xs.length (cellsU (copyI 0 ys)) := by
      have e : copyI 0 ys = List.replicate xs.length 0 := by simp [copyI, Hyl.out]
      rw [e, cellsU_zero]
      exact hown2
    have hb2 : Below w1.heap.size w1 w2 := below_of_grown hg2 (Nat.le_refl _) (by simp)
    have hbb : Below w.heap.size w w2 := bstep hb1 hb2
    have hsz := hb1.size
    clear hown2 hg2 hb2 hb1 hz0 hz1 hz2 hi con
    go_loopw [15] (fun i wr => ∃ k : Nat, k ≤ xs.length ∧ i = .int .i64 k ∧ wr.ownsRow w1.heap.size 5 1 (.slice (some ⟨w1.heap.size, 0, none⟩) xs.length xs.length) xs.length (cellsU (copyI k ys)) ∧ Below w.heap.size w wr) (fun i _ => xs.length - (intOf i).toNat)
    case atStart => exact ⟨0, Nat.zero_le _, rfl, hown, hbb⟩
    case round =>
      clear hown hbb
      obtain ⟨k, hk, rfl, hown, hb⟩ := hrel
      by_cases hlt : k < xs.length
      · obtain ⟨bk, off, rfl, hbk, hc⟩ := hr.at_ hlt
        have g1 := (hb.cell (p := ⟨bk, _, none⟩) hbk).trans (hc k hlt)
        have hx := hnum.out k hlt
        have hl2 : k < ys.length := by rw [Hyl.out]; exact hlt
        have hst := cellsU_step (xs := ys) hl2
        rw [hyk.out k hlt hl2] at hst
        have hcg : (cellsU (copyI k ys))[k]? = some (.int .u8 ((copyI k ys)[k]'(by rw [copyI_length (by omega)]; exact hl2))) := by
          simp [cellsU, copyI_length (show k ≤ ys.length by omega), hl2]
        have x1 := (hown.cellAt k (by omega)).trans hcg
        have f1 := hown.frozenAt k
        generalize xs[k] = x at *
        have hx2 : 0 ≤ x ∧ x ≤ 9 := by simpa [numB] using hx
        have i1 := hx2.1
        have i2 := hx2.2
        have iw : IntKind.u8.wrap (48 + x) = 48 + x := u8_in (by omega) (by omega)
        have iw2 : IntKind.u8.wrap x = x := u8_in (by omega) (by omega)
        have Hst := Lib.hid hst
        have Hb := Lib.hid hb
        have Ho := Lib.hid hown
        clear hc hcg hown hb hst hr hx hx2
        go_wp2
        go_roundw
        case rel =>
          refine ⟨k + 1, by omega, by go_num, ?_, Hb.out.setCell hsz _⟩
          rw [← Hst.out]
          exact (Ho.out.stored _ _).1
        case measure => simp [intOf]; omega
      · obtain rfl : k = xs.length := by omega
        have e2 : copyI xs.length ys = ys := by rw [← Hyl.out]; exact copyI_all ys
        rw [e2] at hown
        have hml : (xs.map digU).length = xs.length := by simp
        have hrun : (convert 39 9 (.slice (some ⟨w1.heap.size, 0, none⟩) xs.length xs.length)).run Try.prog wr = .ok (.string (textB xs)) wr := by
          have := run_convert_bytes_back (P := Try.prog) wr 39 9 5 ⟨w1.heap.size, 0, none⟩ xs.length (xs.map digU) Try.underlying39 Try.underlying5 Try.underlying9 (fun j hj => by
            rw [hml] at hj
            have hj2 : j < ys.length := by rw [Hyl.out]; exact hj
            rw [addr_add, hown.cellAt j (by omega)]
            have e3 : (cellsU ys)[j]? = some (.int .u8 ys[j]) := by simp [cellsU, hj2]
            rw [e3, hyk.out j hj hj2, List.getElem_map, digU_nat (hnum.out j hj)])
          rw [hml] at this
          exact this
        clear hr hown
        go_wp2
        go_ret2
        exact ⟨rfl, hb⟩

end Go.Proofs.Ytghemmocbmkgiab

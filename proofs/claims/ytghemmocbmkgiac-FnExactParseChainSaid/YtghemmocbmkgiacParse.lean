/- Chains read out of their texts. -/
import Derived.Test.YtghemmocbmkgiacChn
namespace Go.Proofs.Ytghemmocbmkgiac
open Go.RowKit
set_option linter.unusedVariables false

def parseL (s : ByteArray) : List Int := s.data.toList.map fun b => (b.toNat : Int) - 48
theorem parseL_len (s : ByteArray) : (parseL s).length = s.size := by
  unfold parseL
  rw [List.length_map, Array.length_toList]
  rfl
theorem parseL_get {s : ByteArray} {k : Nat} (h : k < s.size) (h' : k < (parseL s).length) : (parseL s)[k] = (s[k].toNat : Int) - 48 := by
  simp only [parseL, List.getElem_map, Array.getElem_toList]
  rfl
def parseHL (s : ByteArray) : List Int := if chainB (parseL s) then parseL s else []
theorem parseHL_len (s : ByteArray) : (parseHL s).length ≤ 110 := by
  unfold parseHL
  split
  · rename_i h
    have := chain_len h
    omega
  · simp
def parH (ys : List Int) : List Int := if chainB ys then ys else []
theorem parH_no {ys : List Int} (h : chainB ys = false) : parH ys = [] := by simp [parH, h]
theorem parH_yes {ys : List Int} (h : chainB ys = true) : parH ys = ys := by simp [parH, h]
theorem byte_le (b : UInt8) : b.toNat ≤ 255 := by have := b.toNat_lt; omega
theorem u8_in' {x : Int} (h0 : 0 ≤ x) (h1 : x ≤ 255) : IntKind.u8.wrap x = x := by
  have : IntKind.u8.wrap x = x % 256 := rfl
  omega
def digsB (s : ByteArray) : Bool := decide (s.size ≤ 56) && decide (∀ x ∈ parseL s, numB x = true)
def digsL (s : ByteArray) : List Int := if digsB s then parseL s else []

set_option maxRecDepth 100000 in
set_option maxHeartbeats 1000000 in
theorem c_haParse (s : ByteArray) (w : World) (hl : s.size ≤ 1048576) :
    Calls Try.prog 9 #[.string s] w (RetI w (digsL s) (chainB (parseL s))) := by
  have hpl := parseL_len s
  by_cases h56 : s.size ≤ 56
  · have i56 : ¬ (56 : Int) < s.size := by omega
    have hgl := Lib.hid (fun k (h : k < s.size) (h' : k < (parseL s).length) => parseL_get h h')
    have hgood := Lib.hid (fun A' c' W (hr : RdI W A' (parseL s)) => c_haGood A' c' (parseL s) W hr (by omega))
    have Hpl := Lib.hid hpl
    have hdig := Lib.hid (show digsL s = (if digsB s then parseL s else []) from rfl)
    have hdb := Lib.hid (show digsB s = decide (∀ x ∈ parseL s, numB x = true) from by unfold digsB; rw [decide_eq_true h56]; rfl)
    clear hpl
    go_enter Try.func9, Try.ntmps9
    go_wp2
    go_loopw [4, 5] (fun v i wr => ∃ (k : Nat) (A' : Option Addr) (c' : Nat), k ≤ s.size ∧ i = .int .i64 k ∧ v = .slice A' k c' ∧ (∀ x ∈ (parseL s).take k, numB x = true) ∧ wr.ownsRow w.heap.size 3 1 (.slice A' k c') k (cellsI ((parseL s).take k)) ∧ Below w.heap.size w wr) (fun _ i _ => s.size - (intOf i).toNat)
    case atStart => exact ⟨0, none, 0, Nat.zero_le _, rfl, rfl, by simp, World.ownsRow_nil _ _ _ _, Below.refl _ _⟩
    case round =>
      obtain ⟨k, A', c', hk, rfl, rfl, hn, hown, hb⟩ := hrel
      by_cases hlt : k < s.size
      · have hlt' : k < (parseL s).length := by rw [Hpl.out]; exact hlt
        have hx := hgl.out k hlt hlt'
        have hbl := byte_le s[k]
        have hts := List.take_succ_eq_append_getElem hlt'
        rw [hx] at hts
        by_cases h1 : s[k].toNat < 48
        · have hbad := Lib.hid (chain_bad (xs := parseL s) hlt' (by rw [hx]; simp [numB]; omega))
          have hdf := Lib.hid (show digsL s = [] from by
            rw [hdig.out, hdb.out, decide_eq_false (fun h => by
              have := h _ (List.getElem_mem hlt')
              rw [hx] at this
              simp only [numB, Bool.and_eq_true, decide_eq_true_eq] at this
              omega)]
            rfl)
          have h1' : (s[k].toNat : Int) < 48 := by omega
          have Hb := Lib.hid hb
          clear hx hts hn hown hb
          go_wp2
          go_ret2
          rw [hdf.out, hbad.out]
          exact ⟨none, 0, rfl, World.ownsRow_nil _ _ _ _, Hb.out⟩
        · by_cases h2 : 57 < s[k].toNat
          · have hbad := Lib.hid (chain_bad (xs := parseL s) hlt' (by rw [hx]; simp [numB]; omega))
            have hdf := Lib.hid (show digsL s = [] from by
              rw [hdig.out, hdb.out, decide_eq_false (fun h => by
                have := h _ (List.getElem_mem hlt')
                rw [hx] at this
                simp only [numB, Bool.and_eq_true, decide_eq_true_eq] at this
                omega)]
              rfl)
            have h1' : ¬ (s[k].toNat : Int) < 48 := by omega
            have h2' : (57 : Int) < s[k].toNat := by omega
            have Hb := Lib.hid hb
            clear hx hts hn hown hb
            go_wp2
            go_ret2
            rw [hdf.out, hbad.out]
            exact ⟨none, 0, rfl, World.ownsRow_nil _ _ _ _, Hb.out⟩
          · have h1' : ¬ (s[k].toNat : Int) < 48 := by omega
            have h2' : ¬ (57 : Int) < s[k].toNat := by omega
            have iw : IntKind.u8.wrap ((s[k].toNat : Int) - 48) = (s[k].toNat : Int) - 48 := u8_in' (by omega) (by omega)
            have iw2 : IntKind.i64.wrap ((s[k].toNat : Int) - 48) = (s[k].toNat : Int) - 48 := IntWalk.i64_in _ (by omega)
            have Hts := Lib.hid hts
            have Hb := Lib.hid hb
            have hsz := hb.size
            have Hn := Lib.hid (show ∀ x ∈ (parseL s).take (k + 1), numB x = true from by
              rw [hts]
              intro x hx2
              rcases List.mem_append.1 hx2 with h | h
              · exact hn x h
              · rw [List.mem_singleton.1 h]; simp [numB]; omega)
            have hlen : ((parseL s).take k).length = k := by rw [List.length_take]; omega
            have hown' : wr.ownsRow w.heap.size 3 1 (.slice A' k c') ((parseL s).take k).length (cellsI ((parseL s).take k)) := by rw [hlen]; exact hown
            have Ho2 := Lib.hid (hown'.alloc (.cells #[.int .i64 ((s[k].toNat : Int) - 48)] 3))
            have Hlen := Lib.hid hlen
            generalize (parseL s).take k = L at *
            clear hx hts hn hown hb hown' hlen
            go_wp2_with (at_builtin; refine wp_append_int rfl _ _ rfl w.heap.size _ L rfl Ho2.out ((s[k].toNat : Int) - 48) wr.heap.size rfl (by simp) (by rw [Hlen.out]; omega) (by simp; omega) ?_; intro A2 c2 w3 hown3 hg3; rw [Hlen.out] at hown3; rw [Hlen.out])
            go_roundw
            case rel =>
              refine ⟨k + 1, A2, c2, by omega, by go_num, rfl, Hn.out, by rw [Hts.out]; exact hown3, ?_⟩
              have hb0 := Hb.out
              exact Below.grown (by go_grown) hg3 (by simp; omega) (fun g hg => (Ho2.out.lt g hg).1)
            case measure => simp [intOf]; omega
      · obtain rfl : k = s.size := by omega
        have e1 : (parseL s).take s.size = parseL s := by rw [← Hpl.out, List.take_length]
        rw [e1] at hn hown
        have hdt := Lib.hid (show digsL s = parseL s from by rw [hdig.out, hdb.out, decide_eq_true hn]; rfl)
        have hown' : wr.ownsRow w.heap.size 3 1 (.slice A' (parseL s).length c') (parseL s).length (cellsI (parseL s)) := by rw [Hpl.out]; exact hown
        have con := hgood.out A' c' wr (RdI.of_own hown')
        rw [Hpl.out] at con
        have Con := Lib.hid con
        have Ho := Lib.hid hown'
        clear con hn hown hown' e1
        go_wp2_with (go_at_call 11; refine Con.out.mono ?_; rintro e w2 ⟨rfl, hb2⟩)
        go_ret2
        rw [hdt.out]
        exact ⟨A', c', by rw [Hpl.out]; rfl, own_keep Ho.out hb2, bstep hb hb2⟩
  · have i56 : (56 : Int) < s.size := by omega
    have e1 : digsL s = [] := by
      unfold digsL digsB
      rw [decide_eq_false h56]
      rfl
    have e2 : chainB (parseL s) = false := chain_long (by omega)
    rw [e1, e2]
    clear e1 e2 h56 hpl
    go_enter Try.func9, Try.ntmps9
    go_wp2
    go_ret2
    exact ⟨none, 0, rfl, World.ownsRow_nil _ _ _ _, Below.refl _ _⟩

set_option maxRecDepth 100000 in
set_option maxHeartbeats 1000000 in
theorem c_specParse (s : ByteArray) (w : World) (hl : s.size ≤ 1048576) :
    Calls Try.prog 4 #[.string s] w (RetI w (parseHL s) (chainB (parseL s))) := by
  have con := Lib.hid (c_haParse s w hl)
  cases hc : chainB (parseL s)
  · have e1 : parseHL s = [] := by simp [parseHL, hc]
    rw [e1]
    rw [hc] at con
    generalize digsL s = D at *
    clear e1 hc
    go_enter Try.func4, Try.ntmps4
    go_wp2_with (go_at_call 9; refine con.out.mono ?_; rintro e w1 ⟨A1, c1, rfl, ho1, hb1⟩)
    go_ret2
    exact ⟨none, 0, rfl, World.ownsRow_nil _ _ _ _, hb1⟩
  · have e1 : parseHL s = parseL s := by simp [parseHL, hc]
    have e2 : digsL s = parseL s := by
      have h1 := (chain_len hc).2
      rw [parseL_len] at h1
      unfold digsL digsB
      rw [decide_eq_true h1, decide_eq_true (chain_num hc)]
      rfl
    rw [e1]
    rw [hc, e2] at con
    generalize parseL s = D at *
    clear e1 hc e2
    go_enter Try.func4, Try.ntmps4
    go_wp2_with (go_at_call 9; refine con.out.mono ?_; rintro e w1 ⟨A1, c1, rfl, ho1, hb1⟩)
    go_ret2
    exact ⟨A1, c1, rfl, ho1, hb1⟩

set_option maxRecDepth 100000 in
set_option maxHeartbeats 1000000 in
theorem c_implParse (s : ByteArray) (w : World) (hl : s.size ≤ 1048576) :
    Calls Try.prog 5 #[.string s] w (RetI w (parseHL s) (chainB (parseL s))) := by
  have hpl := parseL_len s
  by_cases h56 : s.size ≤ 56
  · have i56 : ¬ (56 : Int) < s.size := by omega
    have hgl := Lib.hid (fun k (h : k < s.size) (h' : k < (parseL s).length) => parseL_get h h')
    have hgood := Lib.hid (fun A' c' W (hr : RdI W A' (parseL s)) => c_implIsChain A' c' (parseL s) W hr (by omega))
    have Hpl := Lib.hid hpl
    obtain ⟨ys, hys⟩ : ∃ ys, ys = parseL s := ⟨_, rfl⟩
    have e0 : parseHL s = parH ys := by rw [hys]; rfl
    rw [e0]
    rw [← hys] at hgl hgood Hpl ⊢
    obtain ⟨i0, hi, hz0, hz1, hz2⟩ := info_parts Try.info_int
    clear hpl hys e0
    go_enter Try.func5, Try.ntmps5
    go_wp2_with (refine wpList_make_full _ rfl _ _ _ rfl w.heap.size 3 i0 _ 1 Try.underlying22 hi hz0 hz1 .i64 .i64 _ _ s.size rfl rfl rfl rfl (by rw [hz2]; omega) (by unfold maxLen; omega) (Nat.le_refl _) ?_; intro w1 hown1 hg1)
    have hown : w1.ownsRow w.heap.size 3 1 (.slice (some ⟨w.heap.size, 0, none⟩) s.size s.size) s.size (cellsI (copyI 0 ys)) := by
      rw [copyI_zero, Hpl.out]
      exact hown1
    have hb1 : Below w.heap.size w w1 := below_of_grown hg1 (Nat.le_refl _) (by simp)
    clear hown1 hg1 hz0 hz1 hz2 hi
    go_loopw [14] (fun i wr => ∃ k : Nat, k ≤ s.size ∧ i = .int .i64 k ∧ wr.ownsRow w.heap.size 3 1 (.slice (some ⟨w.heap.size, 0, none⟩) s.size s.size) s.size (cellsI (copyI k ys)) ∧ Below w.heap.size w wr) (fun i _ => s.size - (intOf i).toNat)
    case atStart => exact ⟨0, Nat.zero_le _, rfl, hown, hb1⟩
    case round =>
      clear hown hb1
      obtain ⟨k, hk, rfl, hown, hb⟩ := hrel
      by_cases hlt : k < s.size
      · have hlt' : k < ys.length := by rw [Hpl.out]; exact hlt
        have hbl := byte_le s[k]
        have hst := copyI_step (xs := ys) hlt'
        rw [hgl.out k hlt hlt'] at hst
        have hcg : (cellsI (copyI k ys))[k]? = some (.int .i64 ((copyI k ys)[k]'(by rw [copyI_length (by omega)]; exact hlt'))) := by
          simp [cellsI, copyI_length (show k ≤ ys.length by omega), hlt']
        have x1 := (hown.cellAt k (by omega)).trans hcg
        have f1 := hown.frozenAt k
        have hbl2 : (s[k].toNat : Int) ≤ 255 := by omega
        have iw2 : IntKind.i64.wrap ((s[k].toNat : Int) - 48) = (s[k].toNat : Int) - 48 := IntWalk.i64_in _ (by omega)
        have iw3 : IntKind.i64.wrap (s[k].toNat : Int) = (s[k].toNat : Int) := IntWalk.i64_in _ (by omega)
        have Hst := Lib.hid hst
        have Hb := Lib.hid hb
        have Ho := Lib.hid hown
        clear hcg hown hb hst
        go_wp2
        go_roundw
        case rel =>
          refine ⟨k + 1, by omega, by go_num, ?_, Hb.out.setCell (Nat.le_refl _) _⟩
          rw [← Hst.out]
          exact (Ho.out.stored _ _).1
        case measure => simp [intOf]; omega
      · obtain rfl : k = s.size := by omega
        have e1 : copyI s.size ys = ys := by rw [← Hpl.out]; exact copyI_all ys
        rw [e1] at hown
        have hown' : wr.ownsRow w.heap.size 3 1 (.slice (some ⟨w.heap.size, 0, none⟩) ys.length s.size) ys.length (cellsI ys) := by rw [Hpl.out]; exact hown
        have con := hgood.out _ s.size wr (RdI.of_own hown')
        rw [Hpl.out] at con
        have Ho := Lib.hid hown'
        cases hc : chainB ys
        · rw [hc] at con
          have Con := Lib.hid con
          have Hc := Lib.hid hc
          clear con hown hown' e1 hc
          go_wp2_with (go_at_call 10; refine Con.out.mono ?_; rintro e w2 ⟨rfl, hb2⟩)
          go_ret2
          rw [Hc.out, parH_no Hc.out]
          exact ⟨none, 0, rfl, World.ownsRow_nil _ _ _ _, bstep hb hb2⟩
        · rw [hc] at con
          have Con := Lib.hid con
          have Hc := Lib.hid hc
          clear con hown hown' e1 hc
          go_wp2_with (go_at_call 10; refine Con.out.mono ?_; rintro e w2 ⟨rfl, hb2⟩)
          go_ret2
          rw [Hc.out, parH_yes Hc.out]
          exact ⟨_, s.size, by rw [Hpl.out]; rfl, own_keep Ho.out hb2, bstep hb hb2⟩
  · have i56 : (56 : Int) < s.size := by omega
    have e2 : chainB (parseL s) = false := chain_long (by omega)
    have e1 : parseHL s = [] := by simp [parseHL, e2]
    rw [e1, e2]
    clear e1 e2 h56 hpl
    go_enter Try.func5, Try.ntmps5
    go_wp2
    go_ret2
    exact ⟨none, 0, rfl, World.ownsRow_nil _ _ _ _, Below.refl _ _⟩

end Go.Proofs.Ytghemmocbmkgiac

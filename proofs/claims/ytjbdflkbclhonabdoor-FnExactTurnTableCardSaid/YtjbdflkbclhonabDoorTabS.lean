/- Tables read: the specification's. -/
import Derived.Test.YtjbdflkbclhonabDoorTStr
import Derived.Test.YtjbdflkbclhonabDoorRegS
namespace Go.Proofs.YtjbdflkbclhonabDoor
open Go.RowKit
set_option linter.unusedVariables false

theorem mem_le_sum {a : Nat} : ∀ {l : List Nat}, a ∈ l → a ≤ l.sum
  | b :: l, h => by
    rcases List.mem_cons.1 h with rfl | h
    · simp
    · have := mem_le_sum h; simp; omega
theorem rows_us {s : ByteArray} {us : List ByteArray} (h : us.map (·.data.toList) = rowsOf s) : us.length = (rowsOf s).length ∧ 0 < us.length := by
  have h1 := congrArg List.length h
  rw [List.length_map] at h1
  have := List.length_pos_iff.2 (rowsOf_ne s)
  exact ⟨h1, by omega⟩
theorem row_at {s : ByteArray} {us : List ByteArray} (h : us.map (·.data.toList) = rowsOf s) {k : Nat} (hk : k < us.length) : ∃ hk' : k < (rowsOf s).length, (rowsOf s)[k] = us[k].data.toList := by
  have hl := (rows_us h).1
  refine ⟨by omega, ?_⟩
  have : (us.map (·.data.toList))[k]? = (rowsOf s)[k]? := by rw [h]
  rw [List.getElem?_map, List.getElem?_eq_getElem hk, List.getElem?_eq_getElem (by omega)] at this
  simpa using this.symm
theorem wid_us {s : ByteArray} {us : List ByteArray} (h : us.map (·.data.toList) = rowsOf s) (h0 : 0 < us.length) : widR (rowsOf s) = us[0].size := by
  obtain ⟨h1, h2⟩ := row_at h h0
  unfold widR
  rw [List.headD_eq_head?_getD, List.head?_eq_getElem?, List.getElem?_eq_getElem h1, h2]
  simp
/-- A row of no or of another length. -/
theorem grid_bad {s : ByteArray} {us : List ByteArray} (h : us.map (·.data.toList) = rowsOf s) (h0 : 0 < us.length) {k : Nat} (hk : k < us.length) (hb : us[k].size = 0 ∨ us[k].size ≠ us[0].size) : gridB s = false := by
  cases hg : gridB s
  · rfl
  · obtain ⟨h1, h2, _⟩ := evenR_iff.1 hg
    rw [wid_us h h0] at h1 h2
    obtain ⟨h3, h4⟩ := row_at h hk
    have := h1 _ (List.getElem_mem h3)
    rw [h4] at this
    simp at this
    omega
theorem grid_same {s : ByteArray} {us : List ByteArray} (h : us.map (·.data.toList) = rowsOf s) (h0 : 0 < us.length) (ha : ∀ k (hk : k < us.length), us[k].size = us[0].size) (hz : us[0].size ≠ 0) :
    gridB s = (decide ((us.length * us[0].size) % 2 = 0) && decide (us.length * us[0].size ≤ 30)) := by
  rw [Bool.eq_iff_iff]
  unfold gridB
  rw [evenR_iff, wid_us h h0, ← (rows_us h).1]
  simp only [Bool.and_eq_true, decide_eq_true_eq]
  constructor
  · rintro ⟨_, _, h3, h4⟩; exact ⟨h3, h4⟩
  · rintro ⟨h3, h4⟩
    refine ⟨fun r hr => ?_, by omega, h3, h4⟩
    obtain ⟨k, hk, rfl⟩ := List.getElem_of_mem hr
    obtain ⟨h5, h6⟩ := row_at h (k := k) (by rw [(rows_us h).1]; exact hk)
    rw [h6]
    simpa using ha k (by rw [(rows_us h).1]; exact hk)

def RetRows (w : World) (s : ByteArray) (e : Ending) (w' : World) : Prop :=
  ∃ (us : List ByteArray) (A : Option Addr) (c : Nat), e = .returned (.tuple #[.slice A us.length c, .bool (gridB s)]) ∧ (gridB s = true → us.map (·.data.toList) = rowsOf s ∧ w'.ownsRow w.heap.size 9 1 (.slice A us.length c) us.length (cellsW us)) ∧ Below w.heap.size w w'
theorem cellsW_get {us : List ByteArray} {k : Nat} (h : k < us.length) : (cellsW us)[k]? = some (.string us[k]) := by simp [cellsW, h]
/-- A row of texts, read. -/
theorem ownW_at {w : World} {base : Nat} {A : Option Addr} {c : Nat} {us : List ByteArray} (h : w.ownsRow base 9 1 (.slice A us.length c) us.length (cellsW us)) (h0 : 0 < us.length) :
    ∃ g, A = some ⟨g, 0, none⟩ ∧ base ≤ g ∧ g < w.heap.size ∧ ∀ k (hk : k < us.length), w.cell? ⟨g, k, none⟩ = some (.string us[k]) := by
  have h' := h
  obtain ⟨hl, ⟨hv, hn⟩ | ⟨g, cap, cur, hv, hb, hh, r⟩⟩ := h'
  · omega
  · cases hv
    refine ⟨g, rfl, hb, (Array.getElem?_eq_some_iff.1 hh).1, fun k hk => ?_⟩
    rw [h.cellAt k (by omega), cellsW_get hk]

set_option maxRecDepth 100000 in
set_option maxHeartbeats 1500000 in
theorem c_taRows (s : ByteArray) (w : World) (hl : s.size ≤ 1048576) : Calls Tryd.prog 44 #[.string s] w (RetRows w s) := by
  by_cases hbig : (60 : Int) < s.size
  · have hg : gridB s = false := by
      cases h : gridB s
      · rfl
      · have := gridB_size h; omega
    unfold RetRows
    rw [hg]
    clear hg
    go_enter Tryd.func44, Tryd.ntmps44
    go_wp2
    go_ret2
    exact ⟨[], none, 0, rfl, fun h => (by cases h), by go_grown⟩
  · have con := Lib.hid (c_l1SplitW s w hl)
    have hsz : s.size ≤ 60 := by omega
    go_enter Tryd.func44, Tryd.ntmps44
    go_wp2_with (go_at_call 60; refine con.out.mono ?_; rintro e w1 ⟨us, A, c, rfl, hus, hul, hown, hb1⟩)
    have h0 := (rows_us hus).2
    have hlen : us.length ≤ 61 := by
      have h1 := rowsW_size s.data.toList
      have h2 : (rowsW s.data.toList).length = us.length := by rw [← hus, List.length_map]
      have h3 : s.data.toList.length = s.size := by simp
      omega
    obtain ⟨g, rfl, hgb, hgl, hcell⟩ := ownW_at hown h0
    have Hown := Lib.hid hown
    have Hus := Lib.hid hus
    have c0 := hcell 0 h0
    have hu0 : us[0].size ≤ 60 := by
      have h1 := rowsW_size s.data.toList
      have h2 : us[0].data.toList ∈ rowsW s.data.toList := by rw [← hus]; exact List.mem_map_of_mem (List.getElem_mem h0)
      have h3 : s.data.toList.length = s.size := by simp
      have h4 : us[0].data.toList.length ≤ ((rowsW s.data.toList).map List.length).sum := mem_le_sum (List.mem_map_of_mem h2)
      have h6 := List.length_pos_iff.2 (rowsW_ne s.data.toList)
      have h5 : us[0].data.toList.length = us[0].size := by simp
      omega
    have Hcell := Lib.hid hcell
    have Hb := Lib.hid hb1
    have j0 : (0 : Int) ≤ (0 : Int) := by omega
    have j1 : (0 : Int) < (us.length : Int) := by omega
    have hbad := Lib.hid (fun k (hk : k < us.length) h => grid_bad (s := s) hus h0 hk h)
    have hsame := Lib.hid (fun h1 h2 => grid_same (s := s) hus h0 h1 h2)
    clear hown hus hcell hb1 con
    go_loopw [15] (fun i wr => ∃ k : Nat, k ≤ us.length ∧ i = .int .i64 k ∧ (∀ j (hj : j < us.length), j < k → us[j].size = us[0].size) ∧ (0 < k → us[0].size ≠ 0) ∧ wr = w1) (fun i _ => us.length - (intOf i).toNat)
    case atStart => exact ⟨0, Nat.zero_le _, rfl, by omega, by omega, rfl⟩
    case round =>
      obtain ⟨k, hk, rfl, hall, hz, rfl⟩ := hrel
      by_cases hlt : k < us.length
      · have ck := Hcell.out k hlt
        have bad := Lib.hid (hbad.out k hlt)
        have Hall := Lib.hid hall
        have Hz := Lib.hid hz
        have i2 : (k : Int) < (us.length : Int) := by omega
        by_cases hz0 : us[k].size = 0
        · have hq : ((us[k].size : Int) == 0) = true := by simp [hz0]
          have hg := bad.out (.inl hz0)
          unfold RetRows
          rw [hg]
          clear hg hz0 hall hz
          go_wp2
          go_ret2
          exact ⟨[], none, 0, rfl, fun h => (by cases h), Hb.out⟩
        · have hq : ((us[k].size : Int) == 0) = false := by simp [hz0]
          by_cases hne : us[k].size = us[0].size
          · have hq2 : ((us[k].size : Int) != (us[0].size : Int)) = false := by simp [hne]
            have Hne := Lib.hid hne
            have Hz0 := Lib.hid hz0
            clear hne hz0 hall hz
            go_wp2
            go_roundw
            case rel =>
              refine ⟨k + 1, by omega, by go_num, fun j hj hjk => ?_, fun _ => by rw [← Hne.out]; exact Hz0.out, trivial⟩
              rcases Nat.lt_succ_iff_lt_or_eq.1 hjk with h | rfl
              · exact Hall.out j hj h
              · exact Hne.out
            case measure => simp [intOf]; omega
          · have hq2 : ((us[k].size : Int) != (us[0].size : Int)) = true := by simp; omega
            have hg := bad.out (.inr hne)
            unfold RetRows
            rw [hg]
            clear hg hne hz0 hall hz
            go_wp2
            go_ret2
            exact ⟨[], none, 0, rfl, fun h => (by cases h), Hb.out⟩
      · have hke : k = us.length := by omega
        subst hke
        have hg := hsame.out (fun j hj => hall j hj hj) (hz h0)
        clear hall hz hlt hk
        have hmul : us.length * us[0].size ≤ 61 * 60 := Nat.mul_le_mul hlen hu0
        obtain ⟨n, hn⟩ : ∃ n : Nat, us.length * us[0].size = n := ⟨_, rfl⟩
        rw [hn] at hg hmul
        have hnI : (us.length : Int) * (us[0].size : Int) = (n : Int) := by rw [← hn]; simp
        have iw : IntKind.i64.wrap ((us.length : Int) * (us[0].size : Int)) = (n : Int) := by rw [hnI]; exact IntWalk.i64_in _ (by omega)
        have n0 : (0 : Int) ≤ (n : Int) := by omega
        have Hg := Lib.hid hg
        clear hn hnI hg
        by_cases hm : n % 2 = 0
        · have q1 : ((n : Int) % 2 == 0) = true := by simp; omega
          by_cases h30 : n ≤ 30
          · have q2 : (n : Int) ≤ 30 := by omega
            have hg : gridB s = true := by rw [Hg.out, decide_eq_true hm, decide_eq_true h30]; rfl
            have HG := Lib.hid hg
            clear hg hm h30
            go_wp2
            go_ret2
            unfold RetRows
            rw [HG.out]
            exact ⟨us, some ⟨g, 0, none⟩, c, rfl, fun _ => ⟨Hus.out, Hown.out⟩, Hb.out⟩
          · have q2 : ¬ (n : Int) ≤ 30 := by omega
            have hg : gridB s = false := by rw [Hg.out, decide_eq_false h30, Bool.and_false]
            have HG := Lib.hid hg
            clear hg hm h30
            go_wp2
            go_ret2
            unfold RetRows
            rw [HG.out]
            exact ⟨us, some ⟨g, 0, none⟩, c, rfl, fun h => (by cases h), Hb.out⟩
        · have q1 : ((n : Int) % 2 == 0) = false := by simp; omega
          have hg : gridB s = false := by rw [Hg.out, decide_eq_false hm, Bool.false_and]
          have HG := Lib.hid hg
          clear hg hm
          go_wp2
          go_ret2
          unfold RetRows
          rw [HG.out]
          exact ⟨us, some ⟨g, 0, none⟩, c, rfl, fun h => (by cases h), Hb.out⟩
end Go.Proofs.YtjbdflkbclhonabDoor

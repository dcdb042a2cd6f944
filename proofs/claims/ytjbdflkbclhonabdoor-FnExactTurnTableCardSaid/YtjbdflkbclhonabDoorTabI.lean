/- Tables read: the program's. -/
import Derived.Test.YtjbdflkbclhonabDoorTabR
import Derived.Test.YtjbdflkbclhonabDoorShelf
import Derived.Laws.IdiomStrings
namespace Go.Proofs.YtjbdflkbclhonabDoor
open Go.RowKit
set_option linter.unusedVariables false

/-- A slice that reads as bytes and may be written. -/
def RdU (w : World) (A : Option Addr) (L : List UInt8) : Prop :=
  ∃ b off, (L ≠ [] → A = some ⟨b, off, none⟩) ∧ ∀ k (h : k < L.length), w.cell? ⟨b, off + k, none⟩ = some (.int .u8 (L[k].toNat : Int))
theorem RdU.nil_ (w : World) : RdU w none [] := ⟨0, 0, fun h => absurd rfl h, fun k h => by simp at h⟩
theorem RdU.below {w w' : World} {A : Option Addr} {L : List UInt8} (h : RdU w A L) (hb : Below w.heap.size w w') : RdU w' A L := by
  obtain ⟨b, off, h1, h2⟩ := h
  exact ⟨b, off, h1, fun k hk => (hb.cell (World.block_lt_of_cell? _ _ (h2 k hk))).trans (h2 k hk)⟩
theorem RdU.at_ {w : World} {A : Option Addr} {L : List UInt8} (h : RdU w A L) {k : Nat} (hk : k < L.length) : ∃ b off, A = some ⟨b, off, none⟩ ∧ b < w.heap.size ∧ ∀ k (h : k < L.length), w.cell? ⟨b, off + k, none⟩ = some (.int .u8 (L[k].toNat : Int)) := by
  obtain ⟨b, off, h1, h2⟩ := h
  exact ⟨b, off, h1 (by rintro rfl; simp at hk), World.block_lt_of_cell? _ _ (h2 k hk), h2⟩

/-- A row of bytes in a block from base on, not marked. -/
def OwnU (w : World) (base : Nat) (A : Option Addr) (L : List UInt8) : Prop :=
  (L = [] ∧ A = none) ∨ ∃ g, A = some ⟨g, 0, none⟩ ∧ base ≤ g ∧ (∀ k, w.frozen? ⟨g, k, none⟩ = true → L.length ≤ k) ∧ ∀ k (h : k < L.length), w.cell? ⟨g, k, none⟩ = some (.int .u8 (L[k].toNat : Int))
def RetG (w : World) (b : Bool) (s : ByteArray) (e : Ending) (w' : World) : Prop :=
  ∃ A c, e = .returned (.tuple #[.agg #[.slice A (cellsK b s).length c, .int .i64 (widK b s)], .bool b]) ∧ (cellsK b s).length ≤ c ∧ OwnU w' w.heap.size A (cellsK b s) ∧ Below w.heap.size w w'
theorem OwnU.rd {w : World} {base : Nat} {A : Option Addr} {L : List UInt8} (h : OwnU w base A L) : RdU w A L := by
  rcases h with ⟨rfl, rfl⟩ | ⟨g, rfl, _, _, h⟩
  · exact RdU.nil_ w
  · exact ⟨g, 0, fun _ => rfl, fun k hk => by rw [Nat.zero_add]; exact h k hk⟩
theorem OwnU.keep {w w' : World} {base : Nat} {A : Option Addr} {L : List UInt8} (h : OwnU w base A L) (h0 : 0 < L.length) (hb : Below w.heap.size w w') : OwnU w' base A L := by
  rcases h with ⟨rfl, rfl⟩ | ⟨g, rfl, hg, hf, h⟩
  · exact .inl ⟨rfl, rfl⟩
  · have hlt := World.block_lt_of_cell? _ _ (h 0 h0)
    exact .inr ⟨g, rfl, hg, fun k hk => hf k (by rw [← hb.frozen (p := ⟨g, k, none⟩) hlt]; exact hk), fun k hk => (hb.cell (p := ⟨g, k, none⟩) hlt).trans (h k hk)⟩

theorem heap_allocT (w : World) (o : Obj) : (w.alloc o).heap[w.heap.size]? = some o := by
  show (w.heap.push o)[w.heap.size]? = some o
  simp
theorem cell_heapT {w : World} {g i e : Nat} {cur : Array Value} (h : w.heap[g]? = some (.cells cur e (0, 0))) {u : Value} (hi : cur[i]? = some u) : w.cell? ⟨g, i, none⟩ = some u := by
  simp [World.cell?, h, hi]

/-- The cells that '[]byte(s)' lays. -/
theorem bytes_cells (w : World) (s : ByteArray) (cap : Nat) :
    OwnU (w.drew.alloc (.cells (bytesRow s cap) 5 ((bytesRow s cap).size, (bytesRow s cap).size + 1))) w.heap.size (some ⟨w.heap.size, 0, none⟩) s.data.toList := by
  have hsz : s.data.toList.length ≤ (bytesRow s cap).size := by simp [bytesRow]
  have hh : (w.drew.alloc (.cells (bytesRow s cap) 5 ((bytesRow s cap).size, (bytesRow s cap).size + 1))).heap[w.heap.size]? = some (.cells (bytesRow s cap) 5 ((bytesRow s cap).size, (bytesRow s cap).size + 1)) := by
    show (w.heap.push _)[w.heap.size]? = _
    simp
  refine .inr ⟨w.heap.size, rfl, Nat.le_refl _, fun k hk => ?_, fun k hk => ?_⟩
  · unfold World.frozen? at hk
    rw [hh] at hk
    simp at hk
    omega
  · unfold World.cell?
    rw [hh]
    have hk' : k < s.data.size := by simpa using hk
    have hk2 : k < (s.data.map (fun b => Value.int .u8 b.toNat)).size := by simpa using hk'
    have e : (bytesRow s cap)[k]? = some (.int .u8 (s.data.toList[k].toNat : Int)) := by
      unfold bytesRow
      rw [Array.getElem?_append_left hk2]
      simp
      exact ⟨_, Array.getElem?_eq_getElem hk', rfl⟩
    simpa using e
/-- A store into another block. -/
theorem OwnU.set {w : World} {base : Nat} {A : Option Addr} {L : List UInt8} (h : OwnU w base A L) {g i : Nat} {u : Value} (hg : g < base) : OwnU (w.setCell ⟨g, i, none⟩ u) base A L := by
  rcases h with ⟨rfl, rfl⟩ | ⟨g', rfl, hb, hf, h⟩
  · exact .inl ⟨rfl, rfl⟩
  · refine .inr ⟨g', rfl, hb, fun k hk => hf k ?_, fun k hk => farT (by omega) (h k hk)⟩
    rwa [World.frozen?_setCell] at hk
theorem bytes_cells2 {W : World} {g : Nat} (hg : W.heap.size = g) (s : ByteArray) (cap : Nat) :
    OwnU (W.alloc (.cells (bytesRow s cap) 5 ((bytesRow s cap).size, (bytesRow s cap).size + 1))).drew g (some ⟨g, 0, none⟩) s.data.toList := by
  subst hg
  exact bytes_cells W s cap
theorem OwnU.low {w : World} {base base' : Nat} {A : Option Addr} {L : List UInt8} (h : OwnU w base A L) (hb : base' ≤ base) : OwnU w base' A L := by
  rcases h with ⟨rfl, rfl⟩ | ⟨g', rfl, hb', hf, h⟩
  · exact .inl ⟨rfl, rfl⟩
  · exact .inr ⟨g', rfl, by omega, hf, h⟩
theorem join_flat (R : List (List UInt8)) : Lib.join R [] = R.flatten := by
  cases R with
  | nil => rfl
  | cons r R =>
    rw [Lib.join_cons]
    simp [Lib.joinTail]
theorem widR_us {s : ByteArray} {us : List ByteArray} (h : us.map (·.data.toList) = rowsOf s) (h0 : 0 < us.length) : us[0].size = widR (rowsOf s) := (wid_us h h0).symm
/-- Rows of one length: how many cells, and whether they are a grid. -/
theorem flat_us {s : ByteArray} {us : List ByteArray} (h : us.map (·.data.toList) = rowsOf s) (h0 : 0 < us.length) (ha : ∀ k (hk : k < us.length), us[k].size = us[0].size) :
    (rowsOf s).flatten.length = us.length * us[0].size ∧ (gridB s = (!decide (us.length * us[0].size = 0) && (decide ((us.length * us[0].size) % 2 = 0) && decide (us.length * us[0].size ≤ 30)))) := by
  have h1 : ∀ r ∈ rowsOf s, r.length = us[0].size := fun r hr => by
    obtain ⟨k, hk, rfl⟩ := List.getElem_of_mem hr
    obtain ⟨h5, h6⟩ := row_at h (k := k) (by rw [(rows_us h).1]; exact hk)
    rw [h6]
    simpa using ha k (by rw [(rows_us h).1]; exact hk)
  have h2 := flat_len _ h1
  rw [← (rows_us h).1] at h2
  refine ⟨h2, ?_⟩
  by_cases hz : us[0].size = 0
  · have hg : gridB s = false := grid_bad h h0 h0 (.inl hz)
    rw [hg, hz]
    simp
  · rw [grid_same h h0 ha hz]
    have : us.length * us[0].size ≠ 0 := by
      have := Nat.mul_pos h0 (Nat.pos_of_ne_zero hz)
      omega
    simp [this]

set_option maxRecDepth 100000 in
set_option maxHeartbeats 2000000 in
theorem c_gridOf (s : ByteArray) (m : Int) (w : World) (hm : w.cell? ⟨0, 0, none⟩ = some (.int .i64 m)) (hl : s.size ≤ 1048576) : Calls Tryd.prog 48 #[.string s] w (RetG w (gridB s) s) := by
  have hb0 : Below w.heap.size w (w.alloc (.cells #[.slice none 0 0, .int .i64 0] 53)) := by go_grown
  have r0 : (w.alloc (.cells #[.slice none 0 0, .int .i64 0] 53)).cell? ⟨w.heap.size, 0, none⟩ = some (.slice none 0 0) := by simp [go_sem]
  have r1 : (w.alloc (.cells #[.slice none 0 0, .int .i64 0] 53)).cell? ⟨w.heap.size, 1, none⟩ = some (.int .i64 0) := by simp [go_sem]
  by_cases hbig : (59 : Int) < s.size
  · have hg : gridB s = false := by
      cases h : gridB s
      · rfl
      · have := gridB_size h; omega
    unfold RetG
    rw [hg, cellsK_no, widK_no]
    clear hg
    go_enter Tryd.func48, Tryd.ntmps48
    go_wp2
    refine bodyPost_ret (v := .tuple #[.agg #[.slice none 0 0, .int .i64 0], .bool false]) (by simp [results, Tryd.results48, go_sem]) rfl ?_
    exact ⟨none, 0, rfl, Nat.le_refl _, .inl ⟨rfl, rfl⟩, by go_grown⟩
  · have hall := split_allW s
    have hlen := split_lenW s
    have conS := Lib.hid (Tryd.strings_Split s slashB m (w.alloc (.cells #[.slice none 0 0, .int .i64 0] 53)) (by omega) (keepc hb0 hm) (Nat.le_refl _))
    generalize Lib.splitB slashB 0 (Lib.countB s slashB) s = us at *
    generalize Lib.countB s slashB = N at *
    rw [← hlen] at conS
    have hus : us.map (·.data.toList) = rowsOf s := hall
    have h0 := (rows_us hus).2
    have hgs := Lib.hid (fun k (hk : k < us.length) h => grid_bad (s := s) hus h0 hk h)
    have hus60 : us.length ≤ 60 := by
      have h1 := rowsW_size s.data.toList
      have h2 : (rowsW s.data.toList).length = us.length := by show (rowsOf s).length = _; rw [← hus, List.length_map]
      have h3 : s.data.toList.length = s.size := by simp
      omega
    have hflat : (us.map (·.data.toList)).flatten.length ≤ 60 := by
      have h1 := rowsW_size s.data.toList
      have h2 : (rowsW s.data.toList) = us.map (·.data.toList) := hus.symm
      have h3 : s.data.toList.length = s.size := by simp
      rw [List.length_flatten]
      rw [h2] at h1
      omega
    have Hus := Lib.hid hus
    clear hall hlen hus
    have j0 : (0 : Int) ≤ (0 : Int) := by omega
    have j1 : (0 : Int) < (us.length : Int) := by omega
    go_enter Tryd.func48, Tryd.ntmps48
    go_wp2_with (go_at_call 63; refine conS.out.mono ?_; rintro e w1 ⟨rfl, rfl⟩)
    obtain ⟨w1, hw1⟩ : ∃ w1, w1 = (w.alloc (.cells #[.slice none 0 0, .int .i64 0] 53)).alloc (.cells (us.map Value.string).toArray 9) := ⟨_, rfl⟩
    rw [← hw1]
    have hb1 : Below (w.heap.size + 1) (w.alloc (.cells #[.slice none 0 0, .int .i64 0] 53)) w1 := by
      have := (Below.refl (w.alloc (.cells #[.slice none 0 0, .int .i64 0] 53)).heap.size (w.alloc (.cells #[.slice none 0 0, .int .i64 0] 53))).alloc (Nat.le_refl _) (.cells (us.map Value.string).toArray 9)
      rw [World.size_alloc] at this
      rw [hw1]; exact this
    have hcell : ∀ k (hk : k < us.length), w1.cell? ⟨w.heap.size + 1, k, none⟩ = some (.string us[k]) := fun k hk => by
      rw [hw1]
      have := cell_heapT (w := (w.alloc (.cells #[.slice none 0 0, .int .i64 0] 53)).alloc (.cells (us.map Value.string).toArray 9)) (g := w.heap.size + 1) (i := k) (e := 9) (cur := (us.map Value.string).toArray) (by have := heap_allocT (w.alloc (.cells #[.slice none 0 0, .int .i64 0] 53)) (.cells (us.map Value.string).toArray 9); rw [World.size_alloc] at this; exact this) (u := .string us[k]) (by simp [hk])
      exact this
    have hb0' := hb0
    have s0 : w1.cell? ⟨w.heap.size, 0, none⟩ = some (.slice none 0 0) := (hb1.cell (p := ⟨w.heap.size, 0, none⟩) (by simp)).trans r0
    have s1 : w1.cell? ⟨w.heap.size, 1, none⟩ = some (.int .i64 0) := (hb1.cell (p := ⟨w.heap.size, 1, none⟩) (by simp)).trans r1
    have g0 : w1.frozen? ⟨w.heap.size, 0, none⟩ = false := (hb1.frozen (p := ⟨w.heap.size, 0, none⟩) (by simp)).trans (frozen_freshT _ _ _ _)
    have g1 : w1.frozen? ⟨w.heap.size, 1, none⟩ = false := (hb1.frozen (p := ⟨w.heap.size, 1, none⟩) (by simp)).trans (frozen_freshT _ _ _ _)
    have Hbw := Lib.hid (show Below w.heap.size w w1 from hb0.trans (hb1.mono (Nat.le_succ _)))
    have hz1 : w.heap.size < w1.heap.size := block_lt s0
    have hz2 : w.heap.size + 1 < w1.heap.size := block_lt (hcell 0 h0)
    have Hcell := Lib.hid hcell
    clear hw1 hb1 hcell r0 r1 hb0' hb0
    go_loopw [21] (fun i wr => ∃ k : Nat, k ≤ us.length ∧ i = .int .i64 k ∧ (∀ j (hj : j < us.length), j < k → us[j].size = us[0].size) ∧ wr = w1) (fun i _ => us.length - (intOf i).toNat)
    case atStart => exact ⟨0, Nat.zero_le _, rfl, by omega, rfl⟩
    case round =>
      obtain ⟨k, hk, rfl, hall, rfl⟩ := hrel
      by_cases hlt : k < us.length
      · have ck := Hcell.out k hlt
        have bad := Lib.hid (hgs.out k hlt)
        have Hall := Lib.hid hall
        have i2 : (k : Int) < (us.length : Int) := by omega
        have i2b : (0 : Int) ≤ (k : Int) := by omega
        by_cases hne : us[k].size = us[0].size
        · have hq2 : ((us[k].size : Int) != (us[0].size : Int)) = false := by simp [hne]
          have Hne := Lib.hid hne
          clear hne hall
          go_wp2
          go_roundw
          case rel =>
            refine ⟨k + 1, by omega, by go_num, fun j hj hjk => ?_, trivial⟩
            rcases Nat.lt_succ_iff_lt_or_eq.1 hjk with h | rfl
            · exact Hall.out j hj h
            · exact Hne.out
          case measure => simp [intOf]; omega
        · have hq2 : ((us[k].size : Int) != (us[0].size : Int)) = true := by simp; omega
          have hg := Lib.hid (bad.out (.inr hne))
          clear hne hall
          go_wp2
          refine bodyPost_ret (v := .tuple #[.agg #[.slice none 0 0, .int .i64 0], .bool false]) (by simp [results, Tryd.results48, go_sem, s0, s1]) rfl ?_
          unfold RetG
          rw [hg.out, cellsK_no, widK_no]
          exact ⟨none, 0, rfl, Nat.le_refl _, .inl ⟨rfl, rfl⟩, (Hbw.out.setCell (p := ⟨w.heap.size, 0, none⟩) (Nat.le_refl _) _).setCell (p := ⟨w.heap.size, 1, none⟩) (Nat.le_refl _) _⟩
      · have hke : k = us.length := by omega
        subst hke
        obtain ⟨hfl, hgr⟩ := flat_us Hus.out h0 (fun j hj => hall j hj hj)
        have conJ := Tryd.strings_Join (w.heap.size + 1) 0 us.length us ⟨#[]⟩ wr (fun j x hj => by
          obtain ⟨hj1, hj2⟩ := List.getElem?_eq_some_iff.1 hj
          rw [Nat.zero_add, Hcell.out j hj1, hj2]) hz2 (by omega) (Nat.le_refl _) (by show (Lib.join _ []).length ≤ _; rw [join_flat]; omega)
        have eJ : (⟨(Lib.join (us.map (·.data.toList)) (⟨#[]⟩ : ByteArray).data.toList).toArray⟩ : ByteArray) = ⟨(rowsOf s).flatten.toArray⟩ := by
          show (⟨(Lib.join _ []).toArray⟩ : ByteArray) = _
          rw [join_flat, Hus.out]
        rw [eJ] at conJ
        have ConJ := Lib.hid conJ
        obtain ⟨J, hJ⟩ : ∃ J : ByteArray, J = ⟨(rowsOf s).flatten.toArray⟩ := ⟨_, rfl⟩
        have hJs : J.size = us.length * us[0].size := by rw [hJ, ← hfl]; show (rowsOf s).flatten.toArray.size = _; simp
        have hJl : J.data.toList = (rowsOf s).flatten := by rw [hJ]
        rw [← hJ] at ConJ
        have hJ60 : J.size ≤ 60 := by rw [hJs, ← hfl, ← Hus.out]; exact hflat
        rw [← hJs] at hgr
        have Hgr := Lib.hid hgr
        have HJl := Lib.hid hJl
        have Hwid := Lib.hid (widR_us Hus.out h0)
        have hcv := fun W => run_bytes_of_string (P := Tryd.prog) W 9 51 5 J Tryd.underlying9 Tryd.underlying51 Tryd.underlying5
        have n0 : (0 : Int) ≤ (J.size : Int) := by omega
        clear hall hfl hgr conJ eJ hJ hJs hJl
        have hgc : True := trivial
        by_cases hj0 : J.size = 0
        · have q1 : ((J.size : Int) == 0) = true := by simp [hj0]
          have HG := Lib.hid (show gridB s = false from by rw [Hgr.out, decide_eq_true hj0]; rfl)
          clear hj0 hgc
          go_wp2_with (go_at_call 59; refine ConJ.out.mono ?_; rintro e w3 ⟨rfl, hb3⟩; have t0 := keepc hb3 s0; have t1 := keepc hb3 s1; have u0 := (hb3.frozen (p := ⟨w.heap.size, 0, none⟩) hz1).trans g0; have u1 := (hb3.frozen (p := ⟨w.heap.size, 1, none⟩) hz1).trans g1; have Hb3 := Lib.hid (bstep Hbw.out hb3); have hz3 : w.heap.size < w3.heap.size := (block_lt t0); clear hb3)
          refine bodyPost_ret (v := .tuple #[.agg #[.slice none 0 0, .int .i64 0], .bool false]) (by simp [results, Tryd.results48, go_sem, t0, t1, hz3]) rfl ?_
          unfold RetG
          rw [HG.out, cellsK_no, widK_no]
          have hy := fun u v => (Hb3.out.setCell (p := ⟨w.heap.size, 0, none⟩) (Nat.le_refl _) u).setCell (p := ⟨w.heap.size, 1, none⟩) (Nat.le_refl _) v
          exact ⟨none, 0, rfl, Nat.le_refl _, .inl ⟨rfl, rfl⟩, ((hy _ _).alloc (hy _ _).size _).drew⟩
        · have q1 : ((J.size : Int) == 0) = false := by simp [hj0]
          by_cases hj1 : J.size % 2 = 0
          · have q2 : ((J.size : Int) % 2 == 1) = false := by simp; omega
            by_cases hj2 : J.size ≤ 30
            · have q3 : ¬ (30 : Int) < (J.size : Int) := by omega
              have HG := Lib.hid (show gridB s = true from by rw [Hgr.out, decide_eq_false hj0, decide_eq_true hj1, decide_eq_true hj2]; rfl)
              clear hj0 hj1 hj2 hgc
              go_wp2_with (go_at_call 59; refine ConJ.out.mono ?_; rintro e w3 ⟨rfl, hb3⟩; have t0 := keepc hb3 s0; have t1 := keepc hb3 s1; have u0 := (hb3.frozen (p := ⟨w.heap.size, 0, none⟩) hz1).trans g0; have u1 := (hb3.frozen (p := ⟨w.heap.size, 1, none⟩) hz1).trans g1; have Hb3 := Lib.hid (bstep Hbw.out hb3); have hz3 : w.heap.size < w3.heap.size := (block_lt t0); clear hb3)
              have hcap := grownCap_ge w3 J.size 0 5
              skip
              refine bodyPost_ret (v := .tuple #[.agg #[.slice (some ⟨w3.heap.size, 0, none⟩) J.size (grownCap w3 J.size 0 5), .int .i64 us[0].size], .bool true]) (by simp [results, Tryd.results48, go_sem, t0, t1, hz3]) rfl ?_
              have hy := fun u v => (Hb3.out.setCell (p := ⟨w.heap.size, 0, none⟩) (Nat.le_refl _) u).setCell (p := ⟨w.heap.size, 1, none⟩) (Nat.le_refl _) v
              have eC : cellsK true s = J.data.toList := HJl.out.symm
              have eL : J.data.toList.length = J.size := by simp
              have eW : widK true s = us[0].size := Hwid.out.symm
              unfold RetG
              rw [HG.out, eC, eW, eL]
              refine ⟨_, _, rfl, hcap, ?_, ((hy _ _).alloc (hy _ _).size _).drew⟩
              exact (bytes_cells2 (by simp) J _).low (Nat.le_of_lt hz3)
            · have q3 : (30 : Int) < (J.size : Int) := by omega
              have HG := Lib.hid (show gridB s = false from by rw [Hgr.out, decide_eq_false hj0, decide_eq_true hj1, decide_eq_false hj2]; rfl)
              clear hj0 hj1 hj2 hgc
              go_wp2_with (go_at_call 59; refine ConJ.out.mono ?_; rintro e w3 ⟨rfl, hb3⟩; have t0 := keepc hb3 s0; have t1 := keepc hb3 s1; have u0 := (hb3.frozen (p := ⟨w.heap.size, 0, none⟩) hz1).trans g0; have u1 := (hb3.frozen (p := ⟨w.heap.size, 1, none⟩) hz1).trans g1; have Hb3 := Lib.hid (bstep Hbw.out hb3); have hz3 : w.heap.size < w3.heap.size := (block_lt t0); clear hb3)
              refine bodyPost_ret (v := .tuple #[.agg #[.slice none 0 0, .int .i64 0], .bool false]) (by simp [results, Tryd.results48, go_sem, t0, t1, hz3]) rfl ?_
              unfold RetG
              rw [HG.out, cellsK_no, widK_no]
              have hy := fun u v => (Hb3.out.setCell (p := ⟨w.heap.size, 0, none⟩) (Nat.le_refl _) u).setCell (p := ⟨w.heap.size, 1, none⟩) (Nat.le_refl _) v
              exact ⟨none, 0, rfl, Nat.le_refl _, .inl ⟨rfl, rfl⟩, ((hy _ _).alloc (hy _ _).size _).drew⟩
          · have q2 : ((J.size : Int) % 2 == 1) = true := by simp; omega
            have HG := Lib.hid (show gridB s = false from by rw [Hgr.out, decide_eq_false hj0, decide_eq_false hj1]; rfl)
            clear hj0 hj1 hgc
            go_wp2_with (go_at_call 59; refine ConJ.out.mono ?_; rintro e w3 ⟨rfl, hb3⟩; have t0 := keepc hb3 s0; have t1 := keepc hb3 s1; have u0 := (hb3.frozen (p := ⟨w.heap.size, 0, none⟩) hz1).trans g0; have u1 := (hb3.frozen (p := ⟨w.heap.size, 1, none⟩) hz1).trans g1; have Hb3 := Lib.hid (bstep Hbw.out hb3); have hz3 : w.heap.size < w3.heap.size := (block_lt t0); clear hb3)
            refine bodyPost_ret (v := .tuple #[.agg #[.slice none 0 0, .int .i64 0], .bool false]) (by simp [results, Tryd.results48, go_sem, t0, t1, hz3]) rfl ?_
            unfold RetG
            rw [HG.out, cellsK_no, widK_no]
            have hy := fun u v => (Hb3.out.setCell (p := ⟨w.heap.size, 0, none⟩) (Nat.le_refl _) u).setCell (p := ⟨w.heap.size, 1, none⟩) (Nat.le_refl _) v
            exact ⟨none, 0, rfl, Nat.le_refl _, .inl ⟨rfl, rfl⟩, ((hy _ _).alloc (hy _ _).size _).drew⟩
end Go.Proofs.YtjbdflkbclhonabDoor

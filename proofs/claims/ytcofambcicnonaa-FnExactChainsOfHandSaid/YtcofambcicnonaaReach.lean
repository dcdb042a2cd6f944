/- The tiles of a hand that hang together with a number, found by going from number to number. -/
import Derived.Test.YtcofambcicnonaaComp
import Derived.Test.YtcofambcicnonaaInts
namespace Go.Proofs.Ytcofambcicnonaa
open Go.RowKit
set_option linter.unusedVariables false

theorem nodup_lenG {α : Type} [DecidableEq α] : ∀ (xs ys : List α), xs.Nodup → (∀ x ∈ xs, x ∈ ys) → xs.length ≤ ys.length
  | [], ys, _, _ => Nat.zero_le _
  | x :: xs, ys, hn, hs => by
    rw [List.nodup_cons] at hn
    have ih := nodup_lenG xs (ys.erase x) hn.2 (fun z hz => (List.mem_erase_of_ne (by rintro rfl; exact hn.1 hz)).2 (hs z (by simp [hz])))
    rw [List.length_erase_of_mem (hs x (by simp))] at ih
    have := List.length_pos_of_mem (hs x (by simp))
    simp only [List.length_cons]
    omega
theorem nums_len {rs : List Int} (hn : rs.Nodup) (hg : ∀ y ∈ rs, numB y = true) : rs.length ≤ 10 := by
  have := nodup_lenG rs ((List.range 10).map fun i : Nat => (i : Int)) hn (fun y hy => by
    obtain ⟨m, hm, rfl⟩ := numB_nat (hg y hy)
    exact List.mem_map.2 ⟨m, List.mem_range.2 (by omega), rfl⟩)
  simpa using this
theorem own_lit {base : Nat} (w : World) (cur : Array Value) (n : Nat) (e : TypeId) (size : Nat) (hb : base ≤ w.heap.size) (hm : n ≤ maxLen) (hs : cur.size = n * size) :
    (w.alloc (.cells cur e)).ownsRow base e size (.slice (some ⟨w.heap.size, 0, none⟩) n n) n cur.toList :=
  ⟨by simpa using hs, .inr ⟨w.heap.size, n, cur, rfl, hb, heap_alloc_new w _, Nat.le_refl _, hm, hs, by rw [← hs]; exact List.take_of_length_le (by simp)⟩⟩

theorem sz1 {w w' : World} {o : Obj} {B : Nat} (h : Below B (w.alloc o) w') : w.heap.size + 1 ≤ w'.heap.size := by have := h.size; simpa using this

/-- Of a tile with the number x the other one is there too. -/
def Nb (t : Int × Int) (x : Int) (rs : List Int) : Prop := (t.1 = x → t.2 ∈ rs) ∧ (t.2 = x → t.1 ∈ rs)
theorem Nb.more {t : Int × Int} {x : Int} {rs : List Int} (h : Nb t x rs) (ys : List Int) : Nb t x (rs ++ ys) :=
  ⟨fun e => List.mem_append_left _ (h.1 e), fun e => List.mem_append_left _ (h.2 e)⟩
structure Rch (ts : List (Int × Int)) (n : Int) (rs : List Int) (k : Nat) : Prop where
  has : n ∈ rs
  nd : rs.Nodup
  num : ∀ y ∈ rs, numB y = true
  eqv : ∀ y ∈ rs, lfn ts y = lfn ts n
  nb : ∀ i, i < k → ∀ t ∈ ts, Nb t (rs.getD i 0) rs
  le : k ≤ rs.length
structure Rin (ts : List (Int × Int)) (n : Int) (rs : List Int) (k j : Nat) (x : Int) : Prop where
  base : Rch ts n rs k
  lt : k < rs.length
  at_ : rs.getD k 0 = x
  to : ∀ t ∈ ts.take j, Nb t x rs
section
variable {ts : List (Int × Int)} {n x : Int} {rs : List Int} {k j : Nat}
theorem Rch.len (h : Rch ts n rs k) : rs.length ≤ 10 := nums_len h.nd h.num
theorem Rch.zero (hn : numB n = true) : Rch ts n [n] 0 := ⟨by simp, by simp, by simpa using hn, by simp, fun i h => by omega, by simp⟩
theorem Rin.start (h : Rch ts n rs k) (hk : k < rs.length) : Rin ts n rs k 0 (rs.getD k 0) := ⟨h, hk, rfl, by simp⟩
theorem Rin.mem (h : Rin ts n rs k j x) : x ∈ rs := by
  have := h.at_
  rw [List.getD_eq_getElem?_getD, List.getElem?_eq_getElem h.lt] at this
  simp only [Option.getD_some] at this
  rw [← this]
  exact List.getElem_mem h.lt
theorem Rin.next (h : Rin ts n rs k j x) (hj : j < ts.length) (hx : Nb ts[j] x rs) : Rin ts n rs k (j + 1) x :=
  ⟨h.base, h.lt, h.at_, fun t ht => by
    rw [List.take_succ_eq_append_getElem hj] at ht
    rcases List.mem_append.1 ht with h1 | h1
    · exact h.to t h1
    · rw [List.mem_singleton.1 h1]; exact hx⟩
theorem Rin.skip (h : Rin ts n rs k j x) (hj : j < ts.length) (h1 : ts[j].1 ≠ x) (h2 : ts[j].2 ≠ x) : Rin ts n rs k (j + 1) x := h.next hj ⟨fun e => absurd e h1, fun e => absurd e h2⟩
theorem Rin.low (h : Rin ts n rs k j x) (hj : j < ts.length) (h1 : ts[j].1 = x) (h2 : ts[j].2 ∈ rs) : Rin ts n rs k (j + 1) x := h.next hj ⟨fun _ => h2, fun _ => h1 ▸ h.mem⟩
theorem Rin.high (h : Rin ts n rs k j x) (hj : j < ts.length) (h1 : ts[j].2 = x) (h2 : ts[j].1 ∈ rs) : Rin ts n rs k (j + 1) x := h.next hj ⟨fun _ => h1 ▸ h.mem, fun _ => h2⟩
theorem Rin.add (h : Rin ts n rs k j x) (hj : j < ts.length) {y : Int} (hy : y ∉ rs) (hny : numB y = true) (hey : lfn ts y = lfn ts n) (hx : Nb ts[j] x (rs ++ [y])) : Rin ts n (rs ++ [y]) k (j + 1) x := by
  have hget : ∀ i, i < rs.length → (rs ++ [y]).getD i 0 = rs.getD i 0 := fun i hi => by simp [List.getElem?_append_left hi]
  have hb : Rch ts n (rs ++ [y]) k := {
    has := List.mem_append_left _ h.base.has
    nd := by
      rw [List.nodup_append]
      exact ⟨h.base.nd, by simp, fun a ha b hb => by rw [List.mem_singleton.1 hb]; rintro rfl; exact hy ha⟩
    num := fun z hz => by
      rcases List.mem_append.1 hz with h1 | h1
      · exact h.base.num z h1
      · rw [List.mem_singleton.1 h1]; exact hny
    eqv := fun z hz => by
      rcases List.mem_append.1 hz with h1 | h1
      · exact h.base.eqv z h1
      · rw [List.mem_singleton.1 h1]; exact hey
    nb := fun i hi t ht => by rw [hget i (by have := h.lt; omega)]; exact (h.base.nb i hi t ht).more _
    le := by have := h.base.le; simp; omega }
  exact ⟨hb, by have := h.lt; simp; omega, by rw [hget k h.lt]; exact h.at_, fun t ht => by
    rw [List.take_succ_eq_append_getElem hj] at ht
    rcases List.mem_append.1 ht with h1 | h1
    · exact (h.to t h1).more _
    · rw [List.mem_singleton.1 h1]; exact hx⟩
theorem Rin.lowAdd (h : Rin ts n rs k j x) (hg : ∀ t ∈ ts, goodB t.1 t.2 = true) (hj : j < ts.length) (h1 : ts[j].1 = x) (h2 : ts[j].2 ∉ rs) : Rin ts n (rs ++ [ts[j].2]) k (j + 1) x := by
  have hm := List.getElem_mem hj
  have hb := good_bd (hg _ hm)
  refine h.add hj h2 (by simp only [numB, Bool.and_eq_true, decide_eq_true_eq]; omega) ?_ ⟨fun _ => by simp, fun _ => List.mem_append_left _ (h1 ▸ h.mem)⟩
  rw [← (lfn_isLeast ts).con _ hm, h1]
  exact h.base.eqv _ h.mem
theorem Rin.highAdd (h : Rin ts n rs k j x) (hg : ∀ t ∈ ts, goodB t.1 t.2 = true) (hj : j < ts.length) (h1 : ts[j].2 = x) (h2 : ts[j].1 ∉ rs) : Rin ts n (rs ++ [ts[j].1]) k (j + 1) x := by
  have hm := List.getElem_mem hj
  have hb := good_bd (hg _ hm)
  refine h.add hj h2 (by simp only [numB, Bool.and_eq_true, decide_eq_true_eq]; omega) ?_ ⟨fun _ => List.mem_append_left _ (h1 ▸ h.mem), fun _ => by simp⟩
  rw [(lfn_isLeast ts).con _ hm, h1]
  exact h.base.eqv _ h.mem
theorem Rin.done (h : Rin ts n rs k ts.length x) : Rch ts n rs (k + 1) :=
  ⟨h.base.has, h.base.nd, h.base.num, h.base.eqv, fun i hi t ht => by
    rcases Nat.lt_succ_iff_lt_or_eq.1 hi with h1 | rfl
    · exact h.base.nb i h1 t ht
    · rw [h.at_]; exact h.to t (by rw [List.take_length]; exact ht), h.lt⟩
theorem Rch.iff (h : Rch ts n rs rs.length) (y : Int) : y ∈ rs ↔ lfn ts y = lfn ts n := by
  have get : ∀ z ∈ rs, ∃ i, i < rs.length ∧ rs.getD i 0 = z := fun z hz => by
    obtain ⟨i, hi, e⟩ := List.getElem_of_mem hz
    exact ⟨i, hi, by rw [List.getD_eq_getElem?_getD, List.getElem?_eq_getElem hi]; simpa using e⟩
  refine reached_iff h.has h.eqv (fun t ht => ⟨fun h1 => ?_, fun h1 => ?_⟩) y
  · obtain ⟨i, hi, e⟩ := get _ h1
    exact (h.nb i hi t ht).1 e.symm
  · obtain ⟨i, hi, e⟩ := get _ h1
    exact (h.nb i hi t ht).2 e.symm
end
def pickR (rs : List Int) (us : List (Int × Int)) (k : Nat) : List (Int × Int) := (us.take k).filter fun t => decide (t.1 ∈ rs)
theorem pickR_yes {rs : List Int} {us : List (Int × Int)} {k : Nat} (hk : k < us.length) (h : us[k].1 ∈ rs) : pickR rs us (k + 1) = pickR rs us k ++ [us[k]] := by
  unfold pickR
  rw [List.take_succ_eq_append_getElem hk, List.filter_append]
  simp [h]
theorem pickR_no {rs : List Int} {us : List (Int × Int)} {k : Nat} (hk : k < us.length) (h : us[k].1 ∉ rs) : pickR rs us (k + 1) = pickR rs us k := by
  unfold pickR
  rw [List.take_succ_eq_append_getElem hk, List.filter_append]
  simp [h]
theorem pickR_len (rs : List Int) (us : List (Int × Int)) (k : Nat) : (pickR rs us k).length ≤ us.length := Nat.le_trans (List.length_filter_le _ _) (by simp; omega)
theorem pickR_all {ts : List (Int × Int)} {n : Int} {rs : List Int} (h : Rch ts n rs rs.length) : pickR rs (sortL ts) (sortL ts).length = partL ts n := by
  unfold pickR partL
  rw [List.take_length]
  refine List.filter_congr fun t _ => ?_
  rw [Bool.eq_iff_iff, decide_eq_true_eq, decide_eq_true_eq]
  exact h.iff t.1

theorem own_pos {w : World} {base e size n c : Nat} {A : Option Addr} {cs : List Value} (h : w.ownsRow base e size (.slice A n c) n cs) (hn : 0 < n) : ∃ g, A = some ⟨g, 0, none⟩ := by
  obtain ⟨_, ⟨hv, h0⟩ | ⟨g, cap, cur, hv, _⟩⟩ := h
  · omega
  · injection hv with h1; exact ⟨g, h1⟩

set_option maxRecDepth 100000 in
set_option maxHeartbeats 4000000 in
theorem c_whPart (A : Option Addr) (c : Nat) (ts : List (Int × Int)) (n : Int) (w : World) (hr : RdT w A ts) (hl : ts.length ≤ 1048576) (hg : ∀ t ∈ ts, goodB t.1 t.2 = true) (hn : numB n = true) :
    Calls Try.prog 47 #[.slice A ts.length c, .int .i64 n] w (RetL w (partL ts n)) := by
  have Hg := Lib.hid hg
  have conP := fun W (hb : Below w.heap.size w W) => c_tiSort A c ts W (hr.below hb) hl
  have ConP := Lib.hid conP
  clear conP hg
  go_enter Try.func47, Try.ntmps47
  go_wp2
  go_loopw [5, 6] (fun v i wr => ∃ (k : Nat) (rs : List Int) (A' : Option Addr) (c' : Nat), i = .int .i64 k ∧ v = .slice A' rs.length c' ∧ Rch ts n rs k ∧ wr.ownsRow w.heap.size 3 1 (.slice A' rs.length c') rs.length (cellsI rs) ∧ Below w.heap.size w wr) (fun _ i _ => 10 - (intOf i).toNat)
  case atStart => exact ⟨0, [n], _, _, rfl, rfl, Rch.zero hn, own_lit w #[.int .i64 n] 1 _ 1 (Nat.le_refl _) (by decide) rfl, by go_grown⟩
  case round =>
    obtain ⟨k, rs, A', c', rfl, rfl, hR, hown, hb⟩ := hrel
    have hlen := hR.len
    have hkl := hR.le
    by_cases hlt : k < rs.length
    · have hR0 := Rin.start hR hlt
      obtain ⟨x, hx⟩ : ∃ x, x = rs.getD k 0 := ⟨_, rfl⟩
      rw [← hx] at hR0
      have HR0 := Lib.hid hR0
      have Hown := Lib.hid hown
      have Hb0 := Lib.hid hb
      clear hR hR0 hown hb hx ConP
      go_wp2
      go_loopw [5, 22] (fun v j wr => ∃ (m : Nat) (rs2 : List Int) (A2 : Option Addr) (c2 : Nat), m ≤ ts.length ∧ j = .int .i64 m ∧ v = .slice A2 rs2.length c2 ∧ Rin ts n rs2 k m x ∧ wr.ownsRow w.heap.size 3 1 (.slice A2 rs2.length c2) rs2.length (cellsI rs2) ∧ Below w.heap.size w wr) (fun _ j _ => ts.length - (intOf j).toNat)
      case atStart => exact ⟨0, rs, A', c', Nat.zero_le _, rfl, rfl, HR0.out, Hown.out, Hb0.out⟩
      case round =>
        obtain ⟨m, rs2, A2, c2, hm, rfl, rfl, hI, hown2, hb2⟩ := hrel
        have hlen2 := hI.base.len
        have hkl2 := hI.lt
        clear HR0 Hown Hb0
        by_cases hml : m < ts.length
        · obtain ⟨bk, off, rfl, hbk, hc⟩ := hr.at_ hml
          have g1 := (hb2.cell (p := ⟨bk, _, none⟩) hbk).trans (hc m hml).1
          have g2 := (hb2.cell (p := ⟨bk, _, none⟩) hbk).trans (hc m hml).2
          obtain ⟨ga, rfl⟩ := own_pos hown2 (by omega)
          have gx : wr.cell? ⟨ga, k, none⟩ = some (.int .i64 x) := by
            have h1 := hown2.cellAt k (by omega)
            rw [h1]
            have h2 := hI.at_
            rw [List.getD_eq_getElem?_getD, List.getElem?_eq_getElem hkl2] at h2
            simp only [Option.getD_some] at h2
            simp [cellsI, hkl2, h2]
          have i1 : (k : Int) < (rs2.length : Int) := by omega
          have i0 : (0 : Int) ≤ (k : Int) := by omega
          have hrI := RdI.of_own hown2
          have Hb := Lib.hid hb2
          have Ho := Lib.hid hown2
          have hz := hb2.size
          have hgal := (hown2.lt ga rfl).2
          have x0 : (wr.alloc (.cells #[.int .i64 ts[m].1, .int .i64 ts[m].2] 41)).cell? ⟨wr.heap.size, 0, none⟩ = some (.int .i64 ts[m].1) := by simp
          have x1 : (wr.alloc (.cells #[.int .i64 ts[m].1, .int .i64 ts[m].2] 41)).cell? ⟨wr.heap.size, 1, none⟩ = some (.int .i64 ts[m].2) := by simp
          clear hc hr hb2 hown2
          by_cases e1 : x = ts[m].1
          · have E1 := Lib.hid e1
            have q1 : (x == ts[m].1) = true := by simp [e1]
            clear e1
            by_cases hin : ts[m].2 ∈ rs2
            · have HR := Lib.hid (hI.low hml (E1.out).symm hin)
              have hd : decide (ts[m].2 ∈ rs2) = true := decide_eq_true hin
              have con := fun W (hW : Below wr.heap.size wr W) => c_l1Has (some ⟨ga, 0, none⟩) c2 rs2 ts[m].2 W (hrI.below hW) (by omega)
              rw [hd] at con
              have Con := Lib.hid con
              clear con hd hin
              go_wp2_with (first | (go_at_call 52; refine (Con.out _ (by go_grown)).mono ?_; rintro e w3 ⟨rfl, hb3⟩; have y0 := keepc hb3 x0; have y1 := keepc hb3 x1; have hz3 := sz1 hb3; have Ho3 := Lib.hid ((own_keep (Ho.out.alloc (.cells #[.int .i64 ts[m].1, .int .i64 ts[m].2] 41)) hb3).alloc (.cells #[.int .i64 ts[m].2] 3))))
              go_roundw
              case rel =>
                have hb5 : Below w.heap.size w w3 := bstep (by have hb0 := Hb.out; have hz0 := hb0.size; go_grown) hb3
                exact ⟨m + 1, rs2, some ⟨ga, 0, none⟩, c2, by omega, by go_num, rfl, HR.out, own_keep (Ho.out.alloc _) hb3, hb5⟩
              case measure => simp [intOf]; omega
            · have HR := Lib.hid (hI.lowAdd Hg.out hml (E1.out).symm hin)
              have hd : decide (ts[m].2 ∈ rs2) = false := decide_eq_false hin
              have con := fun W (hW : Below wr.heap.size wr W) => c_l1Has (some ⟨ga, 0, none⟩) c2 rs2 ts[m].2 W (hrI.below hW) (by omega)
              rw [hd] at con
              have Con := Lib.hid con
              clear con hd hin
              go_wp2_with (first | (go_at_call 52; refine (Con.out _ (by go_grown)).mono ?_; rintro e w3 ⟨rfl, hb3⟩; have y0 := keepc hb3 x0; have y1 := keepc hb3 x1; have hz3 := sz1 hb3; have Ho3 := Lib.hid ((own_keep (Ho.out.alloc (.cells #[.int .i64 ts[m].1, .int .i64 ts[m].2] 41)) hb3).alloc (.cells #[.int .i64 ts[m].2] 3))) | (at_builtin; refine wp_append_int rfl _ _ rfl w.heap.size _ rs2 rfl Ho3.out ts[m].2 w3.heap.size rfl (by simp) (by omega) (by simp; omega) ?_; intro A4 c4 w4 hown4 hg4))
              go_roundw
              case rel =>
                have hb5 : Below w.heap.size w w3 := bstep (by have hb0 := Hb.out; have hz0 := hb0.size; go_grown) hb3
                have hz5 := hb5.size
                refine ⟨m + 1, rs2 ++ [ts[m].2], A4, c4, by omega, by go_num, by rw [List.length_append]; rfl, HR.out, by rw [List.length_append]; exact hown4, Below.grown (by go_grown) hg4 (by simp; omega) (fun g hg => (Ho3.out.lt g hg).1)⟩
              case measure => simp [intOf]; omega
          · have E1 := Lib.hid (fun e => e1 e : x = ts[m].1 → False)
            have q1 : (x == ts[m].1) = false := by simp [e1]
            clear e1
            by_cases e2 : x = ts[m].2
            · have E2 := Lib.hid e2
              have q2 : (x == ts[m].2) = true := by simp [e2]
              clear e2
              by_cases hin : ts[m].1 ∈ rs2
              · have HR := Lib.hid (hI.high hml (E2.out).symm hin)
                have hd : decide (ts[m].1 ∈ rs2) = true := decide_eq_true hin
                have con := fun W (hW : Below wr.heap.size wr W) => c_l1Has (some ⟨ga, 0, none⟩) c2 rs2 ts[m].1 W (hrI.below hW) (by omega)
                rw [hd] at con
                have Con := Lib.hid con
                clear con hd hin
                go_wp2_with (first | (go_at_call 52; refine (Con.out _ (by go_grown)).mono ?_; rintro e w3 ⟨rfl, hb3⟩; have y0 := keepc hb3 x0; have y1 := keepc hb3 x1; have hz3 := sz1 hb3; have Ho3 := Lib.hid ((own_keep (Ho.out.alloc (.cells #[.int .i64 ts[m].1, .int .i64 ts[m].2] 41)) hb3).alloc (.cells #[.int .i64 ts[m].1] 3))))
                go_roundw
                case rel =>
                  have hb5 : Below w.heap.size w w3 := bstep (by have hb0 := Hb.out; have hz0 := hb0.size; go_grown) hb3
                  exact ⟨m + 1, rs2, some ⟨ga, 0, none⟩, c2, by omega, by go_num, rfl, HR.out, own_keep (Ho.out.alloc _) hb3, hb5⟩
                case measure => simp [intOf]; omega
              · have HR := Lib.hid (hI.highAdd Hg.out hml (E2.out).symm hin)
                have hd : decide (ts[m].1 ∈ rs2) = false := decide_eq_false hin
                have con := fun W (hW : Below wr.heap.size wr W) => c_l1Has (some ⟨ga, 0, none⟩) c2 rs2 ts[m].1 W (hrI.below hW) (by omega)
                rw [hd] at con
                have Con := Lib.hid con
                clear con hd hin
                go_wp2_with (first | (go_at_call 52; refine (Con.out _ (by go_grown)).mono ?_; rintro e w3 ⟨rfl, hb3⟩; have y0 := keepc hb3 x0; have y1 := keepc hb3 x1; have hz3 := sz1 hb3; have Ho3 := Lib.hid ((own_keep (Ho.out.alloc (.cells #[.int .i64 ts[m].1, .int .i64 ts[m].2] 41)) hb3).alloc (.cells #[.int .i64 ts[m].1] 3))) | (at_builtin; refine wp_append_int rfl _ _ rfl w.heap.size _ rs2 rfl Ho3.out ts[m].1 w3.heap.size rfl (by simp) (by omega) (by simp; omega) ?_; intro A4 c4 w4 hown4 hg4))
                go_roundw
                case rel =>
                  have hb5 : Below w.heap.size w w3 := bstep (by have hb0 := Hb.out; have hz0 := hb0.size; go_grown) hb3
                  have hz5 := hb5.size
                  refine ⟨m + 1, rs2 ++ [ts[m].1], A4, c4, by omega, by go_num, by rw [List.length_append]; rfl, HR.out, by rw [List.length_append]; exact hown4, Below.grown (by go_grown) hg4 (by simp; omega) (fun g hg => (Ho3.out.lt g hg).1)⟩
                case measure => simp [intOf]; omega
            · have q2 : (x == ts[m].2) = false := by simp [e2]
              have HR := Lib.hid (hI.skip hml (fun e => E1.out e.symm) (fun e => e2 e.symm))
              clear e2
              go_wp2
              go_roundw
              case rel => exact ⟨m + 1, rs2, some ⟨ga, 0, none⟩, c2, by omega, by go_num, rfl, HR.out, Ho.out.alloc _, by have hb0 := Hb.out; have hz0 := hb0.size; go_grown⟩
              case measure => simp [intOf]; omega
        · have : m = ts.length := by omega
          subst this
          have HI := Lib.hid hI
          clear hI
          go_wp2
          go_roundw
          case rel => exact ⟨k + 1, rs2, A2, c2, by go_num, rfl, HI.out.done, hown2, hb2⟩
          case measure => simp [intOf]; omega
    · have : k = rs.length := by omega
      subst this
      have hall := pickR_all hR
      have con := ConP.out wr hb
      have hul := sortL_len ts
      obtain ⟨us, hus⟩ : ∃ us, us = sortL ts := ⟨_, rfl⟩
      rw [← hus] at con hul hall
      have Hall := Lib.hid hall
      have Con := Lib.hid con
      have Hb := Lib.hid hb
      have Ho := Lib.hid hown
      have hz := hb.size
      clear hall hus hR hb hown hr con ConP Hg
      go_wp2_with (go_at_call 46; refine Con.out.mono ?_; rintro e w1 ⟨A1, c1, rfl, ho1, hb1⟩)
      have hru := RdT.of_own ho1
      have hri := RdI.of_own (own_keep Ho.out hb1)
      have hz1 := hb1.size
      clear Con
      go_loopw [9, 62] (fun v i wr => ∃ (m : Nat) (A3 : Option Addr) (c3 : Nat), m ≤ us.length ∧ i = .int .i64 m ∧ v = .slice A3 (pickR rs us m).length c3 ∧ wr.ownsRow w1.heap.size 41 2 (.slice A3 (pickR rs us m).length c3) (pickR rs us m).length (cellsT (pickR rs us m)) ∧ Below w1.heap.size w1 wr) (fun _ i _ => us.length - (intOf i).toNat)
      case atStart => exact ⟨0, none, 0, Nat.zero_le _, rfl, rfl, World.ownsRow_nil _ _ _ _, Below.refl _ _⟩
      case round =>
        obtain ⟨m, A3, c3, hm, rfl, rfl, hown3, hb3⟩ := hrel
        have hpl := pickR_len rs us m
        by_cases hml : m < us.length
        · obtain ⟨bk, off, rfl, hbk, hc⟩ := hru.at_ hml
          have g1 := (hb3.cell (p := ⟨bk, _, none⟩) hbk).trans (hc m hml).1
          have g2 := (hb3.cell (p := ⟨bk, _, none⟩) hbk).trans (hc m hml).2
          have hz3 := hb3.size
          have x0 : (wr.alloc (.cells #[.int .i64 us[m].1, .int .i64 us[m].2] 41)).cell? ⟨wr.heap.size, 0, none⟩ = some (.int .i64 us[m].1) := by simp
          have x1 : (wr.alloc (.cells #[.int .i64 us[m].1, .int .i64 us[m].2] 41)).cell? ⟨wr.heap.size, 1, none⟩ = some (.int .i64 us[m].2) := by simp
          have con := fun W (hW : Below wr.heap.size wr W) => c_l1Has A' c' rs us[m].1 W ((hri.below hb3).below hW) (by omega)
          have Hb3 := Lib.hid hb3
          have Ho3 := Lib.hid hown3
          have hyes := pickR_yes (rs := rs) hml
          have hno := pickR_no (rs := rs) hml
          clear hc hru hri hb3 hown3 Ho Hb
          by_cases hin : us[m].1 ∈ rs
          · have hst := Lib.hid (hyes hin)
            have hd : decide (us[m].1 ∈ rs) = true := decide_eq_true hin
            rw [hd] at con
            have Con := Lib.hid con
            clear con hd hin hyes hno
            go_wp2_with (first | (go_at_call 52; refine (Con.out _ (by go_grown)).mono ?_; rintro e w4 ⟨rfl, hb4⟩; have y0 := keepc hb4 x0; have y1 := keepc hb4 x1; have hz4 := sz1 hb4; have Ho4 := Lib.hid ((own_keep (Ho3.out.alloc (.cells #[.int .i64 us[m].1, .int .i64 us[m].2] 41)) hb4).alloc (.cells #[.int .i64 us[m].1, .int .i64 us[m].2] 41))) | (at_builtin; refine wp_append_tile rfl _ _ rfl w1.heap.size _ (pickR rs us m) rfl Ho4.out us[m].1 us[m].2 w4.heap.size rfl (by simp) (by simp) (by omega) (by simp; omega) ?_; intro A5 c5 w5 hown5 hg5))
            go_roundw
            case rel =>
              have hb5 : Below w1.heap.size w1 w4 := bstep (by have hb0 := Hb3.out; have hz0 := hb0.size; go_grown) hb4
              have hz5 := hb5.size
              refine ⟨m + 1, A5, c5, by omega, by go_num, by rw [hst.out, List.length_append]; rfl, by rw [hst.out, List.length_append]; exact hown5, Below.grown (by go_grown) hg5 (by simp; omega) (fun g hg => (Ho4.out.lt g hg).1)⟩
            case measure => simp [intOf]; omega
          · have hst := Lib.hid (hno hin)
            have hd : decide (us[m].1 ∈ rs) = false := decide_eq_false hin
            rw [hd] at con
            have Con := Lib.hid con
            clear con hd hin hyes hno
            go_wp2_with (go_at_call 52; refine (Con.out _ (by go_grown)).mono ?_; rintro e w4 ⟨rfl, hb4⟩)
            go_roundw
            case rel =>
              have hb5 : Below w1.heap.size w1 w4 := bstep (by have hb0 := Hb3.out; have hz0 := hb0.size; go_grown) hb4
              exact ⟨m + 1, A3, c3, by omega, by go_num, by rw [hst.out], by rw [hst.out]; exact own_keep (Ho3.out.alloc _) hb4, hb5⟩
            case measure => simp [intOf]; omega
        · have : m = us.length := by omega
          subst this
          go_wp2
          go_ret
          rw [← Hall.out]
          exact ⟨A3, c3, rfl, own_base hown3 (bstep Hb.out hb1).size, bstep (bstep Hb.out hb1) hb3⟩

end Go.Proofs.Ytcofambcicnonaa

/- The library's sort at lists of tiles, and the tiles of a map in their order. -/
import Derived.Test.YtcofambcicnonaaSortM
import Derived.Test.YtcofambcicnonaaMap
import Derived.Shelf.SlSortCmp.WholeK
import Derived.Ground.SlsfProg
namespace Go.Proofs.Ytcofambcicnonaa
open Go.Shelf Go.RowKit Go.Lib Go.Sort Go.Maps Go.ChangeMaps
set_option linter.unusedVariables false

def sortT_ren : Go.Shelf.Ren := ⟨fun | 6 => 65 | 15 => 69 | 14 => 68 | 28 => 80 | 29 => 81 | 20 => 72 | 21 => 73 | 22 => 74 | 23 => 75 | 24 => 76 | 25 => 77 | 26 => 78 | 27 => 79 | 46 => 83 | 47 => 84 | 48 => 85 | 49 => 86 | 50 => 87 | 57 => 88 | n => n, fun | 22 => 27 | 24 => 41 | 25 => 88 | 3 => 3 | 39 => 92 | 0 => 0 | 53 => 103 | 55 => 105 | 4 => 4 | 46 => 96 | 45 => 95 | 50 => 100 | 5 => 5 | 9 => 9 | 66 => 106 | 70 => 110 | 76 => 112 | 77 => 113 | n => n, fun | n => n⟩
theorem sortT : Go.Proofs.SlLaysF0.n6 Try.prog sortT_ren := {
  mixed := by kernel_rfl
  f6 := ⟨Try.f65.name, by decide, Try.func65.trans (congrArg some (by kernel_rfl))⟩
  f14 := ⟨Try.f68.name, by decide, Try.func68.trans (congrArg some (by kernel_rfl))⟩
  f15 := Try.func69.trans (congrArg some (by kernel_rfl))
  f20 := ⟨Try.f72.name, by decide, Try.func72.trans (congrArg some (by kernel_rfl))⟩
  f21 := ⟨Try.f73.name, by decide, Try.func73.trans (congrArg some (by kernel_rfl))⟩
  f22 := ⟨Try.f74.name, by decide, Try.func74.trans (congrArg some (by kernel_rfl))⟩
  f23 := ⟨Try.f75.name, by decide, Try.func75.trans (congrArg some (by kernel_rfl))⟩
  f24 := ⟨Try.f76.name, by decide, Try.func76.trans (congrArg some (by kernel_rfl))⟩
  f25 := ⟨Try.f77.name, by decide, Try.func77.trans (congrArg some (by kernel_rfl))⟩
  f26 := ⟨Try.f78.name, by decide, Try.func78.trans (congrArg some (by kernel_rfl))⟩
  f27 := ⟨Try.f79.name, by decide, Try.func79.trans (congrArg some (by kernel_rfl))⟩
  f28 := Try.func80.trans (congrArg some (by kernel_rfl))
  f29 := Try.func81.trans (congrArg some (by kernel_rfl))
  f46 := ⟨Try.f83.name, by decide, Try.func83.trans (congrArg some (by kernel_rfl))⟩
  f47 := Try.func84.trans (congrArg some (by kernel_rfl))
  f48 := Try.func85.trans (congrArg some (by kernel_rfl))
  f49 := ⟨Try.f86.name, by decide, Try.func86.trans (congrArg some (by kernel_rfl))⟩
  f50 := ⟨Try.f87.name, by decide, Try.func87.trans (congrArg some (by kernel_rfl))⟩
  f57 := ⟨Try.f88.name, by decide, Try.func88.trans (congrArg some (by kernel_rfl))⟩
  t0 := Try.underlying0
  a0 := Try.isAgg0
  z0 := Try.sizeOf0
  v0 := Try.zeroValue0
  t3 := Try.underlying3
  a3 := Try.isAgg3
  z3 := Try.sizeOf3
  v3 := Try.zeroValue3
  t4 := Try.underlying4
  a4 := Try.isAgg4
  z4 := Try.sizeOf4
  v4 := Try.zeroValue4
  t5 := Try.underlying5
  a5 := Try.isAgg5
  z5 := Try.sizeOf5
  v5 := Try.zeroValue5
  t9 := Try.underlying9
  a9 := Try.isAgg9
  z9 := Try.sizeOf9
  v9 := Try.zeroValue9
  t22 := Try.underlying27
  a22 := Try.isAgg27
  z22 := Try.sizeOf27
  v22 := Try.zeroValue27
  t25 := Try.underlying88
  a25 := Try.isAgg88
  z25 := Try.sizeOf88
  v25 := Try.zeroValue88
  t39 := Try.underlying92
  a39 := Try.isAgg92
  z39 := Try.sizeOf92
  v39 := Try.zeroValue92
  t45 := Try.underlying95
  a45 := Try.isAgg95
  z45 := Try.sizeOf95
  v45 := Try.zeroValue95
  t46 := Try.underlying96
  a46 := Try.isAgg96
  z46 := Try.sizeOf96
  v46 := Try.zeroValue96
  t50 := Try.underlying100
  a50 := Try.isAgg100
  z50 := Try.sizeOf100
  v50 := Try.zeroValue100
  t53 := Try.underlying103
  a53 := Try.isAgg103
  z53 := Try.sizeOf103
  v53 := Try.zeroValue103
  t55 := Try.underlying105
  a55 := Try.isAgg105
  z55 := Try.sizeOf105
  v55 := Try.zeroValue105
  t66 := Try.underlying106
  a66 := Try.isAgg106
  z66 := Try.sizeOf106
  v66 := Try.zeroValue106
  t70 := Try.underlying110
  a70 := Try.isAgg110
  z70 := Try.sizeOf110
  v70 := Try.zeroValue110
  t76 := Try.underlying112
  a76 := Try.isAgg112
  z76 := Try.sizeOf112
  v76 := Try.zeroValue112
  t77 := Try.underlying113
  a77 := Try.isAgg113
  z77 := Try.sizeOf113
  v77 := Try.zeroValue113 }

set_option maxRecDepth 100000 in
set_option maxHeartbeats 2000000 in
theorem c_compareTiles (x y : Int × Int) (w : World) : Calls Try.prog 66 #[.agg #[.int .i64 x.1, .int .i64 x.2], .agg #[.int .i64 y.1, .int .i64 y.2]] w fun e w' => e = .returned (.int .i64 (cmpT x y)) ∧ ∃ q os', w' = grow (w.drewN q) os' := by
  rw [cmpT_or]
  obtain ⟨a, b⟩ := x
  obtain ⟨c, d⟩ := y
  have con := fun W => c_cmpCompare a c W
  have con' := fun W => c_cmpCompare b d W
  simp only []
  generalize cmpI a c = p at con ⊢
  generalize cmpI b d = q at con' ⊢
  go_enter Try.func66, Try.ntmps66
  go_wp2
  have x0 : ((w.alloc (.cells #[.int .i64 a, .int .i64 b] 41)).alloc (.cells #[.int .i64 c, .int .i64 d] 41)).cell? ⟨w.heap.size, 0, none⟩ = some (.int .i64 a) := by simp [go_sem]
  have x1 : ((w.alloc (.cells #[.int .i64 a, .int .i64 b] 41)).alloc (.cells #[.int .i64 c, .int .i64 d] 41)).cell? ⟨w.heap.size, 1, none⟩ = some (.int .i64 b) := by simp [go_sem]
  have y0 : ((w.alloc (.cells #[.int .i64 a, .int .i64 b] 41)).alloc (.cells #[.int .i64 c, .int .i64 d] 41)).cell? ⟨w.heap.size + 1, 0, none⟩ = some (.int .i64 c) := by simp [go_sem]
  have y1 : ((w.alloc (.cells #[.int .i64 a, .int .i64 b] 41)).alloc (.cells #[.int .i64 c, .int .i64 d] 41)).cell? ⟨w.heap.size + 1, 1, none⟩ = some (.int .i64 d) := by simp [go_sem]
  go_region_held3 (fun w' => w'.cell? ⟨w.heap.size, 0, none⟩ = some (.int .i64 a) ∧ w'.cell? ⟨w.heap.size, 1, none⟩ = some (.int .i64 b) ∧ w'.cell? ⟨w.heap.size + 1, 0, none⟩ = some (.int .i64 c) ∧ w'.cell? ⟨w.heap.size + 1, 1, none⟩ = some (.int .i64 d)) (first | exact ⟨x0, x1, y0, y1⟩ | go_keep) (first | (go_at_call_of 71 (Value.int .i64 a); refine (con _).mono ?_; rintro e w' ⟨rfl, rfl⟩) | (go_at_call_of 71 (Value.int .i64 b); refine (con' _).mono ?_; rintro e w' ⟨rfl, rfl⟩) | (go_at_call 70; refine (c_cmpOr (w.heap.size + 1 + 1) p q _ ?h0 ?h1).mono ?_; (case h0 => simp [go_sem]); (case h1 => simp [go_sem]); rintro e w' ⟨rfl, rfl⟩))
  go_wp2
  go_ret
  exact ⟨rfl, 1, _, by rw [alloc_eq_grow, alloc_eq_grow, alloc_eq_grow, grow_grow, grow_grow]; rfl⟩

theorem ltOf_cmp (x y : Int × Int) : ltOf cmpT x y = decide (ltT x y) := by
  unfold ltOf cmpT cmpI
  rw [Bool.eq_iff_iff, decide_eq_true_eq, decide_eq_true_eq]
  unfold ltT
  by_cases h1 : x.1 < y.1
  · simp [h1]
  · by_cases h2 : y.1 < x.1
    · have : ¬ x.1 = y.1 := by omega
      simp [h1, h2, this]
    · have h3 : x.1 = y.1 := by omega
      by_cases h4 : x.2 < y.2
      · simp [h3, h4]
      · by_cases h5 : y.2 < x.2 <;> simp [h3, h4, h5]
theorem swoT : SWO (ltOf cmpT) where
  irrefl x := by rw [ltOf_cmp]; simp [ltT]
  trans x y z h1 h2 := by
    have h1' : ltT x y := by simpa [ltOf_cmp] using h1
    have h2' : ltT y z := by simpa [ltOf_cmp] using h2
    rw [ltOf_cmp, decide_eq_true_eq]
    unfold ltT at *
    omega
  ntrans x y z h1 h2 := by
    have h1' : ¬ ltT x y := by simpa [ltOf_cmp] using h1
    have h2' : ¬ ltT y z := by simpa [ltOf_cmp] using h2
    rw [ltOf_cmp, decide_eq_false_iff_not]
    unfold ltT at *
    omega

/-- What the library's sort leaves of a list with the tiles of ts, each once, is ts in order. -/
theorem sorted_is {us ts : List (Int × Int)} {d' : Array (Int × Int)} (hg : ∀ t ∈ ts, goodB t.1 t.2 = true) (hnd : us.Nodup) (hmem : ∀ t, t ∈ us ↔ t ∈ ts)
    (hp : PermIn 0 us.toArray.size us.toArray d') (hs : SortedIn (ltOf cmpT) 0 us.toArray.size d') : d'.toList = sortL ts := by
  obtain ⟨h1, _, h3⟩ := hp
  have hperm : d'.toList.Perm us := by
    have e1 : d'.extract 0 us.toArray.size = d' := by rw [← h1]; simp
    have e2 : us.toArray.extract 0 us.toArray.size = us.toArray := by simp
    rw [e1, e2] at h3
    simpa using h3
  have hnd' : d'.toList.Nodup := hperm.nodup_iff.2 hnd
  refine sorted_ext ?_ (pickL_sorted ts true) (fun x => ?_)
  · rw [List.pairwise_iff_getElem]
    intro i j hi hj hij
    have hsz : d'.size = us.toArray.size := h1
    have := hs i j (Nat.zero_le _) hij (by simpa [← hsz] using hj)
    rw [ltOf_cmp, decide_eq_false_iff_not] at this
    have hi' : i < d'.size := by simpa using hi
    have hj' : j < d'.size := by simpa using hj
    rw [getElem!_pos d' j hj', getElem!_pos d' i hi'] at this
    have hne : d'.toList[i] ≠ d'.toList[j] := List.pairwise_iff_getElem.1 hnd' i j hi hj hij
    simp only [Array.getElem_toList] at hne ⊢
    generalize d'[i] = x at *
    generalize d'[j] = y at *
    have hxy : ¬ (x.1 = y.1 ∧ x.2 = y.2) := fun h => hne (Prod.ext h.1 h.2)
    simp only [ltT] at this ⊢
    omega
  · rw [mem_sortL hg, ← hmem]
    exact hperm.mem_iff

theorem flat_cells (d : List (Int × Int)) : (flatK (fun t : Int × Int => [Value.int .i64 t.1, .int .i64 t.2]) 2 d.toArray).toList = cellsT d := by
  apply List.ext_getElem?
  intro j
  rcases Nat.lt_or_ge j (d.length * 2) with hj | hj
  · have h1 : j / 2 < d.length := by omega
    have h2 := cellsT_get d (j / 2) h1
    have h3 : (flatK (fun t : Int × Int => [Value.int .i64 t.1, .int .i64 t.2]) 2 d.toArray).toList[j]? = some ([Value.int .i64 d[j / 2].1, .int .i64 d[j / 2].2][j % 2]!) := by
      simp [flatK, hj, h1]
    rw [h3]
    rcases (by omega : j % 2 = 0 ∨ j % 2 = 1) with h | h
    · rw [h]; have e : j = j / 2 * 2 := by omega
      rw [← e] at h2
      rw [h2.1]; rfl
    · rw [h]; have e : j = j / 2 * 2 + 1 := by omega
      rw [← e] at h2
      rw [h2.2]; rfl
  · rw [List.getElem?_eq_none (by simp [flatK]; omega), List.getElem?_eq_none (by rw [cellsT_length]; omega)]

abbrev encT : Int × Int → List Value := fun t => [Value.int .i64 t.1, .int .i64 t.2]

theorem holds_own {w : World} {base g c : Nat} {us : List (Int × Int)} (h : w.ownsRow base 41 2 (.slice (some ⟨g, 0, none⟩) us.length c) us.length (cellsT us)) : HoldsK encT 2 w g 0 us.toArray := by
  intro j hj
  have hj' : j < us.length * 2 := by simpa using hj
  have h1 := h.cellAt j hj'
  have h2 := h.frozenAt j
  have hf := flat_cells us
  have e1 : (flatK encT 2 us.toArray)[j]? = (cellsT us)[j]? := by rw [← hf, Array.getElem?_toList]
  have hlt : j < (flatK encT 2 us.toArray).size := hj
  rw [Array.getElem?_eq_getElem hlt] at e1
  rw [Nat.zero_add, h1, ← e1, getElem!_pos _ j hlt]
  exact ⟨rfl, h2⟩

theorem own_sorted {w : World} {base g c n : Nat} {us ys : List (Int × Int)} {os : Array Obj} (h : w.ownsRow base 41 2 (.slice (some ⟨g, 0, none⟩) us.length c) us.length (cellsT us)) (hy : ys.length = us.length) :
    (sortWorldK encT 2 w g 0 n ys.toArray os).ownsRow base 41 2 (.slice (some ⟨g, 0, none⟩) us.length c) us.length (cellsT ys) ∧ w.grownBy (sortWorldK encT 2 w g 0 n ys.toArray os) (some g) := by
  have hgr : w.grownBy (sortWorldK encT 2 w g 0 n ys.toArray os) (some g) := by
    refine ⟨rfl, rfl, rfl, by simp [sortWorldK, grow, putRowK, putRow, mapBlock, Sort.ahead], fun k hk hne => ?_⟩
    have : g ≠ k := fun e => hne (by rw [e])
    show (grow (putRowK encT 2 (Sort.ahead w n) g 0 ys.toArray) os).heap[k]? = _
    rw [heap_grow_old _ _ (by simpa [putRowK, putRow, mapBlock, Sort.ahead] using hk)]
    simp [putRowK, putRow, mapBlock, Sort.ahead, Array.getElem?_modify, this]
  refine ⟨?_, hgr⟩
  obtain ⟨hl, ⟨e0, _⟩ | ⟨g', cap', cur, e0, hb, hg, hn, hm, hs, ht⟩⟩ := h
  · cases e0
  injection e0 with e1 _ e3
  injection e1 with e1
  injection e1 with e1
  subst e1; subst e3
  have hgl : g < w.heap.size := (Array.getElem?_eq_some_iff.1 hg).1
  refine ⟨by rw [cellsT_length, hy], .inr ⟨g, c, putCells id 0 (flatK encT 2 ys.toArray) cur, rfl, hb, ?_, hn, hm, by simpa [putCells] using hs, ?_⟩⟩
  · show (grow (putRowK encT 2 (Sort.ahead w n) g 0 ys.toArray) os).heap[g]? = _
    rw [heap_grow_old _ _ (by simpa [putRowK, putRow, mapBlock, Sort.ahead] using hgl)]
    simp [putRowK, putRow, mapBlock, Sort.ahead, Array.getElem?_modify, hg, onCells]
  · rw [← flat_cells ys]
    apply List.ext_getElem?
    intro j
    by_cases hj : j < us.length * 2
    · have hjc : j < cur.size := by omega
      rw [List.getElem?_take_of_lt hj, Array.getElem?_toList, Array.getElem?_toList]
      simp only [putCells, Array.getElem?_mapIdx, Array.getElem?_eq_getElem hjc, Option.map_some]
      have hjf : j < (flatK encT 2 ys.toArray).size := by simp; omega
      rw [if_pos (by omega), Array.getElem?_eq_getElem hjf, Nat.sub_zero, getElem!_pos _ j hjf]
      rfl
    · rw [List.getElem?_eq_none (by simp; omega), List.getElem?_eq_none (by simp; omega)]

theorem Try.isAggT (w : World) : (isAgg 41).run Try.prog w = .ok true w := by kernel_rfl
theorem Try.sizeT (w : World) : (Go.sizeOf 41).run Try.prog w = .ok 2 w := by kernel_rfl

/-- slices.SortFunc by compareTiles, at a row of the call's own with the tiles of ts, each once. -/
theorem c_sortFunc (g c base : Nat) (us ts : List (Int × Int)) (w : World) (h : w.ownsRow base 41 2 (.slice (some ⟨g, 0, none⟩) us.length c) us.length (cellsT us)) (hl : us.length ≤ 1048576)
    (hg : ∀ t ∈ ts, goodB t.1 t.2 = true) (hnd : us.Nodup) (hmem : ∀ t, t ∈ us ↔ t ∈ ts) :
    Calls Try.prog 65 #[.slice (some ⟨g, 0, none⟩) us.length c, .func (.func 66) #[] #[]] w fun e w' =>
      e = .returned (.tuple #[]) ∧ us.length = (sortL ts).length ∧ w'.ownsRow base 41 2 (.slice (some ⟨g, 0, none⟩) us.length c) us.length (cellsT (sortL ts)) ∧ w.grownBy w' (some g) := by
  have eg : ∀ args w, (callFunc 66 args).run Try.prog w = .ok (.enter 66 args) w := enters_of Try.func66 (by kernel_rfl) rfl
  have hgl : g < w.heap.size := (h.lt g rfl).2
  have hc := AnyQ.slices_SortFunc sortT 2 Try.isAggT Try.sizeT encT (fun _ => rfl) (fun x v hv => by simp [encT] at hv; rcases hv with rfl | rfl <;> rfl) cmpT swoT 66 #[] g 0 c us.toArray w eg
    (fun _ _ _ _ x y => c_compareTiles x y _) (holds_own h) hgl (by simp; omega)
  have hc' : Calls Try.prog 65 #[.slice (some ⟨g, 0, none⟩) us.length c, .func (.func 66) #[] #[]] w _ := hc
  refine hc'.mono fun e w' ⟨he, d', n, os, hp, hs, hw⟩ => ?_
  have hd := sorted_is hg hnd hmem hp hs
  have hlen : (sortL ts).length = us.length := by
    have := hp.1
    rw [← hd]
    simpa using this
  have hdd : d' = (sortL ts).toArray := by rw [← hd]
  subst hw
  rw [hdd]
  obtain ⟨o1, o2⟩ := own_sorted (n := n) (os := os) h hlen
  exact ⟨he, hlen.symm, o1, o2⟩
end Go.Proofs.Ytcofambcicnonaa

/- The library's sort at lists of tiles, and the tiles of a map in their order. A range over an iterator that keeps a state of its own in memory and hands out what lies in it. XIter's law for a range whose loop variable is boxed. slices.Values of a row of tiles; slices.AppendSeq, Collect and SortedFunc of it. -/
import Derived.Test.YtlnfialfkipdjaaSrtA
import Derived.Test.YtlnfialfkipdjaaSets
import Derived.Shelf.SlSortCmp.WholeK
import Derived.Ground.SlsfProg
import Derived.RangeFuncNested
import Derived.RangeFuncBound
import Derived.RangeFuncCalls
import Derived.RangeFuncLeaves
import Derived.Test.YtlnfialfkipdjaaChains
import Derived.Test.YtlnfialfkipdjaaGames
import Derived.LoopIn
import Derived.TacticsIn
import Derived.Maps.OwnIn
import Derived.Shelf.SlSortCmp.NoneTotal
namespace Go.Proofs.Ytlnfialfkipdjaa
open Go.Shelf Go.RowKit Go.Lib Go.Sort Go.Maps Go.ChangeMaps
set_option linter.unusedVariables false

def sortT_ren : Go.Shelf.Ren := ⟨fun | 6 => 239 | 15 => 251 | 14 => 250 | 28 => 262 | 29 => 263 | 20 => 254 | 21 => 255 | 22 => 256 | 23 => 257 | 24 => 258 | 25 => 259 | 26 => 260 | 27 => 261 | 46 => 264 | 47 => 265 | 48 => 266 | 49 => 267 | 50 => 268 | 57 => 269 | n => n, fun | 22 => 22 | 24 => 95 | 25 => 110 | 3 => 3 | 39 => 261 | 0 => 0 | 53 => 286 | 55 => 184 | 4 => 4 | 46 => 280 | 45 => 279 | 50 => 60 | 5 => 5 | 9 => 9 | 66 => 288 | 70 => 292 | 76 => 294 | 77 => 168 | n => n, fun | n => n⟩
theorem sortT : Go.Proofs.SlLaysF0.n6 Try.prog sortT_ren := {
  mixed := by kernel_rfl
  f6 := ⟨Try.f239.name, by decide, Try.func239.trans (congrArg some (by kernel_rfl))⟩
  f14 := ⟨Try.f250.name, by decide, Try.func250.trans (congrArg some (by kernel_rfl))⟩
  f15 := Try.func251.trans (congrArg some (by kernel_rfl))
  f20 := ⟨Try.f254.name, by decide, Try.func254.trans (congrArg some (by kernel_rfl))⟩
  f21 := ⟨Try.f255.name, by decide, Try.func255.trans (congrArg some (by kernel_rfl))⟩
  f22 := ⟨Try.f256.name, by decide, Try.func256.trans (congrArg some (by kernel_rfl))⟩
  f23 := ⟨Try.f257.name, by decide, Try.func257.trans (congrArg some (by kernel_rfl))⟩
  f24 := ⟨Try.f258.name, by decide, Try.func258.trans (congrArg some (by kernel_rfl))⟩
  f25 := ⟨Try.f259.name, by decide, Try.func259.trans (congrArg some (by kernel_rfl))⟩
  f26 := ⟨Try.f260.name, by decide, Try.func260.trans (congrArg some (by kernel_rfl))⟩
  f27 := ⟨Try.f261.name, by decide, Try.func261.trans (congrArg some (by kernel_rfl))⟩
  f28 := Try.func262.trans (congrArg some (by kernel_rfl))
  f29 := Try.func263.trans (congrArg some (by kernel_rfl))
  f46 := ⟨Try.f264.name, by decide, Try.func264.trans (congrArg some (by kernel_rfl))⟩
  f47 := Try.func265.trans (congrArg some (by kernel_rfl))
  f48 := Try.func266.trans (congrArg some (by kernel_rfl))
  f49 := ⟨Try.f267.name, by decide, Try.func267.trans (congrArg some (by kernel_rfl))⟩
  f50 := ⟨Try.f268.name, by decide, Try.func268.trans (congrArg some (by kernel_rfl))⟩
  f57 := ⟨Try.f269.name, by decide, Try.func269.trans (congrArg some (by kernel_rfl))⟩
  t0 := Try.underlying0
  a0 := Try.isAgg0
  z0 := Try.sizeOf0
  v0 := Try.zeroValue0
  t3 := Try.underlying3
  a3 := Try.isAgg3
  z3 := Try.sizeOf3
  v3 := Try.zeroValue3
  t4 := Try.underlying4
  a4 := Try.isAgg4
  z4 := Try.sizeOf4
  v4 := Try.zeroValue4
  t5 := Try.underlying5
  a5 := Try.isAgg5
  z5 := Try.sizeOf5
  v5 := Try.zeroValue5
  t9 := Try.underlying9
  a9 := Try.isAgg9
  z9 := Try.sizeOf9
  v9 := Try.zeroValue9
  t22 := Try.underlying22
  a22 := Try.isAgg22
  z22 := Try.sizeOf22
  v22 := Try.zeroValue22
  t25 := Try.underlying110
  a25 := Try.isAgg110
  z25 := Try.sizeOf110
  v25 := Try.zeroValue110
  t39 := Try.underlying261
  a39 := Try.isAgg261
  z39 := Try.sizeOf261
  v39 := Try.zeroValue261
  t45 := Try.underlying279
  a45 := Try.isAgg279
  z45 := Try.sizeOf279
  v45 := Try.zeroValue279
  t46 := Try.underlying280
  a46 := Try.isAgg280
  z46 := Try.sizeOf280
  v46 := Try.zeroValue280
  t50 := Try.underlying60
  a50 := Try.isAgg60
  z50 := Try.sizeOf60
  v50 := Try.zeroValue60
  t53 := Try.underlying286
  a53 := Try.isAgg286
  z53 := Try.sizeOf286
  v53 := Try.zeroValue286
  t55 := Try.underlying184
  a55 := Try.isAgg184
  z55 := Try.sizeOf184
  v55 := Try.zeroValue184
  t66 := Try.underlying288
  a66 := Try.isAgg288
  z66 := Try.sizeOf288
  v66 := Try.zeroValue288
  t70 := Try.underlying292
  a70 := Try.isAgg292
  z70 := Try.sizeOf292
  v70 := Try.zeroValue292
  t76 := Try.underlying294
  a76 := Try.isAgg294
  z76 := Try.sizeOf294
  v76 := Try.zeroValue294
  t77 := Try.underlying168
  a77 := Try.isAgg168
  z77 := Try.sizeOf168
  v77 := Try.zeroValue168 }

set_option maxRecDepth 100000 in
set_option maxHeartbeats 2000000 in
theorem c_compareTiles (x y : Int × Int) (w : World) : Calls Try.prog 92 #[.agg #[.int .i64 x.1, .int .i64 x.2], .agg #[.int .i64 y.1, .int .i64 y.2]] w fun e w' => e = .returned (.int .i64 (cmpT x y)) ∧ ∃ q os', w' = grow (w.drewN q) os' := by
  rw [cmpT_or]
  obtain ⟨a, b⟩ := x
  obtain ⟨c, d⟩ := y
  have con := fun W => c_cmpCompare a c W
  have con' := fun W => c_cmpCompare b d W
  simp only []
  generalize cmpI a c = p at con ⊢
  generalize cmpI b d = q at con' ⊢
  go_enter Try.func92, Try.ntmps92
  go_wp2
  have x0 : ((w.alloc (.cells #[.int .i64 a, .int .i64 b] 95)).alloc (.cells #[.int .i64 c, .int .i64 d] 95)).cell? ⟨w.heap.size, 0, none⟩ = some (.int .i64 a) := by simp [go_sem]
  have x1 : ((w.alloc (.cells #[.int .i64 a, .int .i64 b] 95)).alloc (.cells #[.int .i64 c, .int .i64 d] 95)).cell? ⟨w.heap.size, 1, none⟩ = some (.int .i64 b) := by simp [go_sem]
  have y0 : ((w.alloc (.cells #[.int .i64 a, .int .i64 b] 95)).alloc (.cells #[.int .i64 c, .int .i64 d] 95)).cell? ⟨w.heap.size + 1, 0, none⟩ = some (.int .i64 c) := by simp [go_sem]
  have y1 : ((w.alloc (.cells #[.int .i64 a, .int .i64 b] 95)).alloc (.cells #[.int .i64 c, .int .i64 d] 95)).cell? ⟨w.heap.size + 1, 1, none⟩ = some (.int .i64 d) := by simp [go_sem]
  go_region_held3 (fun w' => w'.cell? ⟨w.heap.size, 0, none⟩ = some (.int .i64 a) ∧ w'.cell? ⟨w.heap.size, 1, none⟩ = some (.int .i64 b) ∧ w'.cell? ⟨w.heap.size + 1, 0, none⟩ = some (.int .i64 c) ∧ w'.cell? ⟨w.heap.size + 1, 1, none⟩ = some (.int .i64 d)) (first | exact ⟨x0, x1, y0, y1⟩ | go_keep) (first | (go_at_call_of 158 (Value.int .i64 a); refine (con _).mono ?_; rintro e w' ⟨rfl, rfl⟩) | (go_at_call_of 158 (Value.int .i64 b); refine (con' _).mono ?_; rintro e w' ⟨rfl, rfl⟩) | (go_at_call 157; refine (c_cmpOr (w.heap.size + 1 + 1) p q _ ?h0 ?h1).mono ?_; (case h0 => simp [go_sem]); (case h1 => simp [go_sem]); rintro e w' ⟨rfl, rfl⟩))
  go_wp2
  go_ret
  exact ⟨rfl, 1, _, by rw [alloc_eq_grow, alloc_eq_grow, alloc_eq_grow, grow_grow, grow_grow]; rfl⟩

theorem ltOf_cmp (x y : Int × Int) : ltOf cmpT x y = decide (ltT x y) := by
  unfold ltOf cmpT cmpI
  rw [Bool.eq_iff_iff, decide_eq_true_eq, decide_eq_true_eq]
  unfold ltT
  by_cases h1 : x.1 < y.1
  · simp [h1]
  · by_cases h2 : y.1 < x.1
    · have : ¬ x.1 = y.1 := by omega
      simp [h1, h2, this]
    · have h3 : x.1 = y.1 := by omega
      by_cases h4 : x.2 < y.2
      · simp [h3, h4]
      · by_cases h5 : y.2 < x.2 <;> simp [h3, h4, h5]
theorem swoT : SWO (ltOf cmpT) where
  irrefl x := by rw [ltOf_cmp]; simp [ltT]
  trans x y z h1 h2 := by
    have h1' : ltT x y := by simpa [ltOf_cmp] using h1
    have h2' : ltT y z := by simpa [ltOf_cmp] using h2
    rw [ltOf_cmp, decide_eq_true_eq]
    unfold ltT at *
    omega
  ntrans x y z h1 h2 := by
    have h1' : ¬ ltT x y := by simpa [ltOf_cmp] using h1
    have h2' : ¬ ltT y z := by simpa [ltOf_cmp] using h2
    rw [ltOf_cmp, decide_eq_false_iff_not]
    unfold ltT at *
    omega

/-- What the library's sort leaves of a list with the tiles of ts, each once, is ts in order. -/
theorem sorted_is {us ts : List (Int × Int)} {d' : Array (Int × Int)} (hg : ∀ t ∈ ts, goodB t.1 t.2 = true) (hnd : us.Nodup) (hmem : ∀ t, t ∈ us ↔ t ∈ ts)
    (hp : PermIn 0 us.toArray.size us.toArray d') (hs : SortedIn (ltOf cmpT) 0 us.toArray.size d') : d'.toList = sortL ts := by
  obtain ⟨h1, _, h3⟩ := hp
  have hperm : d'.toList.Perm us := by
    have e1 : d'.extract 0 us.toArray.size = d' := by rw [← h1]; simp
    have e2 : us.toArray.extract 0 us.toArray.size = us.toArray := by simp
    rw [e1, e2] at h3
    simpa using h3
  have hnd' : d'.toList.Nodup := hperm.nodup_iff.2 hnd
  refine sorted_ext ?_ (pickL_sorted ts true) (fun x => ?_)
  · rw [List.pairwise_iff_getElem]
    intro i j hi hj hij
    have hsz : d'.size = us.toArray.size := h1
    have := hs i j (Nat.zero_le _) hij (by simpa [← hsz] using hj)
    rw [ltOf_cmp, decide_eq_false_iff_not] at this
    have hi' : i < d'.size := by simpa using hi
    have hj' : j < d'.size := by simpa using hj
    rw [getElem!_pos d' j hj', getElem!_pos d' i hi'] at this
    have hne : d'.toList[i] ≠ d'.toList[j] := List.pairwise_iff_getElem.1 hnd' i j hi hj hij
    simp only [Array.getElem_toList] at hne ⊢
    generalize d'[i] = x at *
    generalize d'[j] = y at *
    have hxy : ¬ (x.1 = y.1 ∧ x.2 = y.2) := fun h => hne (Prod.ext h.1 h.2)
    simp only [ltT] at this ⊢
    omega
  · rw [mem_sortL hg, ← hmem]
    exact hperm.mem_iff

theorem flat_cells (d : List (Int × Int)) : (flatK (fun t : Int × Int => [Value.int .i64 t.1, .int .i64 t.2]) 2 d.toArray).toList = cellsT d := by
  apply List.ext_getElem?
  intro j
  rcases Nat.lt_or_ge j (d.length * 2) with hj | hj
  · have h1 : j / 2 < d.length := by omega
    have h2 := cellsT_get d (j / 2) h1
    have h3 : (flatK (fun t : Int × Int => [Value.int .i64 t.1, .int .i64 t.2]) 2 d.toArray).toList[j]? = some ([Value.int .i64 d[j / 2].1, .int .i64 d[j / 2].2][j % 2]!) := by
      simp [flatK, hj, h1]
    rw [h3]
    rcases (by omega : j % 2 = 0 ∨ j % 2 = 1) with h | h
    · rw [h]; have e : j = j / 2 * 2 := by omega
      rw [← e] at h2
      rw [h2.1]; rfl
    · rw [h]; have e : j = j / 2 * 2 + 1 := by omega
      rw [← e] at h2
      rw [h2.2]; rfl
  · rw [List.getElem?_eq_none (by simp [flatK]; omega), List.getElem?_eq_none (by rw [cellsT_length]; omega)]

abbrev encT : Int × Int → List Value := fun t => [Value.int .i64 t.1, .int .i64 t.2]

theorem holds_own {w : World} {base g c : Nat} {us : List (Int × Int)} (h : w.ownsRow base 95 2 (.slice (some ⟨g, 0, none⟩) us.length c) us.length (cellsT us)) : HoldsK encT 2 w g 0 us.toArray := by
  intro j hj
  have hj' : j < us.length * 2 := by simpa using hj
  have h1 := h.cellAt j hj'
  have h2 := h.frozenAt j
  have hf := flat_cells us
  have e1 : (flatK encT 2 us.toArray)[j]? = (cellsT us)[j]? := by rw [← hf, Array.getElem?_toList]
  have hlt : j < (flatK encT 2 us.toArray).size := hj
  rw [Array.getElem?_eq_getElem hlt] at e1
  rw [Nat.zero_add, h1, ← e1, getElem!_pos _ j hlt]
  exact ⟨rfl, h2⟩

theorem own_sorted {w : World} {base g c n : Nat} {us ys : List (Int × Int)} {os : Array Obj} (h : w.ownsRow base 95 2 (.slice (some ⟨g, 0, none⟩) us.length c) us.length (cellsT us)) (hy : ys.length = us.length) :
    (sortWorldK encT 2 w g 0 n ys.toArray os).ownsRow base 95 2 (.slice (some ⟨g, 0, none⟩) us.length c) us.length (cellsT ys) ∧ w.grownBy (sortWorldK encT 2 w g 0 n ys.toArray os) (some g) := by
  have hgr : w.grownBy (sortWorldK encT 2 w g 0 n ys.toArray os) (some g) := by
    refine ⟨rfl, rfl, rfl, by simp [sortWorldK, grow, putRowK, putRow, mapBlock, Sort.ahead], fun k hk hne => ?_⟩
    have : g ≠ k := fun e => hne (by rw [e])
    show (grow (putRowK encT 2 (Sort.ahead w n) g 0 ys.toArray) os).heap[k]? = _
    rw [heap_grow_old _ _ (by simpa [putRowK, putRow, mapBlock, Sort.ahead] using hk)]
    simp [putRowK, putRow, mapBlock, Sort.ahead, Array.getElem?_modify, this]
  refine ⟨?_, hgr⟩
  obtain ⟨hl, ⟨e0, _⟩ | ⟨g', cap', cur, e0, hb, hg, hn, hm, hs, ht⟩⟩ := h
  · cases e0
  injection e0 with e1 _ e3
  injection e1 with e1
  injection e1 with e1
  subst e1; subst e3
  have hgl : g < w.heap.size := (Array.getElem?_eq_some_iff.1 hg).1
  refine ⟨by rw [cellsT_length, hy], .inr ⟨g, c, putCells id 0 (flatK encT 2 ys.toArray) cur, rfl, hb, ?_, hn, hm, by simpa [putCells] using hs, ?_⟩⟩
  · show (grow (putRowK encT 2 (Sort.ahead w n) g 0 ys.toArray) os).heap[g]? = _
    rw [heap_grow_old _ _ (by simpa [putRowK, putRow, mapBlock, Sort.ahead] using hgl)]
    simp [putRowK, putRow, mapBlock, Sort.ahead, Array.getElem?_modify, hg, onCells]
  · rw [← flat_cells ys]
    apply List.ext_getElem?
    intro j
    by_cases hj : j < us.length * 2
    · have hjc : j < cur.size := by omega
      rw [List.getElem?_take_of_lt hj, Array.getElem?_toList, Array.getElem?_toList]
      simp only [putCells, Array.getElem?_mapIdx, Array.getElem?_eq_getElem hjc, Option.map_some]
      have hjf : j < (flatK encT 2 ys.toArray).size := by simp; omega
      rw [if_pos (by omega), Array.getElem?_eq_getElem hjf, Nat.sub_zero, getElem!_pos _ j hjf]
      rfl
    · rw [List.getElem?_eq_none (by simp; omega), List.getElem?_eq_none (by simp; omega)]

theorem Try.isAggT (w : World) : (isAgg 95).run Try.prog w = .ok true w := by kernel_rfl
theorem Try.sizeT (w : World) : (Go.sizeOf 95).run Try.prog w = .ok 2 w := by kernel_rfl

/-- slices.SortFunc by compareTiles, at a row of the call's own with the tiles of ts, each once. -/
theorem c_sortFunc (g c base : Nat) (us ts : List (Int × Int)) (w : World) (h : w.ownsRow base 95 2 (.slice (some ⟨g, 0, none⟩) us.length c) us.length (cellsT us)) (hl : us.length ≤ 1048576)
    (hg : ∀ t ∈ ts, goodB t.1 t.2 = true) (hnd : us.Nodup) (hmem : ∀ t, t ∈ us ↔ t ∈ ts) :
    Calls Try.prog 239 #[.slice (some ⟨g, 0, none⟩) us.length c, .func (.func 92) #[] #[]] w fun e w' =>
      e = .returned (.tuple #[]) ∧ us.length = (sortL ts).length ∧ w'.ownsRow base 95 2 (.slice (some ⟨g, 0, none⟩) us.length c) us.length (cellsT (sortL ts)) ∧ w.grownBy w' (some g) := by
  have eg : ∀ args w, (callFunc 92 args).run Try.prog w = .ok (.enter 92 args) w := enters_of Try.func92 (by kernel_rfl) rfl
  have hgl : g < w.heap.size := (h.lt g rfl).2
  have hc := AnyQ.slices_SortFunc sortT 2 Try.isAggT Try.sizeT encT (fun _ => rfl) (fun x v hv => by simp [encT] at hv; rcases hv with rfl | rfl <;> rfl) cmpT swoT 92 #[] g 0 c us.toArray w eg
    (fun _ _ _ _ x y => c_compareTiles x y _) (holds_own h) hgl (by simp; omega)
  have hc' : Calls Try.prog 239 #[.slice (some ⟨g, 0, none⟩) us.length c, .func (.func 92) #[] #[]] w _ := hc
  refine hc'.mono fun e w' ⟨he, d', n, os, hp, hs, hw⟩ => ?_
  have hd := sorted_is hg hnd hmem hp hs
  have hlen : (sortL ts).length = us.length := by
    have := hp.1
    rw [← hd]
    simpa using this
  have hdd : d' = (sortL ts).toArray := by rw [← hd]
  subst hw
  rw [hdd]
  obtain ⟨o1, o2⟩ := own_sorted (n := n) (os := os) h hlen
  exact ⟨he, hlen.symm, o1, o2⟩
end Go.Proofs.Ytlnfialfkipdjaa

namespace Go.Proofs.Ytlnfialfkipdjaa
open Go Go.RowKit
set_option linter.unusedVariables false

/-- From A to B no block but those of T turns; new ones may come. -/
structure Turn (T : Nat → Prop) (A B : World) : Prop where
  os : B.os = A.os
  tape : B.tape = A.tape
  output : B.output = A.output
  size : A.heap.size ≤ B.heap.size
  block : ∀ k, k < A.heap.size → ¬ T k → B.heap[k]? = A.heap[k]?
theorem Turn.refl (T : Nat → Prop) (A : World) : Turn T A A := ⟨rfl, rfl, rfl, Nat.le_refl _, fun _ _ _ => rfl⟩
theorem Turn.trans {T U : Nat → Prop} {A B C : World} (h : Turn T A B) (g : Turn U B C) (hu : ∀ k, k < A.heap.size → U k → T k) : Turn T A C :=
  ⟨g.os.trans h.os, g.tape.trans h.tape, g.output.trans h.output, Nat.le_trans h.size g.size, fun k hk ht =>
    (g.block k (Nat.lt_of_lt_of_le hk h.size) fun hu' => ht (hu k hk hu')).trans (h.block k hk ht)⟩
theorem Turn.mono {T U : Nat → Prop} {A B : World} (h : Turn T A B) (hu : ∀ k, k < A.heap.size → T k → U k) : Turn U A B :=
  ⟨h.os, h.tape, h.output, h.size, fun k hk ht => h.block k hk fun hT => ht (hu k hk hT)⟩
theorem Turn.of_below {T : Nat → Prop} {A B : World} (h : Below A.heap.size A B) : Turn T A B := ⟨h.os, h.tape, h.output, h.size, fun k hk _ => h.block k hk⟩
theorem Turn.below {T : Nat → Prop} {A B : World} {n : Nat} (h : Turn T A B) (hn : n ≤ A.heap.size) (ht : ∀ k, T k → n ≤ k) : Below n A B :=
  ⟨h.os, h.tape, h.output, h.size, fun k hk => h.block k (by omega) fun hT => by have := ht k hT; omega⟩
theorem Turn.of_grown {A B : World} {row : Option Nat} {T : Nat → Prop} (h : A.grownBy B row) (ht : ∀ k, row = some k → T k) : Turn T A B :=
  ⟨h.os, h.tape, h.output, h.size, fun k hk hn => h.block k hk fun e => hn (ht k e.symm)⟩
theorem Turn.putObj {T : Nat → Prop} {A : World} {l : Nat} (o : Obj) (hl : T l) : Turn T A (A.putObj l o) :=
  Turn.of_grown (grownBy_putObj' A l o) fun k e => by cases e; exact hl
theorem Turn.setCell {T : Nat → Prop} {A : World} (p : Addr) (u : Value) (hp : T p.block) : Turn T A (A.setCell p u) :=
  ⟨rfl, rfl, rfl, by simp [World.setCell], fun k _ hn => Below.heap_setCell _ _ _ _ fun e => hn (e ▸ hp)⟩
theorem Turn.cell {T : Nat → Prop} {A B : World} (h : Turn T A B) {p : Addr} {v : Value} (hp : ¬ T p.block) (hc : A.cell? p = some v) : B.cell? p = some v :=
  (World.cell?_of_block (w := A) (h.block p.block (World.block_lt_of_cell? _ _ hc) hp)).trans hc

/-- What all of an iterator's steps leave standing stands. -/
def AbT {β : Type} (n₀ : Nat) (J : (Nat → Prop) → β → World → Prop) : Prop :=
  ∀ T T' s A B, J T s A → (∀ k, T k → n₀ ≤ k ∧ k < A.heap.size) → n₀ ≤ A.heap.size → Turn T A B → (∀ k, T' k → T k ∨ A.heap.size ≤ k) → J T' s B
/-- What a round keeps: what lay below n₀, and the iterator's blocks. -/
abbrev Keep (n₀ : Nat) (T : Nat → Prop) (A B : World) : Prop := Turn (fun k => n₀ ≤ k ∧ ¬ T k) A B

/-- An iterator (function gf on lb) that hands out xs, one after the other, as Enc says, from its own blocks. -/
def Iters (P : Program) (n₀ : Nat) (T0 : Nat → Prop) (gf : Nat) (lb : Array Value) {α : Type} (Enc : α → Array Value → (Nat → Prop) → World → Prop) (xs : List α) (w0 : World) : Prop :=
  ∀ (m l : Nat) (J Jx : (Nat → Prop) → List α → World → Prop) (W : World), Below w0.heap.size w0 W → AbT n₀ J → AbT n₀ Jx →
    (∀ T pre x v A m, J T pre A → (pre ++ [x]) <+: xs → (∀ k, T k → n₀ ≤ k ∧ k < A.heap.size) → n₀ ≤ A.heap.size → Enc x v T A →
      YieldAt Fence.wide m P l v A fun e A' => (e = .returned (.bool true) ∧ J T (pre ++ [x]) A' ∧ Keep n₀ T A A') ∨ (e = .returned (.bool false) ∧ Jx T (pre ++ [x]) A' ∧ Keep n₀ T A A')) →
    J T0 [] W →
    CallsIn Fence.wide m P gf (#[.func (.yield l) #[] #[]] ++ lb) W fun e W' => (∃ v, e = .returned v) ∧ W.heap.size ≤ W'.heap.size ∧
      ((∃ T, J T xs W' ∧ (∀ k, T k → n₀ ≤ k ∧ k < W'.heap.size)) ∨ (∃ T pre, pre <+: xs ∧ Jx T pre W' ∧ (∀ k, T k → n₀ ≤ k ∧ k < W'.heap.size)))

/-- How the body of a round may be left. -/
def iterPost {α : Type} (n₀ : Nat) (T : Nat → Prop) (I : (Nat → Prop) → List α → World → Prop) (Ix : Code → (Nat → Prop) → List α → World → Prop) (xs : List α) (A : World) : Exit → Act → World → Prop
  | .normal, _, B => Keep n₀ T A B ∧ I T xs B
  | .ret, _, B => Keep n₀ T A B ∧ Ix .ret T xs B
  | .exit id, _, B => Keep n₀ T A B ∧ Ix (.exit id) T xs B
  | .goto t, _, B => Keep n₀ T A B ∧ Ix (.goto t) T xs B
  | .panic _, _, _ => False
  | .outgrown, _, _ => False

theorem yield_any {P : Program} {l m m' : Nat} {v : Array Value} {A : World} {R : Ending → World → Prop} (h : YieldAt Fence.wide m P l v A R) : YieldAt Fence.wide m' P l v A R := by
  obtain ⟨fn, tmps, assign, body, hy, hF, hr⟩ := h
  exact ⟨fn, tmps, assign, body, hy, hF, fun c cs _ => hr c cs (room_wide _)⟩

theorem wp_rangeIter {P : Program} {n : Nat} {α : Type} {g : Operand} {ps : Array Tmp} {assign body : Code} {Q : Exit → Act → World → Prop} {a : Act} {w : World}
    {gf : Nat} {lb : Array Value} (hg : a.eval g = .func (.func gf) #[] lb) (eg : ∀ args w, (callFunc gf args).run P w = .ok (.enter gf args) w)
    {n₀ : Nat} {T0 : Nat → Prop} {Enc : α → Array Value → (Nat → Prop) → World → Prop} {xs : List α} (hit : Iters P n₀ T0 gf lb Enc xs w)
    (hn : n₀ ≤ w.heap.size) (hT0 : ∀ k, T0 k → n₀ ≤ k ∧ k < w.heap.size) (hps : ∀ x v T A, Enc x v T A → v.size = ps.size)
    (hE : ∀ x v T A B, Enc x v T A → A.heap.size ≤ B.heap.size → (∀ k, T k → B.heap[k]? = A.heap[k]?) → Enc x v T B)
    (I : (Nat → Prop) → List α → World → Prop) (Ix : Code → (Nat → Prop) → List α → World → Prop) (hI : AbT n₀ I) (hIx : ∀ c, AbT n₀ (Ix c)) (h0 : I T0 [] w) (a₁ : Array Value → Act)
    (hassign : ∀ (l m : Nat) (x : α) (v : Array Value) (T : Nat → Prop) (W : World) (K : Act → World → Prop), Enc x v T W → K (a₁ v) W →
      assign.wpIn (Fence.wide.inRound l) m P (Exit.then K (fun _ _ _ => False)) { tmps := (ps.zip v).foldl (fun t (p, v) => t.setIfInBounds p v) a.tmps, defers := [] } W)
    (hbody : ∀ (l m : Nat) (T Ti : Nat → Prop) (pre : List α) (x : α) (v : Array Value) (A : World), I T pre A → (pre ++ [x]) <+: xs → (∀ k, T k → n₀ ≤ k ∧ k < A.heap.size) → n₀ ≤ A.heap.size → (∀ k, Ti k → T k) → Enc x v Ti A →
      body.wpIn (Fence.wide.inRound l) m P (iterPost n₀ T I Ix (pre ++ [x]) A) (a₁ v) A)
    (hdone : ∀ (D : Nat) (T : Nat → Prop) (W : World), w.heap.size ≤ D → T D → I T xs W → w.heap.size ≤ W.heap.size → W.heap[D]? = some (.deferred (some [])) → Q .normal { a with defers := { target := .collected D, args := #[] } :: a.defers } W)
    (hstop : ∀ (D : Nat) (c : Code) (T : Nat → Prop) (pre : List α) (W : World), w.heap.size ≤ D → T D → pre <+: xs → Ix c T pre W → w.heap.size ≤ W.heap.size → W.heap[D]? = some (.deferred (some [])) → c.wpIn Fence.wide n P Q { a with defers := { target := .collected D, args := #[] } :: a.defers } W) :
    (Code.rangeFunc g ps assign body).wpIn Fence.wide n P Q a w := by
  refine wpIn_rangeFunc ?_
  intro fn hfn
  rw [show Fence.wide.round = none from rfl]
  obtain ⟨rec, hrec⟩ : ∃ rec : LoopState → Option Code → Loop, rec = fun st pe => { state := st, pending := pe, fn, tmps := a.tmps, params := ps, assign, body, defers := w.heap.size } := ⟨_, rfl⟩
  have rst : ∀ st pe, (rec st pe).state = st := fun _ _ => by rw [hrec]
  have rpe : ∀ st pe, (rec st pe).pending = pe := fun _ _ => by rw [hrec]
  have rto : ∀ st pe st' pe', ({ rec st pe with state := st', pending := pe' } : Loop) = rec st' pe' := fun _ _ _ _ => by rw [hrec]
  obtain ⟨D, hD⟩ : ∃ D, D = w.heap.size := ⟨_, rfl⟩
  obtain ⟨l, hl⟩ : ∃ l, l = w.heap.size + 1 := ⟨_, rfl⟩
  have hDl : D ≠ l := by omega
  obtain ⟨W1, hW1⟩ : ∃ W1, W1 = (w.alloc (.deferred (some []))).alloc (.loop (rec .ready none)) := ⟨_, rfl⟩
  have hL1 : W1.heap[l]? = some (.loop (rec .ready none)) := by
    have := World.alloc_heap_new (w.alloc (.deferred (some []))) (.loop (rec .ready none))
    rw [World.size_alloc] at this
    rw [hW1, hl]; exact this
  have hK1 : W1.heap[D]? = some (.deferred (some [])) := by
    rw [hW1, hD]; exact (Below.heap_alloc _ _ _ (by simp)).trans (World.alloc_heap_new w _)
  have hbw : Below w.heap.size w W1 := by rw [hW1]; exact ((Below.refl _ w).alloc (Nat.le_refl _) _).alloc (by simp) _
  have hs1 : W1.heap.size = w.heap.size + 2 := by rw [hW1]; simp
  refine ⟨l, [{ target := .collected D, args := #[] }], W1, { target := .fn (.func gf) lb, args := #[.func (.yield l) #[] #[]] }, W1, gf, #[.func (.yield l) #[] #[]] ++ lb, W1, ?_, ?_, fun f' hf' => trivial, ?_, fun h => (by cases h), ?_⟩
  · rw [hW1, hrec, hl, hD]; exact run_enterLoop_outer _ _ _ _ _
  · simp only [resolve, hg]
    simp [go_sem]
  · simp [invoke, go_sem, eg]
  refine (hit (n - 1) l
    (fun T pre A => I (fun k => T k ∨ k = l ∨ k = D) pre A ∧ A.heap[l]? = some (.loop (rec .ready none)) ∧ A.heap[D]? = some (.deferred (some [])) ∧ ¬ T l ∧ ¬ T D ∧ w.heap.size ≤ A.heap.size)
    (fun T pre A => ∃ c, Ix c (fun k => T k ∨ k = l ∨ k = D) pre A ∧ A.heap[l]? = some (.loop (rec .done (some c))) ∧ A.heap[D]? = some (.deferred (some [])) ∧ ¬ T l ∧ ¬ T D ∧ w.heap.size ≤ A.heap.size)
    W1 hbw ?_ ?_ ?_ ?_).mono ?_
  · -- the iterator's steps leave the caller's things
    rintro T T' s A B ⟨hi, hrl, hrd, hnl, hnd, hsz⟩ hT hnA ht hT'
    have lA := (Array.getElem?_eq_some_iff.1 hrl).1
    have dA := (Array.getElem?_eq_some_iff.1 hrd).1
    refine ⟨hI _ _ s A B hi ?_ hnA (ht.mono fun k _ h => .inl h) ?_, (ht.block l lA hnl).trans hrl, (ht.block D dA hnd).trans hrd, ?_, ?_, Nat.le_trans hsz ht.size⟩
    · rintro k (h | rfl | rfl)
      · exact hT k h
      · exact ⟨by omega, lA⟩
      · exact ⟨by omega, dA⟩
    · rintro k (h | h)
      · rcases hT' k h with h | h
        · exact .inl (.inl h)
        · exact .inr h
      · exact .inl (.inr h)
    · intro h; rcases hT' l h with h | h
      · exact hnl h
      · omega
    · intro h; rcases hT' D h with h | h
      · exact hnd h
      · omega
  · rintro T T' s A B ⟨c, hi, hrl, hrd, hnl, hnd, hsz⟩ hT hnA ht hT'
    have lA := (Array.getElem?_eq_some_iff.1 hrl).1
    have dA := (Array.getElem?_eq_some_iff.1 hrd).1
    refine ⟨c, hIx c _ _ s A B hi ?_ hnA (ht.mono fun k _ h => .inl h) ?_, (ht.block l lA hnl).trans hrl, (ht.block D dA hnd).trans hrd, ?_, ?_, Nat.le_trans hsz ht.size⟩
    · rintro k (h | rfl | rfl)
      · exact hT k h
      · exact ⟨by omega, lA⟩
      · exact ⟨by omega, dA⟩
    · rintro k (h | h)
      · rcases hT' k h with h | h
        · exact .inl (.inl h)
        · exact .inr h
      · exact .inl (.inr h)
    · intro h; rcases hT' l h with h | h
      · exact hnl h
      · omega
    · intro h; rcases hT' D h with h | h
      · exact hnd h
      · omega
  · -- one round
    rintro T pre x v A m ⟨hi, hrl, hrd, hnl, hnd, hsz⟩ hpre hT hnA henc
    have lA := (Array.getElem?_eq_some_iff.1 hrl).1
    have dA := (Array.getElem?_eq_some_iff.1 hrd).1
    have hy := run_yield (P := P) (args := v) hrl (by rw [hrec]; exact hps x v T A henc)
    have e1 : (rec .ready none).fn = fn ∧ (rec .ready none).assign = assign ∧ (rec .ready none).body = body ∧ (rec .ready none).params = ps ∧ (rec .ready none).tmps = a.tmps := by rw [hrec]; exact ⟨rfl, rfl, rfl, rfl, rfl⟩
    rw [e1.1, e1.2.1, e1.2.2.1, e1.2.2.2.1, e1.2.2.2.2] at hy
    refine ⟨fn, _, assign, body, hy, roundIn_of_wpIn hfn (hassign l _ x v T A _ henc ⟨_, run_beginRound hrl (rst _ _), ?_⟩)⟩
    clear hy
    rw [rto, rpe]
    obtain ⟨A2, hA2⟩ : ∃ A2, A2 = A.putObj l (.loop (rec .busy none)) := ⟨_, rfl⟩
    have t12 : Turn (fun k => k = l) A A2 := by rw [hA2]; exact Turn.putObj _ rfl
    have l2 : A2.heap[l]? = some (.loop (rec .busy none)) := by rw [hA2]; exact World.putObj_heap_same lA
    have hTp : ∀ k, (T k ∨ k = l ∨ k = D) → n₀ ≤ k ∧ k < A.heap.size := by
      rintro k (h | rfl | rfl)
      · exact hT k h
      · exact ⟨by omega, lA⟩
      · exact ⟨by omega, dA⟩
    have hi2 : I (fun k => T k ∨ k = l ∨ k = D) pre A2 := hI _ _ pre A A2 hi hTp hnA (t12.mono fun k _ h => .inr (.inl h)) fun k h => .inl h
    have hs2 : A2.heap.size = A.heap.size := by rw [hA2]; simp
    rw [← hA2]
    refine wpIn_mono (hbody l _ _ T pre x v A2 hi2 hpre (fun k hk => by rw [hs2]; exact hTp k hk) (by omega) (fun k hk => .inl hk) (hE x v T A A2 henc (by omega) fun k hk => t12.block k (hT k hk).2 fun e => hnl (e ▸ hk))) ?_
    -- behind the body
    have fin : ∀ (jump : Option Code) (A3 : World), Keep n₀ (fun k => T k ∨ k = l ∨ k = D) A2 A3 →
        ∃ A4, (Instr.endRound l jump).run P A3 = .ok (.bool jump.isNone) A4 ∧ A4.heap[l]? = some (.loop (rec (if jump.isNone then .ready else .done) jump)) ∧ A4.heap[D]? = some (.deferred (some [])) ∧
          Turn (fun k => k = l) A3 A4 ∧ Keep n₀ T A A4 ∧ w.heap.size ≤ A4.heap.size ∧ A.heap.size ≤ A3.heap.size := fun jump A3 hk => by
      have l3 : A3.heap[l]? = some (.loop (rec .busy none)) := (hk.block l (by omega) fun h => h.2 (.inr (.inl rfl))).trans l2
      have d3 : A3.heap[D]? = some (.deferred (some [])) := (hk.block D (by omega) fun h => h.2 (.inr (.inr rfl))).trans ((t12.block D dA hDl).trans hrd)
      have hr := run_endRound (P := P) jump l3
      rw [rto] at hr
      have t34 : Turn (fun k => k = l) A3 (A3.putObj l (.loop (rec (if jump.isNone then .ready else .done) jump))) := Turn.putObj _ rfl
      have hs3 := hk.size
      have hs4 := t34.size
      have lk : ∀ k, k < A.heap.size → k = l → n₀ ≤ k ∧ ¬ T k := fun k _ e => ⟨by omega, fun h => hnl (e ▸ h)⟩
      refine ⟨_, hr, World.putObj_heap_same (Array.getElem?_eq_some_iff.1 l3).1, (World.putObj_heap_other hDl).trans d3, t34, ?_, by omega, by omega⟩
      exact ((t12.mono lk).trans hk fun k _ h => ⟨h.1, fun hT => h.2 (.inl hT)⟩).trans t34 fun k hk h => lk k hk h
    have tk : ∀ {A3 A4 : World}, A.heap.size ≤ A3.heap.size → Turn (fun k => k = l) A3 A4 → (∀ k, (T k ∨ k = l ∨ k = D) → n₀ ≤ k ∧ k < A3.heap.size) ∧ n₀ ≤ A3.heap.size := fun hs _ => ⟨fun k hk => ⟨(hTp k hk).1, Nat.lt_of_lt_of_le (hTp k hk).2 hs⟩, by omega⟩
    rintro e a3 A3 hp
    cases e with
    | normal =>
      obtain ⟨hk3, hi3⟩ := hp
      obtain ⟨A4, hr, l4, d4, t34, hk4, hs4, hs3⟩ := fin none A3 hk3
      exact ⟨_, _, hr, .inl ⟨rfl, ⟨hI _ _ _ A3 A4 hi3 (tk hs3 t34).1 (tk hs3 t34).2 (t34.mono fun k _ h => .inr (.inl h)) fun k h => .inl h, l4, d4, hnl, hnd, hs4⟩, hk4⟩⟩
    | ret =>
      obtain ⟨hk3, hi3⟩ := hp
      obtain ⟨A4, hr, l4, d4, t34, hk4, hs4, hs3⟩ := fin (some .ret) A3 hk3
      exact ⟨_, _, hr, .inr ⟨rfl, ⟨.ret, hIx _ _ _ _ A3 A4 hi3 (tk hs3 t34).1 (tk hs3 t34).2 (t34.mono fun k _ h => .inr (.inl h)) fun k h => .inl h, l4, d4, hnl, hnd, hs4⟩, hk4⟩⟩
    | exit id =>
      obtain ⟨hk3, hi3⟩ := hp
      obtain ⟨A4, hr, l4, d4, t34, hk4, hs4, hs3⟩ := fin (some (.exit id)) A3 hk3
      exact ⟨_, _, hr, .inr ⟨rfl, ⟨.exit id, hIx _ _ _ _ A3 A4 hi3 (tk hs3 t34).1 (tk hs3 t34).2 (t34.mono fun k _ h => .inr (.inl h)) fun k h => .inl h, l4, d4, hnl, hnd, hs4⟩, hk4⟩⟩
    | goto t =>
      obtain ⟨hk3, hi3⟩ := hp
      obtain ⟨A4, hr, l4, d4, t34, hk4, hs4, hs3⟩ := fin (some (.goto t)) A3 hk3
      exact ⟨_, _, hr, .inr ⟨rfl, ⟨.goto t, hIx _ _ _ _ A3 A4 hi3 (tk hs3 t34).1 (tk hs3 t34).2 (t34.mono fun k _ h => .inr (.inl h)) fun k h => .inl h, l4, d4, hnl, hnd, hs4⟩, hk4⟩⟩
    | panic ch => exact hp.elim
    | outgrown => exact hp.elim
  · -- at the start
    exact ⟨hI T0 _ [] w W1 h0 hT0 hn (Turn.of_below hbw) fun k h => by
      rcases h with h | rfl | rfl
      · exact .inl h
      · exact .inr (by omega)
      · exact .inr (by omega), hL1, hK1, fun h => by have := (hT0 _ h).2; omega, fun h => by have := (hT0 _ h).2; omega, by omega⟩
  · -- behind the iterator
    rintro e W2 ⟨⟨u, rfl⟩, hsz, (⟨T, ⟨hi, hrl, hrd, hnl, hnd, hs⟩, hT⟩ | ⟨T, pre, hpre, ⟨c, hi, hrl, hrd, hnl, hnd, hs⟩, hT⟩)⟩
    · have lA := (Array.getElem?_eq_some_iff.1 hrl).1
      have dA := (Array.getElem?_eq_some_iff.1 hrd).1
      have hend := run_endLoop (P := P) hrl (by rw [rst]; simp)
      rw [rpe] at hend
      refine ⟨none, _, hend, hdone D (fun k => T k ∨ k = l ∨ k = D) _ (by omega) (.inr (.inr rfl)) (hI _ _ xs W2 _ hi ?_ (by omega) (Turn.putObj _ (.inr (.inl rfl))) fun k h => .inl h) (by simp; omega) ((World.putObj_heap_other hDl).trans hrd)⟩
      rintro k (h | rfl | rfl)
      · exact hT k h
      · exact ⟨by omega, lA⟩
      · exact ⟨by omega, dA⟩
    · have lA := (Array.getElem?_eq_some_iff.1 hrl).1
      have dA := (Array.getElem?_eq_some_iff.1 hrd).1
      have hend := run_endLoop (P := P) hrl (by rw [rst]; simp)
      rw [rpe] at hend
      refine ⟨some c, _, hend, hstop D c (fun k => T k ∨ k = l ∨ k = D) pre _ (by omega) (.inr (.inr rfl)) hpre (hIx c _ _ pre W2 _ hi ?_ (by omega) (Turn.putObj _ (.inr (.inl rfl))) fun k h => .inl h) (by simp; omega) ((World.putObj_heap_other hDl).trans hrd)⟩
      rintro k (h | rfl | rfl)
      · exact hT k h
      · exact ⟨by omega, lA⟩
      · exact ⟨by omega, dA⟩
end Go.Proofs.Ytlnfialfkipdjaa

namespace Go.Proofs.Ytlnfialfkipdjaa
open Go Go.RowKit
set_option linter.unusedVariables false

/-- .. whose assignment makes new memory (a boxed variable): asg v W is the world behind it, Fx what is told of it. -/
theorem wp_rangeIterB {P : Program} {n : Nat} {α : Type} {g : Operand} {ps : Array Tmp} {assign body : Code} {Q : Exit → Act → World → Prop} {a : Act} {w : World}
    {gf : Nat} {lb : Array Value} (hg : a.eval g = .func (.func gf) #[] lb) (eg : ∀ args w, (callFunc gf args).run P w = .ok (.enter gf args) w)
    {n₀ : Nat} {T0 : Nat → Prop} {Enc : α → Array Value → (Nat → Prop) → World → Prop} {xs : List α} (hit : Iters P n₀ T0 gf lb Enc xs w)
    (hn : n₀ ≤ w.heap.size) (hT0 : ∀ k, T0 k → n₀ ≤ k ∧ k < w.heap.size) (hps : ∀ x v T A, Enc x v T A → v.size = ps.size)
    (hE : ∀ x v T A B, Enc x v T A → A.heap.size ≤ B.heap.size → (∀ k, T k → B.heap[k]? = A.heap[k]?) → Enc x v T B)
    (I : (Nat → Prop) → List α → World → Prop) (Ix : Code → (Nat → Prop) → List α → World → Prop) (hI : AbT n₀ I) (hIx : ∀ c, AbT n₀ (Ix c)) (h0 : I T0 [] w) (a₁ : Array Value → World → Act) (asg : Array Value → World → World) (hasg : ∀ v W, Turn (fun _ => False) W (asg v W)) (Fx : α → Array Value → World → World → Prop)
    (hFx0 : ∀ x v T W, Enc x v T W → Fx x v W (asg v W)) (hFx : ∀ x v W A B l, Fx x v W A → Turn (fun k => k = l) A B → l < W.heap.size → Fx x v W B)
    (hassign : ∀ (l m : Nat) (x : α) (v : Array Value) (T : Nat → Prop) (W : World) (K : Act → World → Prop), Enc x v T W → K (a₁ v W) (asg v W) →
      assign.wpIn (Fence.wide.inRound l) m P (Exit.then K (fun _ _ _ => False)) { tmps := (ps.zip v).foldl (fun t (p, v) => t.setIfInBounds p v) a.tmps, defers := [] } W)
    (hbody : ∀ (l m : Nat) (T Ti : Nat → Prop) (pre : List α) (x : α) (v : Array Value) (W A : World), I T pre A → Fx x v W A → (pre ++ [x]) <+: xs → (∀ k, T k → n₀ ≤ k ∧ k < A.heap.size) → n₀ ≤ A.heap.size → (∀ k, Ti k → T k) → Enc x v Ti A →
      body.wpIn (Fence.wide.inRound l) m P (iterPost n₀ T I Ix (pre ++ [x]) A) (a₁ v W) A)
    (hdone : ∀ (D : Nat) (T : Nat → Prop) (W : World), w.heap.size ≤ D → T D → I T xs W → w.heap.size ≤ W.heap.size → W.heap[D]? = some (.deferred (some [])) → Q .normal { a with defers := { target := .collected D, args := #[] } :: a.defers } W)
    (hstop : ∀ (D : Nat) (c : Code) (T : Nat → Prop) (pre : List α) (W : World), w.heap.size ≤ D → T D → pre <+: xs → Ix c T pre W → w.heap.size ≤ W.heap.size → W.heap[D]? = some (.deferred (some [])) → c.wpIn Fence.wide n P Q { a with defers := { target := .collected D, args := #[] } :: a.defers } W) :
    (Code.rangeFunc g ps assign body).wpIn Fence.wide n P Q a w := by
  refine wpIn_rangeFunc ?_
  intro fn hfn
  rw [show Fence.wide.round = none from rfl]
  obtain ⟨rec, hrec⟩ : ∃ rec : LoopState → Option Code → Loop, rec = fun st pe => { state := st, pending := pe, fn, tmps := a.tmps, params := ps, assign, body, defers := w.heap.size } := ⟨_, rfl⟩
  have rst : ∀ st pe, (rec st pe).state = st := fun _ _ => by rw [hrec]
  have rpe : ∀ st pe, (rec st pe).pending = pe := fun _ _ => by rw [hrec]
  have rto : ∀ st pe st' pe', ({ rec st pe with state := st', pending := pe' } : Loop) = rec st' pe' := fun _ _ _ _ => by rw [hrec]
  obtain ⟨D, hD⟩ : ∃ D, D = w.heap.size := ⟨_, rfl⟩
  obtain ⟨l, hl⟩ : ∃ l, l = w.heap.size + 1 := ⟨_, rfl⟩
  have hDl : D ≠ l := by omega
  obtain ⟨W1, hW1⟩ : ∃ W1, W1 = (w.alloc (.deferred (some []))).alloc (.loop (rec .ready none)) := ⟨_, rfl⟩
  have hL1 : W1.heap[l]? = some (.loop (rec .ready none)) := by
    have := World.alloc_heap_new (w.alloc (.deferred (some []))) (.loop (rec .ready none))
    rw [World.size_alloc] at this
    rw [hW1, hl]; exact this
  have hK1 : W1.heap[D]? = some (.deferred (some [])) := by
    rw [hW1, hD]; exact (Below.heap_alloc _ _ _ (by simp)).trans (World.alloc_heap_new w _)
  have hbw : Below w.heap.size w W1 := by rw [hW1]; exact ((Below.refl _ w).alloc (Nat.le_refl _) _).alloc (by simp) _
  have hs1 : W1.heap.size = w.heap.size + 2 := by rw [hW1]; simp
  refine ⟨l, [{ target := .collected D, args := #[] }], W1, { target := .fn (.func gf) lb, args := #[.func (.yield l) #[] #[]] }, W1, gf, #[.func (.yield l) #[] #[]] ++ lb, W1, ?_, ?_, fun f' hf' => trivial, ?_, fun h => (by cases h), ?_⟩
  · rw [hW1, hrec, hl, hD]; exact run_enterLoop_outer _ _ _ _ _
  · simp only [resolve, hg]
    simp [go_sem]
  · simp [invoke, go_sem, eg]
  refine (hit (n - 1) l
    (fun T pre A => I (fun k => T k ∨ k = l ∨ k = D) pre A ∧ A.heap[l]? = some (.loop (rec .ready none)) ∧ A.heap[D]? = some (.deferred (some [])) ∧ ¬ T l ∧ ¬ T D ∧ w.heap.size ≤ A.heap.size)
    (fun T pre A => ∃ c, Ix c (fun k => T k ∨ k = l ∨ k = D) pre A ∧ A.heap[l]? = some (.loop (rec .done (some c))) ∧ A.heap[D]? = some (.deferred (some [])) ∧ ¬ T l ∧ ¬ T D ∧ w.heap.size ≤ A.heap.size)
    W1 hbw ?_ ?_ ?_ ?_).mono ?_
  · -- the iterator's steps leave the caller's things
    rintro T T' s A B ⟨hi, hrl, hrd, hnl, hnd, hsz⟩ hT hnA ht hT'
    have lA := (Array.getElem?_eq_some_iff.1 hrl).1
    have dA := (Array.getElem?_eq_some_iff.1 hrd).1
    refine ⟨hI _ _ s A B hi ?_ hnA (ht.mono fun k _ h => .inl h) ?_, (ht.block l lA hnl).trans hrl, (ht.block D dA hnd).trans hrd, ?_, ?_, Nat.le_trans hsz ht.size⟩
    · rintro k (h | rfl | rfl)
      · exact hT k h
      · exact ⟨by omega, lA⟩
      · exact ⟨by omega, dA⟩
    · rintro k (h | h)
      · rcases hT' k h with h | h
        · exact .inl (.inl h)
        · exact .inr h
      · exact .inl (.inr h)
    · intro h; rcases hT' l h with h | h
      · exact hnl h
      · omega
    · intro h; rcases hT' D h with h | h
      · exact hnd h
      · omega
  · rintro T T' s A B ⟨c, hi, hrl, hrd, hnl, hnd, hsz⟩ hT hnA ht hT'
    have lA := (Array.getElem?_eq_some_iff.1 hrl).1
    have dA := (Array.getElem?_eq_some_iff.1 hrd).1
    refine ⟨c, hIx c _ _ s A B hi ?_ hnA (ht.mono fun k _ h => .inl h) ?_, (ht.block l lA hnl).trans hrl, (ht.block D dA hnd).trans hrd, ?_, ?_, Nat.le_trans hsz ht.size⟩
    · rintro k (h | rfl | rfl)
      · exact hT k h
      · exact ⟨by omega, lA⟩
      · exact ⟨by omega, dA⟩
    · rintro k (h | h)
      · rcases hT' k h with h | h
        · exact .inl (.inl h)
        · exact .inr h
      · exact .inl (.inr h)
    · intro h; rcases hT' l h with h | h
      · exact hnl h
      · omega
    · intro h; rcases hT' D h with h | h
      · exact hnd h
      · omega
  · -- one round
    rintro T pre x v A m ⟨hi, hrl, hrd, hnl, hnd, hsz⟩ hpre hT hnA henc
    have lA := (Array.getElem?_eq_some_iff.1 hrl).1
    have dA := (Array.getElem?_eq_some_iff.1 hrd).1
    have hy := run_yield (P := P) (args := v) hrl (by rw [hrec]; exact hps x v T A henc)
    have e1 : (rec .ready none).fn = fn ∧ (rec .ready none).assign = assign ∧ (rec .ready none).body = body ∧ (rec .ready none).params = ps ∧ (rec .ready none).tmps = a.tmps := by rw [hrec]; exact ⟨rfl, rfl, rfl, rfl, rfl⟩
    rw [e1.1, e1.2.1, e1.2.2.1, e1.2.2.2.1, e1.2.2.2.2] at hy
    have t01 := hasg v A
    have hrl1 := (t01.block l lA (fun h => h)).trans hrl
    refine ⟨fn, _, assign, body, hy, roundIn_of_wpIn hfn (hassign l _ x v T A _ henc ⟨_, run_beginRound hrl1 (rst _ _), ?_⟩)⟩
    clear hy
    rw [rto, rpe]
    have hf1 := hFx0 x v T A henc
    obtain ⟨A1, hA1⟩ : ∃ A1, A1 = asg v A := ⟨_, rfl⟩
    rw [← hA1] at t01 hrl1 hf1 ⊢
    have lA1 := (Array.getElem?_eq_some_iff.1 hrl1).1
    obtain ⟨A2, hA2⟩ : ∃ A2, A2 = A1.putObj l (.loop (rec .busy none)) := ⟨_, rfl⟩
    have t12 : Turn (fun k => k = l) A A2 := by rw [hA2]; exact (t01.mono (fun k _ h => h.elim)).trans (Turn.putObj (T := fun k => k = l) _ rfl) (fun k _ h => h)
    have t12' : Turn (fun k => k = l) A1 A2 := by rw [hA2]; exact Turn.putObj _ rfl
    have l2 : A2.heap[l]? = some (.loop (rec .busy none)) := by rw [hA2]; exact World.putObj_heap_same lA1
    have hf2 := hFx x v A A1 A2 l hf1 t12' lA
    have hTp : ∀ k, (T k ∨ k = l ∨ k = D) → n₀ ≤ k ∧ k < A.heap.size := by
      rintro k (h | rfl | rfl)
      · exact hT k h
      · exact ⟨by omega, lA⟩
      · exact ⟨by omega, dA⟩
    have hi2 : I (fun k => T k ∨ k = l ∨ k = D) pre A2 := hI _ _ pre A A2 hi hTp hnA (t12.mono fun k _ h => .inr (.inl h)) fun k h => .inl h
    have hs2 : A.heap.size ≤ A2.heap.size := t12.size
    rw [← hA2]
    refine wpIn_mono (hbody l _ _ T pre x v A A2 hi2 hf2 hpre (fun k hk => ⟨(hTp k hk).1, Nat.lt_of_lt_of_le (hTp k hk).2 hs2⟩) (by omega) (fun k hk => .inl hk) (hE x v T A A2 henc (by omega) fun k hk => t12.block k (hT k hk).2 fun e => hnl (e ▸ hk))) ?_
    -- behind the body
    have fin : ∀ (jump : Option Code) (A3 : World), Keep n₀ (fun k => T k ∨ k = l ∨ k = D) A2 A3 →
        ∃ A4, (Instr.endRound l jump).run P A3 = .ok (.bool jump.isNone) A4 ∧ A4.heap[l]? = some (.loop (rec (if jump.isNone then .ready else .done) jump)) ∧ A4.heap[D]? = some (.deferred (some [])) ∧
          Turn (fun k => k = l) A3 A4 ∧ Keep n₀ T A A4 ∧ w.heap.size ≤ A4.heap.size ∧ A.heap.size ≤ A3.heap.size := fun jump A3 hk => by
      have l3 : A3.heap[l]? = some (.loop (rec .busy none)) := (hk.block l (by omega) fun h => h.2 (.inr (.inl rfl))).trans l2
      have d3 : A3.heap[D]? = some (.deferred (some [])) := (hk.block D (by omega) fun h => h.2 (.inr (.inr rfl))).trans ((t12.block D dA hDl).trans hrd)
      have hr := run_endRound (P := P) jump l3
      rw [rto] at hr
      have t34 : Turn (fun k => k = l) A3 (A3.putObj l (.loop (rec (if jump.isNone then .ready else .done) jump))) := Turn.putObj _ rfl
      have hs3 := hk.size
      have hs4 := t34.size
      have lk : ∀ k, k < A.heap.size → k = l → n₀ ≤ k ∧ ¬ T k := fun k _ e => ⟨by omega, fun h => hnl (e ▸ h)⟩
      refine ⟨_, hr, World.putObj_heap_same (Array.getElem?_eq_some_iff.1 l3).1, (World.putObj_heap_other hDl).trans d3, t34, ?_, by omega, by omega⟩
      exact ((t12.mono lk).trans hk fun k _ h => ⟨h.1, fun hT => h.2 (.inl hT)⟩).trans t34 fun k hk h => lk k hk h
    have tk : ∀ {A3 A4 : World}, A.heap.size ≤ A3.heap.size → Turn (fun k => k = l) A3 A4 → (∀ k, (T k ∨ k = l ∨ k = D) → n₀ ≤ k ∧ k < A3.heap.size) ∧ n₀ ≤ A3.heap.size := fun hs _ => ⟨fun k hk => ⟨(hTp k hk).1, Nat.lt_of_lt_of_le (hTp k hk).2 hs⟩, by omega⟩
    rintro e a3 A3 hp
    cases e with
    | normal =>
      obtain ⟨hk3, hi3⟩ := hp
      obtain ⟨A4, hr, l4, d4, t34, hk4, hs4, hs3⟩ := fin none A3 hk3
      exact ⟨_, _, hr, .inl ⟨rfl, ⟨hI _ _ _ A3 A4 hi3 (tk hs3 t34).1 (tk hs3 t34).2 (t34.mono fun k _ h => .inr (.inl h)) fun k h => .inl h, l4, d4, hnl, hnd, hs4⟩, hk4⟩⟩
    | ret =>
      obtain ⟨hk3, hi3⟩ := hp
      obtain ⟨A4, hr, l4, d4, t34, hk4, hs4, hs3⟩ := fin (some .ret) A3 hk3
      exact ⟨_, _, hr, .inr ⟨rfl, ⟨.ret, hIx _ _ _ _ A3 A4 hi3 (tk hs3 t34).1 (tk hs3 t34).2 (t34.mono fun k _ h => .inr (.inl h)) fun k h => .inl h, l4, d4, hnl, hnd, hs4⟩, hk4⟩⟩
    | exit id =>
      obtain ⟨hk3, hi3⟩ := hp
      obtain ⟨A4, hr, l4, d4, t34, hk4, hs4, hs3⟩ := fin (some (.exit id)) A3 hk3
      exact ⟨_, _, hr, .inr ⟨rfl, ⟨.exit id, hIx _ _ _ _ A3 A4 hi3 (tk hs3 t34).1 (tk hs3 t34).2 (t34.mono fun k _ h => .inr (.inl h)) fun k h => .inl h, l4, d4, hnl, hnd, hs4⟩, hk4⟩⟩
    | goto t =>
      obtain ⟨hk3, hi3⟩ := hp
      obtain ⟨A4, hr, l4, d4, t34, hk4, hs4, hs3⟩ := fin (some (.goto t)) A3 hk3
      exact ⟨_, _, hr, .inr ⟨rfl, ⟨.goto t, hIx _ _ _ _ A3 A4 hi3 (tk hs3 t34).1 (tk hs3 t34).2 (t34.mono fun k _ h => .inr (.inl h)) fun k h => .inl h, l4, d4, hnl, hnd, hs4⟩, hk4⟩⟩
    | panic ch => exact hp.elim
    | outgrown => exact hp.elim
  · -- at the start
    exact ⟨hI T0 _ [] w W1 h0 hT0 hn (Turn.of_below hbw) fun k h => by
      rcases h with h | rfl | rfl
      · exact .inl h
      · exact .inr (by omega)
      · exact .inr (by omega), hL1, hK1, fun h => by have := (hT0 _ h).2; omega, fun h => by have := (hT0 _ h).2; omega, by omega⟩
  · -- behind the iterator
    rintro e W2 ⟨⟨u, rfl⟩, hsz, (⟨T, ⟨hi, hrl, hrd, hnl, hnd, hs⟩, hT⟩ | ⟨T, pre, hpre, ⟨c, hi, hrl, hrd, hnl, hnd, hs⟩, hT⟩)⟩
    · have lA := (Array.getElem?_eq_some_iff.1 hrl).1
      have dA := (Array.getElem?_eq_some_iff.1 hrd).1
      have hend := run_endLoop (P := P) hrl (by rw [rst]; simp)
      rw [rpe] at hend
      refine ⟨none, _, hend, hdone D (fun k => T k ∨ k = l ∨ k = D) _ (by omega) (.inr (.inr rfl)) (hI _ _ xs W2 _ hi ?_ (by omega) (Turn.putObj _ (.inr (.inl rfl))) fun k h => .inl h) (by simp; omega) ((World.putObj_heap_other hDl).trans hrd)⟩
      rintro k (h | rfl | rfl)
      · exact hT k h
      · exact ⟨by omega, lA⟩
      · exact ⟨by omega, dA⟩
    · have lA := (Array.getElem?_eq_some_iff.1 hrl).1
      have dA := (Array.getElem?_eq_some_iff.1 hrd).1
      have hend := run_endLoop (P := P) hrl (by rw [rst]; simp)
      rw [rpe] at hend
      refine ⟨some c, _, hend, hstop D c (fun k => T k ∨ k = l ∨ k = D) pre _ (by omega) (.inr (.inr rfl)) hpre (hIx c _ _ pre W2 _ hi ?_ (by omega) (Turn.putObj _ (.inr (.inl rfl))) fun k h => .inl h) (by simp; omega) ((World.putObj_heap_other hDl).trans hrd)⟩
      rintro k (h | rfl | rfl)
      · exact hT k h
      · exact ⟨by omega, lA⟩
      · exact ⟨by omega, dA⟩
end Go.Proofs.Ytlnfialfkipdjaa

namespace Go.Proofs.Ytlnfialfkipdjaa
open Go Go.RowKit
set_option linter.unusedVariables false

set_option maxRecDepth 100000 in
set_option maxHeartbeats 2000000 in
theorem iters_values (n₀ B : Nat) (A : Option Addr) (c : Nat) (ts : List (Int × Int)) (w0 : World) (hB : w0.cell? ⟨B, 0, none⟩ = some (.slice A ts.length c)) (hBn : B < n₀) (hn : n₀ ≤ w0.heap.size) (hr : RdT w0 A ts) (hrn : ts ≠ [] → ∀ a, A = some a → a.block < n₀) (hl : ts.length ≤ 1048576) :
    Iters Try.prog n₀ (fun _ => False) 249 #[.pointer (some ⟨B, 0, none⟩)] (fun (x : Int × Int) v T A => v = #[.agg #[.int .i64 x.1, .int .i64 x.2]]) ts w0 := by
  intro m l J Jx W hW hJ hJx hY h0
  have hBW := (hW.cell (p := ⟨B, 0, none⟩) (block_lt hB)).trans hB
  have hrW := hr.below hW
  have hnW : n₀ ≤ W.heap.size := Nat.le_trans hn hW.size
  clear hW hr hB hn
  refine callsIn_of_wp Try.func249 rfl trivial ?_
  simp only [Try.ntmps249, List.size_toArray, List.length_cons, List.length_nil, Nat.reduceAdd, Nat.reduceSub, Array.replicate_succ, Array.replicate_zero, List.push_toArray, List.append_toArray, List.nil_append, List.cons_append]
  gi_wp2
  gi_loopw [7] (fun i wr => ∃ k : Nat, k ≤ ts.length ∧ i = .int .i64 k ∧ J (fun _ => False) (ts.take k) wr ∧ Below n₀ W wr) (fun i _ => ts.length - (intOf i).toNat)
  case atStart => exact ⟨0, Nat.zero_le _, rfl, by simpa using h0, Below.refl _ _⟩
  case round =>
    obtain ⟨k, hk, rfl, hj, hb⟩ := hrel
    have hz := hb.size
    by_cases hlt : k < ts.length
    · obtain ⟨bk, off, rfl, hbk, hc⟩ := hrW.at_ hlt
      have hbn : bk < n₀ := hrn (by rintro rfl; simp at hlt) ⟨bk, off, none⟩ rfl
      have g0 := (hb.cell (p := ⟨bk, _, none⟩) hbn).trans (hc k hlt).1
      have g1 := (hb.cell (p := ⟨bk, _, none⟩) hbn).trans (hc k hlt).2
      have hpre : ts.take k ++ [ts[k]] = ts.take (k + 1) := by rw [List.take_succ_eq_append_getElem hlt]
      have hp : ts.take k ++ [ts[k]] <+: ts := by rw [hpre]; exact List.take_prefix _ _
      obtain ⟨A1, hA1⟩ : ∃ A1, A1 = wr.alloc (.cells #[.int .i64 ts[k].1, .int .i64 ts[k].2] 95) := ⟨_, rfl⟩
      have b1 : Below wr.heap.size wr A1 := by rw [hA1]; exact (Below.refl _ _).alloc (Nat.le_refl _) _
      have j1 := hJ (fun _ => False) (fun _ => False) (ts.take k) wr A1 hj (fun _ h => h.elim) (by omega) (Turn.of_below b1) (fun _ h => .inl h)
      obtain ⟨fn, tmps, assign, body, hy, hR⟩ := hY (fun _ => False) (ts.take k) ts[k] _ A1 (m - 1) j1 hp (fun _ h => h.elim) (by have := b1.size; omega) rfl
      have Hb := Lib.hid hb
      have Hpre := Lib.hid hpre
      have B1 := Lib.hid b1
      have Hp := Lib.hid hp
      have z1 := b1.size
      clear hc hb hpre j1 hj hp b1
      rw [hA1] at hy
      gi_wp2
      rw [← hA1]
      refine ⟨fun h => by simp [Fence.wide] at h, hR.mono ?_⟩
      rintro e W3 (⟨rfl, hj3, hk3⟩ | ⟨rfl, hj3, hk3⟩)
      · have hb3 : Below n₀ W W3 := (Hb.out.trans (B1.out.mono (by omega))).trans (hk3.below (by omega) (fun k h => h.1))
        gi_wp2
        go_roundw
        case rel => exact ⟨k + 1, by omega, by go_num, by rw [← Hpre.out]; exact hj3, hb3⟩
        case measure => simp [intOf]; omega
      · have z3 := hk3.size
        gi_wp2
        refine bodyPost_ret (results_none rfl _ _ _) rfl ?_
        exact ⟨⟨_, rfl⟩, by omega, .inr ⟨_, _, Hp.out, hj3, fun _ h => h.elim⟩⟩
    · have : k = ts.length := by omega
      subst this
      rw [List.take_length] at hj
      gi_wp2
      go_end0
      exact ⟨⟨_, rfl⟩, hz, .inl ⟨_, hj, fun _ h => h.elim⟩⟩

/-- What AppendSeq keeps between two rounds: its box holds the row of what has come. -/
def ApI (n₀ : Nat) (w : World) (T : Nat → Prop) (pre : List (Int × Int)) (A : World) : Prop :=
  ¬ T n₀ ∧ (∀ m, A.frozen? ⟨n₀, m, none⟩ = false) ∧ Below n₀ w A ∧ ∃ A' c', A.cell? ⟨n₀, 0, none⟩ = some (.slice A' pre.length c') ∧ A.ownsRow (n₀ + 1) 95 2 (.slice A' pre.length c') pre.length (cellsT pre) ∧ ∀ g, (Value.slice A' pre.length c').ownBlock = some g → ¬ T g

theorem frozen_of_block {w w' : World} {b m : Nat} (h : w'.heap[b]? = w.heap[b]?) : w'.frozen? ⟨b, m, none⟩ = w.frozen? ⟨b, m, none⟩ := by
  unfold World.frozen?
  simp only [h]

theorem ApI.abides (n₀ : Nat) (w : World) : AbT n₀ (ApI n₀ w) := by
  rintro T T' s A B ⟨h1, h2, h3, A', c', h4, h5, h6⟩ hT hn ht hT'
  have hb := block_lt h4
  have eb : B.heap[n₀]? = A.heap[n₀]? := ht.block n₀ hb h1
  refine ⟨fun h => ?_, fun m => (frozen_of_block eb).trans (h2 m), h3.trans (ht.below (by have := h3.size; omega) (fun k hk => (hT k hk).1)), A', c', (World.cell?_of_block (a := ⟨n₀, 0, none⟩) eb).trans h4, ?_, fun g hg h => ?_⟩
  · rcases hT' _ h with h | h
    · exact h1 h
    · simp only at hb; omega
  · obtain ⟨e1, e2⟩ := h5
    refine ⟨e1, ?_⟩
    rcases e2 with e2 | ⟨g, cap, cur, hv, hg, hh, r⟩
    · exact .inl e2
    · refine .inr ⟨g, cap, cur, hv, hg, (ht.block g (Array.getElem?_eq_some_iff.1 hh).1 (h6 g (by rw [hv]; rfl))).trans hh, r⟩
  · rcases hT' _ h with h | h
    · exact h6 g hg h
    · have := (h5.lt g hg).2; omega

theorem wpI_append_tile {F : Fence} {n : Nat} {w : World} {ops : Array Oper} {rest : List Oper} {o : Oper} {a : Act} {Q : Exit → Act → World → Prop} (hgd : o.guard = none) (s x : Operand)
    (ho : o.op = .call { callee := .builtin .append, args := #[s, x], argTypes := #[22, 22] }) (base : Nat) (v : Value) (ts : List (Int × Int)) (hs : a.eval s = v)
    (hown : w.ownsRow base 95 2 v ts.length (cellsT ts)) (p q : Int) (g : Nat) (hx : a.eval x = .slice (some ⟨g, 0, none⟩) 1 1)
    (h0 : w.cell? ⟨g, 0, none⟩ = some (.int .i64 p)) (h1 : w.cell? ⟨g, 1, none⟩ = some (.int .i64 q)) (hlen : ts.length ≤ 4194304) (hbase : base ≤ w.heap.size)
    (h : ∀ A c w', w'.ownsRow base 95 2 (.slice A (ts.length + 1) c) (ts.length + 1) (cellsT (ts ++ [(p, q)])) → w.grownBy w' v.ownBlock → ((Value.slice A (ts.length + 1) c).ownBlock = v.ownBlock ∨ (Value.slice A (ts.length + 1) c).ownBlock = some w.heap.size) → wpListIn F n Try.prog ops Q rest (a.put o.dst (.slice A (ts.length + 1) c)) w') :
    wpListIn F n Try.prog ops Q (o :: rest) a w := by
  obtain ⟨i0, hi, hz0, hz1, hz2⟩ := info_parts Try.info_tile
  refine wpListIn_append_own_at w hgd s x 22 ho base 95 i0 _ 2 16 Try.underlying22 hi hz0 hz1 hz2 rfl (by decide) v ts.length (cellsT ts) hs hown ⟨g, 0, none⟩ 1 1 [.int .i64 p, .int .i64 q] hx rfl ?_ ?_ (by unfold maxLen; omega) (by omega) hbase ?_
  · intro j u hj
    match j, hj with
    | 0, hj => simp at hj; subst hj; simpa [Addr.add] using h0
    | 1, hj => simp at hj; subst hj; simpa [Addr.add] using h1
  · intro u hu
    simp at hu
    rcases hu with rfl | rfl <;> rfl
  · intro v' w' h1 h2 _ h3
    have h1' := h1
    obtain ⟨_, ⟨_, hn⟩ | ⟨g', cap, cur, rfl, _⟩⟩ := h1'
    · omega
    refine h _ _ w' ?_ h2 h3
    rw [cellsT_append]
    exact h1

theorem enters_values (args : Array Value) (w : World) : (callFunc 249 args).run Try.prog w = .ok (.enter 249 args) w := by
  have h1 : Try.f249.name ≠ "runtime.NumGoroutine" := beq_eq_false_iff_ne.1 (by kernel_rfl)
  have h2 : Try.f249.body ≠ none := by intro h; cases h
  simp [callFunc, go_sem, h1, h2]

def apAct (B n₀ : Nat) (v : Array Value) (W : World) : Act :=
  { tmps := #[.slice none 0 0, .func (.func 249) #[] #[.pointer (some ⟨B, 0, none⟩)], .pointer (some ⟨n₀, 0, none⟩), undef, .slice none 0 0, .pointer (some ⟨W.heap.size, 0, none⟩), .func (.func 249) #[] #[.pointer (some ⟨B, 0, none⟩)], v.getD 0 undef, undef, undef, undef, undef, undef], defers := [] }
def apAsg (v : Array Value) (W : World) : World := W.alloc (.cells (match v.getD 0 undef with | .agg cs => cs | _ => #[]) 95)

set_option maxRecDepth 100000 in
set_option maxHeartbeats 4000000 in
theorem c_appendSeq (B : Nat) (A : Option Addr) (c : Nat) (ts : List (Int × Int)) (w : World) (hB : w.cell? ⟨B, 0, none⟩ = some (.slice A ts.length c)) (hr : RdT w A ts) (hl : ts.length ≤ 1048576) :
    Calls Try.prog 253 #[.slice none 0 0, .func (.func 249) #[] #[.pointer (some ⟨B, 0, none⟩)]] w (RetL w ts) := by
  refine (callsIn_wide (n := 5)).1 ?_
  refine callsIn_of_wp_marks Try.func253 rfl trivial ?_
  simp only [Try.ntmps253, List.size_toArray, List.length_cons, List.length_nil, Nat.reduceAdd, Nat.reduceSub, Array.replicate_succ, Array.replicate_zero, List.push_toArray, List.append_toArray, List.nil_append, List.cons_append]
  gi_wp2
  have hBlt := block_lt hB
  have hb0 : Below w.heap.size w (w.alloc (.cells #[.slice none 0 0] 22)) := (Below.refl _ _).alloc (Nat.le_refl _) _
  have hB0 := (hb0.cell (p := ⟨B, 0, none⟩) hBlt).trans hB
  have hs0 : (w.alloc (.cells #[.slice none 0 0] 22)).heap.size = w.heap.size + 1 := by simp
  have hc0 : (w.alloc (.cells #[.slice none 0 0] 22)).cell? ⟨w.heap.size, 0, none⟩ = some (.slice none 0 0) := by simp
  have hf0 : ∀ m, (w.alloc (.cells #[.slice none 0 0] 22)).frozen? ⟨w.heap.size, m, none⟩ = false := fun m => by unfold World.frozen? World.alloc; simp
  have hrA : ts ≠ [] → ∀ a, A = some a → a.block < w.heap.size := fun hne a ha => by
    obtain ⟨bk, off, hA, hbk, _⟩ := hr.at_ (List.length_pos_iff.2 hne)
    rw [hA] at ha; cases ha; exact hbk
  obtain ⟨W0, hW0⟩ : ∃ W0, W0 = w.alloc (.cells #[.slice none 0 0] 22) := ⟨_, rfl⟩
  rw [← hW0] at hb0 hB0 hs0 hc0 hf0 ⊢
  have hr0 := hr.below hb0
  clear hW0 hr hB
  refine wp_rangeIterB (gf := 249) (lb := #[.pointer (some ⟨B, 0, none⟩)]) rfl (fun args w => enters_values args w) (n₀ := w.heap.size) (T0 := fun _ => False) (iters_values w.heap.size B A c ts W0 hB0 hBlt (by omega) hr0 hrA hl) (by omega) (fun _ h => h.elim) ?hps ?hE
    (ApI w.heap.size w) (fun _ _ _ _ => False) (ApI.abides _ _) (fun _ _ _ _ _ _ h _ _ _ _ => h.elim) ?h0 (apAct B w.heap.size) apAsg ?hasg (fun x v W A => v = #[.agg #[.int .i64 x.1, .int .i64 x.2]] ∧ A.cell? ⟨W.heap.size, 0, none⟩ = some (.int .i64 x.1) ∧ A.cell? ⟨W.heap.size, 1, none⟩ = some (.int .i64 x.2)) ?hFx0 ?hFx ?hassign ?hbody ?hdone ?hstop
  case hps => rintro x v T A rfl; rfl
  case hE => rintro x v T A B rfl _ _; rfl
  case h0 => exact ⟨fun h => h, hf0, hb0, none, 0, hc0, World.ownsRow_nil _ _ _ _, fun g hg => by simp [Value.ownBlock] at hg⟩
  case hasg => exact fun v W => Turn.of_below ((Below.refl _ _).alloc (Nat.le_refl _) _)
  case hFx0 => rintro x v T W rfl; exact ⟨rfl, by simp [apAsg], by simp [apAsg]⟩
  case hFx =>
    rintro x v W A B l ⟨rfl, h1, h2⟩ ht hl
    exact ⟨rfl, ht.cell (by simp; omega) h1, ht.cell (by simp; omega) h2⟩
  case hassign =>
    rintro l m x v T W K rfl hK
    gi_wp2_with (rw [Oper.semAt_eq _ _ _ (fun c h => by cases h)]; go_simp; try go_bits)
    exact hK
  case hbody =>
    rintro l m T Ti pre x v W A1 ⟨h1, h2, h3, A', c', h4, h5, h6⟩ ⟨rfl, e0, e1⟩ hp hT hn _ _
    have f0 := h2 0
    have hz := h3.size
    have hlen : pre.length + 1 ≤ ts.length := by have := hp.length_le; simpa using this
    have n1 : w.heap.size < A1.heap.size := block_lt h4
    have bA : Below A1.heap.size A1 (A1.alloc (.cells #[.int .i64 x.1, .int .i64 x.2] 95)) := (Below.refl _ _).alloc (Nat.le_refl _) _
    unfold apAct
    gi_wp2_with (first
      | (gi_at_builtin; refine wpI_append_tile rfl _ _ rfl (w.heap.size + 1) _ pre rfl (own_keep h5 ((Below.refl _ _).alloc (Nat.le_refl _) _)) x.1 x.2 A1.heap.size rfl (by simp) (by simp) (by omega) (by simp; omega) ?_; intro A4 c4 w4 ho4 hg4 hat4; have hk4 := hg4.block w.heap.size (by simp; omega) (fun e => by have := (h5.lt _ e.symm).1; omega); have y4 := (World.cell?_of_block (a := ⟨w.heap.size, 0, none⟩) hk4).trans (keepc bA h4); have f4 := (frozen_of_block (m := 0) hk4).trans ((bA.frozen (p := ⟨w.heap.size, 0, none⟩) n1).trans f0))
      | (rw [Oper.semAt_eq _ _ _ (fun c h => by cases h)]; go_simp; try go_bits))
    have t1 : Turn (fun k => w.heap.size ≤ k ∧ ¬ T k) A1 (A1.alloc (.cells #[.int .i64 x.1, .int .i64 x.2] 95)) := Turn.of_below bA
    have t2 : Turn (fun k => w.heap.size ≤ k ∧ ¬ T k) (A1.alloc (.cells #[.int .i64 x.1, .int .i64 x.2] 95)) w4 := Turn.of_grown hg4 (fun k e => ⟨by have := (h5.lt _ e).1; omega, h6 k e⟩)
    have t3 : Turn (fun k => w.heap.size ≤ k ∧ ¬ T k) w4 (w4.setCell ⟨w.heap.size, 0, none⟩ (.slice A4 (pre.length + 1) c4)) := Turn.setCell _ _ ⟨Nat.le_refl _, h1⟩
    have t13 := (t1.trans t2 (fun k _ h => h)).trans t3 (fun k _ h => h)
    have fz4 : ∀ m, (w4.setCell ⟨w.heap.size, 0, none⟩ (.slice A4 (pre.length + 1) c4)).frozen? ⟨w.heap.size, m, none⟩ = false := fun m => by
      rw [World.frozen?_setCell]
      exact (frozen_of_block (m := m) hk4).trans ((bA.frozen (p := ⟨w.heap.size, m, none⟩) n1).trans (h2 m))
    refine ⟨t13, h1, fz4, h3.trans (t13.below hn (fun k h => h.1)), A4, c4, ?_, ?_, ?_⟩
    · rw [List.length_append, List.length_singleton]
      exact World.cell?_setCell_same _ _ _ y4
    · rw [List.length_append, List.length_singleton]
      exact own_box ho4 (by omega)
    · intro g hg hT'
      rw [List.length_append, List.length_singleton] at hg
      rcases hat4 with h | h
      · rw [h] at hg
        exact h6 g hg hT'
      · rw [h] at hg
        have := (hT g hT').2
        have e := Option.some.inj hg
        simp at e
        omega
  case hstop => exact fun _ _ _ _ _ _ _ _ h => h.elim
  case hdone =>
    rintro D T W hD hTD ⟨h1, h2, h3, A', c', h4, h5, h6⟩ hz hK
    gi_wp2
    refine ⟨by simp, .inl ⟨_, _, rfl, run_takeDeferred hK, ?_⟩⟩
    exact ⟨_, results_tmp rfl _ _ _, A', c', rfl, own_base (own_blockG h5 (fun g hg => World.putObj_heap_other (fun e => h6 g hg (e ▸ hTD)))) (by omega), h3.grown (grownBy_putObj' _ _ _) h3.size (fun k e => by cases e; omega)⟩

set_option maxHeartbeats 1000000 in
theorem c_collect (B : Nat) (A : Option Addr) (c : Nat) (ts : List (Int × Int)) (w : World) (hB : w.cell? ⟨B, 0, none⟩ = some (.slice A ts.length c)) (hr : RdT w A ts) (hl : ts.length ≤ 1048576) :
    Calls Try.prog 248 #[.func (.func 249) #[] #[.pointer (some ⟨B, 0, none⟩)]] w (RetL w ts) := by
  have con := Lib.hid (c_appendSeq B A c ts w hB hr hl)
  clear hr hB
  go_enter Try.func248, Try.ntmps248
  go_wp2_with fail
  refine con.out.mono ?_
  rintro e w1 ⟨A1, c1, rfl, o1, h1⟩
  go_wp2
  go_ret
  exact ⟨A1, c1, rfl, o1, h1⟩

theorem c_sortNone (p : Option Addr) (cap : Nat) (fv : Value) (w : World) : Calls Try.prog 239 #[.slice p 0 cap, fv] w fun e w' => e = .returned (.tuple #[]) ∧ Below w.heap.size w w' := by
  have h : Calls Try.prog 239 #[.slice p 0 cap, fv] w _ := AnyF.slices_SortFunc_none sortT p cap fv w
  exact h.mono fun e w' h => ⟨h.1, by rw [h.2]; exact Below.refl _ _⟩

set_option maxHeartbeats 1000000 in
theorem c_sortedFunc (B : Nat) (A : Option Addr) (c : Nat) (ts : List (Int × Int)) (w : World) (hB : w.cell? ⟨B, 0, none⟩ = some (.slice A ts.length c)) (hr : RdT w A ts) (hh : handB ts = true) :
    Calls Try.prog 235 #[.func (.func 249) #[] #[.pointer (some ⟨B, 0, none⟩)], .func (.func 92) #[] #[]] w (RetL w (sortL ts)) := by
  have hp := of_decide_eq_true hh
  have con := Lib.hid (c_collect B A c ts w hB hr (by have := hp.1; omega))
  by_cases h0 : ts = []
  · subst h0
    have e0 : sortL [] = [] := by decide +kernel
    rw [e0]
    clear hr hB hh hp
    go_enter Try.func235, Try.ntmps235
    go_wp2_with fail
    refine con.out.mono ?_
    rintro e w1 ⟨A1, c1, rfl, o1, h1⟩
    go_wp2_with fail
    refine (c_sortNone _ _ _ _).mono ?_
    rintro e w2 ⟨rfl, h2⟩
    go_wp2
    go_ret
    exact ⟨A1, c1, rfl, own_keep o1 h2, bstep h1 h2⟩
  · have hl := hp.1
    have hgd := Lib.hid hp.2.1
    have hnd := Lib.hid hp.2.2
    clear hr hB hh hp
    go_enter Try.func235, Try.ntmps235
    go_wp2_with fail
    refine con.out.mono ?_
    rintro e w1 ⟨A1, c1, rfl, o1, h1⟩
    obtain ⟨g1, rfl⟩ : ∃ g, A1 = some ⟨g, 0, none⟩ := by
      obtain ⟨_, ⟨hv, hn⟩ | ⟨g, cap, cur, hv, _⟩⟩ := o1
      · exact absurd (List.eq_nil_of_length_eq_zero hn) h0
      · injection hv with e1; exact ⟨g, e1⟩
    go_wp2_with fail
    refine (c_sortFunc g1 c1 w.heap.size ts ts w1 o1 (by omega) hgd.out hnd.out (fun _ => Iff.rfl)).mono ?_
    rintro e w2 ⟨rfl, hl2, o2, h2⟩
    go_wp2
    go_ret
    rw [hl2] at o2
    exact ⟨some ⟨g1, 0, none⟩, c1, rfl, o2, h1.trans (below_of_grown h2 h1.size (fun g hg => by cases hg; exact (o1.lt g1 rfl).1))⟩

set_option maxHeartbeats 1000000 in
theorem c_inOrder (A : Option Addr) (c : Nat) (ts : List (Int × Int)) (w : World) (hr : RdT w A ts) (hh : handB ts = true) :
    Calls Try.prog 205 #[.slice A ts.length c] w (RetL w (sortL ts)) := by
  have con := Lib.hid (fun W B (hb : Below w.heap.size w W) (hB : W.cell? ⟨B, 0, none⟩ = some (.slice A ts.length c)) => c_sortedFunc B A c ts W hB (hr.below hb) hh)
  have conV : Hid (∀ W, Calls Try.prog 236 #[.slice A ts.length c] W fun e W' => e = .returned (.func (.func 249) #[] #[.pointer (some ⟨W.heap.size, 0, none⟩)]) ∧ W' = W.alloc (.cells #[.slice A ts.length c] 22)) := Lib.hid (by
    intro W
    clear con hr hh
    go_enter Try.func236, Try.ntmps236
    go_wp2
    go_ret
    exact ⟨rfl, rfl⟩)
  clear hr hh
  go_enter Try.func205, Try.ntmps205
  go_wp2_with fail
  refine (conV.out _).mono ?_
  rintro e w1 ⟨rfl, rfl⟩
  go_wp2_with fail
  refine (con.out _ _ ((Below.refl _ _).alloc (Nat.le_refl _) _) (by simp)).mono ?_
  rintro e w2 ⟨A2, c2, rfl, o2, h2⟩
  go_wp2
  go_ret
  exact ⟨A2, c2, rfl, own_base o2 (by simp), bstep ((Below.refl _ _).alloc (Nat.le_refl _) _) h2⟩

end Go.Proofs.Ytlnfialfkipdjaa

/- The library's sort at lists of tiles, and the tiles of a map in their order. -/
import Derived.Test.YtjbdflkbclhonabDoorPick
import Derived.Test.YtjbdflkbclhonabDoorMap
import Derived.Shelf.SlSortCmp.WholeK
import Derived.Ground.SlsfProg
namespace Go.Proofs.YtjbdflkbclhonabDoor
open Go.Shelf Go.RowKit Go.Lib Go.Sort Go.Maps Go.ChangeMaps
set_option linter.unusedVariables false

def sortT_ren : Go.Shelf.Ren := ⟨fun | 6 => 67 | 15 => 74 | 14 => 73 | 28 => 90 | 29 => 91 | 20 => 82 | 21 => 83 | 22 => 84 | 23 => 85 | 24 => 86 | 25 => 87 | 26 => 88 | 27 => 89 | 46 => 99 | 47 => 100 | 48 => 101 | 49 => 102 | 50 => 103 | 57 => 109 | n => n, fun | 22 => 34 | 24 => 27 | 25 => 99 | 3 => 3 | 39 => 111 | 0 => 0 | 53 => 125 | 55 => 127 | 4 => 4 | 46 => 118 | 45 => 117 | 50 => 122 | 5 => 5 | 9 => 9 | 66 => 134 | 70 => 138 | 76 => 140 | 77 => 75 | n => n, fun | n => n⟩
theorem sortT : Go.Proofs.SlLaysF0.n6 Tryd.prog sortT_ren := {
  mixed := by kernel_rfl
  f6 := ⟨Tryd.f67.name, by decide, Tryd.func67.trans (congrArg some (by kernel_rfl))⟩
  f14 := ⟨Tryd.f73.name, by decide, Tryd.func73.trans (congrArg some (by kernel_rfl))⟩
  f15 := Tryd.func74.trans (congrArg some (by kernel_rfl))
  f20 := ⟨Tryd.f82.name, by decide, Tryd.func82.trans (congrArg some (by kernel_rfl))⟩
  f21 := ⟨Tryd.f83.name, by decide, Tryd.func83.trans (congrArg some (by kernel_rfl))⟩
  f22 := ⟨Tryd.f84.name, by decide, Tryd.func84.trans (congrArg some (by kernel_rfl))⟩
  f23 := ⟨Tryd.f85.name, by decide, Tryd.func85.trans (congrArg some (by kernel_rfl))⟩
  f24 := ⟨Tryd.f86.name, by decide, Tryd.func86.trans (congrArg some (by kernel_rfl))⟩
  f25 := ⟨Tryd.f87.name, by decide, Tryd.func87.trans (congrArg some (by kernel_rfl))⟩
  f26 := ⟨Tryd.f88.name, by decide, Tryd.func88.trans (congrArg some (by kernel_rfl))⟩
  f27 := ⟨Tryd.f89.name, by decide, Tryd.func89.trans (congrArg some (by kernel_rfl))⟩
  f28 := Tryd.func90.trans (congrArg some (by kernel_rfl))
  f29 := Tryd.func91.trans (congrArg some (by kernel_rfl))
  f46 := ⟨Tryd.f99.name, by decide, Tryd.func99.trans (congrArg some (by kernel_rfl))⟩
  f47 := Tryd.func100.trans (congrArg some (by kernel_rfl))
  f48 := Tryd.func101.trans (congrArg some (by kernel_rfl))
  f49 := ⟨Tryd.f102.name, by decide, Tryd.func102.trans (congrArg some (by kernel_rfl))⟩
  f50 := ⟨Tryd.f103.name, by decide, Tryd.func103.trans (congrArg some (by kernel_rfl))⟩
  f57 := ⟨Tryd.f109.name, by decide, Tryd.func109.trans (congrArg some (by kernel_rfl))⟩
  t0 := Tryd.underlying0
  a0 := Tryd.isAgg0
  z0 := Tryd.sizeOf0
  v0 := Tryd.zeroValue0
  t3 := Tryd.underlying3
  a3 := Tryd.isAgg3
  z3 := Tryd.sizeOf3
  v3 := Tryd.zeroValue3
  t4 := Tryd.underlying4
  a4 := Tryd.isAgg4
  z4 := Tryd.sizeOf4
  v4 := Tryd.zeroValue4
  t5 := Tryd.underlying5
  a5 := Tryd.isAgg5
  z5 := Tryd.sizeOf5
  v5 := Tryd.zeroValue5
  t9 := Tryd.underlying9
  a9 := Tryd.isAgg9
  z9 := Tryd.sizeOf9
  v9 := Tryd.zeroValue9
  t22 := Tryd.underlying34
  a22 := Tryd.isAgg34
  z22 := Tryd.sizeOf34
  v22 := Tryd.zeroValue34
  t25 := Tryd.underlying99
  a25 := Tryd.isAgg99
  z25 := Tryd.sizeOf99
  v25 := Tryd.zeroValue99
  t39 := Tryd.underlying111
  a39 := Tryd.isAgg111
  z39 := Tryd.sizeOf111
  v39 := Tryd.zeroValue111
  t45 := Tryd.underlying117
  a45 := Tryd.isAgg117
  z45 := Tryd.sizeOf117
  v45 := Tryd.zeroValue117
  t46 := Tryd.underlying118
  a46 := Tryd.isAgg118
  z46 := Tryd.sizeOf118
  v46 := Tryd.zeroValue118
  t50 := Tryd.underlying122
  a50 := Tryd.isAgg122
  z50 := Tryd.sizeOf122
  v50 := Tryd.zeroValue122
  t53 := Tryd.underlying125
  a53 := Tryd.isAgg125
  z53 := Tryd.sizeOf125
  v53 := Tryd.zeroValue125
  t55 := Tryd.underlying127
  a55 := Tryd.isAgg127
  z55 := Tryd.sizeOf127
  v55 := Tryd.zeroValue127
  t66 := Tryd.underlying134
  a66 := Tryd.isAgg134
  z66 := Tryd.sizeOf134
  v66 := Tryd.zeroValue134
  t70 := Tryd.underlying138
  a70 := Tryd.isAgg138
  z70 := Tryd.sizeOf138
  v70 := Tryd.zeroValue138
  t76 := Tryd.underlying140
  a76 := Tryd.isAgg140
  z76 := Tryd.sizeOf140
  v76 := Tryd.zeroValue140
  t77 := Tryd.underlying75
  a77 := Tryd.isAgg75
  z77 := Tryd.sizeOf75
  v77 := Tryd.zeroValue75 }

def cmpI (a b : Int) : Int := if a < b then -1 else if b < a then 1 else 0
def cmpT (x y : Int × Int) : Int := if cmpI x.1 y.1 = 0 then cmpI x.2 y.2 else cmpI x.1 y.1

set_option maxHeartbeats 400000 in
theorem c_isNaN (a : Int) (w : World) : Calls Tryd.prog 92 #[.int .i64 a] w fun e w' => e = .returned (.bool false) ∧ w = w' := by
  go_enter Tryd.func92, Tryd.ntmps92
  go_wp2
  go_ret
  exact ⟨ret_b (by simp), rfl⟩

set_option maxHeartbeats 400000 in
theorem c_cmpCompare (a b : Int) (w : World) : Calls Tryd.prog 76 #[.int .i64 a, .int .i64 b] w fun e w' => e = .returned (.int .i64 (cmpI a b)) ∧ w = w' := by
  by_cases h1 : a < b
  · have e1 : cmpI a b = -1 := by simp [cmpI, h1]
    rw [e1]
    clear e1
    go_enter Tryd.func76, Tryd.ntmps76
    go_wp2_with (go_at_call 92; refine (c_isNaN _ _).mono ?_; rintro e w' ⟨rfl, rfl⟩)
    go_ret
    exact ⟨rfl, rfl⟩
  · by_cases h2 : b < a
    · have e1 : cmpI a b = 1 := by simp [cmpI, h1, h2]
      rw [e1]
      clear e1
      go_enter Tryd.func76, Tryd.ntmps76
      go_wp2_with (go_at_call 92; refine (c_isNaN _ _).mono ?_; rintro e w' ⟨rfl, rfl⟩)
      go_ret
      exact ⟨rfl, rfl⟩
    · have e1 : cmpI a b = 0 := by simp [cmpI, h1, h2]
      rw [e1]
      clear e1
      go_enter Tryd.func76, Tryd.ntmps76
      go_wp2_with (go_at_call 92; refine (c_isNaN _ _).mono ?_; rintro e w' ⟨rfl, rfl⟩)
      go_ret
      exact ⟨rfl, rfl⟩

def orI (p q : Int) : Int := if p = 0 then q else p

set_option maxHeartbeats 400000 in
theorem c_cmpOr (g : Nat) (p q : Int) (w : World) (h0 : w.cell? ⟨g, 0, none⟩ = some (.int .i64 p)) (h1 : w.cell? ⟨g, 1, none⟩ = some (.int .i64 q)) :
    Calls Tryd.prog 75 #[.slice (some ⟨g, 0, none⟩) 2 2] w fun e w' => e = .returned (.int .i64 (orI p q)) ∧ w = w' := by
  by_cases hp : p = 0
  · have e1 : orI p q = q := by simp [orI, hp]
    rw [e1]
    have hp' : (p != 0) = false := by simp [hp]
    clear hp e1
    by_cases hq : q = 0
    · have hq' : (q != 0) = false := by simp [hq]
      have HQ := Lib.hid hq
      clear hq
      go_enter Tryd.func75, Tryd.ntmps75
      go_wp2
      go_rounds 3
      go_ret
      exact ⟨ret_i HQ.out.symm, rfl⟩
    · have hq' : (q != 0) = true := by simp [hq]
      clear hq
      go_enter Tryd.func75, Tryd.ntmps75
      go_wp2
      go_rounds 3
      go_ret
      exact ⟨rfl, rfl⟩
  · have e1 : orI p q = p := by simp [orI, hp]
    rw [e1]
    have hp' : (p != 0) = true := by simp [hp]
    clear hp e1
    go_enter Tryd.func75, Tryd.ntmps75
    go_wp2
    go_rounds 3
    go_ret
    exact ⟨rfl, rfl⟩

theorem cmpT_or (x y : Int × Int) : cmpT x y = orI (cmpI x.1 y.1) (cmpI x.2 y.2) := rfl

set_option maxRecDepth 100000 in
set_option maxHeartbeats 2000000 in
theorem c_compareTiles (x y : Int × Int) (w : World) : Calls Tryd.prog 68 #[.agg #[.int .i64 x.1, .int .i64 x.2], .agg #[.int .i64 y.1, .int .i64 y.2]] w fun e w' => e = .returned (.int .i64 (cmpT x y)) ∧ ∃ q os', w' = grow (w.drewN q) os' := by
  rw [cmpT_or]
  obtain ⟨a, b⟩ := x
  obtain ⟨c, d⟩ := y
  have con := fun W => c_cmpCompare a c W
  have con' := fun W => c_cmpCompare b d W
  simp only []
  generalize cmpI a c = p at con ⊢
  generalize cmpI b d = q at con' ⊢
  go_enter Tryd.func68, Tryd.ntmps68
  go_wp2
  have x0 : ((w.alloc (.cells #[.int .i64 a, .int .i64 b] 27)).alloc (.cells #[.int .i64 c, .int .i64 d] 27)).cell? ⟨w.heap.size, 0, none⟩ = some (.int .i64 a) := by simp [go_sem]
  have x1 : ((w.alloc (.cells #[.int .i64 a, .int .i64 b] 27)).alloc (.cells #[.int .i64 c, .int .i64 d] 27)).cell? ⟨w.heap.size, 1, none⟩ = some (.int .i64 b) := by simp [go_sem]
  have y0 : ((w.alloc (.cells #[.int .i64 a, .int .i64 b] 27)).alloc (.cells #[.int .i64 c, .int .i64 d] 27)).cell? ⟨w.heap.size + 1, 0, none⟩ = some (.int .i64 c) := by simp [go_sem]
  have y1 : ((w.alloc (.cells #[.int .i64 a, .int .i64 b] 27)).alloc (.cells #[.int .i64 c, .int .i64 d] 27)).cell? ⟨w.heap.size + 1, 1, none⟩ = some (.int .i64 d) := by simp [go_sem]
  go_region_held3 (fun w' => w'.cell? ⟨w.heap.size, 0, none⟩ = some (.int .i64 a) ∧ w'.cell? ⟨w.heap.size, 1, none⟩ = some (.int .i64 b) ∧ w'.cell? ⟨w.heap.size + 1, 0, none⟩ = some (.int .i64 c) ∧ w'.cell? ⟨w.heap.size + 1, 1, none⟩ = some (.int .i64 d)) (first | exact ⟨x0, x1, y0, y1⟩ | go_keep) (first | (go_at_call_of 76 (Value.int .i64 a); refine (con _).mono ?_; rintro e w' ⟨rfl, rfl⟩) | (go_at_call_of 76 (Value.int .i64 b); refine (con' _).mono ?_; rintro e w' ⟨rfl, rfl⟩) | (go_at_call 75; refine (c_cmpOr (w.heap.size + 1 + 1) p q _ ?h0 ?h1).mono ?_; (case h0 => simp [go_sem]); (case h1 => simp [go_sem]); rintro e w' ⟨rfl, rfl⟩))
  go_wp2
  go_ret
  exact ⟨rfl, 1, _, by rw [alloc_eq_grow, alloc_eq_grow, alloc_eq_grow, grow_grow, grow_grow]; rfl⟩

/-- Tiles in their order. -/
def ltT (x y : Int × Int) : Prop := x.1 < y.1 ∨ (x.1 = y.1 ∧ x.2 < y.2)
instance (x y : Int × Int) : Decidable (ltT x y) := by unfold ltT; infer_instance
theorem ltOf_cmp (x y : Int × Int) : ltOf cmpT x y = decide (ltT x y) := by
  unfold ltOf cmpT cmpI
  rw [Bool.eq_iff_iff, decide_eq_true_eq, decide_eq_true_eq]
  unfold ltT
  by_cases h1 : x.1 < y.1
  · simp [h1]
  · by_cases h2 : y.1 < x.1
    · have : ¬ x.1 = y.1 := by omega
      simp [h1, h2, this]
    · have h3 : x.1 = y.1 := by omega
      by_cases h4 : x.2 < y.2
      · simp [h3, h4]
      · by_cases h5 : y.2 < x.2 <;> simp [h3, h4, h5]
theorem swoT : SWO (ltOf cmpT) where
  irrefl x := by rw [ltOf_cmp]; simp [ltT]
  trans x y z h1 h2 := by
    have h1' : ltT x y := by simpa [ltOf_cmp] using h1
    have h2' : ltT y z := by simpa [ltOf_cmp] using h2
    rw [ltOf_cmp, decide_eq_true_eq]
    unfold ltT at *
    omega
  ntrans x y z h1 h2 := by
    have h1' : ¬ ltT x y := by simpa [ltOf_cmp] using h1
    have h2' : ¬ ltT y z := by simpa [ltOf_cmp] using h2
    rw [ltOf_cmp, decide_eq_false_iff_not]
    unfold ltT at *
    omega

theorem sorted_ext : ∀ {l m : List (Int × Int)}, l.Pairwise ltT → m.Pairwise ltT → (∀ x, x ∈ l ↔ x ∈ m) → l = m
  | [], [], _, _, _ => rfl
  | [], y :: m, _, _, h => by have := (h y).2 (by simp); simp at this
  | x :: l, [], _, _, h => by have := (h x).1 (by simp); simp at this
  | x :: l, y :: m, hl, hm, h => by
    have hl' := List.pairwise_cons.1 hl
    have hm' := List.pairwise_cons.1 hm
    have irr : ∀ z : Int × Int, ¬ ltT z z := fun z hz => by simp [ltT] at hz
    have asym : ∀ u v : Int × Int, ltT u v → ¬ ltT v u := fun u v h1 h2 => by simp only [ltT] at h1 h2; omega
    have hxy : x = y := by
      have h1 := (h x).1 (by simp)
      have h2 := (h y).2 (by simp)
      rcases List.mem_cons.1 h1 with e | h1
      · exact e
      · rcases List.mem_cons.1 h2 with e | h2
        · exact e.symm
        · exact absurd (hl'.1 y h2) (asym _ _ (hm'.1 x h1))
    subst hxy
    rw [sorted_ext hl'.2 hm'.2 (fun z => ?_)]
    constructor
    · intro hz
      rcases List.mem_cons.1 ((h z).1 (by simp [hz])) with e | e
      · subst e; exact absurd (hl'.1 z hz) (irr z)
      · exact e
    · intro hz
      rcases List.mem_cons.1 ((h z).2 (by simp [hz])) with e | e
      · subst e; exact absurd (hm'.1 z hz) (irr z)
      · exact e

theorem set9_sorted : (setL 9).Pairwise ltT := by decide +kernel
theorem pickL_sorted (ts : List (Int × Int)) (b : Bool) : (pickL 9 ts b).Pairwise ltT := set9_sorted.filter _
theorem mem_set9 {t : Int × Int} : t ∈ setL 9 ↔ goodB t.1 t.2 = true := by
  constructor
  · intro h
    have : ∀ t ∈ setL 9, goodB t.1 t.2 = true := by decide +kernel
    exact this t h
  · intro h
    obtain ⟨a, b⟩ := t
    have h2 := h
    simp only [goodB, numB, Bool.and_eq_true, decide_eq_true_eq] at h2
    obtain ⟨m, hm, rfl⟩ : ∃ m : Nat, m ≤ 9 ∧ a = m := ⟨a.toNat, by omega, by omega⟩
    obtain ⟨n, hn, rfl⟩ : ∃ n : Nat, n ≤ 9 ∧ b = n := ⟨b.toNat, by omega, by omega⟩
    have key : ((List.range 10).all fun m => (List.range 10).all fun n => !(decide (m ≤ n)) || decide (((m : Int), (n : Int)) ∈ setL 9)) = true := by decide +kernel
    have k1 := List.all_eq_true.1 key m (List.mem_range.2 (by omega))
    have k2 := List.all_eq_true.1 k1 n (List.mem_range.2 (by omega))
    have hmn : m ≤ n := by omega
    simpa [hmn] using k2
theorem mem_sortL {ts : List (Int × Int)} (hg : ∀ t ∈ ts, goodB t.1 t.2 = true) (t : Int × Int) : t ∈ sortL ts ↔ t ∈ ts := by
  unfold sortL pickL
  rw [List.mem_filter]
  simp only [pickB, beq_true, decide_eq_true_eq]
  exact ⟨fun h => h.2, fun h => ⟨mem_set9.2 (hg t h), h⟩⟩

/-- What the library's sort leaves of a list with the tiles of ts, each once, is ts in order. -/
theorem sorted_is {us ts : List (Int × Int)} {d' : Array (Int × Int)} (hg : ∀ t ∈ ts, goodB t.1 t.2 = true) (hnd : us.Nodup) (hmem : ∀ t, t ∈ us ↔ t ∈ ts)
    (hp : PermIn 0 us.toArray.size us.toArray d') (hs : SortedIn (ltOf cmpT) 0 us.toArray.size d') : d'.toList = sortL ts := by
  obtain ⟨h1, _, h3⟩ := hp
  have hperm : d'.toList.Perm us := by
    have e1 : d'.extract 0 us.toArray.size = d' := by rw [← h1]; simp
    have e2 : us.toArray.extract 0 us.toArray.size = us.toArray := by simp
    rw [e1, e2] at h3
    simpa using h3
  have hnd' : d'.toList.Nodup := hperm.nodup_iff.2 hnd
  refine sorted_ext ?_ (pickL_sorted ts true) (fun x => ?_)
  · rw [List.pairwise_iff_getElem]
    intro i j hi hj hij
    have hsz : d'.size = us.toArray.size := h1
    have := hs i j (Nat.zero_le _) hij (by simpa [← hsz] using hj)
    rw [ltOf_cmp, decide_eq_false_iff_not] at this
    have hi' : i < d'.size := by simpa using hi
    have hj' : j < d'.size := by simpa using hj
    rw [getElem!_pos d' j hj', getElem!_pos d' i hi'] at this
    have hne : d'.toList[i] ≠ d'.toList[j] := List.pairwise_iff_getElem.1 hnd' i j hi hj hij
    simp only [Array.getElem_toList] at hne ⊢
    generalize d'[i] = x at *
    generalize d'[j] = y at *
    have hxy : ¬ (x.1 = y.1 ∧ x.2 = y.2) := fun h => hne (Prod.ext h.1 h.2)
    simp only [ltT] at this ⊢
    omega
  · rw [mem_sortL hg, ← hmem]
    exact hperm.mem_iff

theorem flat_cells (d : List (Int × Int)) : (flatK (fun t : Int × Int => [Value.int .i64 t.1, .int .i64 t.2]) 2 d.toArray).toList = cellsT d := by
  apply List.ext_getElem?
  intro j
  rcases Nat.lt_or_ge j (d.length * 2) with hj | hj
  · have h1 : j / 2 < d.length := by omega
    have h2 := cellsT_get d (j / 2) h1
    have h3 : (flatK (fun t : Int × Int => [Value.int .i64 t.1, .int .i64 t.2]) 2 d.toArray).toList[j]? = some ([Value.int .i64 d[j / 2].1, .int .i64 d[j / 2].2][j % 2]!) := by
      simp [flatK, hj, h1]
    rw [h3]
    rcases (by omega : j % 2 = 0 ∨ j % 2 = 1) with h | h
    · rw [h]; have e : j = j / 2 * 2 := by omega
      rw [← e] at h2
      rw [h2.1]; rfl
    · rw [h]; have e : j = j / 2 * 2 + 1 := by omega
      rw [← e] at h2
      rw [h2.2]; rfl
  · rw [List.getElem?_eq_none (by simp [flatK]; omega), List.getElem?_eq_none (by rw [cellsT_length]; omega)]

abbrev encT : Int × Int → List Value := fun t => [Value.int .i64 t.1, .int .i64 t.2]

theorem holds_own {w : World} {base g c : Nat} {us : List (Int × Int)} (h : w.ownsRow base 27 2 (.slice (some ⟨g, 0, none⟩) us.length c) us.length (cellsT us)) : HoldsK encT 2 w g 0 us.toArray := by
  intro j hj
  have hj' : j < us.length * 2 := by simpa using hj
  have h1 := h.cellAt j hj'
  have h2 := h.frozenAt j
  have hf := flat_cells us
  have e1 : (flatK encT 2 us.toArray)[j]? = (cellsT us)[j]? := by rw [← hf, Array.getElem?_toList]
  have hlt : j < (flatK encT 2 us.toArray).size := hj
  rw [Array.getElem?_eq_getElem hlt] at e1
  rw [Nat.zero_add, h1, ← e1, getElem!_pos _ j hlt]
  exact ⟨rfl, h2⟩

theorem own_sorted {w : World} {base g c n : Nat} {us ys : List (Int × Int)} {os : Array Obj} (h : w.ownsRow base 27 2 (.slice (some ⟨g, 0, none⟩) us.length c) us.length (cellsT us)) (hy : ys.length = us.length) :
    (sortWorldK encT 2 w g 0 n ys.toArray os).ownsRow base 27 2 (.slice (some ⟨g, 0, none⟩) us.length c) us.length (cellsT ys) ∧ w.grownBy (sortWorldK encT 2 w g 0 n ys.toArray os) (some g) := by
  have hgr : w.grownBy (sortWorldK encT 2 w g 0 n ys.toArray os) (some g) := by
    refine ⟨rfl, rfl, rfl, by simp [sortWorldK, grow, putRowK, putRow, mapBlock, Sort.ahead], fun k hk hne => ?_⟩
    have : g ≠ k := fun e => hne (by rw [e])
    show (grow (putRowK encT 2 (Sort.ahead w n) g 0 ys.toArray) os).heap[k]? = _
    rw [heap_grow_old _ _ (by simpa [putRowK, putRow, mapBlock, Sort.ahead] using hk)]
    simp [putRowK, putRow, mapBlock, Sort.ahead, Array.getElem?_modify, this]
  refine ⟨?_, hgr⟩
  obtain ⟨hl, ⟨e0, _⟩ | ⟨g', cap', cur, e0, hb, hg, hn, hm, hs, ht⟩⟩ := h
  · cases e0
  injection e0 with e1 _ e3
  injection e1 with e1
  injection e1 with e1
  subst e1; subst e3
  have hgl : g < w.heap.size := (Array.getElem?_eq_some_iff.1 hg).1
  refine ⟨by rw [cellsT_length, hy], .inr ⟨g, c, putCells id 0 (flatK encT 2 ys.toArray) cur, rfl, hb, ?_, hn, hm, by simpa [putCells] using hs, ?_⟩⟩
  · show (grow (putRowK encT 2 (Sort.ahead w n) g 0 ys.toArray) os).heap[g]? = _
    rw [heap_grow_old _ _ (by simpa [putRowK, putRow, mapBlock, Sort.ahead] using hgl)]
    simp [putRowK, putRow, mapBlock, Sort.ahead, Array.getElem?_modify, hg, onCells]
  · rw [← flat_cells ys]
    apply List.ext_getElem?
    intro j
    by_cases hj : j < us.length * 2
    · have hjc : j < cur.size := by omega
      rw [List.getElem?_take_of_lt hj, Array.getElem?_toList, Array.getElem?_toList]
      simp only [putCells, Array.getElem?_mapIdx, Array.getElem?_eq_getElem hjc, Option.map_some]
      have hjf : j < (flatK encT 2 ys.toArray).size := by simp; omega
      rw [if_pos (by omega), Array.getElem?_eq_getElem hjf, Nat.sub_zero, getElem!_pos _ j hjf]
      rfl
    · rw [List.getElem?_eq_none (by simp; omega), List.getElem?_eq_none (by simp; omega)]

theorem Tryd.isAggT (w : World) : (isAgg 27).run Tryd.prog w = .ok true w := by kernel_rfl
theorem Tryd.sizeT (w : World) : (Go.sizeOf 27).run Tryd.prog w = .ok 2 w := by kernel_rfl

/-- slices.SortFunc by compareTiles, at a row of the call's own with the tiles of ts, each once. -/
theorem c_sortFunc (g c base : Nat) (us ts : List (Int × Int)) (w : World) (h : w.ownsRow base 27 2 (.slice (some ⟨g, 0, none⟩) us.length c) us.length (cellsT us)) (hl : us.length ≤ 1048576)
    (hg : ∀ t ∈ ts, goodB t.1 t.2 = true) (hnd : us.Nodup) (hmem : ∀ t, t ∈ us ↔ t ∈ ts) :
    Calls Tryd.prog 67 #[.slice (some ⟨g, 0, none⟩) us.length c, .func (.func 68) #[] #[]] w fun e w' =>
      e = .returned (.tuple #[]) ∧ us.length = (sortL ts).length ∧ w'.ownsRow base 27 2 (.slice (some ⟨g, 0, none⟩) us.length c) us.length (cellsT (sortL ts)) ∧ w.grownBy w' (some g) := by
  have eg : ∀ args w, (callFunc 68 args).run Tryd.prog w = .ok (.enter 68 args) w := enters_of Tryd.func68 (by kernel_rfl) rfl
  have hgl : g < w.heap.size := (h.lt g rfl).2
  have hc := AnyQ.slices_SortFunc sortT 2 Tryd.isAggT Tryd.sizeT encT (fun _ => rfl) (fun x v hv => by simp [encT] at hv; rcases hv with rfl | rfl <;> rfl) cmpT swoT 68 #[] g 0 c us.toArray w eg
    (fun _ _ _ _ x y => c_compareTiles x y _) (holds_own h) hgl (by simp; omega)
  have hc' : Calls Tryd.prog 67 #[.slice (some ⟨g, 0, none⟩) us.length c, .func (.func 68) #[] #[]] w _ := hc
  refine hc'.mono fun e w' ⟨he, d', n, os, hp, hs, hw⟩ => ?_
  have hd := sorted_is hg hnd hmem hp hs
  have hlen : (sortL ts).length = us.length := by
    have := hp.1
    rw [← hd]
    simpa using this
  have hdd : d' = (sortL ts).toArray := by rw [← hd]
  subst hw
  rw [hdd]
  obtain ⟨o1, o2⟩ := own_sorted (n := n) (os := os) h hlen
  exact ⟨he, hlen.symm, o1, o2⟩
end Go.Proofs.YtjbdflkbclhonabDoor

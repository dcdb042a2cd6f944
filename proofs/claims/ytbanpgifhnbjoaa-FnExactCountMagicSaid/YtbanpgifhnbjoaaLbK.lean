/- Magic blocks: the program's iterator over the layings that are magic. -/
import Derived.Test.YtbanpgifhnbjoaaLbI
import Derived.Test.YtbanpgifhnbjoaaMag
import Derived.Test.YtbanpgifhnbjoaaIterT
namespace Go.Proofs.Ytbanpgifhnbjoaa
open Go Go.RowKit
set_option linter.unusedVariables false

theorem wl_mem : ∀ (t : Nat) (M : Nat → Nat → Bool) (x : List Int), x ∈ wlL t M → x.length = 2 * t ∧ ∀ y ∈ x, 0 ≤ y ∧ y ≤ 9
  | 0, M, x, h => by
    have e : x = [] := by simpa [wlL] using h
    subst e
    simp
  | t + 1, M, x, h => by
    rw [wlL_succ] at h
    obtain ⟨p, hp, hx⟩ := List.mem_flatMap.1 h
    have hp100 := List.mem_range.1 hp
    unfold wlJ at hx
    by_cases hM : M (p / 10) (p % 10) = true
    · rw [if_pos hM] at hx
      obtain ⟨l, hl, rfl⟩ := List.mem_map.1 hx
      have ih := wl_mem t _ l hl
      refine ⟨by simp [ih.1]; omega, fun y hy => ?_⟩
      rcases List.mem_cons.1 hy with rfl | hy
      · omega
      · rcases List.mem_cons.1 hy with rfl | hy
        · omega
        · exact ih.2 y hy
    · rw [if_neg hM] at hx
      simp at hx
theorem getD_bd {x : List Int} (h : ∀ y ∈ x, 0 ≤ y ∧ y ≤ 9) (k : Nat) : 0 ≤ x.getD k 0 ∧ x.getD k 0 ≤ 9 := by
  by_cases hk : k < x.length
  · rw [List.getD_eq_getElem?_getD, List.getElem?_eq_getElem hk]
    exact h _ (List.getElem_mem hk)
  · rw [List.getD_eq_getElem?_getD, List.getElem?_eq_none (by omega)]
    simp

/-- Is a list of numbers in R rows of W magic? -/
def mgqB (R W : Nat) (F : List Int) : Bool := sameL (sumsL (fun i j => F.getD (i * W + j) 0) R W) && sameL (sumsL (fun i j => F.getD (j * W + i) 0) W R)
/-- The magic blocks of a hand in R rows. -/
def magL (R W : Nat) (pre : List (List Int)) : List (List Int) := pre.filter (mgqB R W)
theorem magL_yes {R W : Nat} {L : List (List Int)} {x : List Int} (h : mgqB R W x = true) : magL R W (L ++ [x]) = magL R W L ++ [x] := by simp [magL, h]
theorem magL_no {R W : Nat} {L : List (List Int)} {x : List Int} (h : mgqB R W x = false) : magL R W (L ++ [x]) = magL R W L := by simp [magL, h]
/-- A block as it is handed out. -/
def EncB (W : Nat) (x : List Int) (v : Array Value) (T : Nat → Prop) (A : World) : Prop := ∃ Ax cx, v = #[.agg #[.slice Ax x.length cx, .int .i64 W]] ∧ x.length ≤ cx ∧ cx ≤ 9223372036854775807 ∧ RdI A Ax x ∧ (x ≠ [] → ∀ a, Ax = some a → T a.block)

/-- What an iterator leaves behind. -/
def EvPN (n₀ : Nat) (J Jx : (Nat → Prop) → List (List Int) → World → Prop) (xs : List (List Int)) (W : World) (e : Ending) (W' : World) : Prop :=
  (∃ v, e = .returned v) ∧ W.heap.size ≤ W'.heap.size ∧ ((∃ T, J T xs W' ∧ (∀ k, T k → n₀ ≤ k ∧ k < W'.heap.size)) ∨ (∃ T pre, pre <+: xs ∧ Jx T pre W' ∧ (∀ k, T k → n₀ ≤ k ∧ k < W'.heap.size)))

abbrev MgT (B C b : Nat) (T : Nat → Prop) (k : Nat) : Prop := T k ∨ k = B ∨ k = C ∨ k = b
structure MgI (J : (Nat → Prop) → List (List Int) → World → Prop) (R W B C b l m : Nat) (A0 : Option Addr) (c0 : Nat) (T : Nat → Prop) (pre : List (List Int)) (A : World) : Prop where
  j : J (MgT B C b T) (magL R W pre) A
  t1 : ¬ T B
  t2 : ¬ T C
  t3 : ¬ T b
  k1 : A.cell? ⟨B, 0, none⟩ = some (.slice A0 m c0)
  k2 : A.cell? ⟨C, 0, none⟩ = some (.int .i64 R)
  k3 : A.cell? ⟨b, 0, none⟩ = some (.func (.yield l) #[] #[])
structure MgX (Jx : (Nat → Prop) → List (List Int) → World → Prop) (R W B C b : Nat) (c : Code) (T : Nat → Prop) (pre : List (List Int)) (A : World) : Prop where
  co : c = .ret
  j : Jx (MgT B C b T) (magL R W pre) A
  t1 : ¬ T B
  t2 : ¬ T C
  t3 : ¬ T b
  k1 : B < A.heap.size
  k2 : C < A.heap.size
  k3 : b < A.heap.size
theorem mgt_bd {n₀ B C b : Nat} {T : Nat → Prop} {A : World} (hT : ∀ k, T k → n₀ ≤ k ∧ k < A.heap.size) (h1 : n₀ ≤ B) (h2 : n₀ ≤ C) (h3 : n₀ ≤ b) (z1 : B < A.heap.size) (z2 : C < A.heap.size) (z3 : b < A.heap.size) : ∀ k, MgT B C b T k → n₀ ≤ k ∧ k < A.heap.size := by
  rintro k (h | rfl | rfl | rfl)
  · exact hT k h
  · exact ⟨h1, z1⟩
  · exact ⟨h2, z2⟩
  · exact ⟨h3, z3⟩
theorem mgt_sub {B C b : Nat} {T T' : Nat → Prop} {A : World} (hT' : ∀ k, T' k → T k ∨ A.heap.size ≤ k) : ∀ k, MgT B C b T' k → MgT B C b T k ∨ A.heap.size ≤ k := by
  rintro k (h | h)
  · rcases hT' k h with h | h
    · exact .inl (.inl h)
    · exact .inr h
  · exact .inl (.inr h)
theorem MgI.abides {n₀ R W B C b l m : Nat} {J : (Nat → Prop) → List (List Int) → World → Prop} {A0 : Option Addr} {c0 : Nat} (hJ : AbT n₀ J) (h1 : n₀ ≤ B) (h2 : n₀ ≤ C) (h3 : n₀ ≤ b) : AbT n₀ (MgI J R W B C b l m A0 c0) := by
  rintro T T' s A A' h hT hnA ht hT'
  have z1 : B < A.heap.size := block_lt h.k1
  have z2 : C < A.heap.size := block_lt h.k2
  have z3 : b < A.heap.size := block_lt h.k3
  refine ⟨hJ _ _ _ A A' h.j (mgt_bd hT h1 h2 h3 z1 z2 z3) hnA (ht.mono fun k _ h => .inl h) (mgt_sub hT'), fun hk => ?_, fun hk => ?_, fun hk => ?_, ht.cell h.t1 h.k1, ht.cell h.t2 h.k2, ht.cell h.t3 h.k3⟩
  · rcases hT' _ hk with hk | hk
    · exact h.t1 hk
    · omega
  · rcases hT' _ hk with hk | hk
    · exact h.t2 hk
    · omega
  · rcases hT' _ hk with hk | hk
    · exact h.t3 hk
    · omega
theorem MgX.abides {n₀ R W B C b : Nat} {Jx : (Nat → Prop) → List (List Int) → World → Prop} (hJ : AbT n₀ Jx) (h1 : n₀ ≤ B) (h2 : n₀ ≤ C) (h3 : n₀ ≤ b) (c : Code) : AbT n₀ (MgX Jx R W B C b c) := by
  rintro T T' s A A' h hT hnA ht hT'
  refine ⟨h.co, hJ _ _ _ A A' h.j (mgt_bd hT h1 h2 h3 h.k1 h.k2 h.k3) hnA (ht.mono fun k _ h => .inl h) (mgt_sub hT'), fun hk => ?_, fun hk => ?_, fun hk => ?_, Nat.lt_of_lt_of_le h.k1 ht.size, Nat.lt_of_lt_of_le h.k2 ht.size, Nat.lt_of_lt_of_le h.k3 ht.size⟩
  · rcases hT' _ hk with hk | hk
    · exact h.t1 hk
    · have := h.k1; omega
  · rcases hT' _ hk with hk | hk
    · exact h.t2 hk
    · have := h.k2; omega
  · rcases hT' _ hk with hk | hk
    · exact h.t3 hk
    · have := h.k3; omega

def mgAct (l B C b B2 n c : Nat) (A : Option Addr) (v : Array Value) : Act :=
  { tmps := #[.func (.yield l) #[] #[], .pointer (some ⟨B, 0, none⟩), .pointer (some ⟨C, 0, none⟩), .pointer (some ⟨b, 0, none⟩), v.getD 0 undef, undef, .slice A n c, .slice A n c, .int .i64 n, .func (.func 74) #[] #[.pointer (some ⟨B2 + 1, 0, none⟩), .pointer (some ⟨B2, 0, none⟩)], v.getD 0 undef, undef, undef, undef, undef, undef, undef, undef, undef, undef, undef, undef, undef, undef, undef], defers := [] }

set_option maxRecDepth 100000 in
set_option maxHeartbeats 4000000 in
theorem iters_magic (w0 : World) (n₀ B C R W : Nat) (A : Option Addr) (c : Nat) (H : List (Int × Int)) (hB : w0.cell? ⟨B, 0, none⟩ = some (.slice A H.length c)) (hC : w0.cell? ⟨C, 0, none⟩ = some (.int .i64 R)) (hn : n₀ ≤ w0.heap.size) (hBn : n₀ ≤ B) (hCn : n₀ ≤ C) (hr : RdT w0 A H) (hh : handB H = true)
    (hR : 1 ≤ R) (hR3 : R ≤ 3) (hW : 2 * H.length = R * W) (hW0 : 0 < W) (hW4 : W ≤ 4) :
    Iters Try.prog n₀ (fun k => k = B ∨ k = C) 48 #[.pointer (some ⟨B, 0, none⟩), .pointer (some ⟨C, 0, none⟩)] (EncB W) (magL R W (allWl H H.length)) w0 := by
  intro m l J Jx V hV hJ hJx hY h0
  have hBV := (hV.cell (p := ⟨B, 0, none⟩) (block_lt hB)).trans hB
  have hCV := (hV.cell (p := ⟨C, 0, none⟩) (block_lt hC)).trans hC
  have hrV := hr.below hV
  have hnV : n₀ ≤ V.heap.size := Nat.le_trans hn hV.size
  have hlen : H.length ≤ 55 := (of_decide_eq_true hh : handP H).1
  clear hV hr hB hC hn
  show CallsIn Fence.wide m Try.prog _ _ V (EvPN n₀ J Jx (magL R W (allWl H H.length)) V)
  refine callsIn_of_wp_marks Try.func48 rfl trivial ?_
  simp only [Try.ntmps48, List.size_toArray, List.length_cons, List.length_nil, Nat.reduceAdd, Nat.reduceSub, Array.replicate_succ, Array.replicate_zero, List.push_toArray, List.append_toArray, List.nil_append, List.cons_append]
  have HJ := Lib.hid hJ
  have HJX := Lib.hid hJx
  have HY := Lib.hid hY
  have H0 := Lib.hid h0
  clear hJ hJx hY h0
  have lB := block_lt hBV
  have lC := block_lt hCV
  obtain ⟨w1, hw1⟩ : ∃ w1, w1 = V.alloc (.cells #[.func (.yield l) #[] #[]] 74) := ⟨_, rfl⟩
  have b1 : Below V.heap.size V w1 := by rw [hw1]; exact (Below.refl _ _).alloc (Nat.le_refl _) _
  have xb : w1.cell? ⟨V.heap.size, 0, none⟩ = some (.func (.yield l) #[] #[]) := by rw [hw1]; simp
  have s1 : w1.heap.size = V.heap.size + 1 := by rw [hw1]; simp
  have xB := keepc b1 hBV
  have xC := keepc b1 hCV
  have S1 := Lib.hid s1
  clear s1
  gi_wp2_with fail
  rw [← hw1]
  clear hw1
  refine ⟨trivial, fun h => by simp [Fence.wide] at h, callsIn_wide.2 ((c_everyLaying A H.length c (H.length : Int) w1).mono ?_)⟩
  rintro e w2 ⟨rfl, hw2⟩
  have HW2 := Lib.hid hw2
  clear hw2
  gi_wp2_with fail
  obtain ⟨b, hb⟩ : ∃ b, b = V.heap.size := ⟨_, rfl⟩
  obtain ⟨B2, hB2⟩ : ∃ B2, B2 = w1.heap.size := ⟨_, rfl⟩
  have hw2 := HW2.out
  have b12 : Below w1.heap.size w1 w2 := by rw [hw2]; exact ((Below.refl _ _).alloc (Nat.le_refl _) _).alloc (by simp) _
  have s2 : w2.heap.size = w1.heap.size + 2 := by rw [hw2]; simp
  have yH : w2.cell? ⟨B2, 0, none⟩ = some (.slice A H.length c) := by
    rw [hw2, hB2]
    exact keepc ((Below.refl _ _).alloc (Nat.le_refl _) _) (by simp)
  have yT : w2.cell? ⟨B2 + 1, 0, none⟩ = some (.int .i64 (H.length : Int)) := by
    rw [hw2, hB2]
    have h7 := (cell_of_row ((w1.alloc (.cells #[.slice A H.length c] 26)).alloc (.cells #[.int .i64 (H.length : Int)] 3)) (w1.alloc (.cells #[.slice A H.length c] 26)).heap.size 0 _ _ _ (heap_alloc_new _ _))
    rw [World.size_alloc] at h7
    exact h7
  have yb := keepc b12 xb
  have yB := keepc b12 xB
  have yC := keepc b12 xC
  have bV2 : Below V.heap.size V w2 := bstep b1 b12
  have hr2 := hrV.below bV2
  have s1 := S1.out
  have HBB := Lib.hid hb
  rw [← hb] at yb
  rw [← hb, ← hB2]
  have t02 : Turn (fun k => k = B ∨ k = C) V w2 := Turn.of_below bV2
  have hzV : ∀ k, (k = B ∨ k = C) → n₀ ≤ k ∧ k < V.heap.size := by rintro k (rfl | rfl) <;> omega
  have j0 := HJ.out (fun k => k = B ∨ k = C) (MgT B C b (fun k => k = B2 ∨ k = B2 + 1)) [] V w2 H0.out hzV hnV t02 (by
    rintro k ((h | h) | h | h | h)
    · exact .inr (by omega)
    · exact .inr (by omega)
    · exact .inl (.inl h)
    · exact .inl (.inr h)
    · exact .inr (by omega))
  have I0 : MgI J R W B C b l H.length A c (fun k => k = B2 ∨ k = B2 + 1) [] w2 := ⟨j0, by omega, by omega, by omega, yB, yC, yb⟩
  have f1 : n₀ ≤ b := by omega
  have f2 : n₀ ≤ B2 := by omega
  have f3 : B2 + 1 < w2.heap.size := by omega
  have f4 : V.heap.size ≤ w2.heap.size := by omega
  clear hw2 HW2 b12 xB xC xb b1 j0 yb yB yC t02 H0 hb hB2 hrV bV2
  refine wp_rangeIterT (gf := 74) (lb := #[.pointer (some ⟨B2 + 1, 0, none⟩), .pointer (some ⟨B2, 0, none⟩)]) rfl (fun args w => enters_laying args w) (n₀ := n₀) (T0 := fun k => k = B2 ∨ k = B2 + 1) (iters_laying w2 n₀ B2 (B2 + 1) H.length A c H (fun k => k = B2 ∨ k = B2 + 1) (by rintro k (rfl | rfl) <;> omega) yT yH (by omega) hr2 hh (by omega)) (by omega) (by rintro k (rfl | rfl) <;> omega) ?hps ?hE
    (MgI J R W B C b l H.length A c) (MgX Jx R W B C b) (MgI.abides HJ.out hBn hCn f1) (MgX.abides HJX.out hBn hCn f1) I0 (mgAct l B C b B2 H.length c A) ?hassign ?hbody ?hdone ?hstop
  case hps => rintro x v T A ⟨_, _, rfl, _⟩; rfl
  case hE => exact fun x v T A B h1 h2 h3 => enc_keepN h1 h2 h3
  case hassign =>
    rintro l m x v T W K ⟨Ax, cx, rfl, _⟩ hK
    gi_wp2_with (rw [Oper.semAt_eq _ _ _ (fun c h => by cases h)]; go_simp; try go_bits)
    exact hK
  case hstop =>
    rintro D c2 T pre W2 hD hTD hp ⟨rfl, jx, t1, t2, t3, k1, k2, k3⟩ hz hK hbT
    gi_wp2
    have tp : Turn (MgT B C b T) W2 (W2.putObj D (.deferred none)) := Turn.putObj _ (.inl hTD)
    refine ⟨by simp, .inl ⟨_, _, rfl, run_takeDeferred hK, ?_⟩⟩
    exact ⟨_, results_none rfl _ _ _, ⟨_, rfl⟩, by have := tp.size; omega, .inr ⟨MgT B C b T, magL R W pre, hp.filter _, HJX.out _ _ _ W2 _ jx (mgt_bd hbT hBn hCn f1 k1 k2 k3) (by omega) tp (fun k h => .inl h), fun k hk => ⟨(mgt_bd hbT hBn hCn f1 k1 k2 k3 k hk).1, Nat.lt_of_lt_of_le (mgt_bd hbT hBn hCn f1 k1 k2 k3 k hk).2 tp.size⟩⟩⟩
  case hdone =>
    rintro D T W2 hD hTD I hz hK hbT
    gi_wp2
    have k1 : B < W2.heap.size := block_lt I.k1
    have k2 : C < W2.heap.size := block_lt I.k2
    have k3 : b < W2.heap.size := block_lt I.k3
    have tp : Turn (MgT B C b T) W2 (W2.putObj D (.deferred none)) := Turn.putObj _ (.inl hTD)
    refine ⟨by simp, .inl ⟨_, _, rfl, run_takeDeferred hK, ?_⟩⟩
    exact ⟨_, results_none rfl _ _ _, ⟨_, rfl⟩, by have := tp.size; omega, .inl ⟨MgT B C b T, HJ.out _ _ _ W2 _ I.j (mgt_bd hbT hBn hCn f1 k1 k2 k3) (by omega) tp (fun k h => .inl h), fun k hk => ⟨(mgt_bd hbT hBn hCn f1 k1 k2 k3 k hk).1, Nat.lt_of_lt_of_le (mgt_bd hbT hBn hCn f1 k1 k2 k3 k hk).2 tp.size⟩⟩⟩
  case hbody =>
    rintro l2 m2 T Ti pre x v A1 I1 hp hT hn1 hTi ⟨Ax, cx, rfl, ⟨hcx1, hcx⟩, hrx, htx⟩
    have k1 := I1.k1
    have k2 := I1.k2
    have k3 := I1.k3
    have z1 : B < A1.heap.size := block_lt k1
    have z2 : C < A1.heap.size := block_lt k2
    have z3 : b < A1.heap.size := block_lt k3
    have bd := mgt_bd hT hBn hCn f1 z1 z2 z3
    have HI := Lib.hid I1
    have hxm : x ∈ allWl H H.length := hp.subset (by simp)
    have hwl := wl_mem _ _ x hxm
    have hxl : x.length = R * W := by rw [hwl.1]; exact hW
    have iq : IntKind.i64.wrap ((x.length : Int).tdiv (R : Int)) = (W : Int) := by
      rw [hxl, Int.natCast_mul, Int.mul_tdiv_cancel_left _ (by omega)]
      exact IntWalk.i64_in _ (by omega)
    have iR0 : ((R : Int) == 0) = false := by simp; omega
    have iR1 : ¬ (R : Int) = 0 := by omega
    have hcx2 := hcx
    clear hr2 I0
    rw [hxl] at hcx1
    obtain ⟨V2, hV2⟩ : ∃ V2, V2 = A1.alloc (.cells #[.slice Ax (R * W) cx, .int .i64 W] 59) := ⟨_, rfl⟩
    obtain ⟨g, hg⟩ : ∃ g, g = A1.heap.size := ⟨_, rfl⟩
    have b2 : Below A1.heap.size A1 V2 := by rw [hV2]; exact (Below.refl _ _).alloc (Nat.le_refl _) _
    have q0 : V2.cell? ⟨g, 0, none⟩ = some (.slice Ax (R * W) cx) := by rw [hV2, hg]; simp
    have q1 : V2.cell? ⟨g, 1, none⟩ = some (.int .i64 W) := by rw [hV2, hg]; simp
    have con : Calls Try.prog 50 #[.agg #[.slice Ax (R * W) cx, .int .i64 W]] V2 fun e w' => e = .returned (.bool (mgqB R W x)) ∧ Below V2.heap.size V2 w' := c_blkMagic Ax (R * W) cx W R x V2 (hrx.below b2) hxl rfl hW0 hW4 hR hR3 hcx1 hcx2 (fun k => getD_bd hwl.2 k)
    have HC := Lib.hid con
    have HB2 := Lib.hid b2
    have HG := Lib.hid hg
    have HW := Lib.hid hwl
    clear con b2 hwl
    cases hq : mgqB R W x
    · rw [hq] at HC
      have hmn := Lib.hid (magL_no (L := pre) hq)
      clear I1 hp hrx htx hq
      unfold mgAct
      gi_wp2_with (rw [Oper.semAt_eq _ _ _ (fun c h => by cases h)]; go_simp; try go_bits)
      rw [← hV2, ← hg]
      clear hV2 hg
      refine ⟨trivial, fun h => by simp [Fence.wide] at h, CallsIn.inRound l2 (callsIn_wide.2 (HC.out.mono ?_))⟩
      rintro e w3 ⟨rfl, h3⟩
      have H3 := Lib.hid h3
      clear h3
      gi_wp2_with (rw [Oper.semAt_eq _ _ _ (fun c h => by cases h)]; go_simp; try go_bits)
      refine ⟨fun f h => by (cases h), ?_⟩
      gi_wp2_with (rw [Oper.semAt_eq _ _ _ (fun c h => by cases h)]; go_simp; try go_bits)
      have I := HI.out
      have bb : Below A1.heap.size A1 w3 := bstep HB2.out H3.out
      exact ⟨Turn.of_below bb, by rw [hmn.out]; exact HJ.out _ _ _ A1 w3 I.j bd hn1 (Turn.of_below bb) (fun k h => .inl h), I.t1, I.t2, I.t3, keepc bb I.k1, keepc bb I.k2, keepc bb I.k3⟩
    · rw [hq] at HC
      have hmy := magL_yes (L := pre) hq
      have hpp : magL R W pre ++ [x] <+: magL R W (allWl H H.length) := by rw [← hmy]; exact hp.filter _
      have HMY := Lib.hid hmy
      have HPP := Lib.hid hpp
      have HRX := Lib.hid hrx
      have HTX := Lib.hid htx
      clear I1 hp hrx htx hq hmy hpp
      unfold mgAct
      gi_wp2_with (rw [Oper.semAt_eq _ _ _ (fun c h => by cases h)]; go_simp; try go_bits)
      rw [← hV2, ← hg]
      clear hV2 hg
      refine ⟨trivial, fun h => by simp [Fence.wide] at h, CallsIn.inRound l2 (callsIn_wide.2 (HC.out.mono ?_))⟩
      rintro e w3 ⟨rfl, h3⟩
      have bb : Below A1.heap.size A1 w3 := bstep HB2.out h3
      have p0 := keepc h3 q0
      have p1 := keepc h3 q1
      have p3 := keepc bb k3
      have I := HI.out
      obtain ⟨fn, tmps, assign, body, hy, hR⟩ := HY.out (MgT B C b T) (magL R W pre) x #[.agg #[.slice Ax (R * W) cx, .int .i64 W]] w3 (m2 - 1) (HJ.out _ _ _ A1 w3 I.j bd hn1 (Turn.of_below bb) (fun k h => .inl h)) HPP.out (fun k hk => ⟨(bd k hk).1, Nat.lt_of_lt_of_le (bd k hk).2 bb.size⟩) (Nat.le_trans hn1 bb.size) ⟨Ax, cx, by rw [hxl], by rw [hxl]; exact hcx1, hcx2, HRX.out.below bb, fun hne a ha => .inl (hTi _ (HTX.out hne a ha))⟩
      have BB := Lib.hid bb
      clear bb h3 q0 q1 I
      gi_wp2_with (rw [Oper.semAt_eq _ _ _ (fun c h => by cases h)]; go_simp; try go_bits)
      refine ⟨fun h => by simp [Fence.wide] at h, hR.mono ?_⟩
      rintro e A2 (⟨rfl, jt, kt⟩ | ⟨rfl, jf, kf⟩)
      · have JT := Lib.hid jt
        have KT := Lib.hid kt
        clear jt kt hy hR
        gi_wp2_with (rw [Oper.semAt_eq _ _ _ (fun c h => by cases h)]; go_simp; try go_bits)
        have I := HI.out
        have kt := KT.out
        have bb := BB.out
        exact ⟨(Turn.of_below bb : Keep n₀ T A1 w3).trans kt (fun k _ h => ⟨h.1, fun ht => h.2 (.inl ht)⟩), by rw [HMY.out]; exact JT.out, I.t1, I.t2, I.t3, kt.cell (fun h => h.2 (.inr (.inl rfl))) (keepc bb I.k1), kt.cell (fun h => h.2 (.inr (.inr (.inl rfl)))) (keepc bb I.k2), kt.cell (fun h => h.2 (.inr (.inr (.inr rfl)))) (keepc bb I.k3)⟩
      · have JF := Lib.hid jf
        have KF := Lib.hid kf
        clear jf kf hy hR
        gi_wp2_with (rw [Oper.semAt_eq _ _ _ (fun c h => by cases h)]; go_simp; try go_bits)
        have I := HI.out
        have kf := KF.out
        have bb := BB.out
        exact ⟨(Turn.of_below bb : Keep n₀ T A1 w3).trans kf (fun k _ h => ⟨h.1, fun ht => h.2 (.inl ht)⟩), rfl, by rw [HMY.out]; exact JF.out, I.t1, I.t2, I.t3, Nat.lt_of_lt_of_le z1 (Nat.le_trans bb.size kf.size), Nat.lt_of_lt_of_le z2 (Nat.le_trans bb.size kf.size), Nat.lt_of_lt_of_le z3 (Nat.le_trans bb.size kf.size)⟩

end Go.Proofs.Ytbanpgifhnbjoaa

/- All whole chains of a hand, one after the other: the program's iterator over an iterator; how many they are. -/
import Derived.Test.YtjhedjokifnofaaWcN
import Derived.Test.YtjhedjokifnofaaWcW
import Derived.Test.YtjhedjokifnofaaIterT
namespace Go.Proofs.Ytjhedjokifnofaa
open Go Go.RowKit
set_option linter.unusedVariables false

/-- The whole chains, if the program looks for them. -/
def everyL (P : List (Int × Int)) : List (List Int) := if canV P false then fullL P.length (allC P) else []
theorem every_len {P : List (Int × Int)} (h : handB P = true) : (everyL P).length = allN P := by
  unfold everyL
  cases hc : canV P false
  · rw [if_neg (by simp), allN_cannot h hc]; rfl
  · rw [if_pos rfl, full_all (hand_nd h)]; rfl
/-- What an iterator leaves behind. -/
def EvP (n₀ : Nat) (J Jx : (Nat → Prop) → List (List Int) → World → Prop) (xs : List (List Int)) (W : World) (e : Ending) (W' : World) : Prop :=
  (∃ v, e = .returned v) ∧ W.heap.size ≤ W'.heap.size ∧ ((∃ T, J T xs W' ∧ (∀ k, T k → n₀ ≤ k ∧ k < W'.heap.size)) ∨ (∃ T pre, pre <+: xs ∧ Jx T pre W' ∧ (∀ k, T k → n₀ ≤ k ∧ k < W'.heap.size)))

abbrev EvT (B b : Nat) (T : Nat → Prop) (k : Nat) : Prop := T k ∨ k = B ∨ k = b
/-- What the outer iterator keeps between two rounds of the inner one: the hand's box and yield's. -/
structure EvI (J : (Nat → Prop) → List (List Int) → World → Prop) (m B b l : Nat) (A0 : Option Addr) (c0 : Nat) (T : Nat → Prop) (pre : List (List Int)) (A : World) : Prop where
  j : J (EvT B b T) (fullL m pre) A
  t1 : ¬ T B
  t2 : ¬ T b
  k1 : A.cell? ⟨B, 0, none⟩ = some (.slice A0 m c0)
  k2 : A.cell? ⟨b, 0, none⟩ = some (.func (.yield l) #[] #[])
structure EvX (Jx : (Nat → Prop) → List (List Int) → World → Prop) (m B b : Nat) (c : Code) (T : Nat → Prop) (pre : List (List Int)) (A : World) : Prop where
  co : c = .ret
  j : Jx (EvT B b T) (fullL m pre) A
  t1 : ¬ T B
  t2 : ¬ T b
  k1 : B < A.heap.size
  k2 : b < A.heap.size
theorem evt_bd {n₀ B b : Nat} {T : Nat → Prop} {A : World} (hT : ∀ k, T k → n₀ ≤ k ∧ k < A.heap.size) (h1 : n₀ ≤ B) (h2 : n₀ ≤ b) (h3 : B < A.heap.size) (h4 : b < A.heap.size) : ∀ k, EvT B b T k → n₀ ≤ k ∧ k < A.heap.size := by
  rintro k (h | rfl | rfl)
  · exact hT k h
  · exact ⟨h1, h3⟩
  · exact ⟨h2, h4⟩
theorem evt_sub {B b : Nat} {T T' : Nat → Prop} {A : World} (hT' : ∀ k, T' k → T k ∨ A.heap.size ≤ k) : ∀ k, EvT B b T' k → EvT B b T k ∨ A.heap.size ≤ k := by
  rintro k (h | h)
  · rcases hT' k h with h | h
    · exact .inl (.inl h)
    · exact .inr h
  · exact .inl (.inr h)
theorem EvI.abides {n₀ m B b l : Nat} {J : (Nat → Prop) → List (List Int) → World → Prop} {A0 : Option Addr} {c0 : Nat} (hJ : AbT n₀ J) (h1 : n₀ ≤ B) (h2 : n₀ ≤ b) : AbT n₀ (EvI J m B b l A0 c0) := by
  rintro T T' s A A' h hT hnA ht hT'
  have z1 : B < A.heap.size := block_lt h.k1
  have z2 : b < A.heap.size := block_lt h.k2
  refine ⟨hJ _ _ _ A A' h.j (evt_bd hT h1 h2 z1 z2) hnA (ht.mono fun k _ h => .inl h) (evt_sub hT'), fun hk => ?_, fun hk => ?_, ht.cell h.t1 h.k1, ht.cell h.t2 h.k2⟩
  · rcases hT' _ hk with hk | hk
    · exact h.t1 hk
    · omega
  · rcases hT' _ hk with hk | hk
    · exact h.t2 hk
    · omega
theorem EvX.abides {n₀ m B b : Nat} {Jx : (Nat → Prop) → List (List Int) → World → Prop} (hJ : AbT n₀ Jx) (h1 : n₀ ≤ B) (h2 : n₀ ≤ b) (c : Code) : AbT n₀ (EvX Jx m B b c) := by
  rintro T T' s A A' h hT hnA ht hT'
  refine ⟨h.co, hJ _ _ _ A A' h.j (evt_bd hT h1 h2 h.k1 h.k2) hnA (ht.mono fun k _ h => .inl h) (evt_sub hT'), fun hk => ?_, fun hk => ?_, Nat.lt_of_lt_of_le h.k1 ht.size, Nat.lt_of_lt_of_le h.k2 ht.size⟩
  · rcases hT' _ hk with hk | hk
    · exact h.t1 hk
    · have := h.k1; omega
  · rcases hT' _ hk with hk | hk
    · exact h.t2 hk
    · have := h.k2; omega
def evAct (l B b B2 m c : Nat) (A : Option Addr) (v : Array Value) : Act :=
  { tmps := #[.func (.yield l) #[] #[], .pointer (some ⟨B, 0, none⟩), .pointer (some ⟨b, 0, none⟩), .bool true, .bool true, v.getD 0 undef, .tuple #[.bool true, .bool true], .slice A m c, .tuple #[.bool true, .bool true], .bool true, .bool true, .bool true, .bool false, .slice A m c, .func (.func 56) #[] #[.pointer (some ⟨B2, 0, none⟩)], v.getD 0 undef, undef, undef, undef, undef, undef, undef, undef, undef, undef, undef, undef], defers := [] }

set_option maxRecDepth 100000 in
set_option maxHeartbeats 4000000 in
theorem iters_every (w0 : World) (n₀ B : Nat) (A : Option Addr) (c : Nat) (H : List (Int × Int)) (hB : w0.cell? ⟨B, 0, none⟩ = some (.slice A H.length c)) (hn : n₀ ≤ w0.heap.size) (hBn : n₀ ≤ B) (hr : RdT w0 A H) (hh : handB H = true) :
    Iters Try.prog n₀ (fun k => k = B) 70 #[.pointer (some ⟨B, 0, none⟩)] EncC (everyL H) w0 := by
  intro m l J Jx W hW hJ hJx hY h0
  have hBW := (hW.cell (p := ⟨B, 0, none⟩) (block_lt hB)).trans hB
  have hrW := hr.below hW
  have hnW : n₀ ≤ W.heap.size := Nat.le_trans hn hW.size
  have hlen : H.length ≤ 55 := (of_decide_eq_true hh : handP H).1
  clear hW hr hB hn
  show CallsIn Fence.wide m Try.prog _ _ W (EvP n₀ J Jx (everyL H) W)
  have con := fun (W2 : World) (hb : Below W.heap.size W W2) => c_implCanChain A c H W2 (hrW.below hb) (by omega)
  have e1 : canHV H false = canV H false := by unfold canHV; rw [hh]; rfl
  rw [e1, hh] at con
  refine callsIn_of_wp_marks Try.func70 rfl trivial ?_
  simp only [Try.ntmps70, List.size_toArray, List.length_cons, List.length_nil, Nat.reduceAdd, Nat.reduceSub, Array.replicate_succ, Array.replicate_zero, List.push_toArray, List.append_toArray, List.nil_append, List.cons_append]
  have HJ := Lib.hid hJ
  have HJX := Lib.hid hJx
  have HY := Lib.hid hY
  have H0 := Lib.hid h0
  clear hJ hJx hY h0
  have b1 : Below W.heap.size W (W.alloc (.cells #[.func (.yield l) #[] #[]] 70)) := (Below.refl _ _).alloc (Nat.le_refl _) _
  have xb : (W.alloc (.cells #[.func (.yield l) #[] #[]] 70)).cell? ⟨W.heap.size, 0, none⟩ = some (.func (.yield l) #[] #[]) := by simp
  have xB := keepc b1 hBW
  have Con := Lib.hid con
  clear con
  have hzW : ∀ k, k = B → n₀ ≤ k ∧ k < W.heap.size := fun k e => by subst e; exact ⟨hBn, block_lt hBW⟩
  have hBlt : B < W.heap.size := block_lt hBW
  cases hcv : canV H false
  · have he : everyL H = [] := by unfold everyL; rw [hcv]; rfl
    rw [he]
    rw [hcv] at Con
    clear he
    gi_wp2_with fail
    refine ⟨trivial, fun h => by simp [Fence.wide] at h, callsIn_wide.2 ((Con.out _ b1).mono ?_)⟩
    rintro e w1 ⟨rfl, h1⟩
    gi_wp2
    have bb : Below W.heap.size W w1 := b1.trans (h1.mono b1.size)
    exact ⟨_, results_none rfl _ _ _, ⟨_, rfl⟩, bb.size, .inl ⟨fun k => k = B, HJ.out _ _ [] W w1 H0.out hzW hnW (Turn.of_below bb) (fun k h => .inl h), fun k h => ⟨(hzW k h).1, Nat.lt_of_lt_of_le (hzW k h).2 bb.size⟩⟩⟩
  · have he : everyL H = fullL H.length (allC H) := by unfold everyL; rw [hcv]; rfl
    rw [he] at HY ⊢
    rw [hcv] at Con
    clear he
    gi_wp2_with fail
    refine ⟨trivial, fun h => by simp [Fence.wide] at h, callsIn_wide.2 ((Con.out _ b1).mono ?_)⟩
    rintro e w1 ⟨rfl, h1⟩
    have xb1 := keepc h1 xb
    have xB1 := keepc h1 xB
    have bb : Below W.heap.size W w1 := b1.trans (h1.mono b1.size)
    have BB := Lib.hid bb
    have XB := Lib.hid xb1
    have XC := Lib.hid xB1
    have hr1 := hrW.below bb
    have HR := Lib.hid hr1
    have hs1 : W.heap.size + 1 ≤ w1.heap.size := by have h7 := h1.size; simpa using h7
    clear bb xb xB b1 h1 xb1 hr1 hrW
    gi_wp2_with fail
    refine ⟨trivial, fun h => by simp [Fence.wide] at h, callsIn_wide.2 ((c_chainsFrom A H.length c w1).mono ?_)⟩
    rintro e w2 ⟨rfl, hw2⟩
    have HW2 := Lib.hid hw2
    clear hw2
    gi_wp2_with fail
    obtain ⟨b, hb⟩ : ∃ b, b = W.heap.size := ⟨_, rfl⟩
    obtain ⟨B2, hB2⟩ : ∃ B2, B2 = w1.heap.size := ⟨_, rfl⟩
    have hw2 := HW2.out
    have b12 : Below w1.heap.size w1 w2 := by rw [hw2]; exact (Below.refl _ _).alloc (Nat.le_refl _) _
    have s2 : w2.heap.size = w1.heap.size + 1 := by rw [hw2]; simp
    have xC : w2.cell? ⟨B2, 0, none⟩ = some (.slice A H.length c) := by rw [hw2, hB2]; simp
    have yb := keepc b12 XB.out
    have yB := keepc b12 XC.out
    have hr2 := HR.out.below b12
    rw [← hb] at yb
    rw [← hb, ← hB2]
    have t02 : Turn (fun k => k = B) W w2 := Turn.of_below (BB.out.trans (b12.mono BB.out.size))
    have f1 : n₀ ≤ b := by omega
    have f2 : n₀ ≤ B2 := by omega
    have f3 : B2 < w2.heap.size := by omega
    have f4 : W.heap.size ≤ w2.heap.size := by omega
    have f5 : b ≠ B2 := by omega
    have f6 : B ≠ B2 := by omega
    have j0 := HJ.out (fun k => k = B) (EvT B b (fun k => k = B2)) [] W w2 H0.out hzW hnW t02 (by
      rintro k (h | h | h)
      · exact .inr (by omega)
      · exact .inl h
      · exact .inr (by omega))
    have I0 : EvI J H.length B b l A c (fun k => k = B2) [] w2 := ⟨j0, fun h => f6 h, fun h => f5 h, yB, yb⟩
    clear hw2 HW2 b12 xB1 XB XC HR BB j0 yb yB t02 H0 Con hb hB2
    refine wp_rangeIterT (gf := 56) (lb := #[.pointer (some ⟨B2, 0, none⟩)]) rfl (fun args w => enters_chains args w) (n₀ := n₀) (T0 := fun k => k = B2) (iters_chains w2 n₀ B2 (fun k => k = B2) (by rintro k rfl; exact ⟨f2, f3⟩) A c H xC (by omega) hr2 hh) (by omega) (by rintro k rfl; exact ⟨f2, f3⟩) ?hps ?hE
      (EvI J H.length B b l A c) (EvX Jx H.length B b) (EvI.abides HJ.out hBn f1) (EvX.abides HJX.out hBn f1) I0 (evAct l B b B2 H.length c A) ?hassign ?hbody ?hdone ?hstop
    case hps => rintro x v T A ⟨_, _, rfl, _⟩; rfl
    case hE => exact fun x v T A B h1 h2 h3 => enc_keep h1 h2 h3
    case hassign =>
      rintro l m x v T W K ⟨Ax, cx, rfl, _⟩ hK
      gi_wp2_with (rw [Oper.semAt_eq _ _ _ (fun c h => by cases h)]; go_simp; try go_bits)
      exact hK
    case hstop =>
      rintro D c2 T pre W2 hD hTD hp ⟨rfl, jx, t1, t2, k1, k2⟩ hz hK hbT
      gi_wp2
      have tp : Turn (EvT B b T) W2 (W2.putObj D (.deferred none)) := Turn.putObj _ (.inl hTD)
      refine ⟨by simp, .inl ⟨_, _, rfl, run_takeDeferred hK, ?_⟩⟩
      exact ⟨_, results_none rfl _ _ _, ⟨_, rfl⟩, by have := tp.size; omega, .inr ⟨EvT B b T, fullL H.length pre, hp.filter _, HJX.out _ _ _ W2 _ jx (evt_bd hbT hBn f1 k1 k2) (by omega) tp (fun k h => .inl h), fun k hk => ⟨(evt_bd hbT hBn f1 k1 k2 k hk).1, Nat.lt_of_lt_of_le (evt_bd hbT hBn f1 k1 k2 k hk).2 tp.size⟩⟩⟩
    case hdone =>
      rintro D T W2 hD hTD I hz hK hbT
      gi_wp2
      have k1 : B < W2.heap.size := block_lt I.k1
      have k2 : b < W2.heap.size := block_lt I.k2
      have tp : Turn (EvT B b T) W2 (W2.putObj D (.deferred none)) := Turn.putObj _ (.inl hTD)
      refine ⟨by simp, .inl ⟨_, _, rfl, run_takeDeferred hK, ?_⟩⟩
      exact ⟨_, results_none rfl _ _ _, ⟨_, rfl⟩, by have := tp.size; omega, .inl ⟨EvT B b T, HJ.out _ _ _ W2 _ I.j (evt_bd hbT hBn f1 k1 k2) (by omega) tp (fun k h => .inl h), fun k hk => ⟨(evt_bd hbT hBn f1 k1 k2 k hk).1, Nat.lt_of_lt_of_le (evt_bd hbT hBn f1 k1 k2 k hk).2 tp.size⟩⟩⟩
    case hbody =>
      rintro l2 m2 T Ti pre x v A1 I1 hp hT hn1 hTi ⟨Ax, cx, rfl, hrx, htx⟩
      have k1 := I1.k1
      have k2 := I1.k2
      have z1 : B < A1.heap.size := block_lt k1
      have z2 : b < A1.heap.size := block_lt k2
      have bd := evt_bd hT hBn f1 z1 z2
      have HI := Lib.hid I1
      unfold evAct
      by_cases hx1 : H.length < x.length
      · have j1 : (H.length : Int) < (x.length : Int) := by omega
        have hfl := fullL_yes (L := pre) hx1
        have hpp : fullL H.length pre ++ [x] <+: fullL H.length (allC H) := by rw [← hfl]; exact hp.filter _
        obtain ⟨fn, tmps, assign, body, hy, hR⟩ := HY.out (EvT B b T) (fullL H.length pre) x _ A1 (m2 - 1) I1.j hpp bd hn1 ⟨Ax, cx, rfl, hrx, fun hne a ha => .inl (hTi _ (htx hne a ha))⟩
        have HFL := Lib.hid hfl
        clear I1 hfl hpp hp hrx htx xC hr2 I0 hx1
        gi_wp2_with (rw [Oper.semAt_eq _ _ _ (fun c h => by cases h)]; go_simp; try go_bits)
        refine ⟨fun h => by simp [Fence.wide] at h, hR.mono ?_⟩
        rintro e A2 (⟨rfl, jt, kt⟩ | ⟨rfl, jf, kf⟩)
        · have JT := Lib.hid jt
          have KT := Lib.hid kt
          clear jt kt hy hR
          gi_wp2_with (rw [Oper.semAt_eq _ _ _ (fun c h => by cases h)]; go_simp; try go_bits)
          have I := HI.out
          have kt := KT.out
          exact ⟨kt.mono (fun k _ h => ⟨h.1, fun ht => h.2 (.inl ht)⟩), by rw [HFL.out]; exact JT.out, I.t1, I.t2, kt.cell (fun h => h.2 (.inr (.inl rfl))) I.k1, kt.cell (fun h => h.2 (.inr (.inr rfl))) I.k2⟩
        · have JF := Lib.hid jf
          have KF := Lib.hid kf
          clear jf kf hy hR
          gi_wp2_with (rw [Oper.semAt_eq _ _ _ (fun c h => by cases h)]; go_simp; try go_bits)
          have I := HI.out
          have kf := KF.out
          exact ⟨kf.mono (fun k _ h => ⟨h.1, fun ht => h.2 (.inl ht)⟩), rfl, by rw [HFL.out]; exact JF.out, I.t1, I.t2, Nat.lt_of_lt_of_le z1 kf.size, Nat.lt_of_lt_of_le z2 kf.size⟩
      · have j1 : ¬ (H.length : Int) < (x.length : Int) := by omega
        have hfl := Lib.hid (fullL_no (L := pre) hx1)
        clear I1 hp hrx htx xC hr2 I0 hx1
        gi_wp2_with (rw [Oper.semAt_eq _ _ _ (fun c h => by cases h)]; go_simp; try go_bits)
        refine ⟨fun f h => (by cases h), ?_⟩
        gi_wp2_with (rw [Oper.semAt_eq _ _ _ (fun c h => by cases h)]; go_simp; try go_bits)
        have I := HI.out
        exact ⟨Turn.refl _ _, by rw [hfl.out]; exact I.j, I.t1, I.t2, I.k1, I.k2⟩

set_option maxHeartbeats 1000000 in
theorem c_everyWhole (A : Option Addr) (n c : Nat) (w : World) : Calls Try.prog 51 #[.slice A n c] w fun e w' => e = .returned (.func (.func 70) #[] #[.pointer (some ⟨w.heap.size, 0, none⟩)]) ∧ w' = w.alloc (.cells #[.slice A n c] 27) := by
  go_enter Try.func51, Try.ntmps51
  go_wp2
  go_ret
  exact ⟨rfl, rfl⟩
theorem enters_every (args : Array Value) (w : World) : (callFunc 70 args).run Try.prog w = .ok (.enter 70 args) w := by
  have h1 : Try.f70.name ≠ "runtime.NumGoroutine" := beq_eq_false_iff_ne.1 (by kernel_rfl)
  have h2 : Try.f70.body ≠ none := by intro h; cases h
  simp [callFunc, go_sem, h1, h2]

theorem allN_le {P : List (Int × Int)} (h : P.length ≤ 12) : allN P ≤ 10000000000000 := by
  unfold allN
  have h1 := sum_le_mul (m := 1000000000000) (List.range 10) (fun x : Nat => trl P.length P (x : Int)) (fun x _ => Nat.le_trans (trl_le _ _ _) (Nat.le_trans (Nat.pow_le_pow_right (by omega) h) (by decide)))
  rw [List.length_range] at h1
  omega

/-- What is kept between two rounds: the count. -/
structure CeI (gb : Nat) (w : World) (T : Nat → Prop) (pre : List (List Int)) (A : World) : Prop where
  nt : ¬ T gb
  bl : Below gb w A
  fz : ∀ m, A.frozen? ⟨gb, m, none⟩ = false
  c : A.cell? ⟨gb, 0, none⟩ = some (.int .i64 (pre.length : Int))
theorem CeI.abides (gb : Nat) (w : World) : AbT gb (CeI gb w) := by
  rintro T T' s A B h hT hnA ht hT'
  have lt : gb < A.heap.size := block_lt h.c
  have eb : B.heap[gb]? = A.heap[gb]? := ht.block gb lt h.nt
  refine ⟨fun hk => ?_, h.bl.trans (ht.below hnA (fun k hk => (hT k hk).1)), fun m => (frozen_of_blk eb).trans (h.fz m), ht.cell h.nt h.c⟩
  rcases hT' _ hk with hk | hk
  · exact h.nt hk
  · omega
def ceAct (A : Option Addr) (n c gb B : Nat) (v : Array Value) : Act :=
  { tmps := #[.slice A n c, undef, .int .i64 0, .pointer (some ⟨gb, 0, none⟩), .slice A n c, .func (.func 70) #[] #[.pointer (some ⟨B, 0, none⟩)], v.getD 0 undef, undef, undef, undef], defers := [] }

set_option maxRecDepth 100000 in
set_option maxHeartbeats 4000000 in
theorem c_countEvery (A : Option Addr) (c : Nat) (P : List (Int × Int)) (w : World) (hr : RdT w A P) (hh : handB P = true) (h12 : P.length ≤ 12) :
    Calls Try.prog 44 #[.slice A P.length c] w fun e w' => e = .returned (.int .i64 (allN P : Int)) ∧ Below w.heap.size w w' := by
  have hal := allN_le h12
  rw [← every_len hh] at hal ⊢
  refine (callsIn_wide (n := 5)).1 ?_
  refine callsIn_of_wp_marks Try.func44 rfl trivial ?_
  simp only [Try.ntmps44, List.size_toArray, List.length_cons, List.length_nil, Nat.reduceAdd, Nat.reduceSub, Array.replicate_succ, Array.replicate_zero, List.push_toArray, List.append_toArray, List.nil_append, List.cons_append]
  gi_wp2_with fail
  obtain ⟨w3, hw3⟩ : ∃ w3, w3 = w.alloc (.cells #[.int .i64 0] 3) := ⟨_, rfl⟩
  rw [← hw3]
  have HW3 := Lib.hid hw3
  clear hw3
  refine ⟨trivial, callsIn_wide.2 ((c_everyWhole A P.length c w3).mono ?_)⟩
  rintro e w4 ⟨rfl, hw4⟩
  have HW4 := Lib.hid hw4
  clear hw4
  gi_wp2_with fail
  have hw3 := HW3.out
  have hw4 := HW4.out
  clear HW3 HW4
  obtain ⟨gb, hgb⟩ : ∃ gb, gb = w.heap.size := ⟨_, rfl⟩
  obtain ⟨B, hB⟩ : ∃ B, B = w3.heap.size := ⟨_, rfl⟩
  have s3 : w3.heap.size = w.heap.size + 1 := by rw [hw3]; simp
  have s4 : w4.heap.size = w3.heap.size + 1 := by rw [hw4]; simp
  have x3 : w3.cell? ⟨gb, 0, none⟩ = some (.int .i64 0) := by rw [hw3, hgb]; simp
  have fz3 : ∀ m, w3.frozen? ⟨gb, m, none⟩ = false := fun m => by rw [hw3, hgb]; exact frozen_new w _ _ m
  have b13 : Below w.heap.size w w3 := by rw [hw3]; exact (Below.refl _ _).alloc (Nat.le_refl _) _
  have b34 : Below w3.heap.size w3 w4 := by rw [hw4]; exact (Below.refl _ _).alloc (Nat.le_refl _) _
  have xB : w4.cell? ⟨B, 0, none⟩ = some (.slice A P.length c) := by rw [hw4, hB]; simp
  have b14 : Below w.heap.size w w4 := bstep b13 b34
  have hr4 := hr.below b14
  have x4 := keepc b34 x3
  have fz4 : ∀ m, w4.frozen? ⟨gb, m, none⟩ = false := fun m => (b34.frozen (p := ⟨gb, m, none⟩) (show gb < _ from (block_lt x3 : gb < w3.heap.size))).trans (fz3 m)
  rw [← hgb, ← hB]
  rw [← hgb] at b14
  have HGB := Lib.hid hgb
  have f2 : gb < B := by omega
  have f3 : B < w4.heap.size := by omega
  have f4 : w.heap.size ≤ gb := by omega
  clear hw3 hw4 b13 b34 x3 fz3 hr hgb hB s3 s4
  refine wp_rangeIter (gf := 70) (lb := #[.pointer (some ⟨B, 0, none⟩)]) rfl (fun args w => enters_every args w) (n₀ := gb) (T0 := fun k => k = B) (iters_every w4 gb B A c P xB (by omega) (by omega) hr4 hh) (by omega) (by rintro k rfl; omega) ?hps ?hE
    (CeI gb w) (fun _ _ _ _ => False) (CeI.abides _ _) (fun _ _ _ _ _ _ h _ _ _ _ => h.elim) ⟨by omega, b14, fz4, x4⟩ (ceAct A P.length c gb B) ?hassign ?hbody ?hdone ?hstop
  case hps => rintro x v T A ⟨_, _, rfl, _⟩; rfl
  case hE => exact fun x v T A B h1 h2 h3 => enc_keep h1 h2 h3
  case hassign =>
    rintro l m x v T W K ⟨Ax, cx, rfl, _⟩ hK
    gi_wp2_with (rw [Oper.semAt_eq _ _ _ (fun c h => by cases h)]; go_simp; try go_bits)
    unfold ceAct at hK
    first | (simp; exact hK) | simpa using hK
  case hstop => exact fun _ _ _ _ _ _ _ _ h => h.elim
  case hbody =>
    rintro l m T Ti pre x v A1 ⟨h1, h4, hf, h5⟩ hp hT hn _ ⟨Ax, cx, rfl, hrx, htx⟩
    have hpl : pre.length + 1 ≤ 10000000000000 := by
      have h7 := hp.length_le
      rw [List.length_append, List.length_singleton] at h7
      omega
    have f0 := hf 0
    have jw : IntKind.i64.wrap ((pre.length : Int) + 1) = (pre.length : Int) + 1 := IntWalk.i64_in _ (by omega)
    have H4 := Lib.hid h4
    have HF := Lib.hid hf
    clear h4 hf hp
    unfold ceAct
    gi_wp2_with (rw [Oper.semAt_eq _ _ _ (fun c h => by cases h)]; go_simp; try go_bits)
    exact ⟨Turn.setCell _ _ ⟨Nat.le_refl _, h1⟩, h1, H4.out.setCell (Nat.le_refl _) _, fun m => by simp [HF.out], by rw [List.length_append, List.length_singleton]; exact World.cell?_setCell_same _ _ _ h5⟩
  case hdone =>
    rintro D T W hD hTD ⟨h1, h4, hf, h5⟩ hz hK
    gi_wp2
    refine ⟨by simp, .inl ⟨_, _, rfl, run_takeDeferred hK, ?_⟩⟩
    have hb : Below w.heap.size w W := h4.mono f4
    exact ⟨_, results_tmp rfl _ _ _, rfl, hb.grown (grownBy_putObj' _ _ _) hb.size (fun k e => by cases e; omega)⟩

set_option maxHeartbeats 1000000 in
theorem c_isCounted (A : Option Addr) (c : Nat) (ts : List (Int × Int)) (w : World) (hr : RdT w A ts) (hl : ts.length ≤ 1048576) :
    Calls Try.prog 43 #[.slice A ts.length c] w fun e w' => e = .returned (.bool (cwB ts)) ∧ Below w.heap.size w w' := by
  have con := c_implIsHand A c ts w hr (by omega)
  unfold cwB
  cases hh : handB ts
  · rw [hh] at con
    have Con := Lib.hid con
    clear con hh hr
    go_enter Try.func43, Try.ntmps43
    go_wp2_with fail
    refine Con.out.mono ?_
    rintro e w1 ⟨rfl, h1⟩
    go_wp2
    go_ret
    exact ⟨rfl, h1⟩
  · rw [hh] at con
    have Con := Lib.hid con
    have hd : decide ((ts.length : Int) ≤ 12) = decide (ts.length ≤ 12) := by rw [Bool.eq_iff_iff, decide_eq_true_eq, decide_eq_true_eq]; omega
    have HD := Lib.hid hd
    clear con hh hr hd
    go_enter Try.func43, Try.ntmps43
    go_wp2_with fail
    refine Con.out.mono ?_
    rintro e w1 ⟨rfl, h1⟩
    go_wp2
    go_ret
    exact ⟨ret_b (by first | exact HD.out | simp), h1⟩

set_option maxRecDepth 100000 in
set_option maxHeartbeats 2000000 in
theorem c_implWithout (A : Option Addr) (c : Nat) (H : List (Int × Int)) (w : World) (hr : RdT w A H) (hl : H.length ≤ 1048576) :
    Calls Try.prog 28 #[.slice A H.length c] w fun e w' => e = .returned (.tuple #[.int .i64 (cwV H), .bool (cwB H)]) ∧ Below w.heap.size w w' := by
  have con := c_isCounted A c H w hr hl
  unfold cwV
  cases hc : cwB H
  · rw [hc] at con
    have Con := Lib.hid con
    clear con hc hr
    go_enter Try.func28, Try.ntmps28
    go_wp2_with fail
    refine Con.out.mono ?_
    rintro e w1 ⟨rfl, h1⟩
    go_wp2
    go_ret2
    exact ⟨rfl, h1⟩
  · rw [hc] at con
    have Con := Lib.hid con
    have hc2 := hc
    unfold cwB at hc2
    rw [Bool.and_eq_true, decide_eq_true_eq] at hc2
    obtain ⟨hh, h12⟩ := hc2
    rw [if_pos rfl]
    have conW := fun (W : World) (hb : Below w.heap.size w W) => c_withoutDoubles A c H W (hr.below hb) (by omega)
    have hwl : (wdL H).length ≤ 12 := Nat.le_trans (List.length_filter_le _ _) h12
    have conC := fun (W : World) (A2 : Option Addr) (c2 : Nat) (h : RdT W A2 (wdL H)) => c_countEvery A2 c2 (wdL H) W h (hand_wd hh) hwl
    have ConW := Lib.hid conW
    have ConC := Lib.hid conC
    clear con hc hr conW conC hh
    go_enter Try.func28, Try.ntmps28
    go_wp2_with (first | (go_at_call 43; refine Con.out.mono ?_; rintro e w1 ⟨rfl, h1⟩) | (go_at_call 45; refine (ConW.out _ h1).mono ?_; rintro e w2 ⟨A2, c2, rfl, o2, h2⟩) | (go_at_call 44; refine (ConC.out _ _ _ (RdT.of_own o2)).mono ?_; rintro e w3 ⟨rfl, h3⟩))
    go_ret2
    exact ⟨rfl, (h1.trans (h2.mono h1.size)).trans (h3.mono (Nat.le_trans h1.size h2.size))⟩

end Go.Proofs.Ytjhedjokifnofaa

/- Layings: the program's iterator over all of them. -/
import Derived.Test.YtbanpgifhnbjoaaLbF
namespace Go.Proofs.Ytbanpgifhnbjoaa
open Go Go.RowKit
set_option linter.unusedVariables false

/-- Which tiles a hand has. -/
def mkH (H : List (Int × Int)) (a b : Nat) : Bool := decide (tile2 (a : Int) b ∈ H)
/-- All ways to lay t tiles of a hand. -/
def allWl (H : List (Int × Int)) (t : Nat) : List (List Int) := wlL t (mkH H)

set_option maxRecDepth 100000 in
set_option maxHeartbeats 4000000 in
theorem iters_laying (w0 : World) (n₀ HB TB t : Nat) (A : Option Addr) (c : Nat) (H : List (Int × Int)) (T0 : Nat → Prop) (hT0 : ∀ k, T0 k → n₀ ≤ k ∧ k < w0.heap.size) (hB0 : w0.cell? ⟨TB, 0, none⟩ = some (.int .i64 t)) (hB1 : w0.cell? ⟨HB, 0, none⟩ = some (.slice A H.length c))
    (hn₀ : n₀ ≤ w0.heap.size) (hr : RdT w0 A H) (hh : handB H = true) (ht : t ≤ 100) :
    Iters Try.prog n₀ T0 74 #[.pointer (some ⟨TB, 0, none⟩), .pointer (some ⟨HB, 0, none⟩)] EncN (allWl H t) w0 := by
  intro m l J Jx V hV hJ hJx hY h0
  have hb0 := (hV.cell (p := ⟨TB, 0, none⟩) (block_lt hB0)).trans hB0
  have hb1 := (hV.cell (p := ⟨HB, 0, none⟩) (block_lt hB1)).trans hB1
  have hnV : n₀ ≤ V.heap.size := Nat.le_trans hn₀ hV.size
  have hT1 : ∀ k, T0 k → n₀ ≤ k ∧ k < V.heap.size := fun k h => ⟨(hT0 k h).1, Nat.lt_of_lt_of_le (hT0 k h).2 hV.size⟩
  have hrV := hr.below hV
  have ConM := Lib.hid (fun (W : World) (hb : Below V.heap.size V W) => (show Calls Try.prog 76 #[.slice A H.length c] W fun e w' => e = .returned (.agg (mkL (mkH H)).toArray) ∧ Below W.heap.size W w' from c_marksOf A c H W (hrV.below hb) hh))
  have eo : ([] : List (List Int)) ++ (wlL t (mkH H)).map (([] : List Int) ++ ·) = allWl H t := by simp [allWl]
  have ConL := Lib.hid (fun (W : World) (hb : Below V.heap.size V W) => (show Calls Try.prog 75 #[.slice none 0 0, .int .i64 t, .agg (mkL (mkH H)).toArray, .func (.yield l) #[] #[]] W (LbPost n₀ J Jx (allWl H t) T0 (allWl H t) none 0 [] W) by
    have h := lay_behind l n₀ J Jx (allWl H t) hJ hY t (mkH H) [] none 0 T0 [] W 5 (hJ T0 T0 [] V W h0 hT1 hnV (Turn.of_below hb) (fun k hk => .inl hk)) (fun k hk => by have := hT1 k hk; have := hb.size; omega) (by have := hb.size; omega) ⟨World.ownsRow_nil _ _ _ _, fun b hb => by simp [Value.ownBlock] at hb⟩ (by rw [eo]; exact List.prefix_refl _) (by simp; omega)
    rw [eo] at h
    exact callsIn_wide.1 h))
  have tb := block_lt hb0
  have hbl := block_lt hb1
  clear hV hB0 hB1 hT0 hY h0 hJ hJx eo hr hrV hh
  refine callsIn_wide.2 ?_
  show Calls Try.prog 74 #[.func (.yield l) #[] #[], .pointer (some ⟨TB, 0, none⟩), .pointer (some ⟨HB, 0, none⟩)] V _
  go_enter Try.func74, Try.ntmps74
  go_wp2_with fail
  refine wp_region_held_drew (S := fun w' => True) (by kernel_rfl) trivial (fun hH0 => ?_)
  refine reg_take 3 rfl (by kernel_rfl) (by kernel_rfl) (by kernel_rfl) (fun _ _ _ h => h) (by rfl) (fun w _ => by first | (go_simp; done) | (go_simp; with_reducible rfl)) trivial ?_
  try simp only [Act.put, List.setIfInBounds_toArray, List.set_cons_zero, List.set_cons_succ, List.getElem_toArray, List.getElem_cons_zero, List.getElem_cons_succ]
  have bV : Below V.heap.size V V.drew := (Below.refl _ _).drew
  have y0 : V.drew.cell? ⟨TB, 0, none⟩ = some (.int .i64 t) := hb0
  have y1 : V.drew.cell? ⟨HB, 0, none⟩ = some (.slice A H.length c) := hb1
  refine wpAnyH_ready (rs := [0, 1]) (by kernel_rfl) (by simp) ?_
  refine AllReadyH.cons (i := 0) rfl (fun K hK => ?_) (AllReadyH.cons (i := 1) rfl (fun K hK => ?_) AllReadyH.nil)
  · go_simp
    refine hK.out _ _ trivial (fun hH0 => ?_)
    clear hK K
    try simp only [Act.put, List.setIfInBounds_toArray, List.set_cons_zero, List.set_cons_succ, List.getElem_toArray, List.getElem_cons_zero, List.getElem_cons_succ]
    refine wpAnyH_ready (rs := [1]) (by kernel_rfl) (by simp) ?_
    refine AllReadyH.cons (i := 1) rfl (fun K hK => ?_) AllReadyH.nil
    go_simp
    refine hK.out _ _ trivial (fun hH1 => ?_)
    clear hK K
    try simp only [Act.put, List.setIfInBounds_toArray, List.set_cons_zero, List.set_cons_succ, List.getElem_toArray, List.getElem_cons_zero, List.getElem_cons_succ]
    refine wpAnyH_ready (rs := [2]) (by kernel_rfl) (by simp) ?_
    refine AllReadyH.cons (i := 2) rfl (fun K hK => ?_) AllReadyH.nil
    go_simp
    go_at_call 76
    refine (ConM.out _ bV).mono ?_
    rintro e w1 ⟨rfl, hb1⟩
    have bV1 := bV.trans (hb1.mono bV.size)
    have x0 := keepc hb1 y0
    have x1 := keepc hb1 y1
    refine hK.out _ _ trivial (fun hH2 => ?_)
    clear hK K
    try simp only [Act.put, List.setIfInBounds_toArray, List.set_cons_zero, List.set_cons_succ, List.getElem_toArray, List.getElem_cons_zero, List.getElem_cons_succ]
    refine wpAnyH_ready (rs := [4]) (by kernel_rfl) (by simp) ?_
    refine AllReadyH.cons (i := 4) rfl (fun K hK => ?_) AllReadyH.nil
    go_simp
    go_at_call 75
    refine (ConL.out _ bV1).mono ?_
    rintro e w2 ⟨hz, _, (⟨rfl, T6, j6, s6, bd6, row6⟩ | ⟨rfl, T6, q6, hq6, jx6, bd6⟩)⟩
    · have HJ6 := Lib.hid j6
      have HB6 := Lib.hid bd6
      have z1 := bV1.size
      clear j6 s6 bd6 row6
      refine hK.out _ _ trivial (fun hH4 => ?_)
      clear hK K
      try simp only [Act.put, List.setIfInBounds_toArray, List.set_cons_zero, List.set_cons_succ, List.getElem_toArray, List.getElem_cons_zero, List.getElem_cons_succ]
      refine wpAnyH_done (by kernel_rfl) ?_ _
      go_wp2
      first | go_end0 | (refine bodyPost_ret (results_none rfl _ _ _) rfl ?_)
      exact ⟨⟨_, rfl⟩, by omega, .inl ⟨T6, HJ6.out, HB6.out⟩⟩
    · have HJ6 := Lib.hid jx6
      have HB6 := Lib.hid bd6
      have HQ6 := Lib.hid hq6
      have z1 := bV1.size
      clear jx6 bd6 hq6
      refine hK.out _ _ trivial (fun hH4 => ?_)
      clear hK K
      try simp only [Act.put, List.setIfInBounds_toArray, List.set_cons_zero, List.set_cons_succ, List.getElem_toArray, List.getElem_cons_zero, List.getElem_cons_succ]
      refine wpAnyH_done (by kernel_rfl) ?_ _
      go_wp2
      first | go_end0 | (refine bodyPost_ret (results_none rfl _ _ _) rfl ?_)
      exact ⟨⟨_, rfl⟩, by omega, .inr ⟨T6, q6, HQ6.out, HJ6.out, HB6.out⟩⟩
  · go_simp
    refine hK.out _ _ trivial (fun hH1 => ?_)
    clear hK K
    try simp only [Act.put, List.setIfInBounds_toArray, List.set_cons_zero, List.set_cons_succ, List.getElem_toArray, List.getElem_cons_zero, List.getElem_cons_succ]
    refine wpAnyH_ready (rs := [0, 2]) (by kernel_rfl) (by simp) ?_
    refine AllReadyH.cons (i := 0) rfl (fun K hK => ?_) (AllReadyH.cons (i := 2) rfl (fun K hK => ?_) AllReadyH.nil)
    · go_simp
      refine hK.out _ _ trivial (fun hH0 => ?_)
      clear hK K
      try simp only [Act.put, List.setIfInBounds_toArray, List.set_cons_zero, List.set_cons_succ, List.getElem_toArray, List.getElem_cons_zero, List.getElem_cons_succ]
      refine wpAnyH_ready (rs := [2]) (by kernel_rfl) (by simp) ?_
      refine AllReadyH.cons (i := 2) rfl (fun K hK => ?_) AllReadyH.nil
      go_simp
      go_at_call 76
      refine (ConM.out _ bV).mono ?_
      rintro e w1 ⟨rfl, hb1⟩
      have bV1 := bV.trans (hb1.mono bV.size)
      have x0 := keepc hb1 y0
      have x1 := keepc hb1 y1
      refine hK.out _ _ trivial (fun hH2 => ?_)
      clear hK K
      try simp only [Act.put, List.setIfInBounds_toArray, List.set_cons_zero, List.set_cons_succ, List.getElem_toArray, List.getElem_cons_zero, List.getElem_cons_succ]
      refine wpAnyH_ready (rs := [4]) (by kernel_rfl) (by simp) ?_
      refine AllReadyH.cons (i := 4) rfl (fun K hK => ?_) AllReadyH.nil
      go_simp
      go_at_call 75
      refine (ConL.out _ bV1).mono ?_
      rintro e w2 ⟨hz, _, (⟨rfl, T6, j6, s6, bd6, row6⟩ | ⟨rfl, T6, q6, hq6, jx6, bd6⟩)⟩
      · have HJ6 := Lib.hid j6
        have HB6 := Lib.hid bd6
        have z1 := bV1.size
        clear j6 s6 bd6 row6
        refine hK.out _ _ trivial (fun hH4 => ?_)
        clear hK K
        try simp only [Act.put, List.setIfInBounds_toArray, List.set_cons_zero, List.set_cons_succ, List.getElem_toArray, List.getElem_cons_zero, List.getElem_cons_succ]
        refine wpAnyH_done (by kernel_rfl) ?_ _
        go_wp2
        first | go_end0 | (refine bodyPost_ret (results_none rfl _ _ _) rfl ?_)
        exact ⟨⟨_, rfl⟩, by omega, .inl ⟨T6, HJ6.out, HB6.out⟩⟩
      · have HJ6 := Lib.hid jx6
        have HB6 := Lib.hid bd6
        have HQ6 := Lib.hid hq6
        have z1 := bV1.size
        clear jx6 bd6 hq6
        refine hK.out _ _ trivial (fun hH4 => ?_)
        clear hK K
        try simp only [Act.put, List.setIfInBounds_toArray, List.set_cons_zero, List.set_cons_succ, List.getElem_toArray, List.getElem_cons_zero, List.getElem_cons_succ]
        refine wpAnyH_done (by kernel_rfl) ?_ _
        go_wp2
        first | go_end0 | (refine bodyPost_ret (results_none rfl _ _ _) rfl ?_)
        exact ⟨⟨_, rfl⟩, by omega, .inr ⟨T6, q6, HQ6.out, HJ6.out, HB6.out⟩⟩
    · go_simp
      go_at_call 76
      refine (ConM.out _ bV).mono ?_
      rintro e w1 ⟨rfl, hb1⟩
      have bV1 := bV.trans (hb1.mono bV.size)
      have x0 := keepc hb1 y0
      have x1 := keepc hb1 y1
      refine hK.out _ _ trivial (fun hH2 => ?_)
      clear hK K
      try simp only [Act.put, List.setIfInBounds_toArray, List.set_cons_zero, List.set_cons_succ, List.getElem_toArray, List.getElem_cons_zero, List.getElem_cons_succ]
      refine wpAnyH_ready (rs := [0]) (by kernel_rfl) (by simp) ?_
      refine AllReadyH.cons (i := 0) rfl (fun K hK => ?_) AllReadyH.nil
      go_simp
      refine hK.out _ _ trivial (fun hH0 => ?_)
      clear hK K
      try simp only [Act.put, List.setIfInBounds_toArray, List.set_cons_zero, List.set_cons_succ, List.getElem_toArray, List.getElem_cons_zero, List.getElem_cons_succ]
      refine wpAnyH_ready (rs := [4]) (by kernel_rfl) (by simp) ?_
      refine AllReadyH.cons (i := 4) rfl (fun K hK => ?_) AllReadyH.nil
      go_simp
      go_at_call 75
      refine (ConL.out _ bV1).mono ?_
      rintro e w2 ⟨hz, _, (⟨rfl, T6, j6, s6, bd6, row6⟩ | ⟨rfl, T6, q6, hq6, jx6, bd6⟩)⟩
      · have HJ6 := Lib.hid j6
        have HB6 := Lib.hid bd6
        have z1 := bV1.size
        clear j6 s6 bd6 row6
        refine hK.out _ _ trivial (fun hH4 => ?_)
        clear hK K
        try simp only [Act.put, List.setIfInBounds_toArray, List.set_cons_zero, List.set_cons_succ, List.getElem_toArray, List.getElem_cons_zero, List.getElem_cons_succ]
        refine wpAnyH_done (by kernel_rfl) ?_ _
        go_wp2
        first | go_end0 | (refine bodyPost_ret (results_none rfl _ _ _) rfl ?_)
        exact ⟨⟨_, rfl⟩, by omega, .inl ⟨T6, HJ6.out, HB6.out⟩⟩
      · have HJ6 := Lib.hid jx6
        have HB6 := Lib.hid bd6
        have HQ6 := Lib.hid hq6
        have z1 := bV1.size
        clear jx6 bd6 hq6
        refine hK.out _ _ trivial (fun hH4 => ?_)
        clear hK K
        try simp only [Act.put, List.setIfInBounds_toArray, List.set_cons_zero, List.set_cons_succ, List.getElem_toArray, List.getElem_cons_zero, List.getElem_cons_succ]
        refine wpAnyH_done (by kernel_rfl) ?_ _
        go_wp2
        first | go_end0 | (refine bodyPost_ret (results_none rfl _ _ _) rfl ?_)
        exact ⟨⟨_, rfl⟩, by omega, .inr ⟨T6, q6, HQ6.out, HJ6.out, HB6.out⟩⟩
theorem enters_laying (args : Array Value) (w : World) : (callFunc 74 args).run Try.prog w = .ok (.enter 74 args) w := by
  have h1 : Try.f74.name ≠ "runtime.NumGoroutine" := beq_eq_false_iff_ne.1 (by kernel_rfl)
  have h2 : Try.f74.body ≠ none := by intro h; cases h
  simp [callFunc, go_sem, h1, h2]

theorem c_everyLaying (A : Option Addr) (n c : Nat) (t : Int) (w : World) : Calls Try.prog 49 #[.slice A n c, .int .i64 t] w fun e w' => e = .returned (.func (.func 74) #[] #[.pointer (some ⟨w.heap.size + 1, 0, none⟩), .pointer (some ⟨w.heap.size, 0, none⟩)]) ∧ w' = (w.alloc (.cells #[.slice A n c] 26)).alloc (.cells #[.int .i64 t] 3) := by
  go_enter Try.func49, Try.ntmps49
  go_wp2
  go_ret
  exact ⟨rfl, rfl⟩

end Go.Proofs.Ytbanpgifhnbjoaa

/- The law on ranks of tiles: tiles have their ranks, are found again by them, and sets have all tiles up to their number. No condition. -/
import Derived.Test.YteiiiceajpmndabRanked
namespace Go.Proofs.Yteiiiceajpmndab
open Go.ChangeShapes Go.WideShapes Go.ChangeAt Go.RowKit Go.Joins
set_option linter.unusedVariables false

theorem keepB {w : World} {a : Addr} {v : Value} {o : Obj} (h : w.cell? a = some v) : (w.alloc o).cell? a = some v := keepc ((Below.refl _ _).alloc (Nat.le_refl _) _) h

theorem arith_facts : ∀ m : Fin 10, IntKind.i64.wrap ((m.1 : Int) + 1) = (m.1 : Int) + 1 ∧ IntKind.i64.wrap ((m.1 : Int) * ((m.1 : Int) + 1)) = (m.1 : Int) * ((m.1 : Int) + 1) ∧ ((m.1 : Int) * ((m.1 : Int) + 1)).tdiv 2 = (m.1 : Int) * ((m.1 : Int) + 1) / 2 ∧
    IntKind.i64.wrap ((m.1 : Int) * ((m.1 : Int) + 1) / 2) = (m.1 : Int) * ((m.1 : Int) + 1) / 2 ∧ IntKind.i64.wrap ((m.1 : Int) + 2) = (m.1 : Int) + 2 ∧ IntKind.i64.wrap ((m.1 : Int) * ((m.1 : Int) + 1) / 2 * ((m.1 : Int) + 2)) = (m.1 : Int) * ((m.1 : Int) + 1) / 2 * ((m.1 : Int) + 2) ∧ 0 ≤ (m.1 : Int) * ((m.1 : Int) + 1) := by decide +kernel

set_option maxRecDepth 100000 in
set_option maxHeartbeats 8000000 in
theorem w_FnTilesRanked (A0 : Option Addr) (c0 n0 : Nat) (A1 : Option Addr) (c1 n1 : Nat) (w : World) (hr0 : RdB w A0 n0) (hl0 : n0 ≤ 9223372036854775807) (hr1 : RdB w A1 n1) (hl1 : n1 ≤ 9223372036854775807) :
    Calls Try.prog 9 #[.slice A0 n0 c0, .slice A1 n1 c1] w fun e w' => e = .returned (.bool true) ∧ Below w.heap.size w w' := by
  by_cases hbig : n0 + n1 ≤ 1048576
  · have con1 := Lib.hid (c_big_no A0 A1 c0 c1 n0 n1 w hbig)
    go_enter Try.func9, Try.ntmps9
    go_wp2_with fail
    refine con1.out.mono ?_
    rintro e w0 ⟨rfl, rfl⟩
    have B := Below.refl w.heap.size w
    clear con1
    go_wp2_with fail
    refine (c_DrawRankOf n0 c0 A0 _ hr0 (by omega)).mono ?_
    rintro e w1 ⟨a, b, rfl, hab, hbb, hb⟩
    have hr0 := RdB.below hr0 hb
    have hr1 := RdB.below hr1 hb
    have B := bstep B hb
    by_cases hok : goodB a b = true
    · have conR := fun W => c_implRankOf a b W
      have conS := fun W => c_specRankOf a b W
      have conI := fun W => c_implIsTile a b W
      have conJ := fun W => c_specIsTile a b W
      simp only [hok] at conR
      simp only [hok] at conS
      simp only [hok] at conI
      simp only [hok] at conJ
      obtain ⟨k1, k2, k3, k4, k5, k6⟩ := good_rank hok
      have con9 := fun W => c_implTileOfRank (rankV a b) W
      have con10 := fun W => c_implTileOf b a W
      simp only [k1, k2, k3] at con9
      simp only [k4, k5, k6] at con10
      clear k1 k2 k3 k4 k5 k6
      obtain ⟨rk, hrk⟩ : ∃ rk, rk = rankV a b := ⟨_, rfl⟩
      simp only [← hrk] at conR conS con9
      have Conr := Lib.hid conR
      have Cons := Lib.hid conS
      have Coni := Lib.hid conI
      have Conj := Lib.hid conJ
      have Con9 := Lib.hid con9
      have Con10 := Lib.hid con10
      clear hrk hok conR conS conI conJ con9 con10
      go_wp2_with fail
      obtain ⟨v1, hv⟩ : ∃ v1, v1 = (w1).alloc (.cells #[.int .i64 a, .int .i64 b] 46) := ⟨_, rfl⟩
      rw [← hv]
      have hbv : Below (w1).heap.size (w1) v1 := by rw [hv]; exact (Below.refl _ _).alloc (Nat.le_refl _) _
      have t5a : v1.cell? ⟨(w1).heap.size, 0, none⟩ = some (.int .i64 a) := by rw [hv]; simp
      have t5b : v1.cell? ⟨(w1).heap.size, 1, none⟩ = some (.int .i64 b) := by rw [hv]; simp
      clear hv
      have hr0 := RdB.below hr0 hbv
      have hr1 := RdB.below hr1 hbv
      have B := bstep B hbv
      try go_wp2_with fail
      refine (Conr.out _).mono ?_
      rintro e w2 ⟨rfl, hb⟩
      have t5a := keepc hb t5a
      have t5b := keepc hb t5b
      have hr0 := RdB.below hr0 hb
      have hr1 := RdB.below hr1 hb
      have B := bstep B hb
      go_wp2_with fail
      refine (Cons.out _).mono ?_
      rintro e w3 ⟨rfl, hb⟩
      have t5a := keepc hb t5a
      have t5b := keepc hb t5b
      have hr0 := RdB.below hr0 hb
      have hr1 := RdB.below hr1 hb
      have B := bstep B hb
      go_wp2_with fail
      go_region_held3 (fun w' => w'.cell? ⟨w1.heap.size, 0, none⟩ = some (.int .i64 a) ∧ w'.cell? ⟨w1.heap.size, 1, none⟩ = some (.int .i64 b)) (first | exact ⟨u0, u1⟩ | exact ⟨z0, z1⟩ | exact ⟨y0, y1⟩ | exact ⟨t5a, t5b⟩ | go_keep) (first | (go_at_call 39; have zz := y0; clear zz; refine (Coni.out _).mono ?_; rintro e w5 ⟨rfl, hbq⟩; have z0 := keepc hbq y0; have z1 := keepc hbq y1) | (go_at_call 39; refine (Coni.out _).mono ?_; rintro e w4 ⟨rfl, hbp⟩; have y0 := keepc hbp (g1d _ t5a); have y1 := keepc hbp (g1d _ t5b)) | (go_at_call 40; refine (Conj.out _).mono ?_; rintro e w6 ⟨rfl, hbr⟩; have u0 := keepc hbr z0; have u1 := keepc hbr z1))
      have hb := bstep (bstep (Below.refl w3.heap.size w3).drew hbp) (hbq)
      have hb := bstep hb hbr
      clear y0 y1 z0 z1 u0 u1
      have t5a := keepc hb t5a
      have t5b := keepc hb t5b
      have hr0 := RdB.below hr0 hb
      have hr1 := RdB.below hr1 hb
      have B := bstep B hb
      go_wp2_with fail
      refine (Con9.out _).mono ?_
      rintro e w7 ⟨rfl, hb⟩
      have t5a := keepc hb t5a
      have t5b := keepc hb t5b
      have hr0 := RdB.below hr0 hb
      have hr1 := RdB.below hr1 hb
      have B := bstep B hb
      have t5x := keepB (o := .cells #[.int .i64 a, .int .i64 b] 46) t5a
      have t5y := keepB (o := .cells #[.int .i64 a, .int .i64 b] 46) t5b
      go_wp2_with fail
      obtain ⟨v2, hv⟩ : ∃ v2, v2 = (w7).alloc (.cells #[.int .i64 a, .int .i64 b] 46) := ⟨_, rfl⟩
      rw [← hv]
      have hbv : Below (w7).heap.size (w7) v2 := by rw [hv]; exact (Below.refl _ _).alloc (Nat.le_refl _) _
      have t10a : v2.cell? ⟨(w7).heap.size, 0, none⟩ = some (.int .i64 a) := by rw [hv]; simp
      have t10b : v2.cell? ⟨(w7).heap.size, 1, none⟩ = some (.int .i64 b) := by rw [hv]; simp
      clear hv t5x t5y
      have t5a := keepc hbv t5a
      have t5b := keepc hbv t5b
      have hr0 := RdB.below hr0 hbv
      have hr1 := RdB.below hr1 hbv
      have B := bstep B hbv
      try go_wp2_with fail
      refine (Con10.out _).mono ?_
      rintro e w8 ⟨rfl, hb⟩
      have t5a := keepc hb t5a
      have t5b := keepc hb t5b
      have t10a := keepc hb t10a
      have t10b := keepc hb t10b
      have hr0 := RdB.below hr0 hb
      have hr1 := RdB.below hr1 hb
      have B := bstep B hb
      have t5x := keepB (o := .cells #[.int .i64 a, .int .i64 b] 46) t5a
      have t5y := keepB (o := .cells #[.int .i64 a, .int .i64 b] 46) t5b
      have t10x := keepB (o := .cells #[.int .i64 a, .int .i64 b] 46) t10a
      have t10y := keepB (o := .cells #[.int .i64 a, .int .i64 b] 46) t10b
      go_wp2_with fail
      obtain ⟨v3, hv⟩ : ∃ v3, v3 = (w8).alloc (.cells #[.int .i64 a, .int .i64 b] 46) := ⟨_, rfl⟩
      rw [← hv]
      have hbv : Below (w8).heap.size (w8) v3 := by rw [hv]; exact (Below.refl _ _).alloc (Nat.le_refl _) _
      have t12a : v3.cell? ⟨(w8).heap.size, 0, none⟩ = some (.int .i64 a) := by rw [hv]; simp
      have t12b : v3.cell? ⟨(w8).heap.size, 1, none⟩ = some (.int .i64 b) := by rw [hv]; simp
      clear hv t5x t5y t10x t10y
      have t5a := keepc hbv t5a
      have t5b := keepc hbv t5b
      have t10a := keepc hbv t10a
      have t10b := keepc hbv t10b
      have hr0 := RdB.below hr0 hbv
      have hr1 := RdB.below hr1 hbv
      have B := bstep B hbv
      try go_wp2_with fail
      refine (c_DrawTileOfRank n1 c1 A1 _ hr1 (by omega)).mono ?_
      rintro e w9 ⟨k, rfl, hkr, hb⟩
      have t5a := keepc hb t5a
      have t5b := keepc hb t5b
      have t10a := keepc hb t10a
      have t10b := keepc hb t10b
      have t12a := keepc hb t12a
      have t12b := keepc hb t12b
      have hr0 := RdB.below hr0 hb
      have hr1 := RdB.below hr1 hb
      have B := bstep B hb
      go_wp2_with fail
      refine (c_implTileOfRank k _).mono ?_
      rintro e w10 ⟨rfl, hb⟩
      have t5a := keepc hb t5a
      have t5b := keepc hb t5b
      have t10a := keepc hb t10a
      have t10b := keepc hb t10b
      have t12a := keepc hb t12a
      have t12b := keepc hb t12b
      have hr0 := RdB.below hr0 hb
      have hr1 := RdB.below hr1 hb
      have B := bstep B hb
      have t5x := keepB (o := .cells #[.int .i64 (rLow k), .int .i64 (rHigh k)] 46) t5a
      have t5y := keepB (o := .cells #[.int .i64 (rLow k), .int .i64 (rHigh k)] 46) t5b
      have t10x := keepB (o := .cells #[.int .i64 (rLow k), .int .i64 (rHigh k)] 46) t10a
      have t10y := keepB (o := .cells #[.int .i64 (rLow k), .int .i64 (rHigh k)] 46) t10b
      have t12x := keepB (o := .cells #[.int .i64 (rLow k), .int .i64 (rHigh k)] 46) t12a
      have t12y := keepB (o := .cells #[.int .i64 (rLow k), .int .i64 (rHigh k)] 46) t12b
      go_wp2_with fail
      obtain ⟨v4, hv⟩ : ∃ v4, v4 = (w10).alloc (.cells #[.int .i64 (rLow k), .int .i64 (rHigh k)] 46) := ⟨_, rfl⟩
      rw [← hv]
      have hbv : Below (w10).heap.size (w10) v4 := by rw [hv]; exact (Below.refl _ _).alloc (Nat.le_refl _) _
      have t15a : v4.cell? ⟨(w10).heap.size, 0, none⟩ = some (.int .i64 (rLow k)) := by rw [hv]; simp
      have t15b : v4.cell? ⟨(w10).heap.size, 1, none⟩ = some (.int .i64 (rHigh k)) := by rw [hv]; simp
      clear hv t5x t5y t10x t10y t12x t12y
      have t5a := keepc hbv t5a
      have t5b := keepc hbv t5b
      have t10a := keepc hbv t10a
      have t10b := keepc hbv t10b
      have t12a := keepc hbv t12a
      have t12b := keepc hbv t12b
      have hr0 := RdB.below hr0 hbv
      have hr1 := RdB.below hr1 hbv
      have B := bstep B hbv
      try go_wp2_with fail
      refine (c_specTileOfRank k _).mono ?_
      rintro e w11 ⟨rfl, hb⟩
      have t5a := keepc hb t5a
      have t5b := keepc hb t5b
      have t10a := keepc hb t10a
      have t10b := keepc hb t10b
      have t12a := keepc hb t12a
      have t12b := keepc hb t12b
      have t15a := keepc hb t15a
      have t15b := keepc hb t15b
      have hr0 := RdB.below hr0 hb
      have hr1 := RdB.below hr1 hb
      have B := bstep B hb
      have t5x := keepB (o := .cells #[.int .i64 (rLow k), .int .i64 (rHigh k)] 46) t5a
      have t5y := keepB (o := .cells #[.int .i64 (rLow k), .int .i64 (rHigh k)] 46) t5b
      have t10x := keepB (o := .cells #[.int .i64 (rLow k), .int .i64 (rHigh k)] 46) t10a
      have t10y := keepB (o := .cells #[.int .i64 (rLow k), .int .i64 (rHigh k)] 46) t10b
      have t12x := keepB (o := .cells #[.int .i64 (rLow k), .int .i64 (rHigh k)] 46) t12a
      have t12y := keepB (o := .cells #[.int .i64 (rLow k), .int .i64 (rHigh k)] 46) t12b
      have t15x := keepB (o := .cells #[.int .i64 (rLow k), .int .i64 (rHigh k)] 46) t15a
      have t15y := keepB (o := .cells #[.int .i64 (rLow k), .int .i64 (rHigh k)] 46) t15b
      go_wp2_with fail
      obtain ⟨v5, hv⟩ : ∃ v5, v5 = (w11).alloc (.cells #[.int .i64 (rLow k), .int .i64 (rHigh k)] 46) := ⟨_, rfl⟩
      rw [← hv]
      have hbv : Below (w11).heap.size (w11) v5 := by rw [hv]; exact (Below.refl _ _).alloc (Nat.le_refl _) _
      have t17a : v5.cell? ⟨(w11).heap.size, 0, none⟩ = some (.int .i64 (rLow k)) := by rw [hv]; simp
      have t17b : v5.cell? ⟨(w11).heap.size, 1, none⟩ = some (.int .i64 (rHigh k)) := by rw [hv]; simp
      clear hv t5x t5y t10x t10y t12x t12y t15x t15y
      have t5a := keepc hbv t5a
      have t5b := keepc hbv t5b
      have t10a := keepc hbv t10a
      have t10b := keepc hbv t10b
      have t12a := keepc hbv t12a
      have t12b := keepc hbv t12b
      have t15a := keepc hbv t15a
      have t15b := keepc hbv t15b
      have hr0 := RdB.below hr0 hbv
      have hr1 := RdB.below hr1 hbv
      have B := bstep B hbv
      try go_wp2_with fail
      refine (c_DrawTileOf n1 c1 A1 _ hr1 (by omega)).mono ?_
      rintro e w12 ⟨x, y, rfl, hxb, hyb, hb⟩
      have t5a := keepc hb t5a
      have t5b := keepc hb t5b
      have t10a := keepc hb t10a
      have t10b := keepc hb t10b
      have t12a := keepc hb t12a
      have t12b := keepc hb t12b
      have t15a := keepc hb t15a
      have t15b := keepc hb t15b
      have t17a := keepc hb t17a
      have t17b := keepc hb t17b
      have hr0 := RdB.below hr0 hb
      have hr1 := RdB.below hr1 hb
      have B := bstep B hb
      go_wp2_with fail
      refine (c_implTileOf x y _).mono ?_
      rintro e w13 ⟨rfl, hb⟩
      have t5a := keepc hb t5a
      have t5b := keepc hb t5b
      have t10a := keepc hb t10a
      have t10b := keepc hb t10b
      have t12a := keepc hb t12a
      have t12b := keepc hb t12b
      have t15a := keepc hb t15a
      have t15b := keepc hb t15b
      have t17a := keepc hb t17a
      have t17b := keepc hb t17b
      have hr0 := RdB.below hr0 hb
      have hr1 := RdB.below hr1 hb
      have B := bstep B hb
      have t5x := keepB (o := .cells #[.int .i64 (ofLow x y), .int .i64 (ofHigh x y)] 46) t5a
      have t5y := keepB (o := .cells #[.int .i64 (ofLow x y), .int .i64 (ofHigh x y)] 46) t5b
      have t10x := keepB (o := .cells #[.int .i64 (ofLow x y), .int .i64 (ofHigh x y)] 46) t10a
      have t10y := keepB (o := .cells #[.int .i64 (ofLow x y), .int .i64 (ofHigh x y)] 46) t10b
      have t12x := keepB (o := .cells #[.int .i64 (ofLow x y), .int .i64 (ofHigh x y)] 46) t12a
      have t12y := keepB (o := .cells #[.int .i64 (ofLow x y), .int .i64 (ofHigh x y)] 46) t12b
      have t15x := keepB (o := .cells #[.int .i64 (ofLow x y), .int .i64 (ofHigh x y)] 46) t15a
      have t15y := keepB (o := .cells #[.int .i64 (ofLow x y), .int .i64 (ofHigh x y)] 46) t15b
      have t17x := keepB (o := .cells #[.int .i64 (ofLow x y), .int .i64 (ofHigh x y)] 46) t17a
      have t17y := keepB (o := .cells #[.int .i64 (ofLow x y), .int .i64 (ofHigh x y)] 46) t17b
      go_wp2_with fail
      obtain ⟨v6, hv⟩ : ∃ v6, v6 = (w13).alloc (.cells #[.int .i64 (ofLow x y), .int .i64 (ofHigh x y)] 46) := ⟨_, rfl⟩
      rw [← hv]
      have hbv : Below (w13).heap.size (w13) v6 := by rw [hv]; exact (Below.refl _ _).alloc (Nat.le_refl _) _
      have t21a : v6.cell? ⟨(w13).heap.size, 0, none⟩ = some (.int .i64 (ofLow x y)) := by rw [hv]; simp
      have t21b : v6.cell? ⟨(w13).heap.size, 1, none⟩ = some (.int .i64 (ofHigh x y)) := by rw [hv]; simp
      clear hv t5x t5y t10x t10y t12x t12y t15x t15y t17x t17y
      have t5a := keepc hbv t5a
      have t5b := keepc hbv t5b
      have t10a := keepc hbv t10a
      have t10b := keepc hbv t10b
      have t12a := keepc hbv t12a
      have t12b := keepc hbv t12b
      have t15a := keepc hbv t15a
      have t15b := keepc hbv t15b
      have t17a := keepc hbv t17a
      have t17b := keepc hbv t17b
      have hr0 := RdB.below hr0 hbv
      have hr1 := RdB.below hr1 hbv
      have B := bstep B hbv
      try go_wp2_with fail
      refine (c_specTileOf x y _).mono ?_
      rintro e w14 ⟨rfl, hb⟩
      have t5a := keepc hb t5a
      have t5b := keepc hb t5b
      have t10a := keepc hb t10a
      have t10b := keepc hb t10b
      have t12a := keepc hb t12a
      have t12b := keepc hb t12b
      have t15a := keepc hb t15a
      have t15b := keepc hb t15b
      have t17a := keepc hb t17a
      have t17b := keepc hb t17b
      have t21a := keepc hb t21a
      have t21b := keepc hb t21b
      have hr0 := RdB.below hr0 hb
      have hr1 := RdB.below hr1 hb
      have B := bstep B hb
      have t5x := keepB (o := .cells #[.int .i64 (ofLow x y), .int .i64 (ofHigh x y)] 46) t5a
      have t5y := keepB (o := .cells #[.int .i64 (ofLow x y), .int .i64 (ofHigh x y)] 46) t5b
      have t10x := keepB (o := .cells #[.int .i64 (ofLow x y), .int .i64 (ofHigh x y)] 46) t10a
      have t10y := keepB (o := .cells #[.int .i64 (ofLow x y), .int .i64 (ofHigh x y)] 46) t10b
      have t12x := keepB (o := .cells #[.int .i64 (ofLow x y), .int .i64 (ofHigh x y)] 46) t12a
      have t12y := keepB (o := .cells #[.int .i64 (ofLow x y), .int .i64 (ofHigh x y)] 46) t12b
      have t15x := keepB (o := .cells #[.int .i64 (ofLow x y), .int .i64 (ofHigh x y)] 46) t15a
      have t15y := keepB (o := .cells #[.int .i64 (ofLow x y), .int .i64 (ofHigh x y)] 46) t15b
      have t17x := keepB (o := .cells #[.int .i64 (ofLow x y), .int .i64 (ofHigh x y)] 46) t17a
      have t17y := keepB (o := .cells #[.int .i64 (ofLow x y), .int .i64 (ofHigh x y)] 46) t17b
      have t21x := keepB (o := .cells #[.int .i64 (ofLow x y), .int .i64 (ofHigh x y)] 46) t21a
      have t21y := keepB (o := .cells #[.int .i64 (ofLow x y), .int .i64 (ofHigh x y)] 46) t21b
      go_wp2_with fail
      obtain ⟨v7, hv⟩ : ∃ v7, v7 = (w14).alloc (.cells #[.int .i64 (ofLow x y), .int .i64 (ofHigh x y)] 46) := ⟨_, rfl⟩
      rw [← hv]
      have hbv : Below (w14).heap.size (w14) v7 := by rw [hv]; exact (Below.refl _ _).alloc (Nat.le_refl _) _
      have t23a : v7.cell? ⟨(w14).heap.size, 0, none⟩ = some (.int .i64 (ofLow x y)) := by rw [hv]; simp
      have t23b : v7.cell? ⟨(w14).heap.size, 1, none⟩ = some (.int .i64 (ofHigh x y)) := by rw [hv]; simp
      clear hv t5x t5y t10x t10y t12x t12y t15x t15y t17x t17y t21x t21y
      have t5a := keepc hbv t5a
      have t5b := keepc hbv t5b
      have t10a := keepc hbv t10a
      have t10b := keepc hbv t10b
      have t12a := keepc hbv t12a
      have t12b := keepc hbv t12b
      have t15a := keepc hbv t15a
      have t15b := keepc hbv t15b
      have t17a := keepc hbv t17a
      have t17b := keepc hbv t17b
      have t21a := keepc hbv t21a
      have t21b := keepc hbv t21b
      have hr0 := RdB.below hr0 hbv
      have hr1 := RdB.below hr1 hbv
      have B := bstep B hbv
      try go_wp2_with fail
      refine (c_DrawSetOf n1 c1 A1 _ hr1 (by omega)).mono ?_
      rintro e w15 ⟨n, rfl, hnb, hb⟩
      have t5a := keepc hb t5a
      have t5b := keepc hb t5b
      have t10a := keepc hb t10a
      have t10b := keepc hb t10b
      have t12a := keepc hb t12a
      have t12b := keepc hb t12b
      have t15a := keepc hb t15a
      have t15b := keepc hb t15b
      have t17a := keepc hb t17a
      have t17b := keepc hb t17b
      have t21a := keepc hb t21a
      have t21b := keepc hb t21b
      have t23a := keepc hb t23a
      have t23b := keepc hb t23b
      have hr0 := RdB.below hr0 hb
      have hr1 := RdB.below hr1 hb
      have B := bstep B hb
      go_wp2_with fail
      refine (c_implSetOf n _).mono ?_
      rintro e w16 ⟨S1, cs1, rfl, hs1, hb⟩
      have t5a := keepc hb t5a
      have t5b := keepc hb t5b
      have t10a := keepc hb t10a
      have t10b := keepc hb t10b
      have t12a := keepc hb t12a
      have t12b := keepc hb t12b
      have t15a := keepc hb t15a
      have t15b := keepc hb t15b
      have t17a := keepc hb t17a
      have t17b := keepc hb t17b
      have t21a := keepc hb t21a
      have t21b := keepc hb t21b
      have t23a := keepc hb t23a
      have t23b := keepc hb t23b
      have hr0 := RdB.below hr0 hb
      have hr1 := RdB.below hr1 hb
      have B := bstep B hb
      have s1 := RdT.of_own hs1
      clear hs1
      go_wp2_with fail
      refine (c_specSetOf n _).mono ?_
      rintro e w17 ⟨S2, cs2, rfl, hs2, hb⟩
      have t5a := keepc hb t5a
      have t5b := keepc hb t5b
      have t10a := keepc hb t10a
      have t10b := keepc hb t10b
      have t12a := keepc hb t12a
      have t12b := keepc hb t12b
      have t15a := keepc hb t15a
      have t15b := keepc hb t15b
      have t17a := keepc hb t17a
      have t17b := keepc hb t17b
      have t21a := keepc hb t21a
      have t21b := keepc hb t21b
      have t23a := keepc hb t23a
      have t23b := keepc hb t23b
      have hr0 := RdB.below hr0 hb
      have hr1 := RdB.below hr1 hb
      have s1 := RdT.below s1 hb
      have B := bstep B hb
      have s2 := RdT.of_own hs2
      clear hs2
      go_wp2_with fail
      refine (c_implCountSet n _).mono ?_
      rintro e w18 ⟨rfl, hb⟩
      have t5a := keepc hb t5a
      have t5b := keepc hb t5b
      have t10a := keepc hb t10a
      have t10b := keepc hb t10b
      have t12a := keepc hb t12a
      have t12b := keepc hb t12b
      have t15a := keepc hb t15a
      have t15b := keepc hb t15b
      have t17a := keepc hb t17a
      have t17b := keepc hb t17b
      have t21a := keepc hb t21a
      have t21b := keepc hb t21b
      have t23a := keepc hb t23a
      have t23b := keepc hb t23b
      have hr0 := RdB.below hr0 hb
      have hr1 := RdB.below hr1 hb
      have s1 := RdT.below s1 hb
      have s2 := RdT.below s2 hb
      have B := bstep B hb
      go_wp2_with fail
      refine (c_specCountSet n _).mono ?_
      rintro e w19 ⟨rfl, hb⟩
      have t5a := keepc hb t5a
      have t5b := keepc hb t5b
      have t10a := keepc hb t10a
      have t10b := keepc hb t10b
      have t12a := keepc hb t12a
      have t12b := keepc hb t12b
      have t15a := keepc hb t15a
      have t15b := keepc hb t15b
      have t17a := keepc hb t17a
      have t17b := keepc hb t17b
      have t21a := keepc hb t21a
      have t21b := keepc hb t21b
      have t23a := keepc hb t23a
      have t23b := keepc hb t23b
      have hr0 := RdB.below hr0 hb
      have hr1 := RdB.below hr1 hb
      have s1 := RdT.below s1 hb
      have s2 := RdT.below s2 hb
      have B := bstep B hb
      have hsl := setOfL_len n
      go_wp2_with fail
      refine (c_mTiles_same _ _ _ _ (setOfL n) _ s1 s2 (by omega)).mono ?_
      rintro e w20 ⟨rfl, hb⟩
      have t5a := keepc hb t5a
      have t5b := keepc hb t5b
      have t10a := keepc hb t10a
      have t10b := keepc hb t10b
      have t12a := keepc hb t12a
      have t12b := keepc hb t12b
      have t15a := keepc hb t15a
      have t15b := keepc hb t15b
      have t17a := keepc hb t17a
      have t17b := keepc hb t17b
      have t21a := keepc hb t21a
      have t21b := keepc hb t21b
      have t23a := keepc hb t23a
      have t23b := keepc hb t23b
      have hr0 := RdB.below hr0 hb
      have hr1 := RdB.below hr1 hb
      have s1 := RdT.below s1 hb
      have s2 := RdT.below s2 hb
      have B := bstep B hb
      go_wp2_with fail
      · have h5 : numB n = true := by assumption
        obtain ⟨m, hm, rfl⟩ := numB_nat h5
        obtain ⟨f1, f2, f3, f4⟩ := setn_facts ⟨m, by omega⟩
        obtain ⟨i1, i2, i3, i4, i5, i6, i7⟩ := arith_facts ⟨m, by omega⟩
        simp only at f1 f2 f3 f4 i1 i2 i3 i4 i5 i6 i7
        have e5 : setOfL (m : Int) = setL m := by simp [setOfL, h5]
        rw [← e5] at f1 f2 f3 f4
        have hlen : (((setOfL (m : Int)).length : Int) != countV (m : Int)) = false := by rw [f3]; simp
        have conP := c_implPipsOf S1 cs1 (setOfL (m : Int)) w20 s1 (by omega)
        have eP : pipsV (setOfL (m : Int)) = (m : Int) * ((m : Int) + 1) / 2 * ((m : Int) + 2) := by unfold pipsV; rw [f1, f2]; rfl
        rw [eP, f1] at conP
        obtain ⟨T, hT⟩ : ∃ T, T = setOfL (m : Int) := ⟨_, rfl⟩
        rw [← hT] at conP f4 hlen hsl s1 s2 ⊢
        have F4 := Lib.hid f4
        have ConP := Lib.hid conP
        clear conP eP e5 f1 f2 f3 f4 hT t5a t5b t17a t17b t21a t21b t23a t23b hr0 hr1
        refine ConP.out.mono ?_
        rintro e w21 ⟨rfl, hb⟩
        have t15a := keepc hb t15a
        have t15b := keepc hb t15b
        have s1 := RdT.below s1 hb
        have B := bstep B hb
        clear ConP
        go_wp2_with fail
        go_loopw [229] (fun i wr => ∃ j : Nat, j ≤ T.length ∧ i = .int .i64 j ∧ Below w21.heap.size w21 wr) (fun i _ => T.length - (intOf i).toNat)
        case atStart => exact ⟨0, Nat.zero_le _, rfl, Below.refl _ _⟩
        case round =>
          obtain ⟨j, hj, rfl, hb⟩ := hrel
          by_cases hlt : j < T.length
          · obtain ⟨bk, off, rfl, hbk, hc⟩ := s1.at_ hlt
            have g1 := (hb.cell (p := ⟨bk, _, none⟩) hbk).trans (hc j hlt).1
            have g2 := (hb.cell (p := ⟨bk, _, none⟩) hbk).trans (hc j hlt).2
            have hf := F4.out _ (List.getElem_mem hlt)
            have hnb2 : ¬ (m : Int) < T[j].2 := by omega
            have conI := fun W => c_implIsTile T[j].1 T[j].2 W
            simp only [hf.2] at conI
            have ConI := Lib.hid conI
            have Hb := Lib.hid hb
            have Bh := Lib.hid B
            have i0 : (0 : Int) ≤ (j : Int) := by omega
            have i1' : (j : Int) < (T.length : Int) := by omega
            clear hc hb hf conI B
            go_wp2_with (go_at_call 39; refine (ConI.out _).mono ?_; rintro e w22 ⟨rfl, hb2⟩)
            go_roundw
            case rel => exact ⟨j + 1, by omega, by go_num, bstep (by have hb0 := Hb.out; have hz0 := hb0.size; go_grown) hb2⟩
            case measure => simp [intOf]; omega
          · have : j = T.length := by omega
            subst this
            have t15a := keepc hb t15a
            have t15b := keepc hb t15b
            have B := bstep B hb
            go_wp2_with fail
            · have hk1 : okR k = true := by assumption
              obtain ⟨q1, q2⟩ := ok_rank hk1
              have conK := fun W => c_implRankOf (rLow k) (rHigh k) W
              simp only [q1, q2] at conK
              have ConK := Lib.hid conK
              clear conK q1 q2
              refine (ConK.out _).mono ?_
              rintro e w31 ⟨rfl, hb⟩
              have B := bstep B hb
              go_wp2
              go_ret
              exact ⟨rfl, B⟩
            · go_ret
              exact ⟨rfl, B⟩
      · have hk1 : okR k = true := by assumption
        obtain ⟨q1, q2⟩ := ok_rank hk1
        have conK := fun W => c_implRankOf (rLow k) (rHigh k) W
        simp only [q1, q2] at conK
        have ConK := Lib.hid conK
        clear conK q1 q2
        refine (ConK.out _).mono ?_
        rintro e w31 ⟨rfl, hb⟩
        have B := bstep B hb
        go_wp2
        go_ret
        exact ⟨rfl, B⟩
      · go_ret
        exact ⟨rfl, B⟩
    · have hok' : goodB a b = false := by simpa using hok
      have conR := fun W => c_implRankOf a b W
      have conS := fun W => c_specRankOf a b W
      have conI := fun W => c_implIsTile a b W
      have conJ := fun W => c_specIsTile a b W
      simp only [hok'] at conR
      simp only [hok'] at conS
      simp only [hok'] at conI
      simp only [hok'] at conJ
      obtain ⟨rk, hrk⟩ : ∃ rk, rk = rankV a b := ⟨_, rfl⟩
      simp only [← hrk] at conR conS
      have Conr := Lib.hid conR
      have Cons := Lib.hid conS
      have Coni := Lib.hid conI
      have Conj := Lib.hid conJ
      clear hrk hok conR conS conI conJ hok'
      go_wp2_with fail
      obtain ⟨v1, hv⟩ : ∃ v1, v1 = (w1).alloc (.cells #[.int .i64 a, .int .i64 b] 46) := ⟨_, rfl⟩
      rw [← hv]
      have hbv : Below (w1).heap.size (w1) v1 := by rw [hv]; exact (Below.refl _ _).alloc (Nat.le_refl _) _
      have t5a : v1.cell? ⟨(w1).heap.size, 0, none⟩ = some (.int .i64 a) := by rw [hv]; simp
      have t5b : v1.cell? ⟨(w1).heap.size, 1, none⟩ = some (.int .i64 b) := by rw [hv]; simp
      clear hv
      have hr0 := RdB.below hr0 hbv
      have hr1 := RdB.below hr1 hbv
      have B := bstep B hbv
      try go_wp2_with fail
      refine (Conr.out _).mono ?_
      rintro e w2 ⟨rfl, hb⟩
      have t5a := keepc hb t5a
      have t5b := keepc hb t5b
      have hr0 := RdB.below hr0 hb
      have hr1 := RdB.below hr1 hb
      have B := bstep B hb
      go_wp2_with fail
      refine (Cons.out _).mono ?_
      rintro e w3 ⟨rfl, hb⟩
      have t5a := keepc hb t5a
      have t5b := keepc hb t5b
      have hr0 := RdB.below hr0 hb
      have hr1 := RdB.below hr1 hb
      have B := bstep B hb
      go_wp2_with fail
      go_region_held3 (fun w' => w'.cell? ⟨w1.heap.size, 0, none⟩ = some (.int .i64 a) ∧ w'.cell? ⟨w1.heap.size, 1, none⟩ = some (.int .i64 b)) (first | exact ⟨u0, u1⟩ | exact ⟨z0, z1⟩ | exact ⟨y0, y1⟩ | exact ⟨t5a, t5b⟩ | go_keep) (first | (go_at_call 39; have zz := y0; clear zz; refine (Coni.out _).mono ?_; rintro e w5 ⟨rfl, hbq⟩; have z0 := keepc hbq y0; have z1 := keepc hbq y1) | (go_at_call 39; refine (Coni.out _).mono ?_; rintro e w4 ⟨rfl, hbp⟩; have y0 := keepc hbp (g1d _ t5a); have y1 := keepc hbp (g1d _ t5b)) | (go_at_call 40; refine (Conj.out _).mono ?_; rintro e w6 ⟨rfl, hbr⟩; have u0 := keepc hbr z0; have u1 := keepc hbr z1))
      have hb := bstep (bstep (Below.refl w3.heap.size w3).drew hbp) (hbq)
      have hb := bstep hb hbr
      clear y0 y1 z0 z1 u0 u1
      have t5a := keepc hb t5a
      have t5b := keepc hb t5b
      have hr0 := RdB.below hr0 hb
      have hr1 := RdB.below hr1 hb
      have B := bstep B hb
      go_wp2_with fail
      refine (c_DrawTileOfRank n1 c1 A1 _ hr1 (by omega)).mono ?_
      rintro e w9 ⟨k, rfl, hkr, hb⟩
      have t5a := keepc hb t5a
      have t5b := keepc hb t5b
      have hr0 := RdB.below hr0 hb
      have hr1 := RdB.below hr1 hb
      have B := bstep B hb
      go_wp2_with fail
      refine (c_implTileOfRank k _).mono ?_
      rintro e w10 ⟨rfl, hb⟩
      have t5a := keepc hb t5a
      have t5b := keepc hb t5b
      have hr0 := RdB.below hr0 hb
      have hr1 := RdB.below hr1 hb
      have B := bstep B hb
      have t5x := keepB (o := .cells #[.int .i64 (rLow k), .int .i64 (rHigh k)] 46) t5a
      have t5y := keepB (o := .cells #[.int .i64 (rLow k), .int .i64 (rHigh k)] 46) t5b
      go_wp2_with fail
      obtain ⟨v2, hv⟩ : ∃ v2, v2 = (w10).alloc (.cells #[.int .i64 (rLow k), .int .i64 (rHigh k)] 46) := ⟨_, rfl⟩
      rw [← hv]
      have hbv : Below (w10).heap.size (w10) v2 := by rw [hv]; exact (Below.refl _ _).alloc (Nat.le_refl _) _
      have t15a : v2.cell? ⟨(w10).heap.size, 0, none⟩ = some (.int .i64 (rLow k)) := by rw [hv]; simp
      have t15b : v2.cell? ⟨(w10).heap.size, 1, none⟩ = some (.int .i64 (rHigh k)) := by rw [hv]; simp
      clear hv t5x t5y
      have t5a := keepc hbv t5a
      have t5b := keepc hbv t5b
      have hr0 := RdB.below hr0 hbv
      have hr1 := RdB.below hr1 hbv
      have B := bstep B hbv
      try go_wp2_with fail
      refine (c_specTileOfRank k _).mono ?_
      rintro e w11 ⟨rfl, hb⟩
      have t5a := keepc hb t5a
      have t5b := keepc hb t5b
      have t15a := keepc hb t15a
      have t15b := keepc hb t15b
      have hr0 := RdB.below hr0 hb
      have hr1 := RdB.below hr1 hb
      have B := bstep B hb
      have t5x := keepB (o := .cells #[.int .i64 (rLow k), .int .i64 (rHigh k)] 46) t5a
      have t5y := keepB (o := .cells #[.int .i64 (rLow k), .int .i64 (rHigh k)] 46) t5b
      have t15x := keepB (o := .cells #[.int .i64 (rLow k), .int .i64 (rHigh k)] 46) t15a
      have t15y := keepB (o := .cells #[.int .i64 (rLow k), .int .i64 (rHigh k)] 46) t15b
      go_wp2_with fail
      obtain ⟨v3, hv⟩ : ∃ v3, v3 = (w11).alloc (.cells #[.int .i64 (rLow k), .int .i64 (rHigh k)] 46) := ⟨_, rfl⟩
      rw [← hv]
      have hbv : Below (w11).heap.size (w11) v3 := by rw [hv]; exact (Below.refl _ _).alloc (Nat.le_refl _) _
      have t17a : v3.cell? ⟨(w11).heap.size, 0, none⟩ = some (.int .i64 (rLow k)) := by rw [hv]; simp
      have t17b : v3.cell? ⟨(w11).heap.size, 1, none⟩ = some (.int .i64 (rHigh k)) := by rw [hv]; simp
      clear hv t5x t5y t15x t15y
      have t5a := keepc hbv t5a
      have t5b := keepc hbv t5b
      have t15a := keepc hbv t15a
      have t15b := keepc hbv t15b
      have hr0 := RdB.below hr0 hbv
      have hr1 := RdB.below hr1 hbv
      have B := bstep B hbv
      try go_wp2_with fail
      refine (c_DrawTileOf n1 c1 A1 _ hr1 (by omega)).mono ?_
      rintro e w12 ⟨x, y, rfl, hxb, hyb, hb⟩
      have t5a := keepc hb t5a
      have t5b := keepc hb t5b
      have t15a := keepc hb t15a
      have t15b := keepc hb t15b
      have t17a := keepc hb t17a
      have t17b := keepc hb t17b
      have hr0 := RdB.below hr0 hb
      have hr1 := RdB.below hr1 hb
      have B := bstep B hb
      go_wp2_with fail
      refine (c_implTileOf x y _).mono ?_
      rintro e w13 ⟨rfl, hb⟩
      have t5a := keepc hb t5a
      have t5b := keepc hb t5b
      have t15a := keepc hb t15a
      have t15b := keepc hb t15b
      have t17a := keepc hb t17a
      have t17b := keepc hb t17b
      have hr0 := RdB.below hr0 hb
      have hr1 := RdB.below hr1 hb
      have B := bstep B hb
      have t5x := keepB (o := .cells #[.int .i64 (ofLow x y), .int .i64 (ofHigh x y)] 46) t5a
      have t5y := keepB (o := .cells #[.int .i64 (ofLow x y), .int .i64 (ofHigh x y)] 46) t5b
      have t15x := keepB (o := .cells #[.int .i64 (ofLow x y), .int .i64 (ofHigh x y)] 46) t15a
      have t15y := keepB (o := .cells #[.int .i64 (ofLow x y), .int .i64 (ofHigh x y)] 46) t15b
      have t17x := keepB (o := .cells #[.int .i64 (ofLow x y), .int .i64 (ofHigh x y)] 46) t17a
      have t17y := keepB (o := .cells #[.int .i64 (ofLow x y), .int .i64 (ofHigh x y)] 46) t17b
      go_wp2_with fail
      obtain ⟨v4, hv⟩ : ∃ v4, v4 = (w13).alloc (.cells #[.int .i64 (ofLow x y), .int .i64 (ofHigh x y)] 46) := ⟨_, rfl⟩
      rw [← hv]
      have hbv : Below (w13).heap.size (w13) v4 := by rw [hv]; exact (Below.refl _ _).alloc (Nat.le_refl _) _
      have t21a : v4.cell? ⟨(w13).heap.size, 0, none⟩ = some (.int .i64 (ofLow x y)) := by rw [hv]; simp
      have t21b : v4.cell? ⟨(w13).heap.size, 1, none⟩ = some (.int .i64 (ofHigh x y)) := by rw [hv]; simp
      clear hv t5x t5y t15x t15y t17x t17y
      have t5a := keepc hbv t5a
      have t5b := keepc hbv t5b
      have t15a := keepc hbv t15a
      have t15b := keepc hbv t15b
      have t17a := keepc hbv t17a
      have t17b := keepc hbv t17b
      have hr0 := RdB.below hr0 hbv
      have hr1 := RdB.below hr1 hbv
      have B := bstep B hbv
      try go_wp2_with fail
      refine (c_specTileOf x y _).mono ?_
      rintro e w14 ⟨rfl, hb⟩
      have t5a := keepc hb t5a
      have t5b := keepc hb t5b
      have t15a := keepc hb t15a
      have t15b := keepc hb t15b
      have t17a := keepc hb t17a
      have t17b := keepc hb t17b
      have t21a := keepc hb t21a
      have t21b := keepc hb t21b
      have hr0 := RdB.below hr0 hb
      have hr1 := RdB.below hr1 hb
      have B := bstep B hb
      have t5x := keepB (o := .cells #[.int .i64 (ofLow x y), .int .i64 (ofHigh x y)] 46) t5a
      have t5y := keepB (o := .cells #[.int .i64 (ofLow x y), .int .i64 (ofHigh x y)] 46) t5b
      have t15x := keepB (o := .cells #[.int .i64 (ofLow x y), .int .i64 (ofHigh x y)] 46) t15a
      have t15y := keepB (o := .cells #[.int .i64 (ofLow x y), .int .i64 (ofHigh x y)] 46) t15b
      have t17x := keepB (o := .cells #[.int .i64 (ofLow x y), .int .i64 (ofHigh x y)] 46) t17a
      have t17y := keepB (o := .cells #[.int .i64 (ofLow x y), .int .i64 (ofHigh x y)] 46) t17b
      have t21x := keepB (o := .cells #[.int .i64 (ofLow x y), .int .i64 (ofHigh x y)] 46) t21a
      have t21y := keepB (o := .cells #[.int .i64 (ofLow x y), .int .i64 (ofHigh x y)] 46) t21b
      go_wp2_with fail
      obtain ⟨v5, hv⟩ : ∃ v5, v5 = (w14).alloc (.cells #[.int .i64 (ofLow x y), .int .i64 (ofHigh x y)] 46) := ⟨_, rfl⟩
      rw [← hv]
      have hbv : Below (w14).heap.size (w14) v5 := by rw [hv]; exact (Below.refl _ _).alloc (Nat.le_refl _) _
      have t23a : v5.cell? ⟨(w14).heap.size, 0, none⟩ = some (.int .i64 (ofLow x y)) := by rw [hv]; simp
      have t23b : v5.cell? ⟨(w14).heap.size, 1, none⟩ = some (.int .i64 (ofHigh x y)) := by rw [hv]; simp
      clear hv t5x t5y t15x t15y t17x t17y t21x t21y
      have t5a := keepc hbv t5a
      have t5b := keepc hbv t5b
      have t15a := keepc hbv t15a
      have t15b := keepc hbv t15b
      have t17a := keepc hbv t17a
      have t17b := keepc hbv t17b
      have t21a := keepc hbv t21a
      have t21b := keepc hbv t21b
      have hr0 := RdB.below hr0 hbv
      have hr1 := RdB.below hr1 hbv
      have B := bstep B hbv
      try go_wp2_with fail
      refine (c_DrawSetOf n1 c1 A1 _ hr1 (by omega)).mono ?_
      rintro e w15 ⟨n, rfl, hnb, hb⟩
      have t5a := keepc hb t5a
      have t5b := keepc hb t5b
      have t15a := keepc hb t15a
      have t15b := keepc hb t15b
      have t17a := keepc hb t17a
      have t17b := keepc hb t17b
      have t21a := keepc hb t21a
      have t21b := keepc hb t21b
      have t23a := keepc hb t23a
      have t23b := keepc hb t23b
      have hr0 := RdB.below hr0 hb
      have hr1 := RdB.below hr1 hb
      have B := bstep B hb
      go_wp2_with fail
      refine (c_implSetOf n _).mono ?_
      rintro e w16 ⟨S1, cs1, rfl, hs1, hb⟩
      have t5a := keepc hb t5a
      have t5b := keepc hb t5b
      have t15a := keepc hb t15a
      have t15b := keepc hb t15b
      have t17a := keepc hb t17a
      have t17b := keepc hb t17b
      have t21a := keepc hb t21a
      have t21b := keepc hb t21b
      have t23a := keepc hb t23a
      have t23b := keepc hb t23b
      have hr0 := RdB.below hr0 hb
      have hr1 := RdB.below hr1 hb
      have B := bstep B hb
      have s1 := RdT.of_own hs1
      clear hs1
      go_wp2_with fail
      refine (c_specSetOf n _).mono ?_
      rintro e w17 ⟨S2, cs2, rfl, hs2, hb⟩
      have t5a := keepc hb t5a
      have t5b := keepc hb t5b
      have t15a := keepc hb t15a
      have t15b := keepc hb t15b
      have t17a := keepc hb t17a
      have t17b := keepc hb t17b
      have t21a := keepc hb t21a
      have t21b := keepc hb t21b
      have t23a := keepc hb t23a
      have t23b := keepc hb t23b
      have hr0 := RdB.below hr0 hb
      have hr1 := RdB.below hr1 hb
      have s1 := RdT.below s1 hb
      have B := bstep B hb
      have s2 := RdT.of_own hs2
      clear hs2
      go_wp2_with fail
      refine (c_implCountSet n _).mono ?_
      rintro e w18 ⟨rfl, hb⟩
      have t5a := keepc hb t5a
      have t5b := keepc hb t5b
      have t15a := keepc hb t15a
      have t15b := keepc hb t15b
      have t17a := keepc hb t17a
      have t17b := keepc hb t17b
      have t21a := keepc hb t21a
      have t21b := keepc hb t21b
      have t23a := keepc hb t23a
      have t23b := keepc hb t23b
      have hr0 := RdB.below hr0 hb
      have hr1 := RdB.below hr1 hb
      have s1 := RdT.below s1 hb
      have s2 := RdT.below s2 hb
      have B := bstep B hb
      go_wp2_with fail
      refine (c_specCountSet n _).mono ?_
      rintro e w19 ⟨rfl, hb⟩
      have t5a := keepc hb t5a
      have t5b := keepc hb t5b
      have t15a := keepc hb t15a
      have t15b := keepc hb t15b
      have t17a := keepc hb t17a
      have t17b := keepc hb t17b
      have t21a := keepc hb t21a
      have t21b := keepc hb t21b
      have t23a := keepc hb t23a
      have t23b := keepc hb t23b
      have hr0 := RdB.below hr0 hb
      have hr1 := RdB.below hr1 hb
      have s1 := RdT.below s1 hb
      have s2 := RdT.below s2 hb
      have B := bstep B hb
      have hsl := setOfL_len n
      go_wp2_with fail
      refine (c_mTiles_same _ _ _ _ (setOfL n) _ s1 s2 (by omega)).mono ?_
      rintro e w20 ⟨rfl, hb⟩
      have t5a := keepc hb t5a
      have t5b := keepc hb t5b
      have t15a := keepc hb t15a
      have t15b := keepc hb t15b
      have t17a := keepc hb t17a
      have t17b := keepc hb t17b
      have t21a := keepc hb t21a
      have t21b := keepc hb t21b
      have t23a := keepc hb t23a
      have t23b := keepc hb t23b
      have hr0 := RdB.below hr0 hb
      have hr1 := RdB.below hr1 hb
      have s1 := RdT.below s1 hb
      have s2 := RdT.below s2 hb
      have B := bstep B hb
      go_wp2_with fail
      · have h5 : numB n = true := by assumption
        obtain ⟨m, hm, rfl⟩ := numB_nat h5
        obtain ⟨f1, f2, f3, f4⟩ := setn_facts ⟨m, by omega⟩
        obtain ⟨i1, i2, i3, i4, i5, i6, i7⟩ := arith_facts ⟨m, by omega⟩
        simp only at f1 f2 f3 f4 i1 i2 i3 i4 i5 i6 i7
        have e5 : setOfL (m : Int) = setL m := by simp [setOfL, h5]
        rw [← e5] at f1 f2 f3 f4
        have hlen : (((setOfL (m : Int)).length : Int) != countV (m : Int)) = false := by rw [f3]; simp
        have conP := c_implPipsOf S1 cs1 (setOfL (m : Int)) w20 s1 (by omega)
        have eP : pipsV (setOfL (m : Int)) = (m : Int) * ((m : Int) + 1) / 2 * ((m : Int) + 2) := by unfold pipsV; rw [f1, f2]; rfl
        rw [eP, f1] at conP
        obtain ⟨T, hT⟩ : ∃ T, T = setOfL (m : Int) := ⟨_, rfl⟩
        rw [← hT] at conP f4 hlen hsl s1 s2 ⊢
        have F4 := Lib.hid f4
        have ConP := Lib.hid conP
        clear conP eP e5 f1 f2 f3 f4 hT t5a t5b t17a t17b t21a t21b t23a t23b hr0 hr1
        refine ConP.out.mono ?_
        rintro e w21 ⟨rfl, hb⟩
        have t15a := keepc hb t15a
        have t15b := keepc hb t15b
        have s1 := RdT.below s1 hb
        have B := bstep B hb
        clear ConP
        go_wp2_with fail
        go_loopw [229] (fun i wr => ∃ j : Nat, j ≤ T.length ∧ i = .int .i64 j ∧ Below w21.heap.size w21 wr) (fun i _ => T.length - (intOf i).toNat)
        case atStart => exact ⟨0, Nat.zero_le _, rfl, Below.refl _ _⟩
        case round =>
          obtain ⟨j, hj, rfl, hb⟩ := hrel
          by_cases hlt : j < T.length
          · obtain ⟨bk, off, rfl, hbk, hc⟩ := s1.at_ hlt
            have g1 := (hb.cell (p := ⟨bk, _, none⟩) hbk).trans (hc j hlt).1
            have g2 := (hb.cell (p := ⟨bk, _, none⟩) hbk).trans (hc j hlt).2
            have hf := F4.out _ (List.getElem_mem hlt)
            have hnb2 : ¬ (m : Int) < T[j].2 := by omega
            have conI := fun W => c_implIsTile T[j].1 T[j].2 W
            simp only [hf.2] at conI
            have ConI := Lib.hid conI
            have Hb := Lib.hid hb
            have Bh := Lib.hid B
            have i0 : (0 : Int) ≤ (j : Int) := by omega
            have i1' : (j : Int) < (T.length : Int) := by omega
            clear hc hb hf conI B
            go_wp2_with (go_at_call 39; refine (ConI.out _).mono ?_; rintro e w22 ⟨rfl, hb2⟩)
            go_roundw
            case rel => exact ⟨j + 1, by omega, by go_num, bstep (by have hb0 := Hb.out; have hz0 := hb0.size; go_grown) hb2⟩
            case measure => simp [intOf]; omega
          · have : j = T.length := by omega
            subst this
            have t15a := keepc hb t15a
            have t15b := keepc hb t15b
            have B := bstep B hb
            go_wp2_with fail
            · have hk1 : okR k = true := by assumption
              obtain ⟨q1, q2⟩ := ok_rank hk1
              have conK := fun W => c_implRankOf (rLow k) (rHigh k) W
              simp only [q1, q2] at conK
              have ConK := Lib.hid conK
              clear conK q1 q2
              refine (ConK.out _).mono ?_
              rintro e w31 ⟨rfl, hb⟩
              have B := bstep B hb
              go_wp2
              go_ret
              exact ⟨rfl, B⟩
            · go_ret
              exact ⟨rfl, B⟩
      · have hk1 : okR k = true := by assumption
        obtain ⟨q1, q2⟩ := ok_rank hk1
        have conK := fun W => c_implRankOf (rLow k) (rHigh k) W
        simp only [q1, q2] at conK
        have ConK := Lib.hid conK
        clear conK q1 q2
        refine (ConK.out _).mono ?_
        rintro e w31 ⟨rfl, hb⟩
        have B := bstep B hb
        go_wp2
        go_ret
        exact ⟨rfl, B⟩
      · go_ret
        exact ⟨rfl, B⟩
  · have con := c_big_yes A0 A1 c0 c1 n0 n1 w hl0 hl1 (by omega)
    clear hbig
    go_enter Try.func9, Try.ntmps9
    go_wp2_with (go_at_call 35; refine con.mono ?_; rintro e w' ⟨rfl, rfl⟩)
    go_ret
    exact ⟨rfl, Below.refl _ _⟩

set_option maxRecDepth 100000 in
theorem lifted_FnTilesRanked (os : Os) (started : os.Started) (H : Type) (enc : TypeId × Value → H) :
    ReturnsInHanded {} Try.checked os 9 .any (Rows.fnTilesRankedSpec.pre6 enc Try.prog Try.f9 Rows.fnTilesRankedRow.domain false) (Rows.fnTilesRankedSpec.post enc Try.prog Try.f9 false true false false) := by
  refine returnsInHanded_of_change (C := Try.checked) Try.own_ started (by kernel_rfl) Try.func9
    (ChangeSpec.witness6 (enc := enc) (C := Try.checked) false ⟨#[], #[.slice none 0 0, .slice none 0 0], []⟩ 8 (by kernel_rfl) (by kernel_rfl) (by kernel_rfl) (by kernel_rfl)) ?_
  intro W base args ds gs before hval0 hW hcnd _
  have hval : ∀ (j : Nat) t v, Try.f9.params[j]? = some t → args[j]? = some v → Value.okWide Try.prog W .any base t v := hval0
  have hW' := hW
  obtain ⟨p, q, hA0, hV, rfl, hfz, hnd⟩ := hW
  have hA : DataW.TrodAll enc Try.prog W 0 (fun _ => true) true Try.f9.params.toList args.toList ds p := hA0
  rw [Try.params9] at hA hval
  obtain ⟨v0, vs0, d0, ds0, p0, q0, hargs0, rfl, rfl, h0, r0⟩ := trodAll_cons hA
  obtain ⟨v1, vs1, d1, ds1, p1, q1, rfl, rfl, rfl, h1, r1⟩ := trodAll_cons r0
  obtain ⟨rfl, rfl, rfl⟩ := trodAll_nil r1
  obtain rfl : args = #[v0, v1] := by cases args; simp_all
  obtain ⟨rfl, rfl⟩ := trodVars_none hV
  obtain ⟨A0, c0, n0, rfl, hr0, hl0⟩ := open_bytes (hval 0 43 v0 rfl rfl) h0
  obtain ⟨A1, c1, n1, rfl, hr1, hl1⟩ := open_bytes (hval 1 43 v1 rfl rfl) h1
  refine (w_FnTilesRanked A0 c0 n0 A1 c1 n1 W hr0 hl0 hr1 hl1).mono fun e W' ⟨he, hg⟩ => ?_
  subst he
  exact ⟨_, rfl, law_post rfl rfl (of_decide_eq_true (by kernel_rfl)) hW' rfl hg⟩

theorem fnTilesRanked_holds : Rows.FnTilesRankedSaid :=
  OpenClaim.holds_of_wide 9 Try.f9 rfl rfl rfl rfl rfl rfl rfl ⟨rfl, rfl, rfl, rfl, rfl⟩ rfl rfl rfl rfl rfl (by kernel_rfl) Try.func9 (by kernel_rfl)
    (of_decide_eq_true (by kernel_rfl)) (by unfold Func.isWrapper; first | (rw [if_pos (by decide +kernel)]; kernel_rfl) | (rw [if_neg (by decide +kernel)]; exact ⟨rfl, rfl⟩))
    (fun os started H enc _ => lifted_FnTilesRanked os started H enc)
#print axioms fnTilesRanked_holds
end Go.Proofs.Yteiiiceajpmndab

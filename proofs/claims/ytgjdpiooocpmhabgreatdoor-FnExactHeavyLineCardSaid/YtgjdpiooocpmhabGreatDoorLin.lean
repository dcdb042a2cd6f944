/- The line of play of a player, of the program. -/
import Derived.Test.YtgjdpiooocpmhabGreatDoorLinM
import Derived.Deep.Cut
import Derived.BigQuiet
namespace Go.Proofs.YtgjdpiooocpmhabGreatDoor
open Go.RowKit
set_option linter.unusedVariables false

set_option maxRecDepth 100000 in
set_option maxHeartbeats 4000000 in
theorem c_lineBest (n : Nat) (AF : Option Addr) (cF : Nat) (F : List (Int × Int)) (AS : Option Addr) (cS : Nat) (S : List (Int × Int)) (AR : Option Addr) (cR : Nat) (R : List Int) (t u : Int) (w : World) (hF : RdT w AF F) (hS : RdT w AS S) (hR : RdI w AR R) (hg : gameB F S R t u = true) (hz : sizG F S u < n) (hn : n ≤ 1000000) :
    Calls Tryz.prog 57 #[.agg #[.slice AF F.length cF, .slice AS S.length cS, .slice AR R.length cR, .int .i64 t, .int .i64 u, .iface 82 (.agg #[])]] w (RetMv w (lineN bmL n F S R t u)) := by
  obtain ⟨T, hT⟩ : ∃ T, T = lineN bmL n F S R t u := ⟨_, rfl⟩
  have lT : T.length ≤ 1048576 := by rw [hT]; exact Nat.le_trans (lineN_len _ _ _ _ _ _ _) (by omega)
  rw [← hT]
  have HT := Lib.hid hT
  have RA := Lib.hid (fun W' (hb : Below w.heap.size w W') => RdG.arg (P := fun g => g = w.heap.size ∨ (Value.slice none 0 0).ownBlock = some g) hF hS hR hb (fun g h => by
    rcases h with h | h
    · omega
    · simp [Value.ownBlock] at h))
  clear hT hF hS hR
  go_enter Tryz.func57, Tryz.ntmps57
  go_wp2_with fail
  obtain ⟨w0, hw0⟩ : ∃ w0, w0 = w.alloc (.cells #[.slice AF F.length cF, .slice AS S.length cS, .slice AR R.length cR, .int .i64 t, .int .i64 u, .iface 82 (.agg #[])] 80) := ⟨_, rfl⟩
  rw [← hw0]
  have ba0 : BoxAt w0 w.heap.size (.slice AF F.length cF) (.slice AS S.length cS) (.slice AR R.length cR) (.int .i64 t) (.int .i64 u) := by rw [hw0]; exact ⟨by simp, by simp, by simp, by simp, by simp, frozen_freshG w _ _⟩
  have p0 : w0.cell? ⟨w.heap.size, 5, none⟩ = some (.iface 82 (.agg #[])) := by rw [hw0]; simp
  have hb0 : Below w.heap.size w w0 := by rw [hw0]; go_grown
  clear hw0
  go_loopw [3] (fun v wr => ∃ (n2 : Nat) (AF2 : Option Addr) (cF2 : Nat) (F2 : List (Int × Int)) (AS2 : Option Addr) (cS2 : Nat) (S2 : List (Int × Int)) (AR2 : Option Addr) (cR2 : Nat) (R2 : List Int) (t2 u2 : Int) (L : List Mv) (A' : Option Addr) (c' : Nat), v = .slice A' L.length c' ∧ L ++ lineN bmL n2 F2 S2 R2 t2 u2 = T ∧ gameB F2 S2 R2 t2 u2 = true ∧ sizG F2 S2 u2 < n2 ∧ n2 ≤ n ∧ BoxAt wr w.heap.size (.slice AF2 F2.length cF2) (.slice AS2 S2.length cS2) (.slice AR2 R2.length cR2) (.int .i64 t2) (.int .i64 u2) ∧ wr.cell? ⟨w.heap.size, 5, none⟩ = some (.iface 82 (.agg #[])) ∧
      RdG wr (fun g => g = w.heap.size ∨ (Value.slice A' L.length c').ownBlock = some g) AF2 F2 AS2 S2 AR2 R2 ∧ wr.ownsRow (w.heap.size + 1) 64 3 (.slice A' L.length c') L.length (cellsE encI L) ∧ Below w.heap.size w wr) (fun v _ => T.length - lenV v)
  case atStart => exact ⟨n, AF, cF, F, AS, cS, S, AR, cR, R, t, u, [], none, 0, rfl, HT.out.symm, hg, hz, Nat.le_refl _, ba0, p0, RA.out w0 hb0, World.ownsRow_nil _ _ _ _, hb0⟩
  case round =>
    clear ba0 p0 hb0 RA HT hg hz
    obtain ⟨n2, AF2, cF2, F2, AS2, cS2, S2, AR2, cR2, R2, t2, u2, L, A', c', rfl, hL, hg2, hz2, hn2, ba, p5, rg, hown, hb⟩ := hrel
    have conO := fun W => c_isOver AF2 F2.length cF2 AS2 S2.length cS2 AR2 R2.length cR2 t2 u2 W
    have x0 := ba.c0
    have x1 := ba.c1
    have x2 := ba.c2
    have x3 := ba.c3
    have x4 := ba.c4
    have hlw := ba.lt
    cases ho : overB F2.length S2.length u2
    · obtain ⟨n3, rfl⟩ : ∃ k, n2 = k + 1 := ⟨n2 - 1, by omega⟩
      rw [lineN_step bmL n3 R2 t2 ho] at hL
      simp only [ho] at conO
      have ConO := Lib.hid conO
      obtain ⟨r, hr⟩ := bmL_ne (n := n3) (t := t2) (R := R2) hg2 ho
      have hmv := bmL_in (hd_mem hr)
      have hbg := behind_good hg2 hmv
      have conC := fun W (hb : Below wr.heap.size wr W) => c_choices n3 AF2 cF2 F2 AS2 cS2 S2 AR2 cR2 R2 t2 u2 W (rg.keep hb).now.1 (rg.keep hb).now.2.1 (rg.keep hb).now.2.2 hg2 hz2 (by omega)
      rw [choices_eq n3 hg2] at conC
      have conB := fun W (rF : RdT W AF2 F2) (rS : RdT W AS2 S2) (rR : RdI W AR2 R2) => c_behind AF2 cF2 F2 AS2 cS2 S2 AR2 cR2 R2 t2 u2 (hdM (bmL n3 F2 S2 R2 t2 u2)) W rF rS rR hg2 hmv
      generalize bmL n3 F2 S2 R2 t2 u2 = C at *
      generalize hdM C = m at *
      subst hr
      have hbz : sizG (behF F2 t2 m) (behS S2 t2 m) (behU u2 m) < n3 := by omega
      have hbg1 := hbg.1
      generalize behF F2 t2 m = F3 at *
      generalize behS S2 t2 m = S3 at *
      generalize behR R2 m = R3 at *
      generalize 1 - t2 = t3 at *
      generalize behU u2 m = u3 at *
      have hLl : L.length + 1 ≤ T.length := by rw [← hL]; simp
      have HL := Lib.hid hL
      have ConC := Lib.hid conC
      have ConB := Lib.hid conB
      have Hg := Lib.hid hbg1
      have Hz := Lib.hid hbz
      clear hL conC conB hbg hbg1 hbz hmv hg2 hz2 conO ho
      go_wp2_with fail
      refine (ConO.out _).mono ?_
      rintro e w1 ⟨rfl, h1⟩
      have ba1 := ba.keep h1
      have p1 := keepc h1 p5
      have rg1 := rg.keep h1
      have o1 := own_keep hown h1
      have hb1 := bstep hb h1
      clear x0 x1 x2 x3 x4 p5 rg hown hb ConO ba
      have x0 := ba1.c0
      have x1 := ba1.c1
      have x2 := ba1.c2
      have x3 := ba1.c3
      have x4 := ba1.c4
      go_wp2_with fail
      refine (ConC.out w1 h1).mono ?_
      rintro e w2 ⟨A2, c2, rfl, o2, h2⟩
      have r2 := RdE.of_own encI_len o2
      obtain ⟨bm, om, rfl, hbm, hcm⟩ := r2.at_ (k := 0) (by simp)
      have g0 : w2.cell? ⟨bm, om, none⟩ = some (.int .i64 m.1) := by have := hcm 0 (by simp) 0 _ rfl; simpa using this
      have g1 : w2.cell? ⟨bm, om + 1, none⟩ = some (.int .i64 m.2.1) := by have := hcm 0 (by simp) 1 _ rfl; simpa using this
      have g2 : w2.cell? ⟨bm, om + 2, none⟩ = some (.string (endS m.2.2)) := by have := hcm 0 (by simp) 2 _ rfl; simpa using this
      have ba2 := ba1.keep h2
      have p2 := keepc h2 p1
      have rg2 := rg1.keep h2
      have hN2 := fun g hg => (o1.lt g hg).2
      have s2 := h2.size
      have ow2 := own_keep o1 h2
      have hb2 := bstep hb1 h2
      clear x0 x1 x2 x3 x4 p1 rg1 hb1 ConC ba1 hcm o2 r2 o1
      go_upto_region 4 with (fail)
      obtain ⟨w3, hw3⟩ : ∃ w3, w3 = w2.alloc (.cells #[.int .i64 m.1, .int .i64 m.2.1, .string (endS m.2.2)] 64) := ⟨_, rfl⟩
      rw [← hw3]
      have q0 : w3.cell? ⟨w2.heap.size, 0, none⟩ = some (.int .i64 m.1) := by rw [hw3]; simp
      have q1 : w3.cell? ⟨w2.heap.size, 1, none⟩ = some (.int .i64 m.2.1) := by rw [hw3]; simp
      have q2 : w3.cell? ⟨w2.heap.size, 2, none⟩ = some (.string (endS m.2.2)) := by rw [hw3]; simp
      have h3 : Below w2.heap.size w2 w3 := by rw [hw3]; exact (Below.refl _ _).alloc (Nat.le_refl _) _
      have s3 : w2.heap.size < w3.heap.size := by rw [hw3]; simp
      clear hw3
      have ba3 := ba2.keep h3
      have p3 := keepc h3 p2
      have rg3 := rg2.keep h3
      have HO3 := Lib.hid (own_keep ow2 h3)
      have HB3 := Lib.hid (bstep hb2 h3)
      have hl3 := ba3.lt
      have hs3 := HB3.out.size
      clear ba2 p2 rg2 ow2 hb2 g0 g1 g2 h3
      go_upto_region 5 with (first | (at_builtin; refine wp_append_M rfl _ _ rfl (w.heap.size + 1) _ L rfl (own_keep HO3.out ((Below.refl _ _).alloc (Nat.le_refl _) _)) m w3.heap.size rfl (by simp) (by simp) (by simp) (by omega) (by (try simp); omega) ?_; intro A6 c6 w6 o6 gr6 h6))
      have bA : Below w3.heap.size w3 (w3.alloc (.cells #[.int .i64 m.1, .int .i64 m.2.1, .string (endS m.2.2)] 64)) := (Below.refl _ _).alloc (Nat.le_refl _) _
      have hb6 := Below.grown (HB3.out.alloc hs3 _) gr6 (by simp; omega) (fun g hg => by have := (HO3.out.lt g hg).1; omega)
      have e6 := gr6.block w.heap.size (by simp; omega) (fun e => by have := (HO3.out.lt _ e.symm).1; omega)
      have e7 := gr6.block w2.heap.size (by simp; omega) (fun e => by have := hN2 _ e.symm; omega)
      have ba6 := (ba3.more _).of_block e6
      have p6 := (World.cell?_of_block (a := ⟨w.heap.size, 5, none⟩) e6).trans (keepc bA p3)
      have q60 := (World.cell?_of_block (a := ⟨w2.heap.size, 0, none⟩) e7).trans (keepc bA q0)
      have q61 := (World.cell?_of_block (a := ⟨w2.heap.size, 1, none⟩) e7).trans (keepc bA q1)
      have q62 := (World.cell?_of_block (a := ⟨w2.heap.size, 2, none⟩) e7).trans (keepc bA q2)
      have rg6 : RdG w6 (fun g => g = w.heap.size ∨ (Value.slice A6 (L ++ [m]).length c6).ownBlock = some g) AF2 F2 AS2 S2 AR2 R2 := RdG.grown (rg3.keep bA) gr6 (fun g h => .inr h) (fun g h => by
        rcases h with h | h
        · exact .inl (.inl h)
        · rcases h6 with h7 | h7
          · exact .inl (.inr (h7 ▸ h))
          · rw [h7] at h; exact .inr (Nat.le_of_eq (Option.some.inj h)))
      have hl6 := ba6.lt
      have HO6 := Lib.hid o6
      have rr := rg6.now
      clear ba3 p3 rg3 HO3 q0 q1 q2 e6 e7 gr6 h6 o6 bA rg6
      have x0 := ba6.c0
      have x1 := ba6.c1
      have x2 := ba6.c2
      have x3 := ba6.c3
      have x4 := ba6.c4
      go_wp2_with fail
      refine (ConB.out w6 rr.1 rr.2.1 rr.2.2).mono ?_
      rintro e w7 ⟨A3, c3, A4, c4, A5, c5, rfl, o7, h7⟩
      have ba7 := ba6.keep h7
      have p7 := keepc h7 p6
      have rg7 : RdG w7 (fun g => g = w.heap.size ∨ (Value.slice A6 (L ++ [m]).length c6).ownBlock = some g) A3 F3 A4 S3 A5 R3 := RdG.own o7 (fun g h => by
        rcases h with h | h
        · omega
        · exact (HO6.out.lt g h).2)
      have HO7 := Lib.hid (own_keep HO6.out h7)
      have HB7 := Lib.hid (bstep hb6 h7)
      have Rg7 := Lib.hid rg7
      have hl7 := ba7.lt
      clear x0 x1 x2 x3 x4 rg7 o7 ba6 p6 q60 q61 q62 hb6 HO6 rr
      have x0 := ba7.c0
      have x1 := ba7.c1
      have x2 := ba7.c2
      have x3 := ba7.c3
      have x4 := ba7.c4
      have z0 := ba7.fz 0
      have z1 := ba7.fz 1
      have z2 := ba7.fz 2
      have z3 := ba7.fz 3
      have z4 := ba7.fz 4
      have z5 := ba7.fz 5
      go_wp2
      go_roundw
      case rel =>
        refine ⟨n3, A3, c3, F3, A4, c4, S3, A5, c5, R3, t3, u3, L ++ [m], A6, c6, by first | rfl | simp, by rw [← HL.out]; simp, Hg.out, Hz.out, by omega, ((((ba7.set0 _).set1 _).set2 _).set3 _).set4 _, samG (by omega) (samG (by omega) (samG (by omega) (samG (by omega) (samG (by omega) p7)))), ((((Rg7.out.set (.inl rfl)).set (.inl rfl)).set (.inl rfl)).set (.inl rfl)).set (.inl rfl), own_box (own_box (own_box (own_box (own_box HO7.out (by omega)) (by omega)) (by omega)) (by omega)) (by omega), below_box (below_box (below_box (below_box (below_box HB7.out (by omega)) (by omega)) (by omega)) (by omega)) (by omega)⟩
      case measure => simp [lenV]; omega
    · rw [lineN_over bmL n2 R2 t2 ho, List.append_nil] at hL
      simp only [ho] at conO
      have ConO := Lib.hid conO
      subst hL
      have Ho := Lib.hid hown
      have Hb := Lib.hid hb
      clear conO rg hown hb ho
      go_wp2_with fail
      refine (ConO.out _).mono ?_
      rintro e w1 ⟨rfl, h1⟩
      have Ho1 := Lib.hid (own_base (own_keep Ho.out h1) (Nat.le_succ _))
      have Hb1 := Lib.hid (bstep Hb.out h1)
      go_wp2
      go_ret
      exact ⟨A', c', rfl, Ho1.out, Hb1.out⟩

end Go.Proofs.YtgjdpiooocpmhabGreatDoor

/- The points of best play: both sides. -/
import Derived.Test.YtgjdpiooocpmhabGreatDoorMakeA
import Derived.Test.YtgjdpiooocpmhabGreatDoorBehA
import Derived.Test.YtgjdpiooocpmhabGreatDoorGamP
import Derived.Deep.Cut
import Derived.BigQuiet
namespace Go.Proofs.YtgjdpiooocpmhabGreatDoor
open Go.RowKit
set_option linter.unusedVariables false

/-- The best of the points so far, for the one whose turn it is. -/
def bstS (t : Int) (b x : Int) : Int := if t = 0 then max b x else min b x
def bstL (t : Int) : List Int → Int
  | [] => 0
  | x :: r => r.foldl (bstS t) x
theorem bstL_one (t x : Int) : bstL t [x] = x := rfl
theorem bstL_snoc (t : Int) {xs : List Int} (h : xs ≠ []) (x : Int) : bstL t (xs ++ [x]) = bstS t (bstL t xs) x := by
  cases xs with
  | nil => exact absurd rfl h
  | cons y r =>
    show (r ++ [x]).foldl (bstS t) y = bstS t (r.foldl (bstS t) y) x
    rw [List.foldl_append]
    rfl
def bstN : Nat → List (Int × Int) → List (Int × Int) → List Int → Int → Int → Int
  | 0, _, _, _, _, _ => 0
  | n + 1, F, S, R, t, u => if overB F.length S.length u then pipsI S - pipsI F else bstL t ((movesL F S R t u).map fun m => bstN n (behF F t m) (behS S t m) (behR R m) (1 - t) (behU u m))
def sidV (t : Int) : Int := 1 - 2 * t
theorem bstL_bd (t : Int) {B : Int} (hB : 0 ≤ B) : ∀ (xs : List Int), (∀ x ∈ xs, -B ≤ x ∧ x ≤ B) → -B ≤ bstL t xs ∧ bstL t xs ≤ B := by
  intro xs h
  cases xs with
  | nil => exact ⟨by show -B ≤ 0; omega, hB⟩
  | cons y r =>
    show -B ≤ r.foldl (bstS t) y ∧ r.foldl (bstS t) y ≤ B
    have hy := h y (by simp)
    have hr : ∀ x ∈ r, -B ≤ x ∧ x ≤ B := fun x hx => h x (by simp [hx])
    clear h
    induction r generalizing y with
    | nil => exact hy
    | cons z r ih =>
      rw [List.foldl_cons]
      have hz := hr z (by simp)
      refine ih _ ?_ (fun x hx => hr x (by simp [hx]))
      unfold bstS
      split <;> omega
theorem pips_bd {F : List (Int × Int)} (h : handB F = true) : 0 ≤ pipsI F ∧ pipsI F ≤ 990 := by
  have b := pipsI_bd (handB_good h).2 F.length (Nat.le_refl _)
  rw [List.take_length] at b
  have m := (handB_good h).1
  omega
theorem bstN_bd : ∀ (n : Nat) {F S : List (Int × Int)} {R : List Int} {t u : Int}, gameB F S R t u = true → -990 ≤ bstN n F S R t u ∧ bstN n F S R t u ≤ 990
  | 0, _, _, _, _, _, _ => ⟨by show (-990 : Int) ≤ 0; decide, by show (0 : Int) ≤ 990; decide⟩
  | n + 1, F, S, R, t, u, hg => by
    have gp := gameB_parts hg
    unfold bstN
    split
    · have a := pips_bd gp.2.2.1
      have b := pips_bd gp.2.2.2.1
      omega
    · refine bstL_bd t (by omega) _ (fun x hx => ?_)
      obtain ⟨m, hm, rfl⟩ := List.mem_map.1 hx
      exact bstN_bd n (behind_good hg hm).1
theorem moves_some {F S : List (Int × Int)} {R : List Int} {t u : Int} (h : overB F.length S.length u = false) : movesL F S R t u ≠ [] := by
  unfold movesL
  rw [h]
  simp only [Bool.false_eq_true, if_false]
  split
  · simp
  · rename_i h1
    intro h2
    apply h1
    rw [h2]
    rfl

set_option maxRecDepth 100000 in
set_option maxHeartbeats 2000000 in
theorem c_plBest : ∀ (n : Nat) (AF : Option Addr) (cF : Nat) (F : List (Int × Int)) (AS : Option Addr) (cS : Nat) (S : List (Int × Int)) (AR : Option Addr) (cR : Nat) (R : List Int) (t u : Int) (w : World) (hF : RdT w AF F) (hS : RdT w AS S) (hR : RdI w AR R) (hg : gameB F S R t u = true) (hz : sizG F S u < n) (hn : n ≤ 1000000),
    Calls Tryz.prog 59 #[.agg #[.slice AF F.length cF, .slice AS S.length cS, .slice AR R.length cR, .int .i64 t, .int .i64 u]] w fun e w' => e = .returned (.int .i64 (bstN n F S R t u)) ∧ Below w.heap.size w w'
  | 0, AF, cF, F, AS, cS, S, AR, cR, R, t, u, w, hF, hS, hR, hg, hz, hn => by omega
  | n + 1, AF, cF, F, AS, cS, S, AR, cR, R, t, u, w, hF, hS, hR, hg, hz, hn => by
    obtain ⟨lF, lS, lR, ht2⟩ := game_len hg
    have gp := gameB_parts hg
    have conO := fun W => c_plOver AF F.length cF AS S.length cS AR R.length cR t u W
    cases ho : overB F.length S.length u
    · have en : bstN (n + 1) F S R t u = bstL t ((movesL F S R t u).map fun m => bstN n (behF F t m) (behS S t m) (behR R m) (1 - t) (behU u m)) := by rw [bstN, ho]; rfl
      rw [en]
      have hne := moves_some (R := R) (t := t) ho
      simp only [ho] at conO
      have conM := Lib.hid (fun W (hb : Below w.heap.size w W) => c_plMoves AF cF F AS cS S AR cR R t u W (hF.below hb) (hS.below hb) (hR.below hb) gp.2.2.1 gp.2.2.2.1 (by omega))
      have conB := Lib.hid (fun m (hm : m ∈ movesL F S R t u) W (hb : Below w.heap.size w W) => makeP AF cF F AS cS S AR cR R t u m W (hF.below hb) (hS.below hb) (hR.below hb) hg hm)
      have conI := Lib.hid (fun m (hm : m ∈ movesL F S R t u) (A1 : Option Addr) (c1 : Nat) (A2 : Option Addr) (c2 : Nat) (A3 : Option Addr) (c3 : Nat) W (rF : RdT W A1 (behF F t m)) (rS : RdT W A2 (behS S t m)) (rR : RdI W A3 (behR R m)) => c_plBest n A1 c1 (behF F t m) A2 c2 (behS S t m) A3 c3 (behR R m) (1 - t) (behU u m) W rF rS rR (behind_good hg hm).1 (by have := (behind_good hg hm).2; omega) (by omega))
      have hbd := Lib.hid (fun m (hm : m ∈ movesL F S R t u) => bstN_bd n (behind_good hg hm).1)
      have ml := movesL_len F S R t u
      generalize hM : movesL F S R t u = M at *
      obtain ⟨bst, hbst⟩ : ∃ bst : Nat → Int, bst = fun k => bstL t ((M.take k).map fun m => bstN n (behF F t m) (behS S t m) (behR R m) (1 - t) (behU u m)) := ⟨_, rfl⟩
      have hbz : bst 0 = 0 := by rw [hbst]; rfl
      have hbl : bstL t (M.map fun m => bstN n (behF F t m) (behS S t m) (behR R m) (1 - t) (behU u m)) = bst M.length := by rw [hbst]; simp only [List.take_length]
      have hbs1 : Hid (∀ (h : 0 < M.length), bst 1 = (fun m => bstN n (behF F t m) (behS S t m) (behR R m) (1 - t) (behU u m)) M[0]) := Lib.hid (fun h => by rw [hbst]; simp only; rw [List.take_succ_eq_append_getElem h]; rfl)
      have hbs : Hid (∀ k (h : k < M.length), 0 < k → bst (k + 1) = bstS t (bst k) ((fun m => bstN n (behF F t m) (behS S t m) (behR R m) (1 - t) (behU u m)) M[k])) := Lib.hid (fun k h h0 => by
        rw [hbst]
        simp only
        rw [List.take_succ_eq_append_getElem h, List.map_append, List.map_singleton, bstL_snoc t (by
          intro e
          have := congrArg List.length e
          rw [List.length_map, List.length_take] at this
          simp only [List.length_nil] at this
          omega)])
      have hbb : Hid (∀ k, -990 ≤ bst k ∧ bst k ≤ 990) := Lib.hid (fun k => by
        rw [hbst]
        refine bstL_bd t (by omega) _ (fun x hx => ?_)
        obtain ⟨m, hm, rfl⟩ := List.mem_map.1 hx
        exact hbd.out m (List.mem_of_mem_take hm))
      have hpos : 0 < M.length := List.length_pos_iff.2 hne
      rw [hbl]
      clear hbst hbl hM en ho hF hS hR hg hz gp hne
      go_enter Tryz.func59, Tryz.ntmps59
      go_wp2_with fail
      obtain ⟨w0, hw0⟩ : ∃ w0, w0 = w.alloc (.cells #[.slice AF F.length cF, .slice AS S.length cS, .slice AR R.length cR, .int .i64 t, .int .i64 u] 32) := ⟨_, rfl⟩
      rw [← hw0]
      have ba0 : BoxAt w0 w.heap.size (.slice AF F.length cF) (.slice AS S.length cS) (.slice AR R.length cR) (.int .i64 t) (.int .i64 u) := by rw [hw0]; exact BoxAt.fresh w _ _ _ _ _ _
      have hb0 : Below w.heap.size w w0 := by rw [hw0]; go_grown
      clear hw0
      refine (conO w0).mono ?_
      rintro e w1 ⟨rfl, h1⟩
      have hb1 := bstep hb0 h1
      have ba1 := ba0.keep h1
      clear ba0
      have x0 := ba1.c0
      have x1 := ba1.c1
      have x2 := ba1.c2
      have x3 := ba1.c3
      have x4 := ba1.c4
      go_wp2_with fail
      refine (conM.out w1 hb1).mono ?_
      rintro e w2 ⟨A2, c2, rfl, o2, h2⟩
      have hb2 := bstep hb1 h2
      have ba2 := ba1.keep h2
      have r2 := RdE.of_own encS_len o2
      clear x0 x1 x2 x3 x4 ba1 o2 conM conO
      go_wp2
      go_loopw [3, 14] (fun v i wr => ∃ k : Nat, k ≤ M.length ∧ i = .int .i64 k ∧ v = .int .i64 (bst k) ∧ Below w2.heap.size w2 wr) (fun _ i _ => M.length - (intOf i).toNat)
      case atStart => exact ⟨0, Nat.zero_le _, rfl, by rw [hbz], Below.refl _ _⟩
      case round =>
        obtain ⟨k, hk, rfl, rfl, hb⟩ := hrel
        by_cases hlt : k < M.length
        · obtain ⟨bm, om, rfl, hbm, hcm⟩ := r2.at_ hlt
          have g0 := keepc hb (hcm k hlt 0 _ rfl)
          have g1 := keepc hb (hcm k hlt 1 _ rfl)
          have g2 := keepc hb (hcm k hlt 2 _ rfl)
          have g3 := keepc hb (hcm k hlt 3 _ rfl)
          rw [Nat.add_zero] at g0
          have hst := fun h0 => hbs.out k hlt h0
          have hst1 := fun (h0 : k = 0) => show bst (k + 1) = (fun m => bstN n (behF F t m) (behS S t m) (behR R m) (1 - t) (behU u m)) M[k] by subst h0; exact hbs1.out hlt
          have hmem : M[k] ∈ M := List.getElem_mem hlt
          generalize M[k] = m at *
          have bar := ba2.keep hb
          have x0 := bar.c0
          have x1 := bar.c1
          have x2 := bar.c2
          have x3 := bar.c3
          have x4 := bar.c4
          have hlw := bar.lt
          have hbr := bstep hb2 hb
          have conB2 := Lib.hid (conB.out m hmem)
          have conI2 := Lib.hid (conI.out m hmem)
          simp only at hst hst1
          generalize bstN n (behF F t m) (behS S t m) (behR R m) (1 - t) (behU u m) = y at *
          generalize bst k = b at *
          have Hst := Lib.hid hst
          have Hst1 := Lib.hid hst1
          clear hcm conB conI hst hst1
          generalize (m.2.2 == 1) = p1 at *
          generalize (m.2.2 == 0) = p0 at *
          have hk3 : k = 0 ∨ (0 < k ∧ t = 0 ∧ b < y) ∨ (0 < k ∧ t = 0 ∧ ¬ b < y) ∨ (0 < k ∧ t = 1 ∧ y < b) ∨ (0 < k ∧ t = 1 ∧ ¬ y < b) := by omega
          rcases hk3 with e | ⟨e, et, eb⟩ | ⟨e, et, eb⟩ | ⟨e, et, eb⟩ | ⟨e, et, eb⟩
          all_goals
            have He := Lib.hid e
            first | (have hnew : bst (k + 1) = y := Hst1.out e) | (have hnew : bst (k + 1) = bstS t b y := Hst.out e)
            first | (have Het := Lib.hid et) | skip
            have hk0 : ((k : Int) == 0) = decide (k = 0) := by by_cases h : k = 0 <;> simp [h]
            first | (have t0 : (t == 0) = true := by rw [et]; rfl) | (have t0 : (t == 0) = false := by rw [et]; rfl) | skip
            first | (have t1 : (t == 1) = true := by rw [et]; rfl) | (have t1 : (t == 1) = false := by rw [et]; rfl) | skip
            first | (have hk1 : decide (k = 0) = true := decide_eq_true e) | (have hk1 : decide (k = 0) = false := decide_eq_false (by omega))
            rw [hk1] at hk0
            have Hnew := Lib.hid hnew
            clear hnew hk1 Hst Hst1
            first | (clear et; done) | (clear et) | skip
            clear e
            go_wp2_with fail
            refine (conB2.out _ (hbr.alloc hbr.size _)).mono ?_
            rintro e w3 ⟨A3, c3, A4, c4, A5, c5, rfl, o3, h3⟩
            have hb3 := bstep ((Below.refl wr.heap.size wr).alloc (Nat.le_refl _) (.cells #[.int .i64 m.1, .int .i64 m.2.1, .bool p1, .bool p0] 70)) h3
            have ba3 := bar.keep hb3
            go_wp2_with fail
            refine (conI2.out A3 c3 A4 c4 A5 c5 w3 (RdT.of_own o3.f) (RdT.of_own o3.s) (RdI.of_own o3.r)).mono ?_
            rintro e w4 ⟨rfl, h4⟩
            have hb4 := bstep hb3 h4
            have ba4 := ba3.keep h4
            have z3 := ba4.c3
            clear o3 conB2 conI2 x0 x1 x2 x3 x4 bar ba3
            go_wp2
            go_roundw
            case rel => exact ⟨k + 1, by omega, by go_num, by first | (rw [Hnew.out]; done) | (rw [Hnew.out]; have := Het.out; unfold bstS; subst this; first | (rw [if_pos rfl]; go_num) | (rw [if_neg (by decide)]; go_num)), bstep hb hb4⟩
            case measure => simp [intOf]; omega
        · have : k = M.length := by omega
          subst this
          go_wp2
          go_ret
          exact ⟨rfl, bstep hb2 hb⟩
    · have en : bstN (n + 1) F S R t u = pipsI S - pipsI F := by rw [bstN, ho]; rfl
      rw [en]
      simp only [ho] at conO
      have conP := Lib.hid (fun W (hb : Below w.heap.size w W) => c_plPoints AF cF F AS cS S AR cR R t u W (hF.below hb) (hS.below hb) gp.2.2.1 gp.2.2.2.1)
      clear en ho hF hS hR hg hz gp ht2
      go_enter Tryz.func59, Tryz.ntmps59
      go_wp2_with fail
      obtain ⟨w0, hw0⟩ : ∃ w0, w0 = w.alloc (.cells #[.slice AF F.length cF, .slice AS S.length cS, .slice AR R.length cR, .int .i64 t, .int .i64 u] 32) := ⟨_, rfl⟩
      rw [← hw0]
      have ba0 : BoxAt w0 w.heap.size (.slice AF F.length cF) (.slice AS S.length cS) (.slice AR R.length cR) (.int .i64 t) (.int .i64 u) := by rw [hw0]; exact BoxAt.fresh w _ _ _ _ _ _
      have hb0 : Below w.heap.size w w0 := by rw [hw0]; go_grown
      clear hw0
      refine (conO w0).mono ?_
      rintro e w1 ⟨rfl, h1⟩
      have hb1 := bstep hb0 h1
      have ba1 := ba0.keep h1
      clear ba0
      have x0 := ba1.c0
      have x1 := ba1.c1
      have x2 := ba1.c2
      have x3 := ba1.c3
      have x4 := ba1.c4
      go_wp2_with fail
      refine (conP.out w1 hb1).mono ?_
      rintro e w2 ⟨rfl, h2⟩
      have hb2 := bstep hb1 h2
      go_wp2
      go_ret
      exact ⟨rfl, hb2⟩

set_option maxHeartbeats 1000000 in
theorem c_side (AF : Option Addr) (cF : Nat) (F : List (Int × Int)) (AS : Option Addr) (cS : Nat) (S : List (Int × Int)) (AR : Option Addr) (cR : Nat) (R : List Int) (t u : Int) (w : World) (ht : t = 0 ∨ t = 1) : Calls Tryz.prog 172 #[.agg #[.slice AF F.length cF, .slice AS S.length cS, .slice AR R.length cR, .int .i64 t, .int .i64 u]] w fun e w' => e = .returned (.int .i64 (sidV t)) ∧ Below w.heap.size w w' := by
  rcases ht with rfl | rfl
  all_goals
    go_enter Tryz.func172, Tryz.ntmps172
    go_wp2
    go_ret
    exact ⟨rfl, by go_grown⟩

theorem sid_mul {t x : Int} (ht : t = 0 ∨ t = 1) (h1 : -990 ≤ x) (h2 : x ≤ 990) : IntKind.i64.wrap (sidV t * x) = sidV t * x ∧ -990 ≤ sidV t * x ∧ sidV t * x ≤ 990 := by
  rcases ht with rfl | rfl
  · show IntKind.i64.wrap (1 * x) = 1 * x ∧ -990 ≤ 1 * x ∧ 1 * x ≤ 990
    rw [Int.one_mul]
    exact ⟨IntWalk.i64_in _ (by omega), h1, h2⟩
  · show IntKind.i64.wrap (-1 * x) = -1 * x ∧ -990 ≤ -1 * x ∧ -1 * x ≤ 990
    have e : (-1 : Int) * x = -x := by omega
    rw [e]
    exact ⟨IntWalk.i64_in _ (by omega), by omega, by omega⟩
theorem sid_turn {t y : Int} (ht : t = 0 ∨ t = 1) : -(sidV (1 - t) * y) = sidV t * y := by
  rcases ht with rfl | rfl
  · show -(-1 * y) = 1 * y; omega
  · show -(1 * y) = -1 * y; omega
theorem sid_max {t b y : Int} (ht : t = 0 ∨ t = 1) : max (sidV t * b) (sidV t * y) = sidV t * bstS t b y := by
  rcases ht with rfl | rfl
  · show max (1 * b) (1 * y) = 1 * (if (0 : Int) = 0 then max b y else min b y)
    rw [if_pos rfl]; omega
  · show max (-1 * b) (-1 * y) = -1 * (if (1 : Int) = 0 then max b y else min b y)
    rw [if_neg (by decide)]; omega

set_option maxRecDepth 100000 in
set_option maxHeartbeats 2000000 in
theorem c_worth (AF : Option Addr) (cF : Nat) (F : List (Int × Int)) (AS : Option Addr) (cS : Nat) (S : List (Int × Int)) (AR : Option Addr) (cR : Nat) (R : List Int) (t u : Int) (m : Mv) (y : Int) (hy : -990 ≤ y ∧ y ≤ 990) (w : World) (conB : Calls Tryz.prog 48 #[.agg #[.slice AF F.length cF, .slice AS S.length cS, .slice AR R.length cR, .int .i64 t, .int .i64 u], .agg #[.int .i64 m.1, .int .i64 m.2.1, .string (endS m.2.2)]] (((w.alloc (.cells #[] 82)).alloc (.cells #[.slice AF F.length cF, .slice AS S.length cS, .slice AR R.length cR, .int .i64 t, .int .i64 u] 32)).alloc (.cells #[.int .i64 m.1, .int .i64 m.2.1, .string (endS m.2.2)] 64)) (RetG (((w.alloc (.cells #[] 82)).alloc (.cells #[.slice AF F.length cF, .slice AS S.length cS, .slice AR R.length cR, .int .i64 t, .int .i64 u] 32)).alloc (.cells #[.int .i64 m.1, .int .i64 m.2.1, .string (endS m.2.2)] 64)) (behF F t m) (behS S t m) (behR R m) (1 - t) (behU u m))) (conI : ∀ A1 c1 A2 c2 A3 c3 W, RdT W A1 (behF F t m) → RdT W A2 (behS S t m) → RdI W A3 (behR R m) → Calls Tryz.prog 169 #[.agg #[.slice A1 (behF F t m).length c1, .slice A2 (behS S t m).length c2, .slice A3 (behR R m).length c3, .int .i64 (1 - t), .int .i64 (behU u m)]] W fun e w' => e = .returned (.int .i64 y) ∧ Below W.heap.size W w') :
    Calls Tryz.prog 171 #[.agg #[], .agg #[.slice AF F.length cF, .slice AS S.length cS, .slice AR R.length cR, .int .i64 t, .int .i64 u], .agg #[.int .i64 m.1, .int .i64 m.2.1, .string (endS m.2.2)]] w fun e w' => e = .returned (.int .i64 (-y)) ∧ Below w.heap.size w w' := by
  have ConB := Lib.hid conB
  have ConI := Lib.hid conI
  clear conB conI
  generalize endS m.2.2 = es at *
  go_enter Tryz.func171, Tryz.ntmps171
  go_wp2_with fail
  refine ConB.out.mono ?_
  rintro e w1 ⟨A3, c3, A4, c4, A5, c5, rfl, o3, h1⟩
  have hb1 : Below w.heap.size w w1 := bstep ((((Below.refl w.heap.size w).alloc (Nat.le_refl _) _).alloc (by simp) _).alloc (by simp; omega) _) h1
  go_wp2_with fail
  refine (ConI.out A3 c3 A4 c4 A5 c5 w1 (RdT.of_own o3.f) (RdT.of_own o3.s) (RdI.of_own o3.r)).mono ?_
  rintro e w2 ⟨rfl, h2⟩
  have hb2 := bstep hb1 h2
  clear o3 ConB ConI
  go_wp2
  go_ret
  exact ⟨(by first | rfl | (exact ret_i (by omega))), hb2⟩

set_option maxRecDepth 100000 in
set_option maxHeartbeats 2000000 in
theorem c_bestGain : ∀ (n : Nat) (AF : Option Addr) (cF : Nat) (F : List (Int × Int)) (AS : Option Addr) (cS : Nat) (S : List (Int × Int)) (AR : Option Addr) (cR : Nat) (R : List Int) (t u : Int) (w : World) (hF : RdT w AF F) (hS : RdT w AS S) (hR : RdI w AR R) (hg : gameB F S R t u = true) (hz : sizG F S u < n) (hn : n ≤ 1000000),
    Calls Tryz.prog 169 #[.agg #[.slice AF F.length cF, .slice AS S.length cS, .slice AR R.length cR, .int .i64 t, .int .i64 u]] w fun e w' => e = .returned (.int .i64 (sidV t * bstN n F S R t u)) ∧ Below w.heap.size w w'
  | 0, AF, cF, F, AS, cS, S, AR, cR, R, t, u, w, hF, hS, hR, hg, hz, hn => by omega
  | n + 1, AF, cF, F, AS, cS, S, AR, cR, R, t, u, w, hF, hS, hR, hg, hz, hn => by
    obtain ⟨lF, lS, lR, ht2⟩ := game_len hg
    have gp := gameB_parts hg
    have conO := fun W => c_isOver AF F.length cF AS S.length cS AR R.length cR t u W
    cases ho : overB F.length S.length u
    · have en : bstN (n + 1) F S R t u = bstL t ((movesL F S R t u).map fun m => bstN n (behF F t m) (behS S t m) (behR R m) (1 - t) (behU u m)) := by rw [bstN, ho]; rfl
      rw [en]
      have hne := moves_some (R := R) (t := t) ho
      simp only [ho] at conO
      have conM := Lib.hid (fun W (hb : Below w.heap.size w W) => c_gMoves AF cF F AS cS S AR cR R t u W (hF.below hb) (hS.below hb) (hR.below hb) gp.2.2.1 gp.2.2.2.1 (by omega) ht2)
      have conB := Lib.hid (fun m (hm : m ∈ movesL F S R t u) W (hb : Below w.heap.size w W) => c_behind AF cF F AS cS S AR cR R t u m W (hF.below hb) (hS.below hb) (hR.below hb) hg hm)
      have conI := Lib.hid (fun m (hm : m ∈ movesL F S R t u) (A1 : Option Addr) (c1 : Nat) (A2 : Option Addr) (c2 : Nat) (A3 : Option Addr) (c3 : Nat) W (rF : RdT W A1 (behF F t m)) (rS : RdT W A2 (behS S t m)) (rR : RdI W A3 (behR R m)) => c_bestGain n A1 c1 (behF F t m) A2 c2 (behS S t m) A3 c3 (behR R m) (1 - t) (behU u m) W rF rS rR (behind_good hg hm).1 (by have := (behind_good hg hm).2; omega) (by omega))
      have hbd := Lib.hid (fun m (hm : m ∈ movesL F S R t u) => bstN_bd n (behind_good hg hm).1)
      have ml := movesL_len F S R t u
      generalize hM : movesL F S R t u = M at *
      obtain ⟨bst, hbst⟩ : ∃ bst : Nat → Int, bst = fun k => bstL t ((M.take k).map fun m => bstN n (behF F t m) (behS S t m) (behR R m) (1 - t) (behU u m)) := ⟨_, rfl⟩
      have hbz : bst 0 = 0 := by rw [hbst]; rfl
      have hbl : bstL t (M.map fun m => bstN n (behF F t m) (behS S t m) (behR R m) (1 - t) (behU u m)) = bst M.length := by rw [hbst]; simp only [List.take_length]
      have hbs1 : Hid (∀ (h : 0 < M.length), bst 1 = (fun m => bstN n (behF F t m) (behS S t m) (behR R m) (1 - t) (behU u m)) M[0]) := Lib.hid (fun h => by rw [hbst]; simp only; rw [List.take_succ_eq_append_getElem h]; rfl)
      have hbs : Hid (∀ k (h : k < M.length), 0 < k → bst (k + 1) = bstS t (bst k) ((fun m => bstN n (behF F t m) (behS S t m) (behR R m) (1 - t) (behU u m)) M[k])) := Lib.hid (fun k h h0 => by
        rw [hbst]
        simp only
        rw [List.take_succ_eq_append_getElem h, List.map_append, List.map_singleton, bstL_snoc t (by
          intro e
          have := congrArg List.length e
          rw [List.length_map, List.length_take] at this
          simp only [List.length_nil] at this
          omega)])
      have hbb : Hid (∀ k, -990 ≤ bst k ∧ bst k ≤ 990) := Lib.hid (fun k => by
        rw [hbst]
        refine bstL_bd t (by omega) _ (fun x hx => ?_)
        obtain ⟨m, hm, rfl⟩ := List.mem_map.1 hx
        exact hbd.out m (List.mem_of_mem_take hm))
      have hpos : 0 < M.length := List.length_pos_iff.2 hne
      rw [hbl]
      clear hbst hbl hM en ho hF hS hR hg hz gp hne
      go_enter Tryz.func169, Tryz.ntmps169
      go_wp2_with fail
      obtain ⟨w0, hw0⟩ : ∃ w0, w0 = w.alloc (.cells #[.slice AF F.length cF, .slice AS S.length cS, .slice AR R.length cR, .int .i64 t, .int .i64 u] 32) := ⟨_, rfl⟩
      rw [← hw0]
      have ba0 : BoxAt w0 w.heap.size (.slice AF F.length cF) (.slice AS S.length cS) (.slice AR R.length cR) (.int .i64 t) (.int .i64 u) := by rw [hw0]; exact BoxAt.fresh w _ _ _ _ _ _
      have hb0 : Below w.heap.size w w0 := by rw [hw0]; go_grown
      clear hw0
      refine (conO w0).mono ?_
      rintro e w1 ⟨rfl, h1⟩
      have hb1 := bstep hb0 h1
      have ba1 := ba0.keep h1
      clear ba0
      have x0 := ba1.c0
      have x1 := ba1.c1
      have x2 := ba1.c2
      have x3 := ba1.c3
      have x4 := ba1.c4
      go_wp2_with fail
      refine (conM.out w1 hb1).mono ?_
      rintro e w2 ⟨A2, c2, rfl, o2, h2⟩
      have hb2 := bstep hb1 h2
      have ba2 := ba1.keep h2
      have r2 := RdE.of_own encI_len o2
      clear x0 x1 x2 x3 x4 ba1 o2 conM conO
      go_wp2
      go_loopw [3, 16] (fun v i wr => ∃ k : Nat, k ≤ M.length ∧ i = .int .i64 k ∧ v = .int .i64 (if k = 0 then -9223372036854775808 else sidV t * bst k) ∧ Below w2.heap.size w2 wr) (fun _ i _ => M.length - (intOf i).toNat)
      case atStart => exact ⟨0, Nat.zero_le _, rfl, rfl, Below.refl _ _⟩
      case round =>
        obtain ⟨k, hk, rfl, rfl, hb⟩ := hrel
        by_cases hlt : k < M.length
        · obtain ⟨bm, om, rfl, hbm, hcm⟩ := r2.at_ hlt
          have g0 := keepc hb (hcm k hlt 0 _ rfl)
          have g1 := keepc hb (hcm k hlt 1 _ rfl)
          have g2 := keepc hb (hcm k hlt 2 _ rfl)
          rw [Nat.add_zero] at g0
          have hst := fun h0 => hbs.out k hlt h0
          have hst1 := fun (h0 : k = 0) => show bst (k + 1) = (fun m => bstN n (behF F t m) (behS S t m) (behR R m) (1 - t) (behU u m)) M[k] by subst h0; exact hbs1.out hlt
          have hmem : M[k] ∈ M := List.getElem_mem hlt
          have hyb := hbd.out _ hmem
          have hbk := hbb.out k
          generalize M[k] = m at *
          have bar := ba2.keep hb
          have x0 := bar.c0
          have x1 := bar.c1
          have x2 := bar.c2
          have x3 := bar.c3
          have x4 := bar.c4
          have hlw := bar.lt
          have hbr := bstep hb2 hb
          have conB2 := Lib.hid (conB.out m hmem)
          have conI2 := Lib.hid (conI.out m hmem)
          simp only at hst hst1
          generalize bstN n (behF F t m) (behS S t m) (behR R m) (1 - t) (behU u m) = y at *
          generalize bst k = b at *
          have sm := sid_mul (x := y) (show 1 - t = 0 ∨ 1 - t = 1 by omega) hyb.1 hyb.2
          have st := sid_turn (y := y) ht2
          have smx := sid_max (b := b) (y := y) ht2
          have sb := sid_mul (x := b) ht2 hbk.1 hbk.2
          have sy := sid_mul (x := y) ht2 hyb.1 hyb.2
          have conW := Lib.hid (fun W (hb : Below w.heap.size w W) => c_worth AF cF F AS cS S AR cR R t u m (sidV (1 - t) * y) sm.2 W (conB2.out _ (((hb.alloc hb.size _).alloc (Nat.le_trans hb.size (by simp)) _).alloc (Nat.le_trans hb.size (by simp; omega)) _)) (fun A1 c1 A2 c2 A3 c3 W rF rS rR => conI2.out A1 c1 A2 c2 A3 c3 W rF rS rR))
          rw [st] at conW
          have hnew : sidV t * bst (k + 1) = if k = 0 then sidV t * y else max (sidV t * b) (sidV t * y) := by
            by_cases h0 : k = 0
            · rw [if_pos h0, hst1 h0]
            · rw [if_neg h0, hst (by omega), smx]
          have Hnew := Lib.hid hnew
          generalize sidV t * y = yy at *
          generalize sidV t * b = bb at *
          clear hcm conB conI hst hst1 hnew st smx sm
          generalize endS m.2.2 = es at *
          have Sb := Lib.hid (sb.2)
          have Sy := Lib.hid (sy.2)
          clear sb sy hbk hyb
          obtain ⟨G, hG⟩ : ∃ G : Int, (if k = 0 then (-9223372036854775808 : Int) else bb) = G := ⟨_, rfl⟩
          rw [hG]
          have HG := Lib.hid hG
          clear hG
          obtain ⟨G2, hG2⟩ : ∃ G2 : Int, max G yy = G2 := ⟨_, rfl⟩
          have HG2 := Lib.hid hG2
          go_wp2_with fail
          refine (conW.out _ (hbr.alloc hbr.size _)).mono ?_
          rintro e w3 ⟨rfl, h3⟩
          have hb3 := bstep ((Below.refl wr.heap.size wr).alloc (Nat.le_refl _) (.cells #[.int .i64 m.1, .int .i64 m.2.1, .string es] 64)) h3
          clear conW x0 x1 x2 x3 x4 bar
          go_wp2
          go_roundw
          case rel => exact ⟨k + 1, by omega, by go_num, by rw [if_neg (by omega), Hnew.out, ← HG2.out, ← HG.out]; by_cases h0 : k = 0 <;> simp only [h0, if_true, if_false] <;> (have := Sy.out; first | (congr 1; omega) | rfl | go_num), bstep hb hb3⟩
          case measure => simp [intOf]; omega
        · have : k = M.length := by omega
          subst this
          have h0 : M.length ≠ 0 := by omega
          have Hb := Lib.hid hb
          clear hb
          rw [if_neg h0]
          go_wp2
          go_ret
          exact ⟨rfl, bstep hb2 Hb.out⟩
    · have en : bstN (n + 1) F S R t u = pipsI S - pipsI F := by rw [bstN, ho]; rfl
      have hbn := bstN_bd (n + 1) hg
      rw [en] at hbn ⊢
      simp only [ho] at conO
      have conP := Lib.hid (fun W (hb : Below w.heap.size w W) => c_points AF cF F AS cS S AR cR R t u W (hF.below hb) (hS.below hb) gp.2.2.1 gp.2.2.2.1)
      have conS := Lib.hid (fun W => c_side AF cF F AS cS S AR cR R t u W ht2)
      generalize pipsI S - pipsI F = p at *
      have sm := Lib.hid (sid_mul (x := p) ht2 hbn.1 hbn.2)
      clear en ho hF hS hR hg hz gp hbn
      go_enter Tryz.func169, Tryz.ntmps169
      go_wp2_with fail
      obtain ⟨w0, hw0⟩ : ∃ w0, w0 = w.alloc (.cells #[.slice AF F.length cF, .slice AS S.length cS, .slice AR R.length cR, .int .i64 t, .int .i64 u] 32) := ⟨_, rfl⟩
      rw [← hw0]
      have ba0 : BoxAt w0 w.heap.size (.slice AF F.length cF) (.slice AS S.length cS) (.slice AR R.length cR) (.int .i64 t) (.int .i64 u) := by rw [hw0]; exact BoxAt.fresh w _ _ _ _ _ _
      have hb0 : Below w.heap.size w w0 := by rw [hw0]; go_grown
      clear hw0
      refine (conO w0).mono ?_
      rintro e w1 ⟨rfl, h1⟩
      have hb1 := bstep hb0 h1
      have ba1 := ba0.keep h1
      clear ba0
      have x0 := ba1.c0
      have x1 := ba1.c1
      have x2 := ba1.c2
      have x3 := ba1.c3
      have x4 := ba1.c4
      go_upto_region 2 with (fail)
      have hbd := hb1.drew
      go_region_held3 (fun w' => w'.cell? ⟨w.heap.size, 0, none⟩ = some (.slice AF F.length cF) ∧ w'.cell? ⟨w.heap.size, 1, none⟩ = some (.slice AS S.length cS) ∧ w'.cell? ⟨w.heap.size, 2, none⟩ = some (.slice AR R.length cR) ∧ w'.cell? ⟨w.heap.size, 3, none⟩ = some (.int .i64 t) ∧ w'.cell? ⟨w.heap.size, 4, none⟩ = some (.int .i64 u)) (first | exact ⟨z0, z1, z2, z3, z4⟩ | exact ⟨y0, y1, y2, y3, y4⟩ | exact ⟨x0, x1, x2, x3, x4⟩ | go_keep) (first | (go_at_call 173; refine (conP.out _ hb2).mono ?_; rintro e w3 ⟨rfl, h3⟩; have z0 := keepc h3 y0; have z1 := keepc h3 y1; have z2 := keepc h3 y2; have z3 := keepc h3 y3; have z4 := keepc h3 y4; have hb3 := bstep hb2 h3) | (go_at_call 172; refine (conS.out _).mono ?_; rintro e w2 ⟨rfl, h2⟩; have y0 := keepc h2 (gdG _ x0); have y1 := keepc h2 (gdG _ x1); have y2 := keepc h2 (gdG _ x2); have y3 := keepc h2 (gdG _ x3); have y4 := keepc h2 (gdG _ x4); have hb2 := bstep hbd h2))
      go_wp2
      go_ret
      exact ⟨(by first | rfl | exact ret_i sm.out.1), hb3⟩

end Go.Proofs.YtgjdpiooocpmhabGreatDoor

/- A tile laid in front of a chain or behind it. -/
import Derived.Test.YtghemmocbmkgiaaConc
import Derived.Test.YtghemmocbmkgiaaEnds
namespace Go.Proofs.Ytghemmocbmkgiaa
open Go.RowKit
set_option linter.unusedVariables false

def otherI (a b x : Int) : Int := if x = a then b else if x = b then a else -1
def endI (xs : List Int) (front : Bool) : Int := if front then xs.getD 0 0 else xs.getD (xs.length - 1) 0
def layOut (xs : List Int) (p : Int) (front : Bool) : List Int := if front then [p] ++ xs else xs ++ [p]
def layT (xs : List Int) (a b : Int) (front : Bool) : List Int := layOut xs (otherI a b (endI xs front)) front
def layB (xs : List Int) (a b : Int) (front : Bool) : Bool := chainB xs && (goodB a b && chainB (layT xs a b front))
def layHL (xs : List Int) (a b : Int) (front : Bool) : List Int := if layB xs a b front then layT xs a b front else []
theorem layHL_len (xs : List Int) (a b : Int) (front : Bool) : (layHL xs a b front).length ≤ 110 := by
  unfold layHL
  split
  · rename_i h
    unfold layB at h
    simp only [Bool.and_eq_true] at h
    have := chain_len h.2.2
    omega
  · simp
theorem lay_no {xs : List Int} {a b : Int} {front : Bool} (h : layB xs a b front = false) : layHL xs a b front = [] := by simp [layHL, h]
theorem lay_no1 {xs : List Int} {a b : Int} {front : Bool} (h : chainB xs = false) : layB xs a b front = false := by simp [layB, h]
theorem lay_no2 {xs : List Int} {a b : Int} {front : Bool} (h : goodB a b = false) : layB xs a b front = false := by simp [layB, h]
theorem lay_is {xs : List Int} {a b : Int} {front : Bool} (h1 : chainB xs = true) (h2 : goodB a b = true) : layB xs a b front = chainB (layT xs a b front) := by unfold layB; rw [h1, h2]; rfl
theorem lay_nofit {xs : List Int} {a b : Int} {front : Bool} (h1 : a ≠ endI xs front) (h2 : b ≠ endI xs front) : chainB (layT xs a b front) = false := by
  refine chain_bad' fun h => ?_
  have e : otherI a b (endI xs front) = -1 := by unfold otherI; rw [if_neg (fun e => h1 e.symm), if_neg (fun e => h2 e.symm)]
  have := h (-1) (by unfold layT layOut; rw [e]; split <;> simp)
  simp [numB] at this
theorem lay_fit {a b x : Int} (h : a = x ∨ b = x) : otherI a b x = a + b - x := by
  unfold otherI
  split
  · omega
  · split <;> omega

set_option maxHeartbeats 400000 in
theorem c_haOther (a b x : Int) (w : World) : Calls Try.prog 70 #[.agg #[.int .i64 a, .int .i64 b], .int .i64 x] w fun e w' => e = .returned (.int .i64 (otherI a b x)) ∧ Below w.heap.size w w' := by
  by_cases h1 : x = a
  · have e : otherI a b x = b := by simp [otherI, h1]
    rw [e]
    have h1' : (x == a) = true := by simp [h1]
    clear e h1
    go_enter Try.func70, Try.ntmps70
    go_wp2
    go_ret
    exact ⟨rfl, by go_grown⟩
  · by_cases h2 : x = b
    · have e : otherI a b x = a := by simp [otherI, h1, h2]
      rw [e]
      have h1' : (x == a) = false := by simp [h1]
      have h2' : (x == b) = true := by simp [h2]
      clear e h1 h2
      go_enter Try.func70, Try.ntmps70
      go_wp2
      go_ret
      exact ⟨rfl, by go_grown⟩
    · have e : otherI a b x = -1 := by simp [otherI, h1, h2]
      rw [e]
      have h1' : (x == a) = false := by simp [h1]
      have h2' : (x == b) = false := by simp [h2]
      clear e h1 h2
      go_enter Try.func70, Try.ntmps70
      go_wp2
      go_ret
      exact ⟨rfl, by go_grown⟩

set_option maxRecDepth 100000 in
set_option maxHeartbeats 600000 in
theorem c_specLay (A : Option Addr) (c : Nat) (xs : List Int) (a b : Int) (front : Bool) (w : World) (hr : RdI w A xs) (hl : xs.length ≤ 1048576) :
    Calls Try.prog 40 #[.slice A xs.length c, .agg #[.int .i64 a, .int .i64 b], .bool front] w (RetI w (layHL xs a b front) (layB xs a b front)) := by
  have con := Lib.hid (fun W (hb : Below w.heap.size w W) => c_haGood A c xs W (hr.below hb) (by omega))
  have conT := Lib.hid (fun W => c_tiGood a b W)
  cases hc : chainB xs
  · have e1 := lay_no1 (a := a) (b := b) (front := front) hc
    rw [lay_no e1, e1]
    rw [hc] at con
    clear e1 hc hr
    go_enter Try.func40, Try.ntmps40
    go_wp2_with (go_at_call 58; refine (con.out _ (by go_grown)).mono ?_; rintro e w1 ⟨rfl, hb1⟩)
    go_ret2
    exact ⟨none, 0, rfl, World.ownsRow_nil _ _ _ _, bstep (by go_grown) hb1⟩
  · rw [hc] at con
    cases hg : goodB a b
    · have e1 := lay_no2 (xs := xs) (front := front) hg
      rw [lay_no e1, e1]
      rw [hg] at conT
      clear e1 hc hr hg
      have x0 : (w.alloc (.cells #[.int .i64 a, .int .i64 b] 49)).cell? ⟨w.heap.size, 0, none⟩ = some (.int .i64 a) := by simp
      have x1 : (w.alloc (.cells #[.int .i64 a, .int .i64 b] 49)).cell? ⟨w.heap.size, 1, none⟩ = some (.int .i64 b) := by simp
      go_enter Try.func40, Try.ntmps40
      go_wp2_with (first | (go_at_call 58; refine (con.out _ (by go_grown)).mono ?_; rintro e w1 ⟨rfl, hb1⟩; have y0 := keepc hb1 x0; have y1 := keepc hb1 x1) | (go_at_call 69; refine (conT.out _).mono ?_; rintro e w2 ⟨rfl, hb2⟩))
      go_ret2
      exact ⟨none, 0, rfl, World.ownsRow_nil _ _ _ _, bstep (bstep (by go_grown) hb1) hb2⟩
    · rw [hg] at conT
      have e1 := lay_is (front := front) hc hg
      have e2 : layHL xs a b front = if chainB (layT xs a b front) then layT xs a b front else [] := by unfold layHL; rw [e1]
      rw [e2, e1]
      obtain ⟨n, hn⟩ : ∃ n, xs.length = n + 1 := ⟨xs.length - 1, by have := (chain_len hc).1; omega⟩
      obtain ⟨bk, off, rfl, g0, g1⟩ := hr.ends hn
      have x0 : (w.alloc (.cells #[.int .i64 a, .int .i64 b] 49)).cell? ⟨w.heap.size, 0, none⟩ = some (.int .i64 a) := by simp
      have x1 : (w.alloc (.cells #[.int .i64 a, .int .i64 b] 49)).cell? ⟨w.heap.size, 1, none⟩ = some (.int .i64 b) := by simp
      have conG := Lib.hid (fun zs W A' c' (hr : RdI W A' zs) (hz : zs.length ≤ 9223372036854775807) => c_haGood A' c' zs W hr hz)
      have hrd := Lib.hid hr
      have hx7 : xs.length ≤ 1048576 := hl
      cases front
      · have eL : layT xs a b false = xs ++ [otherI a b (xs.getD n 0)] := by simp [layT, layOut, endI, hn]
        rw [eL]
        generalize xs.getD n 0 = q at g1
        have conO := Lib.hid (fun W => c_haOther a b q W)
        generalize otherI a b q = p at conO ⊢
        have conN := Lib.hid (fun W (hb : Below w.heap.size w W) => c_l1Own (some ⟨bk, off, none⟩) c xs W (hrd.out.below hb) hl)
        have hzl : (xs ++ [p]).length = xs.length + 1 := by simp
        have Hzl := Lib.hid hzl
        have conZ := Lib.hid (fun W A' c' (hr : RdI W A' (xs ++ [p])) => conG.out (xs ++ [p]) W A' c' hr (by omega))
        obtain ⟨zs, hzs⟩ : ∃ zs, zs = xs ++ [p] := ⟨_, rfl⟩
        rw [← hzs] at conZ Hzl ⊢
        have Hzs := Lib.hid hzs
        have iw : IntKind.i64.wrap ((n : Int) + 1 - 1) = (n : Int) := by rw [IntWalk.i64_in _ (by omega)]; omega
        have iw' : IntKind.i64.wrap (n : Int) = (n : Int) := IntWalk.i64_in _ (by omega)
        have i0 : (0 : Int) ≤ (n : Int) := by omega
        have i1 : (n : Int) < (n : Int) + 1 := by omega
        rw [hn] at con conN hl ⊢
        clear e1 e2 hc hr hg g0 eL hzl hzs conG hn
        cases hcz : chainB zs
        · rw [hcz] at conZ
          clear hcz
          go_enter Try.func40, Try.ntmps40
          go_wp2_with (first | (go_at_call 58; refine (con.out _ (by go_grown)).mono ?_; rintro e w1 ⟨rfl, hb1⟩; have y0 := keepc hb1 x0; have y1 := keepc hb1 x1) | (go_at_call 69; refine (conT.out _).mono ?_; rintro e w2 ⟨rfl, hb2⟩; have z0 := keepc hb2 y0; have z1 := keepc hb2 y1; have hb12 : Below w.heap.size w w2 := bstep (bstep (by go_grown) hb1) hb2; have k0 := keepc hb12 g1))
          go_region_held3 (fun w' => w'.cell? ⟨w.heap.size, 0, none⟩ = some (.int .i64 a) ∧ w'.cell? ⟨w.heap.size, 1, none⟩ = some (.int .i64 b) ∧ w'.cell? ⟨bk, off + n, none⟩ = some (.int .i64 q)) (first | exact ⟨v0, v1, v2⟩ | exact ⟨u0, u1, u2⟩ | exact ⟨s0, s1, s2⟩ | exact ⟨z0, z1, k0⟩ | go_keep) (first | (go_at_call 67; refine (conN.out _ hb12.drew).mono ?_; rintro e w3 ⟨A3, c3, rfl, ho3, hb3⟩; have s0 := keepc hb3 (g1d _ z0); have s1 := keepc hb3 (g1d _ z1); have s2 := keepc hb3 (g1d _ k0); have hb13 := bstep hb12.drew hb3) | (go_at_call 70; refine (conO.out _).mono ?_; rintro e w4 ⟨rfl, hb4⟩; have u0 := keepc hb4 s0; have u1 := keepc hb4 s1; have u2 := keepc hb4 s2; have hb14 := bstep hb13 hb4; have hb24 := bstep hb3 hb4; have ho4 := (own_keep ho3 hb4).alloc (.cells #[.int .i64 p] 3)) | (refine step_append_int rfl (.tmp 27) (.tmp 36) rfl w2.drew.heap.size (.slice A3 xs.length c3) xs rfl ho4 p w4.heap.size rfl (by simp) (by omega) (Nat.le_trans hb24.size (by simp)) ?_; intro A5 c5 w5 ho5 hg5; have hbz : Below w2.drew.heap.size (w4.alloc (.cells #[.int .i64 p] 3)) w5 := below_of_grown hg5 (Nat.le_trans hb24.size (by simp)) (fun g hg => (ho4.lt g hg).1); have hb5 : Below w.heap.size w w5 := (hb14.alloc hb14.size _).trans (hbz.mono hb12.size); have v0 : w5.cell? ⟨w.heap.size, 0, none⟩ = some (.int .i64 a) := (hbz.cell (p := ⟨w.heap.size, 0, none⟩) (block_lt z0)).trans (keepc ((Below.refl _ w4).alloc (Nat.le_refl _) _) u0); have v1 : w5.cell? ⟨w.heap.size, 1, none⟩ = some (.int .i64 b) := (hbz.cell (p := ⟨w.heap.size, 1, none⟩) (block_lt z1)).trans (keepc ((Below.refl _ w4).alloc (Nat.le_refl _) _) u1); have v2 : w5.cell? ⟨bk, off + n, none⟩ = some (.int .i64 q) := (hbz.cell (p := ⟨bk, off + n, none⟩) (block_lt k0)).trans (keepc ((Below.refl _ w4).alloc (Nat.le_refl _) _) u2)))
          have ho6 : w5.ownsRow w2.drew.heap.size 3 1 (.slice A5 zs.length c5) zs.length (cellsI zs) := by rw [Hzl.out, Hzs.out]; exact ho5
          have con6 := conZ.out w5 A5 c5 (RdI.of_own ho6)
          rw [Hzl.out] at con6
          have Con6 := Lib.hid con6
          clear con6
          go_wp2_with (go_at_call 58; refine Con6.out.mono ?_; rintro e w6 ⟨rfl, hb6⟩)
          go_ret2
          exact ⟨none, 0, rfl, World.ownsRow_nil _ _ _ _, bstep hb5 hb6⟩
        · rw [hcz] at conZ
          clear hcz
          go_enter Try.func40, Try.ntmps40
          go_wp2_with (first | (go_at_call 58; refine (con.out _ (by go_grown)).mono ?_; rintro e w1 ⟨rfl, hb1⟩; have y0 := keepc hb1 x0; have y1 := keepc hb1 x1) | (go_at_call 69; refine (conT.out _).mono ?_; rintro e w2 ⟨rfl, hb2⟩; have z0 := keepc hb2 y0; have z1 := keepc hb2 y1; have hb12 : Below w.heap.size w w2 := bstep (bstep (by go_grown) hb1) hb2; have k0 := keepc hb12 g1))
          go_region_held3 (fun w' => w'.cell? ⟨w.heap.size, 0, none⟩ = some (.int .i64 a) ∧ w'.cell? ⟨w.heap.size, 1, none⟩ = some (.int .i64 b) ∧ w'.cell? ⟨bk, off + n, none⟩ = some (.int .i64 q)) (first | exact ⟨v0, v1, v2⟩ | exact ⟨u0, u1, u2⟩ | exact ⟨s0, s1, s2⟩ | exact ⟨z0, z1, k0⟩ | go_keep) (first | (go_at_call 67; refine (conN.out _ hb12.drew).mono ?_; rintro e w3 ⟨A3, c3, rfl, ho3, hb3⟩; have s0 := keepc hb3 (g1d _ z0); have s1 := keepc hb3 (g1d _ z1); have s2 := keepc hb3 (g1d _ k0); have hb13 := bstep hb12.drew hb3) | (go_at_call 70; refine (conO.out _).mono ?_; rintro e w4 ⟨rfl, hb4⟩; have u0 := keepc hb4 s0; have u1 := keepc hb4 s1; have u2 := keepc hb4 s2; have hb14 := bstep hb13 hb4; have hb24 := bstep hb3 hb4; have ho4 := (own_keep ho3 hb4).alloc (.cells #[.int .i64 p] 3)) | (refine step_append_int rfl (.tmp 27) (.tmp 36) rfl w2.drew.heap.size (.slice A3 xs.length c3) xs rfl ho4 p w4.heap.size rfl (by simp) (by omega) (Nat.le_trans hb24.size (by simp)) ?_; intro A5 c5 w5 ho5 hg5; have hbz : Below w2.drew.heap.size (w4.alloc (.cells #[.int .i64 p] 3)) w5 := below_of_grown hg5 (Nat.le_trans hb24.size (by simp)) (fun g hg => (ho4.lt g hg).1); have hb5 : Below w.heap.size w w5 := (hb14.alloc hb14.size _).trans (hbz.mono hb12.size); have v0 : w5.cell? ⟨w.heap.size, 0, none⟩ = some (.int .i64 a) := (hbz.cell (p := ⟨w.heap.size, 0, none⟩) (block_lt z0)).trans (keepc ((Below.refl _ w4).alloc (Nat.le_refl _) _) u0); have v1 : w5.cell? ⟨w.heap.size, 1, none⟩ = some (.int .i64 b) := (hbz.cell (p := ⟨w.heap.size, 1, none⟩) (block_lt z1)).trans (keepc ((Below.refl _ w4).alloc (Nat.le_refl _) _) u1); have v2 : w5.cell? ⟨bk, off + n, none⟩ = some (.int .i64 q) := (hbz.cell (p := ⟨bk, off + n, none⟩) (block_lt k0)).trans (keepc ((Below.refl _ w4).alloc (Nat.le_refl _) _) u2)))
          have ho6 : w5.ownsRow w2.drew.heap.size 3 1 (.slice A5 zs.length c5) zs.length (cellsI zs) := by rw [Hzl.out, Hzs.out]; exact ho5
          have con6 := conZ.out w5 A5 c5 (RdI.of_own ho6)
          rw [Hzl.out] at con6
          have Con6 := Lib.hid con6
          clear con6
          go_wp2_with (go_at_call 58; refine Con6.out.mono ?_; rintro e w6 ⟨rfl, hb6⟩)
          go_ret2
          exact ⟨A5, c5, by rw [Hzl.out]; rfl, own_base (own_keep ho6 hb6) (by exact hb12.size), bstep hb5 hb6⟩
      · have eL : layT xs a b true = [otherI a b (xs.getD 0 0)] ++ xs := by simp [layT, layOut, endI]
        rw [eL]
        generalize xs.getD 0 0 = q at g0
        have conO := Lib.hid (fun W => c_haOther a b q W)
        generalize otherI a b q = p at conO ⊢
        have hzl : ([p] ++ xs).length = xs.length + 1 := by simp
        have Hzl := Lib.hid hzl
        have conZ := Lib.hid (fun W A' c' (hr : RdI W A' ([p] ++ xs)) => conG.out ([p] ++ xs) W A' c' hr (by omega))
        obtain ⟨zs, hzs⟩ : ∃ zs, zs = [p] ++ xs := ⟨_, rfl⟩
        rw [← hzs] at conZ Hzl ⊢
        have Hzs := Lib.hid hzs
        have i2 : (0 : Int) < (n : Int) + 1 := by omega
        have I3 := Lib.hid (show xs.length ≤ 2097152 by omega)
        have Hn := Lib.hid hn
        rw [hn] at con hl ⊢
        clear e1 e2 hc hr hg g1 eL hzl hzs conG hn
        cases hcz : chainB zs
        · rw [hcz] at conZ
          clear hcz
          go_enter Try.func40, Try.ntmps40
          go_wp2_with (first | (go_at_call 58; refine (con.out _ (by go_grown)).mono ?_; rintro e w1 ⟨rfl, hb1⟩; have y0 := keepc hb1 x0; have y1 := keepc hb1 x1) | (go_at_call 69; refine (conT.out _).mono ?_; rintro e w2 ⟨rfl, hb2⟩; have z0 := keepc hb2 y0; have z1 := keepc hb2 y1; have hb12 : Below w.heap.size w w2 := bstep (bstep (by go_grown) hb1) hb2; have k0 := keepc hb12 g0))
          go_region_held3 (fun w' => w'.cell? ⟨w.heap.size, 0, none⟩ = some (.int .i64 a) ∧ w'.cell? ⟨w.heap.size, 1, none⟩ = some (.int .i64 b) ∧ w'.cell? ⟨bk, off, none⟩ = some (.int .i64 q)) (first | exact ⟨v0, v1, v2⟩ | exact ⟨u0, u1, u2⟩ | exact ⟨z0, z1, k0⟩ | go_keep) (first | (go_at_call 70; refine (conO.out _).mono ?_; rintro e w4 ⟨rfl, hb4⟩; have u0 := keepc hb4 (g1d _ z0); have u1 := keepc hb4 (g1d _ z1); have u2 := keepc hb4 (g1d _ k0); have hb14 := bstep hb12.drew hb4; have ho4 : (w4.alloc (.cells #[.int .i64 p] 3)).ownsRow w4.heap.size 3 1 (.slice (some ⟨w4.heap.size, 0, none⟩) 1 1) 1 (cellsI [p]) := World.ownsRow_lit w4 #[.int .i64 p] 1 (Nat.le_refl _) (by unfold maxLen; omega) rfl; have hbx : Below w.heap.size w (w4.alloc (.cells #[.int .i64 p] 3)) := hb14.alloc hb14.size _; have Hr3 := Lib.hid (hrd.out.below hbx)) | (refine step_append_ints rfl (.tmp 23) (.tmp 24) rfl w4.heap.size (.slice (some ⟨w4.heap.size, 0, none⟩) 1 1) [p] rfl ho4 (some ⟨bk, off, none⟩) c xs (by rw [Hn.out]; rfl) Hr3.out (by simp) I3.out (by simp) ⟨_, _, rfl⟩ ?_; intro A5 c5 w5 ho5 hg5; have hbz : Below w4.heap.size (w4.alloc (.cells #[.int .i64 p] 3)) w5 := below_of_grown hg5 (by simp) (fun g hg => by cases hg; exact Nat.le_refl _); have hb5 : Below w.heap.size w w5 := hbx.trans (hbz.mono hb14.size); have v0 : w5.cell? ⟨w.heap.size, 0, none⟩ = some (.int .i64 a) := (hbz.cell (p := ⟨w.heap.size, 0, none⟩) (block_lt u0)).trans (keepc ((Below.refl _ w4).alloc (Nat.le_refl _) _) u0); have v1 : w5.cell? ⟨w.heap.size, 1, none⟩ = some (.int .i64 b) := (hbz.cell (p := ⟨w.heap.size, 1, none⟩) (block_lt u1)).trans (keepc ((Below.refl _ w4).alloc (Nat.le_refl _) _) u1); have v2 : w5.cell? ⟨bk, off, none⟩ = some (.int .i64 q) := (hbz.cell (p := ⟨bk, off, none⟩) (block_lt u2)).trans (keepc ((Below.refl _ w4).alloc (Nat.le_refl _) _) u2)))
          have ho6 : w5.ownsRow w4.heap.size 3 1 (.slice A5 zs.length c5) zs.length (cellsI zs) := by rw [Hzs.out]; exact ho5
          have con6 := conZ.out w5 A5 c5 (RdI.of_own ho6)
          rw [Hzl.out] at con6
          have Con6 := Lib.hid con6
          clear con6
          go_wp2_with (go_at_call 58; refine Con6.out.mono ?_; rintro e w6 ⟨rfl, hb6⟩)
          go_ret2
          exact ⟨none, 0, rfl, World.ownsRow_nil _ _ _ _, bstep hb5 hb6⟩
        · rw [hcz] at conZ
          clear hcz
          go_enter Try.func40, Try.ntmps40
          go_wp2_with (first | (go_at_call 58; refine (con.out _ (by go_grown)).mono ?_; rintro e w1 ⟨rfl, hb1⟩; have y0 := keepc hb1 x0; have y1 := keepc hb1 x1) | (go_at_call 69; refine (conT.out _).mono ?_; rintro e w2 ⟨rfl, hb2⟩; have z0 := keepc hb2 y0; have z1 := keepc hb2 y1; have hb12 : Below w.heap.size w w2 := bstep (bstep (by go_grown) hb1) hb2; have k0 := keepc hb12 g0))
          go_region_held3 (fun w' => w'.cell? ⟨w.heap.size, 0, none⟩ = some (.int .i64 a) ∧ w'.cell? ⟨w.heap.size, 1, none⟩ = some (.int .i64 b) ∧ w'.cell? ⟨bk, off, none⟩ = some (.int .i64 q)) (first | exact ⟨v0, v1, v2⟩ | exact ⟨u0, u1, u2⟩ | exact ⟨z0, z1, k0⟩ | go_keep) (first | (go_at_call 70; refine (conO.out _).mono ?_; rintro e w4 ⟨rfl, hb4⟩; have u0 := keepc hb4 (g1d _ z0); have u1 := keepc hb4 (g1d _ z1); have u2 := keepc hb4 (g1d _ k0); have hb14 := bstep hb12.drew hb4; have ho4 : (w4.alloc (.cells #[.int .i64 p] 3)).ownsRow w4.heap.size 3 1 (.slice (some ⟨w4.heap.size, 0, none⟩) 1 1) 1 (cellsI [p]) := World.ownsRow_lit w4 #[.int .i64 p] 1 (Nat.le_refl _) (by unfold maxLen; omega) rfl; have hbx : Below w.heap.size w (w4.alloc (.cells #[.int .i64 p] 3)) := hb14.alloc hb14.size _; have Hr3 := Lib.hid (hrd.out.below hbx)) | (refine step_append_ints rfl (.tmp 23) (.tmp 24) rfl w4.heap.size (.slice (some ⟨w4.heap.size, 0, none⟩) 1 1) [p] rfl ho4 (some ⟨bk, off, none⟩) c xs (by rw [Hn.out]; rfl) Hr3.out (by simp) I3.out (by simp) ⟨_, _, rfl⟩ ?_; intro A5 c5 w5 ho5 hg5; have hbz : Below w4.heap.size (w4.alloc (.cells #[.int .i64 p] 3)) w5 := below_of_grown hg5 (by simp) (fun g hg => by cases hg; exact Nat.le_refl _); have hb5 : Below w.heap.size w w5 := hbx.trans (hbz.mono hb14.size); have v0 : w5.cell? ⟨w.heap.size, 0, none⟩ = some (.int .i64 a) := (hbz.cell (p := ⟨w.heap.size, 0, none⟩) (block_lt u0)).trans (keepc ((Below.refl _ w4).alloc (Nat.le_refl _) _) u0); have v1 : w5.cell? ⟨w.heap.size, 1, none⟩ = some (.int .i64 b) := (hbz.cell (p := ⟨w.heap.size, 1, none⟩) (block_lt u1)).trans (keepc ((Below.refl _ w4).alloc (Nat.le_refl _) _) u1); have v2 : w5.cell? ⟨bk, off, none⟩ = some (.int .i64 q) := (hbz.cell (p := ⟨bk, off, none⟩) (block_lt u2)).trans (keepc ((Below.refl _ w4).alloc (Nat.le_refl _) _) u2)))
          have ho6 : w5.ownsRow w4.heap.size 3 1 (.slice A5 zs.length c5) zs.length (cellsI zs) := by rw [Hzs.out]; exact ho5
          have con6 := conZ.out w5 A5 c5 (RdI.of_own ho6)
          rw [Hzl.out] at con6
          have Con6 := Lib.hid con6
          clear con6
          go_wp2_with (go_at_call 58; refine Con6.out.mono ?_; rintro e w6 ⟨rfl, hb6⟩)
          go_ret2
          exact ⟨A5, c5, by rw [Hzl.out]; rfl, own_base (own_keep ho6 hb6) (by exact hb14.size), bstep hb5 hb6⟩

set_option maxRecDepth 100000 in
set_option maxHeartbeats 600000 in
theorem c_implLay (A : Option Addr) (c : Nat) (xs : List Int) (a b : Int) (front : Bool) (w : World) (hr : RdI w A xs) (hl : xs.length ≤ 1048576) :
    Calls Try.prog 42 #[.slice A xs.length c, .agg #[.int .i64 a, .int .i64 b], .bool front] w (RetI w (layHL xs a b front) (layB xs a b front)) := by
  have con := Lib.hid (fun W (hb : Below w.heap.size w W) => c_implIsChain A c xs W (hr.below hb) (by omega))
  have conT := Lib.hid (fun W => c_implIsTile a b W)
  cases hc : chainB xs
  · have e1 := lay_no1 (a := a) (b := b) (front := front) hc
    rw [lay_no e1, e1]
    rw [hc] at con
    clear e1 hc hr
    go_enter Try.func42, Try.ntmps42
    go_wp2_with (go_at_call 26; refine (con.out _ (by go_grown)).mono ?_; rintro e w1 ⟨rfl, hb1⟩)
    go_ret2
    exact ⟨none, 0, rfl, World.ownsRow_nil _ _ _ _, bstep (by go_grown) hb1⟩
  · rw [hc] at con
    have x0 : (w.alloc (.cells #[.int .i64 a, .int .i64 b] 49)).cell? ⟨w.heap.size, 0, none⟩ = some (.int .i64 a) := by simp
    have x1 : (w.alloc (.cells #[.int .i64 a, .int .i64 b] 49)).cell? ⟨w.heap.size, 1, none⟩ = some (.int .i64 b) := by simp
    cases hg : goodB a b
    · have e1 := lay_no2 (xs := xs) (front := front) hg
      rw [lay_no e1, e1]
      rw [hg] at conT
      clear e1 hc hr hg
      go_enter Try.func42, Try.ntmps42
      go_wp2_with (first | (go_at_call 26; refine (con.out _ (by go_grown)).mono ?_; rintro e w1 ⟨rfl, hb1⟩; have y0 := keepc hb1 x0; have y1 := keepc hb1 x1) | (go_at_call 71; refine (conT.out _).mono ?_; rintro e w2 ⟨rfl, hb2⟩))
      go_ret2
      exact ⟨none, 0, rfl, World.ownsRow_nil _ _ _ _, bstep (bstep (by go_grown) hb1) hb2⟩
    · rw [hg] at conT
      have e1 := lay_is (front := front) hc hg
      have e2 : layHL xs a b front = if chainB (layT xs a b front) then layT xs a b front else [] := by unfold layHL; rw [e1]
      obtain ⟨n, hn⟩ : ∃ n, xs.length = n + 1 := ⟨xs.length - 1, by have := (chain_len hc).1; omega⟩
      obtain ⟨bk, off, rfl, g0, g1⟩ := hr.ends hn
      have hnum := chain_num hc
      have hq0 : numB (endI xs front) = true := by unfold endI; split <;> exact numB_getD hnum _
      have hq : 0 ≤ endI xs front ∧ endI xs front ≤ 9 := by simpa [numB] using hq0
      have hab : (0 ≤ a ∧ a ≤ 9) ∧ (0 ≤ b ∧ b ≤ 9) := by
        simp only [goodB, numB, Bool.and_eq_true, decide_eq_true_eq] at hg
        exact ⟨hg.1, hg.2.1⟩
      have E0 : xs.getD 0 0 = endI xs true := by simp [endI]
      have E1 : xs.getD n 0 = endI xs false := by simp [endI, hn]
      rw [E0] at g0
      rw [E1] at g1
      have conN := Lib.hid (fun (p : Int) W g (h : W.cell? ⟨g, 0, none⟩ = some (.int .i64 p)) (hb : Below w.heap.size w W) => (show Calls Try.prog 68 #[.slice (some ⟨bk, off, none⟩) xs.length c, .slice (some ⟨g, 0, none⟩) 1 1] W (RetI W (layL xs [p]) (chainB (xs ++ [p]))) from
        c_layNumbers (some ⟨bk, off, none⟩) c xs (some ⟨g, 0, none⟩) 1 [p] W (hr.below hb) ⟨g, 0, fun _ => rfl, fun j hj => by
          obtain rfl : j = 0 := by simpa using hj
          simpa using h⟩ hl (by simp)))
      have conM := Lib.hid (fun (p : Int) W g (h : W.cell? ⟨g, 0, none⟩ = some (.int .i64 p)) (hb : Below w.heap.size w W) => (show Calls Try.prog 68 #[.slice (some ⟨g, 0, none⟩) 1 1, .slice (some ⟨bk, off, none⟩) xs.length c] W (RetI W (layL [p] xs) (chainB ([p] ++ xs))) from
        c_layNumbers (some ⟨g, 0, none⟩) 1 [p] (some ⟨bk, off, none⟩) c xs W ⟨g, 0, fun _ => rfl, fun j hj => by
          obtain rfl : j = 0 := by simpa using hj
          simpa using h⟩ (hr.below hb) (by simp) hl))
      have iw : IntKind.i64.wrap ((n : Int) + 1 - 1) = (n : Int) := by rw [IntWalk.i64_in _ (by omega)]; omega
      have iw' : IntKind.i64.wrap (n : Int) = (n : Int) := IntWalk.i64_in _ (by omega)
      have i0 : (0 : Int) ≤ (n : Int) := by omega
      have i1 : (n : Int) < (n : Int) + 1 := by omega
      have i2 : (0 : Int) < (n : Int) + 1 := by omega
      rw [e2, e1]
      by_cases hfit : a = endI xs front ∨ b = endI xs front
      · have hp := lay_fit hfit
        have eF : layT xs a b front = layOut xs (a + b - endI xs front) front := by unfold layT; rw [hp]
        rw [eF]
        have hpb : -9 ≤ a + b - endI xs front ∧ a + b - endI xs front ≤ 18 := by omega
        rw [hn] at con conN conM hl
        clear e1 e2 hc hr hg hp eF hnum hq0 E0 E1
        cases front
        · have eL : (if chainB (layOut xs (a + b - endI xs false) false) = true then layOut xs (a + b - endI xs false) false else []) = layL xs [a + b - endI xs false] := rfl
          have eL2 : layOut xs (a + b - endI xs false) false = xs ++ [a + b - endI xs false] := rfl
          rw [eL, eL2, hn]
          clear g0 conM eL eL2 hn
          generalize endI xs false = q at *
          have conP := Lib.hid (fun W g h hb => conN.out (a + b - q) W g h hb)
          clear conN
          obtain ⟨hq1, hq2⟩ := hq
          obtain ⟨⟨ha1, ha2⟩, hb1, hb2⟩ := hab
          obtain ⟨hp1, hp2⟩ := hpb
          generalize layL xs [a + b - q] = zs at *
          generalize chainB (xs ++ [a + b - q]) = bz at *
          by_cases ha : a = q
          · have h1 : (a != q) = false := by simp [ha]
            clear ha hfit
            go_enter Try.func42, Try.ntmps42
            go_wp2_with (first | (go_at_call 26; refine (con.out _ (by go_grown)).mono ?_; rintro e w1 ⟨rfl, hb1⟩; have y0 := keepc hb1 x0; have y1 := keepc hb1 x1) | (go_at_call 71; refine (conT.out _).mono ?_; rintro e w2 ⟨rfl, hb2⟩; have z0 := keepc hb2 y0; have z1 := keepc hb2 y1; have hb12 : Below w.heap.size w w2 := bstep (bstep (by go_grown) hb1) hb2; have k1 := keepc hb12 g1) | (go_at_call 68; refine (conP.out _ w2.heap.size (by simp) (hb12.alloc hb12.size _)).mono ?_; rintro e w5 ⟨A5, c5, rfl, ho5, hb5⟩))
            go_ret2
            exact ⟨A5, c5, rfl, own_base ho5 (hb12.alloc hb12.size _).size, bstep (hb12.alloc hb12.size _) hb5⟩
          · have h1 : (a != q) = true := by simp [ha]
            have h2 : (b != q) = false := by simp [hfit.resolve_left ha]
            clear ha hfit
            go_enter Try.func42, Try.ntmps42
            go_wp2_with (first | (go_at_call 26; refine (con.out _ (by go_grown)).mono ?_; rintro e w1 ⟨rfl, hb1⟩; have y0 := keepc hb1 x0; have y1 := keepc hb1 x1) | (go_at_call 71; refine (conT.out _).mono ?_; rintro e w2 ⟨rfl, hb2⟩; have z0 := keepc hb2 y0; have z1 := keepc hb2 y1; have hb12 : Below w.heap.size w w2 := bstep (bstep (by go_grown) hb1) hb2; have k1 := keepc hb12 g1) | (go_at_call 68; refine (conP.out _ w2.heap.size (by simp) (hb12.alloc hb12.size _)).mono ?_; rintro e w5 ⟨A5, c5, rfl, ho5, hb5⟩))
            go_ret2
            exact ⟨A5, c5, rfl, own_base ho5 (hb12.alloc hb12.size _).size, bstep (hb12.alloc hb12.size _) hb5⟩
        · have eL : (if chainB (layOut xs (a + b - endI xs true) true) = true then layOut xs (a + b - endI xs true) true else []) = layL [a + b - endI xs true] xs := rfl
          have eL2 : layOut xs (a + b - endI xs true) true = [a + b - endI xs true] ++ xs := rfl
          rw [eL, eL2, hn]
          clear conN eL eL2 hn
          generalize endI xs true = q at *
          generalize endI xs false = q' at *
          have conP := Lib.hid (fun W g h hb => conM.out (a + b - q) W g h hb)
          clear conM
          obtain ⟨hq1, hq2⟩ := hq
          obtain ⟨⟨ha1, ha2⟩, hb1, hb2⟩ := hab
          obtain ⟨hp1, hp2⟩ := hpb
          generalize layL [a + b - q] xs = zs at *
          generalize chainB ([a + b - q] ++ xs) = bz at *
          by_cases ha : a = q
          · have h1 : (a != q) = false := by simp [ha]
            clear ha hfit
            go_enter Try.func42, Try.ntmps42
            go_wp2_with (first | (go_at_call 26; refine (con.out _ (by go_grown)).mono ?_; rintro e w1 ⟨rfl, hb1⟩; have y0 := keepc hb1 x0; have y1 := keepc hb1 x1) | (go_at_call 71; refine (conT.out _).mono ?_; rintro e w2 ⟨rfl, hb2⟩; have z0 := keepc hb2 y0; have z1 := keepc hb2 y1; have hb12 : Below w.heap.size w w2 := bstep (bstep (by go_grown) hb1) hb2; have k0 := keepc hb12 g0; have k1 := keepc hb12 g1) | (go_at_call 68; refine (conP.out _ w2.heap.size (by simp) (hb12.alloc hb12.size _)).mono ?_; rintro e w5 ⟨A5, c5, rfl, ho5, hb5⟩))
            go_ret2
            exact ⟨A5, c5, rfl, own_base ho5 (hb12.alloc hb12.size _).size, bstep (hb12.alloc hb12.size _) hb5⟩
          · have h1 : (a != q) = true := by simp [ha]
            have h2 : (b != q) = false := by simp [hfit.resolve_left ha]
            clear ha hfit
            go_enter Try.func42, Try.ntmps42
            go_wp2_with (first | (go_at_call 26; refine (con.out _ (by go_grown)).mono ?_; rintro e w1 ⟨rfl, hb1⟩; have y0 := keepc hb1 x0; have y1 := keepc hb1 x1) | (go_at_call 71; refine (conT.out _).mono ?_; rintro e w2 ⟨rfl, hb2⟩; have z0 := keepc hb2 y0; have z1 := keepc hb2 y1; have hb12 : Below w.heap.size w w2 := bstep (bstep (by go_grown) hb1) hb2; have k0 := keepc hb12 g0; have k1 := keepc hb12 g1) | (go_at_call 68; refine (conP.out _ w2.heap.size (by simp) (hb12.alloc hb12.size _)).mono ?_; rintro e w5 ⟨A5, c5, rfl, ho5, hb5⟩))
            go_ret2
            exact ⟨A5, c5, rfl, own_base ho5 (hb12.alloc hb12.size _).size, bstep (hb12.alloc hb12.size _) hb5⟩
      · have hnb := not_or.1 hfit
        have e3 := lay_nofit hnb.1 hnb.2
        rw [e3, if_neg (by simp)]
        have h1 : (a != endI xs front) = true := by simp [hnb.1]
        have h2 : (b != endI xs front) = true := by simp [hnb.2]
        rw [hn] at con hl ⊢
        clear e1 e2 hc hr hg e3 hnum hq0 E0 E1 hn hfit hnb conN conM
        cases front
        · generalize endI xs false = q at *
          clear g0
          go_enter Try.func42, Try.ntmps42
          go_wp2_with (first | (go_at_call 26; refine (con.out _ (by go_grown)).mono ?_; rintro e w1 ⟨rfl, hb1⟩; have y0 := keepc hb1 x0; have y1 := keepc hb1 x1) | (go_at_call 71; refine (conT.out _).mono ?_; rintro e w2 ⟨rfl, hb2⟩; have z0 := keepc hb2 y0; have z1 := keepc hb2 y1; have hb12 : Below w.heap.size w w2 := bstep (bstep (by go_grown) hb1) hb2; have k1 := (hb12.cell (p := ⟨bk, off + n, none⟩) (block_lt g1)).trans g1))
          go_ret2
          exact ⟨none, 0, rfl, World.ownsRow_nil _ _ _ _, hb12⟩
        · generalize endI xs true = q at *
          generalize endI xs false = q' at *
          go_enter Try.func42, Try.ntmps42
          go_wp2_with (first | (go_at_call 26; refine (con.out _ (by go_grown)).mono ?_; rintro e w1 ⟨rfl, hb1⟩; have y0 := keepc hb1 x0; have y1 := keepc hb1 x1) | (go_at_call 71; refine (conT.out _).mono ?_; rintro e w2 ⟨rfl, hb2⟩; have z0 := keepc hb2 y0; have z1 := keepc hb2 y1; have hb12 : Below w.heap.size w w2 := bstep (bstep (by go_grown) hb1) hb2; have k1 := (hb12.cell (p := ⟨bk, off + n, none⟩) (block_lt g1)).trans g1; have k0 := (hb12.cell (p := ⟨bk, off, none⟩) (block_lt g0)).trans g0))
          go_ret2
          exact ⟨none, 0, rfl, World.ownsRow_nil _ _ _ _, hb12⟩

end Go.Proofs.Ytghemmocbmkgiaa

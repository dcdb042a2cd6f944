/- A tile laid in front of a chain or behind it. -/
import Derived.Test.YtgjdpiooocpmhabConc
import Derived.Test.YtgjdpiooocpmhabEnds
namespace Go.Proofs.Ytgjdpiooocpmhab
open Go.RowKit
set_option linter.unusedVariables false

def otherI (a b x : Int) : Int := if x = a then b else if x = b then a else -1
def endI (xs : List Int) (front : Bool) : Int := if front then xs.getD 0 0 else xs.getD (xs.length - 1) 0
def layOut (xs : List Int) (p : Int) (front : Bool) : List Int := if front then [p] ++ xs else xs ++ [p]
def layT (xs : List Int) (a b : Int) (front : Bool) : List Int := layOut xs (otherI a b (endI xs front)) front
def layB (xs : List Int) (a b : Int) (front : Bool) : Bool := chainB xs && (goodB a b && chainB (layT xs a b front))
def layHL (xs : List Int) (a b : Int) (front : Bool) : List Int := if layB xs a b front then layT xs a b front else []
theorem layHL_len (xs : List Int) (a b : Int) (front : Bool) : (layHL xs a b front).length ≤ 110 := by
  unfold layHL
  split
  · rename_i h
    unfold layB at h
    simp only [Bool.and_eq_true] at h
    have := chain_len h.2.2
    omega
  · simp
theorem lay_no {xs : List Int} {a b : Int} {front : Bool} (h : layB xs a b front = false) : layHL xs a b front = [] := by simp [layHL, h]
theorem lay_no1 {xs : List Int} {a b : Int} {front : Bool} (h : chainB xs = false) : layB xs a b front = false := by simp [layB, h]
theorem lay_no2 {xs : List Int} {a b : Int} {front : Bool} (h : goodB a b = false) : layB xs a b front = false := by simp [layB, h]
theorem lay_is {xs : List Int} {a b : Int} {front : Bool} (h1 : chainB xs = true) (h2 : goodB a b = true) : layB xs a b front = chainB (layT xs a b front) := by unfold layB; rw [h1, h2]; rfl
theorem lay_nofit {xs : List Int} {a b : Int} {front : Bool} (h1 : a ≠ endI xs front) (h2 : b ≠ endI xs front) : chainB (layT xs a b front) = false := by
  refine chain_bad' fun h => ?_
  have e : otherI a b (endI xs front) = -1 := by unfold otherI; rw [if_neg (fun e => h1 e.symm), if_neg (fun e => h2 e.symm)]
  have := h (-1) (by unfold layT layOut; rw [e]; split <;> simp)
  simp [numB] at this
theorem lay_fit {a b x : Int} (h : a = x ∨ b = x) : otherI a b x = a + b - x := by
  unfold otherI
  split
  · omega
  · split <;> omega

set_option maxHeartbeats 400000 in
theorem c_haOther (a b x : Int) (w : World) : Calls Try.prog 131 #[.agg #[.int .i64 a, .int .i64 b], .int .i64 x] w fun e w' => e = .returned (.int .i64 (otherI a b x)) ∧ Below w.heap.size w w' := by
  by_cases h1 : x = a
  · have e : otherI a b x = b := by simp [otherI, h1]
    rw [e]
    have h1' : (x == a) = true := by simp [h1]
    clear e h1
    go_enter Try.func131, Try.ntmps131
    go_wp2
    go_ret
    exact ⟨rfl, by go_grown⟩
  · by_cases h2 : x = b
    · have e : otherI a b x = a := by simp [otherI, h2]
      rw [e]
      have h1' : (x == a) = false := by simp [h1]
      have h2' : (x == b) = true := by simp [h2]
      clear e h1 h2
      go_enter Try.func131, Try.ntmps131
      go_wp2
      go_ret
      exact ⟨rfl, by go_grown⟩
    · have e : otherI a b x = -1 := by simp [otherI, h1, h2]
      rw [e]
      have h1' : (x == a) = false := by simp [h1]
      have h2' : (x == b) = false := by simp [h2]
      clear e h1 h2
      go_enter Try.func131, Try.ntmps131
      go_wp2
      go_ret
      exact ⟨rfl, by go_grown⟩

set_option maxRecDepth 100000 in
set_option maxHeartbeats 600000 in
theorem c_implLay (A : Option Addr) (c : Nat) (xs : List Int) (a b : Int) (front : Bool) (w : World) (hr : RdI w A xs) (hl : xs.length ≤ 1048576) :
    Calls Try.prog 159 #[.slice A xs.length c, .agg #[.int .i64 a, .int .i64 b], .bool front] w (RetI w (layHL xs a b front) (layB xs a b front)) := by
  have con := Lib.hid (fun W (hb : Below w.heap.size w W) => c_implIsChain A c xs W (hr.below hb) (by omega))
  have conT := Lib.hid (fun W => c_implIsTile a b W)
  cases hc : chainB xs
  · have e1 := lay_no1 (a := a) (b := b) (front := front) hc
    rw [lay_no e1, e1]
    rw [hc] at con
    clear e1 hc hr
    go_enter Try.func159, Try.ntmps159
    go_wp2_with (go_at_call 124; refine (con.out _ (by go_grown)).mono ?_; rintro e w1 ⟨rfl, hb1⟩)
    go_ret2
    exact ⟨none, 0, rfl, World.ownsRow_nil _ _ _ _, bstep (by go_grown) hb1⟩
  · rw [hc] at con
    have x0 : (w.alloc (.cells #[.int .i64 a, .int .i64 b] 72)).cell? ⟨w.heap.size, 0, none⟩ = some (.int .i64 a) := by simp
    have x1 : (w.alloc (.cells #[.int .i64 a, .int .i64 b] 72)).cell? ⟨w.heap.size, 1, none⟩ = some (.int .i64 b) := by simp
    cases hg : goodB a b
    · have e1 := lay_no2 (xs := xs) (front := front) hg
      rw [lay_no e1, e1]
      rw [hg] at conT
      clear e1 hc hr hg
      go_enter Try.func159, Try.ntmps159
      go_wp2_with (first | (go_at_call 124; refine (con.out _ (by go_grown)).mono ?_; rintro e w1 ⟨rfl, hb1⟩; have y0 := keepc hb1 x0; have y1 := keepc hb1 x1) | (go_at_call 155; refine (conT.out _).mono ?_; rintro e w2 ⟨rfl, hb2⟩))
      go_ret2
      exact ⟨none, 0, rfl, World.ownsRow_nil _ _ _ _, bstep (bstep (by go_grown) hb1) hb2⟩
    · rw [hg] at conT
      have e1 := lay_is (front := front) hc hg
      have e2 : layHL xs a b front = if chainB (layT xs a b front) then layT xs a b front else [] := by unfold layHL; rw [e1]
      obtain ⟨n, hn⟩ : ∃ n, xs.length = n + 1 := ⟨xs.length - 1, by have := (chain_len hc).1; omega⟩
      obtain ⟨bk, off, rfl, g0, g1⟩ := hr.ends hn
      have hnum := chain_num hc
      have hq0 : numB (endI xs front) = true := by unfold endI; split <;> exact numB_getD hnum _
      have hq : 0 ≤ endI xs front ∧ endI xs front ≤ 9 := by simpa [numB] using hq0
      have hab : (0 ≤ a ∧ a ≤ 9) ∧ (0 ≤ b ∧ b ≤ 9) := by
        simp only [goodB, numB, Bool.and_eq_true, decide_eq_true_eq] at hg
        exact ⟨hg.1, hg.2.1⟩
      have E0 : xs.getD 0 0 = endI xs true := by simp [endI]
      have E1 : xs.getD n 0 = endI xs false := by simp [endI, hn]
      rw [E0] at g0
      rw [E1] at g1
      have conN := Lib.hid (fun (p : Int) W g (h : W.cell? ⟨g, 0, none⟩ = some (.int .i64 p)) (hb : Below w.heap.size w W) => (show Calls Try.prog 180 #[.slice (some ⟨bk, off, none⟩) xs.length c, .slice (some ⟨g, 0, none⟩) 1 1] W (RetI W (layL xs [p]) (chainB (xs ++ [p]))) from
        c_layNumbers (some ⟨bk, off, none⟩) c xs (some ⟨g, 0, none⟩) 1 [p] W (hr.below hb) ⟨g, 0, fun _ => rfl, fun j hj => by
          obtain rfl : j = 0 := by simpa using hj
          simpa using h⟩ hl (by simp)))
      have conM := Lib.hid (fun (p : Int) W g (h : W.cell? ⟨g, 0, none⟩ = some (.int .i64 p)) (hb : Below w.heap.size w W) => (show Calls Try.prog 180 #[.slice (some ⟨g, 0, none⟩) 1 1, .slice (some ⟨bk, off, none⟩) xs.length c] W (RetI W (layL [p] xs) (chainB ([p] ++ xs))) from
        c_layNumbers (some ⟨g, 0, none⟩) 1 [p] (some ⟨bk, off, none⟩) c xs W ⟨g, 0, fun _ => rfl, fun j hj => by
          obtain rfl : j = 0 := by simpa using hj
          simpa using h⟩ (hr.below hb) (by simp) hl))
      have iw : IntKind.i64.wrap ((n : Int) + 1 - 1) = (n : Int) := by rw [IntWalk.i64_in _ (by omega)]; omega
      have iw' : IntKind.i64.wrap (n : Int) = (n : Int) := IntWalk.i64_in _ (by omega)
      have i0 : (0 : Int) ≤ (n : Int) := by omega
      have i1 : (n : Int) < (n : Int) + 1 := by omega
      have i2 : (0 : Int) < (n : Int) + 1 := by omega
      rw [e2, e1]
      by_cases hfit : a = endI xs front ∨ b = endI xs front
      · have hp := lay_fit hfit
        have eF : layT xs a b front = layOut xs (a + b - endI xs front) front := by unfold layT; rw [hp]
        rw [eF]
        have hpb : -9 ≤ a + b - endI xs front ∧ a + b - endI xs front ≤ 18 := by omega
        rw [hn] at con conN conM hl
        clear e1 e2 hc hr hg hp eF hnum hq0 E0 E1
        cases front
        · have eL : (if chainB (layOut xs (a + b - endI xs false) false) = true then layOut xs (a + b - endI xs false) false else []) = layL xs [a + b - endI xs false] := rfl
          have eL2 : layOut xs (a + b - endI xs false) false = xs ++ [a + b - endI xs false] := rfl
          rw [eL, eL2, hn]
          clear g0 conM eL eL2 hn
          generalize endI xs false = q at *
          have conP := Lib.hid (fun W g h hb => conN.out (a + b - q) W g h hb)
          clear conN
          obtain ⟨hq1, hq2⟩ := hq
          obtain ⟨⟨ha1, ha2⟩, hb1, hb2⟩ := hab
          obtain ⟨hp1, hp2⟩ := hpb
          generalize layL xs [a + b - q] = zs at *
          generalize chainB (xs ++ [a + b - q]) = bz at *
          by_cases ha : a = q
          · have h1 : (a != q) = false := by simp [ha]
            clear ha hfit
            go_enter Try.func159, Try.ntmps159
            go_wp2_with (first | (go_at_call 124; refine (con.out _ (by go_grown)).mono ?_; rintro e w1 ⟨rfl, hb1⟩; have y0 := keepc hb1 x0; have y1 := keepc hb1 x1) | (go_at_call 155; refine (conT.out _).mono ?_; rintro e w2 ⟨rfl, hb2⟩; have z0 := keepc hb2 y0; have z1 := keepc hb2 y1; have hb12 : Below w.heap.size w w2 := bstep (bstep (by go_grown) hb1) hb2; have k1 := keepc hb12 g1) | (go_at_call 180; refine (conP.out _ w2.heap.size (by simp) (hb12.alloc hb12.size _)).mono ?_; rintro e w5 ⟨A5, c5, rfl, ho5, hb5⟩))
            go_ret2
            exact ⟨A5, c5, rfl, own_base ho5 (hb12.alloc hb12.size _).size, bstep (hb12.alloc hb12.size _) hb5⟩
          · have h1 : (a != q) = true := by simp [ha]
            have h2 : (b != q) = false := by simp [hfit.resolve_left ha]
            clear ha hfit
            go_enter Try.func159, Try.ntmps159
            go_wp2_with (first | (go_at_call 124; refine (con.out _ (by go_grown)).mono ?_; rintro e w1 ⟨rfl, hb1⟩; have y0 := keepc hb1 x0; have y1 := keepc hb1 x1) | (go_at_call 155; refine (conT.out _).mono ?_; rintro e w2 ⟨rfl, hb2⟩; have z0 := keepc hb2 y0; have z1 := keepc hb2 y1; have hb12 : Below w.heap.size w w2 := bstep (bstep (by go_grown) hb1) hb2; have k1 := keepc hb12 g1) | (go_at_call 180; refine (conP.out _ w2.heap.size (by simp) (hb12.alloc hb12.size _)).mono ?_; rintro e w5 ⟨A5, c5, rfl, ho5, hb5⟩))
            go_ret2
            exact ⟨A5, c5, rfl, own_base ho5 (hb12.alloc hb12.size _).size, bstep (hb12.alloc hb12.size _) hb5⟩
        · have eL : (if chainB (layOut xs (a + b - endI xs true) true) = true then layOut xs (a + b - endI xs true) true else []) = layL [a + b - endI xs true] xs := rfl
          have eL2 : layOut xs (a + b - endI xs true) true = [a + b - endI xs true] ++ xs := rfl
          rw [eL, eL2, hn]
          clear conN eL eL2 hn
          generalize endI xs true = q at *
          generalize endI xs false = q' at *
          have conP := Lib.hid (fun W g h hb => conM.out (a + b - q) W g h hb)
          clear conM
          obtain ⟨hq1, hq2⟩ := hq
          obtain ⟨⟨ha1, ha2⟩, hb1, hb2⟩ := hab
          obtain ⟨hp1, hp2⟩ := hpb
          generalize layL [a + b - q] xs = zs at *
          generalize chainB ([a + b - q] ++ xs) = bz at *
          by_cases ha : a = q
          · have h1 : (a != q) = false := by simp [ha]
            clear ha hfit
            go_enter Try.func159, Try.ntmps159
            go_wp2_with (first | (go_at_call 124; refine (con.out _ (by go_grown)).mono ?_; rintro e w1 ⟨rfl, hb1⟩; have y0 := keepc hb1 x0; have y1 := keepc hb1 x1) | (go_at_call 155; refine (conT.out _).mono ?_; rintro e w2 ⟨rfl, hb2⟩; have z0 := keepc hb2 y0; have z1 := keepc hb2 y1; have hb12 : Below w.heap.size w w2 := bstep (bstep (by go_grown) hb1) hb2; have k0 := keepc hb12 g0; have k1 := keepc hb12 g1) | (go_at_call 180; refine (conP.out _ w2.heap.size (by simp) (hb12.alloc hb12.size _)).mono ?_; rintro e w5 ⟨A5, c5, rfl, ho5, hb5⟩))
            go_ret2
            exact ⟨A5, c5, rfl, own_base ho5 (hb12.alloc hb12.size _).size, bstep (hb12.alloc hb12.size _) hb5⟩
          · have h1 : (a != q) = true := by simp [ha]
            have h2 : (b != q) = false := by simp [hfit.resolve_left ha]
            clear ha hfit
            go_enter Try.func159, Try.ntmps159
            go_wp2_with (first | (go_at_call 124; refine (con.out _ (by go_grown)).mono ?_; rintro e w1 ⟨rfl, hb1⟩; have y0 := keepc hb1 x0; have y1 := keepc hb1 x1) | (go_at_call 155; refine (conT.out _).mono ?_; rintro e w2 ⟨rfl, hb2⟩; have z0 := keepc hb2 y0; have z1 := keepc hb2 y1; have hb12 : Below w.heap.size w w2 := bstep (bstep (by go_grown) hb1) hb2; have k0 := keepc hb12 g0; have k1 := keepc hb12 g1) | (go_at_call 180; refine (conP.out _ w2.heap.size (by simp) (hb12.alloc hb12.size _)).mono ?_; rintro e w5 ⟨A5, c5, rfl, ho5, hb5⟩))
            go_ret2
            exact ⟨A5, c5, rfl, own_base ho5 (hb12.alloc hb12.size _).size, bstep (hb12.alloc hb12.size _) hb5⟩
      · have hnb := not_or.1 hfit
        have e3 := lay_nofit hnb.1 hnb.2
        rw [e3, if_neg (by simp)]
        have h1 : (a != endI xs front) = true := by simp [hnb.1]
        have h2 : (b != endI xs front) = true := by simp [hnb.2]
        rw [hn] at con hl ⊢
        clear e1 e2 hc hr hg e3 hnum hq0 E0 E1 hn hfit hnb conN conM
        cases front
        · generalize endI xs false = q at *
          clear g0
          go_enter Try.func159, Try.ntmps159
          go_wp2_with (first | (go_at_call 124; refine (con.out _ (by go_grown)).mono ?_; rintro e w1 ⟨rfl, hb1⟩; have y0 := keepc hb1 x0; have y1 := keepc hb1 x1) | (go_at_call 155; refine (conT.out _).mono ?_; rintro e w2 ⟨rfl, hb2⟩; have z0 := keepc hb2 y0; have z1 := keepc hb2 y1; have hb12 : Below w.heap.size w w2 := bstep (bstep (by go_grown) hb1) hb2; have k1 := (hb12.cell (p := ⟨bk, off + n, none⟩) (block_lt g1)).trans g1))
          go_ret2
          exact ⟨none, 0, rfl, World.ownsRow_nil _ _ _ _, hb12⟩
        · generalize endI xs true = q at *
          generalize endI xs false = q' at *
          go_enter Try.func159, Try.ntmps159
          go_wp2_with (first | (go_at_call 124; refine (con.out _ (by go_grown)).mono ?_; rintro e w1 ⟨rfl, hb1⟩; have y0 := keepc hb1 x0; have y1 := keepc hb1 x1) | (go_at_call 155; refine (conT.out _).mono ?_; rintro e w2 ⟨rfl, hb2⟩; have z0 := keepc hb2 y0; have z1 := keepc hb2 y1; have hb12 : Below w.heap.size w w2 := bstep (bstep (by go_grown) hb1) hb2; have k1 := (hb12.cell (p := ⟨bk, off + n, none⟩) (block_lt g1)).trans g1; have k0 := (hb12.cell (p := ⟨bk, off, none⟩) (block_lt g0)).trans g0))
          go_ret2
          exact ⟨none, 0, rfl, World.ownsRow_nil _ _ _ _, hb12⟩

end Go.Proofs.Ytgjdpiooocpmhab

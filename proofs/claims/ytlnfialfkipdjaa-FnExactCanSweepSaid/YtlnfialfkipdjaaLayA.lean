/- The ends of a chain, and whether it is a ring. A tile laid in front of a chain or behind it. A move's small functions: the program's. clear of a slice of structs; rows of tiles written from a place on. Tiles deleted by a test: the program's laid$1 and slices.IndexFunc over it. -/
import Derived.Test.YtlnfialfkipdjaaChains
import Derived.Test.YtlnfialfkipdjaaMovA
import Derived.Test.YtlnfialfkipdjaaGameL
import Derived.Test.YtlnfialfkipdjaaMakS
import Derived.Deep.Cut
import Derived.BigQuiet
import Derived.Test.YtlnfialfkipdjaaBase
import Derived.Lib.SliceRun
namespace Go.Proofs.Ytlnfialfkipdjaa
open Go.RowKit
set_option linter.unusedVariables false

def e0 (xs : List Int) : Int := if chainB xs then xs.getD 0 0 else 0
def e1 (xs : List Int) : Int := if chainB xs then xs.getD (xs.length - 1) 0 else 0
def ringB (xs : List Int) : Bool := decide (1 < xs.length) && (xs.getD 0 0 == xs.getD (xs.length - 1) 0)

/-- The first and the last cell of a list that has one. -/
theorem RdI.ends {w : World} {A : Option Addr} {xs : List Int} {n : Nat} (h : RdI w A xs) (hn : xs.length = n + 1) :
    ∃ b off, A = some ⟨b, off, none⟩ ∧ w.cell? ⟨b, off, none⟩ = some (.int .i64 (xs.getD 0 0)) ∧ w.cell? ⟨b, off + n, none⟩ = some (.int .i64 (xs.getD n 0)) := by
  obtain ⟨b, off, rfl, _, hc⟩ := h.at_ (k := 0) (by omega)
  refine ⟨b, off, rfl, ?_, ?_⟩
  · have := hc 0 (by omega)
    rw [Nat.add_zero] at this
    rw [this]
    simp [List.getD, List.getElem?_eq_getElem (show 0 < xs.length by omega)]
  · rw [hc n (by omega)]
    simp [List.getD, List.getElem?_eq_getElem (show n < xs.length by omega)]

set_option maxHeartbeats 1000000 in
theorem c_specEnds (A : Option Addr) (c : Nat) (xs : List Int) (w : World) (hr : RdI w A xs) (hl : xs.length ≤ 9223372036854775807) :
    Calls Try.prog 63 #[.slice A xs.length c] w fun e w' => e = .returned (.tuple #[.int .i64 (e0 xs), .int .i64 (e1 xs), .bool (chainB xs)]) ∧ Below w.heap.size w w' := by
  have con := Lib.hid (c_haGood A c xs w hr hl)
  by_cases h : chainB xs = true
  · obtain ⟨n, hn⟩ : ∃ n, xs.length = n + 1 := ⟨xs.length - 1, by have := (chain_len h).1; omega⟩
    obtain ⟨b, off, rfl, g0, g1⟩ := hr.ends hn
    have E0 : xs.getD 0 0 = e0 xs := by simp [e0, h]
    have E1 : xs.getD n 0 = e1 xs := by simp [e1, h, hn]
    rw [E0] at g0
    rw [E1] at g1
    rw [h] at con ⊢
    rw [hn] at con hl ⊢
    clear hr h E0 E1
    have iw : IntKind.i64.wrap ((n : Int) + 1 - 1) = (n : Int) := by rw [IntWalk.i64_in _ (by omega)]; omega
    have iw' : IntKind.i64.wrap (n : Int) = (n : Int) := IntWalk.i64_in _ (by omega)
    have i0 : (0 : Int) ≤ (n : Int) := by omega
    have i1 : (n : Int) < (n : Int) + 1 := by omega
    have i2 : (0 : Int) < (n : Int) + 1 := by omega
    go_enter Try.func63, Try.ntmps63
    go_wp2_with (go_at_call 136; refine con.out.mono ?_; rintro e w1 ⟨rfl, hb1⟩; have y0 := keepc hb1 g0; have y1 := keepc hb1 g1)
    go_quiet (fail)
    go_wp2
    first | go_ret3 | go_ret2
    exact ⟨rfl, (by first | exact hb1.drew | exact belowN hb1 _)⟩
  · have h' : chainB xs = false := (Bool.not_eq_true _).mp h
    have E0 : e0 xs = 0 := by simp [e0, h']
    have E1 : e1 xs = 0 := by simp [e1, h']
    rw [E0, E1]
    rw [h'] at con ⊢
    clear h hr
    go_enter Try.func63, Try.ntmps63
    go_wp2_with (go_at_call 136; refine con.out.mono ?_; rintro e w1 ⟨rfl, hb1⟩)
    first | go_ret3 | go_ret2
    exact ⟨rfl, hb1⟩

set_option maxHeartbeats 1000000 in
theorem c_implEnds (A : Option Addr) (c : Nat) (xs : List Int) (w : World) (hr : RdI w A xs) (hl : xs.length ≤ 9223372036854775807) :
    Calls Try.prog 62 #[.slice A xs.length c] w fun e w' => e = .returned (.tuple #[.int .i64 (e0 xs), .int .i64 (e1 xs), .bool (chainB xs)]) ∧ Below w.heap.size w w' := by
  have con := Lib.hid (c_implIsChain A c xs w hr hl)
  by_cases h : chainB xs = true
  · obtain ⟨n, hn⟩ : ∃ n, xs.length = n + 1 := ⟨xs.length - 1, by have := (chain_len h).1; omega⟩
    obtain ⟨b, off, rfl, g0, g1⟩ := hr.ends hn
    have E0 : xs.getD 0 0 = e0 xs := by simp [e0, h]
    have E1 : xs.getD n 0 = e1 xs := by simp [e1, h, hn]
    rw [E0] at g0
    rw [E1] at g1
    rw [h] at con ⊢
    rw [hn] at con hl ⊢
    clear hr h E0 E1
    have iw : IntKind.i64.wrap ((n : Int) + 1 - 1) = (n : Int) := by rw [IntWalk.i64_in _ (by omega)]; omega
    have iw' : IntKind.i64.wrap (n : Int) = (n : Int) := IntWalk.i64_in _ (by omega)
    have i0 : (0 : Int) ≤ (n : Int) := by omega
    have i1 : (n : Int) < (n : Int) + 1 := by omega
    have i2 : (0 : Int) < (n : Int) + 1 := by omega
    go_enter Try.func62, Try.ntmps62
    go_wp2_with (go_at_call 70; refine con.out.mono ?_; rintro e w1 ⟨rfl, hb1⟩; have y0 := keepc hb1 g0; have y1 := keepc hb1 g1)
    go_quiet (fail)
    go_wp2
    first | go_ret3 | go_ret2
    exact ⟨rfl, (by first | exact hb1.drew | exact belowN hb1 _)⟩
  · have h' : chainB xs = false := (Bool.not_eq_true _).mp h
    have E0 : e0 xs = 0 := by simp [e0, h']
    have E1 : e1 xs = 0 := by simp [e1, h']
    rw [E0, E1]
    rw [h'] at con ⊢
    clear h hr
    go_enter Try.func62, Try.ntmps62
    go_wp2_with (go_at_call 70; refine con.out.mono ?_; rintro e w1 ⟨rfl, hb1⟩)
    first | go_ret3 | go_ret2
    exact ⟨rfl, hb1⟩

set_option maxHeartbeats 1000000 in
theorem c_haRing (A : Option Addr) (c : Nat) (xs : List Int) (w : World) (hr : RdI w A xs) (hl : xs.length ≤ 9223372036854775807) :
    Calls Try.prog 147 #[.slice A xs.length c] w fun e w' => e = .returned (.bool (ringB xs)) ∧ Below w.heap.size w w' := by
  by_cases h1 : 1 < xs.length
  · obtain ⟨n, hn⟩ : ∃ n, xs.length = n + 1 := ⟨xs.length - 1, by omega⟩
    obtain ⟨b, off, rfl, g0, g1⟩ := hr.ends hn
    have e : ringB xs = (xs.getD 0 0 == xs.getD n 0) := by
      unfold ringB
      rw [decide_eq_true h1, Bool.true_and, hn]
      rfl
    rw [e]
    rw [hn] at h1 hl ⊢
    generalize xs.getD 0 0 = p at *
    generalize xs.getD n 0 = q at *
    have hd : (1 : Int) < (n : Int) + 1 := by omega
    clear e hr hn
    have iw : IntKind.i64.wrap ((n : Int) + 1 - 1) = (n : Int) := by rw [IntWalk.i64_in _ (by omega)]; omega
    have iw' : IntKind.i64.wrap (n : Int) = (n : Int) := IntWalk.i64_in _ (by omega)
    have i0 : (0 : Int) ≤ (n : Int) := by omega
    have i1 : (n : Int) < (n : Int) + 1 := by omega
    have i2 : (0 : Int) < (n : Int) + 1 := by omega
    go_enter Try.func147, Try.ntmps147
    go_wp2
    go_quiet (fail)
    go_wp2
    go_ret
    exact ⟨rfl, belowN (Below.refl _ _) _⟩
  · have e : ringB xs = false := by simp [ringB, h1]
    rw [e]
    have hd : decide ((1 : Int) < (xs.length : Int)) = false := decide_eq_false (by omega)
    clear e hr
    go_enter Try.func147, Try.ntmps147
    go_wp2
    go_quiet (fail)
    go_wp2
    go_ret
    exact ⟨rfl, belowN (Below.refl _ _) _⟩

set_option maxHeartbeats 1000000 in
theorem c_specIsRing (A : Option Addr) (c : Nat) (xs : List Int) (w : World) (hr : RdI w A xs) (hl : xs.length ≤ 9223372036854775807) :
    Calls Try.prog 80 #[.slice A xs.length c] w fun e w' => e = .returned (.tuple #[.bool (chainB xs && ringB xs), .bool (chainB xs)]) ∧ Below w.heap.size w w' := by
  have con := Lib.hid (c_haGood A c xs w hr hl)
  have conR := Lib.hid (fun W (hb : Below w.heap.size w W) => c_haRing A c xs W (hr.below hb) hl)
  clear hr
  cases hc : chainB xs
  · rw [hc] at con
    go_enter Try.func80, Try.ntmps80
    go_wp2_with (go_at_call 136; refine con.out.mono ?_; rintro e w1 ⟨rfl, hb1⟩)
    go_ret2
    exact ⟨rfl, hb1⟩
  · rw [hc] at con
    go_enter Try.func80, Try.ntmps80
    go_wp2_with (first | (go_at_call 136; refine con.out.mono ?_; rintro e w1 ⟨rfl, hb1⟩) | (go_at_call 147; refine (conR.out _ hb1).mono ?_; rintro e w2 ⟨rfl, hb2⟩))
    go_ret2
    exact ⟨by simp, bstep hb1 hb2⟩

theorem ring_ends {xs : List Int} (h : chainB xs = true) : ringB xs = (decide (1 < xs.length) && (e0 xs == e1 xs)) := by simp [ringB, e0, e1, h]

set_option maxHeartbeats 1000000 in
theorem c_implIsRing (A : Option Addr) (c : Nat) (xs : List Int) (w : World) (hr : RdI w A xs) (hl : xs.length ≤ 9223372036854775807) :
    Calls Try.prog 73 #[.slice A xs.length c] w fun e w' => e = .returned (.tuple #[.bool (chainB xs && ringB xs), .bool (chainB xs)]) ∧ Below w.heap.size w w' := by
  have con := Lib.hid (c_implEnds A c xs w hr hl)
  clear hr
  cases hc : chainB xs
  · rw [hc] at con
    go_enter Try.func73, Try.ntmps73
    go_wp2_with (go_at_call 62; refine con.out.mono ?_; rintro e w1 ⟨rfl, hb1⟩)
    go_ret2
    exact ⟨rfl, hb1⟩
  · rw [ring_ends hc]
    rw [hc] at con
    generalize e0 xs = p at *
    generalize e1 xs = q at *
    by_cases h1 : 1 < xs.length
    · have hd : decide (1 < xs.length) = true := decide_eq_true h1
      rw [hd]
      clear hd hc
      go_enter Try.func73, Try.ntmps73
      go_wp2_with (go_at_call 62; refine con.out.mono ?_; rintro e w1 ⟨rfl, hb1⟩)
      go_ret2
      exact ⟨by simp, hb1⟩
    · have hd : decide (1 < xs.length) = false := decide_eq_false h1
      rw [hd]
      clear hd hc
      go_enter Try.func73, Try.ntmps73
      go_wp2_with (go_at_call 62; refine con.out.mono ?_; rintro e w1 ⟨rfl, hb1⟩)
      go_ret2
      exact ⟨by simp, hb1⟩

end Go.Proofs.Ytlnfialfkipdjaa

namespace Go.Proofs.Ytlnfialfkipdjaa
open Go.RowKit
set_option linter.unusedVariables false

def otherI (a b x : Int) : Int := if x = a then b else if x = b then a else -1
def endI (xs : List Int) (front : Bool) : Int := if front then xs.getD 0 0 else xs.getD (xs.length - 1) 0
def layOut (xs : List Int) (p : Int) (front : Bool) : List Int := if front then [p] ++ xs else xs ++ [p]
def layT (xs : List Int) (a b : Int) (front : Bool) : List Int := layOut xs (otherI a b (endI xs front)) front
def layB (xs : List Int) (a b : Int) (front : Bool) : Bool := chainB xs && (goodB a b && chainB (layT xs a b front))
def layHL (xs : List Int) (a b : Int) (front : Bool) : List Int := if layB xs a b front then layT xs a b front else []
theorem layHL_len (xs : List Int) (a b : Int) (front : Bool) : (layHL xs a b front).length ≤ 110 := by
  unfold layHL
  split
  · rename_i h
    unfold layB at h
    simp only [Bool.and_eq_true] at h
    have := chain_len h.2.2
    omega
  · simp
theorem lay_no {xs : List Int} {a b : Int} {front : Bool} (h : layB xs a b front = false) : layHL xs a b front = [] := by simp [layHL, h]
theorem lay_no1 {xs : List Int} {a b : Int} {front : Bool} (h : chainB xs = false) : layB xs a b front = false := by simp [layB, h]
theorem lay_no2 {xs : List Int} {a b : Int} {front : Bool} (h : goodB a b = false) : layB xs a b front = false := by simp [layB, h]
theorem lay_is {xs : List Int} {a b : Int} {front : Bool} (h1 : chainB xs = true) (h2 : goodB a b = true) : layB xs a b front = chainB (layT xs a b front) := by unfold layB; rw [h1, h2]; rfl
theorem lay_nofit {xs : List Int} {a b : Int} {front : Bool} (h1 : a ≠ endI xs front) (h2 : b ≠ endI xs front) : chainB (layT xs a b front) = false := by
  refine chain_bad' fun h => ?_
  have e : otherI a b (endI xs front) = -1 := by unfold otherI; rw [if_neg (fun e => h1 e.symm), if_neg (fun e => h2 e.symm)]
  have := h (-1) (by unfold layT layOut; rw [e]; split <;> simp)
  simp [numB] at this
theorem lay_fit {a b x : Int} (h : a = x ∨ b = x) : otherI a b x = a + b - x := by
  unfold otherI
  split
  · omega
  · split <;> omega

set_option maxHeartbeats 400000 in
theorem c_haOther (a b x : Int) (w : World) : Calls Try.prog 212 #[.agg #[.int .i64 a, .int .i64 b], .int .i64 x] w fun e w' => e = .returned (.int .i64 (otherI a b x)) ∧ Below w.heap.size w w' := by
  by_cases h1 : x = a
  · have e : otherI a b x = b := by simp [otherI, h1]
    rw [e]
    have h1' : (x == a) = true := by simp [h1]
    clear e h1
    go_enter Try.func212, Try.ntmps212
    go_wp2
    go_ret
    exact ⟨rfl, by go_grown⟩
  · by_cases h2 : x = b
    · have e : otherI a b x = a := by simp [otherI, h2]
      rw [e]
      have h1' : (x == a) = false := by simp [h1]
      have h2' : (x == b) = true := by simp [h2]
      clear e h1 h2
      go_enter Try.func212, Try.ntmps212
      go_wp2
      go_ret
      exact ⟨rfl, by go_grown⟩
    · have e : otherI a b x = -1 := by simp [otherI, h1, h2]
      rw [e]
      have h1' : (x == a) = false := by simp [h1]
      have h2' : (x == b) = false := by simp [h2]
      clear e h1 h2
      go_enter Try.func212, Try.ntmps212
      go_wp2
      go_ret
      exact ⟨rfl, by go_grown⟩

set_option maxRecDepth 100000 in
set_option maxHeartbeats 600000 in
theorem c_implLay (A : Option Addr) (c : Nat) (xs : List Int) (a b : Int) (front : Bool) (w : World) (hr : RdI w A xs) (hl : xs.length ≤ 1048576) :
    Calls Try.prog 76 #[.slice A xs.length c, .agg #[.int .i64 a, .int .i64 b], .bool front] w (RetI w (layHL xs a b front) (layB xs a b front)) := by
  have con := Lib.hid (fun W (hb : Below w.heap.size w W) => c_implIsChain A c xs W (hr.below hb) (by omega))
  have conT := Lib.hid (fun W => c_implIsTile a b W)
  cases hc : chainB xs
  · have e1 := lay_no1 (a := a) (b := b) (front := front) hc
    rw [lay_no e1, e1]
    rw [hc] at con
    clear e1 hc hr
    go_enter Try.func76, Try.ntmps76
    go_wp2_with (go_at_call 70; refine (con.out _ (by go_grown)).mono ?_; rintro e w1 ⟨rfl, hb1⟩)
    go_ret2
    exact ⟨none, 0, rfl, World.ownsRow_nil _ _ _ _, bstep (by go_grown) hb1⟩
  · rw [hc] at con
    have x0 : (w.alloc (.cells #[.int .i64 a, .int .i64 b] 95)).cell? ⟨w.heap.size, 0, none⟩ = some (.int .i64 a) := by simp
    have x1 : (w.alloc (.cells #[.int .i64 a, .int .i64 b] 95)).cell? ⟨w.heap.size, 1, none⟩ = some (.int .i64 b) := by simp
    cases hg : goodB a b
    · have e1 := lay_no2 (xs := xs) (front := front) hg
      rw [lay_no e1, e1]
      rw [hg] at conT
      clear e1 hc hr hg
      go_enter Try.func76, Try.ntmps76
      go_wp2_with (first | (go_at_call 70; refine (con.out _ (by go_grown)).mono ?_; rintro e w1 ⟨rfl, hb1⟩; have y0 := keepc hb1 x0; have y1 := keepc hb1 x1) | (go_at_call 142; refine (conT.out _).mono ?_; rintro e w2 ⟨rfl, hb2⟩))
      go_ret2
      exact ⟨none, 0, rfl, World.ownsRow_nil _ _ _ _, bstep (bstep (by go_grown) hb1) hb2⟩
    · rw [hg] at conT
      have e1 := lay_is (front := front) hc hg
      have e2 : layHL xs a b front = if chainB (layT xs a b front) then layT xs a b front else [] := by unfold layHL; rw [e1]
      obtain ⟨n, hn⟩ : ∃ n, xs.length = n + 1 := ⟨xs.length - 1, by have := (chain_len hc).1; omega⟩
      obtain ⟨bk, off, rfl, g0, g1⟩ := hr.ends hn
      have hnum := chain_num hc
      have hq0 : numB (endI xs front) = true := by unfold endI; split <;> exact numB_getD hnum _
      have hq : 0 ≤ endI xs front ∧ endI xs front ≤ 9 := by simpa [numB] using hq0
      have hab : (0 ≤ a ∧ a ≤ 9) ∧ (0 ≤ b ∧ b ≤ 9) := by
        simp only [goodB, numB, Bool.and_eq_true, decide_eq_true_eq] at hg
        exact ⟨hg.1, hg.2.1⟩
      have E0 : xs.getD 0 0 = endI xs true := by simp [endI]
      have E1 : xs.getD n 0 = endI xs false := by simp [endI, hn]
      rw [E0] at g0
      rw [E1] at g1
      have conN := Lib.hid (fun (p : Int) W g (h : W.cell? ⟨g, 0, none⟩ = some (.int .i64 p)) (hb : Below w.heap.size w W) => (show Calls Try.prog 144 #[.slice (some ⟨bk, off, none⟩) xs.length c, .slice (some ⟨g, 0, none⟩) 1 1] W (RetI W (layL xs [p]) (chainB (xs ++ [p]))) from
        c_layNumbers (some ⟨bk, off, none⟩) c xs (some ⟨g, 0, none⟩) 1 [p] W (hr.below hb) ⟨g, 0, fun _ => rfl, fun j hj => by
          obtain rfl : j = 0 := by simpa using hj
          simpa using h⟩ hl (by simp)))
      have conM := Lib.hid (fun (p : Int) W g (h : W.cell? ⟨g, 0, none⟩ = some (.int .i64 p)) (hb : Below w.heap.size w W) => (show Calls Try.prog 144 #[.slice (some ⟨g, 0, none⟩) 1 1, .slice (some ⟨bk, off, none⟩) xs.length c] W (RetI W (layL [p] xs) (chainB ([p] ++ xs))) from
        c_layNumbers (some ⟨g, 0, none⟩) 1 [p] (some ⟨bk, off, none⟩) c xs W ⟨g, 0, fun _ => rfl, fun j hj => by
          obtain rfl : j = 0 := by simpa using hj
          simpa using h⟩ (hr.below hb) (by simp) hl))
      have iw : IntKind.i64.wrap ((n : Int) + 1 - 1) = (n : Int) := by rw [IntWalk.i64_in _ (by omega)]; omega
      have iw' : IntKind.i64.wrap (n : Int) = (n : Int) := IntWalk.i64_in _ (by omega)
      have i0 : (0 : Int) ≤ (n : Int) := by omega
      have i1 : (n : Int) < (n : Int) + 1 := by omega
      have i2 : (0 : Int) < (n : Int) + 1 := by omega
      rw [e2, e1]
      by_cases hfit : a = endI xs front ∨ b = endI xs front
      · have hp := lay_fit hfit
        have eF : layT xs a b front = layOut xs (a + b - endI xs front) front := by unfold layT; rw [hp]
        rw [eF]
        have hpb : -9 ≤ a + b - endI xs front ∧ a + b - endI xs front ≤ 18 := by omega
        rw [hn] at con conN conM hl
        clear e1 e2 hc hr hg hp eF hnum hq0 E0 E1
        cases front
        · have eL : (if chainB (layOut xs (a + b - endI xs false) false) = true then layOut xs (a + b - endI xs false) false else []) = layL xs [a + b - endI xs false] := rfl
          have eL2 : layOut xs (a + b - endI xs false) false = xs ++ [a + b - endI xs false] := rfl
          rw [eL, eL2, hn]
          clear g0 conM eL eL2 hn
          generalize endI xs false = q at *
          have conP := Lib.hid (fun W g h hb => conN.out (a + b - q) W g h hb)
          clear conN
          obtain ⟨hq1, hq2⟩ := hq
          obtain ⟨⟨ha1, ha2⟩, hb1, hb2⟩ := hab
          obtain ⟨hp1, hp2⟩ := hpb
          generalize layL xs [a + b - q] = zs at *
          generalize chainB (xs ++ [a + b - q]) = bz at *
          by_cases ha : a = q
          · have h1 : (a != q) = false := by simp [ha]
            clear ha hfit
            go_enter Try.func76, Try.ntmps76
            go_wp2_with (first | (go_at_call 70; refine (con.out _ (by go_grown)).mono ?_; rintro e w1 ⟨rfl, hb1⟩; have y0 := keepc hb1 x0; have y1 := keepc hb1 x1) | (go_at_call 142; refine (conT.out _).mono ?_; rintro e w2 ⟨rfl, hb2⟩; have z0 := keepc hb2 y0; have z1 := keepc hb2 y1; have hb12 : Below w.heap.size w w2 := bstep (bstep (by go_grown) hb1) hb2; have k1 := keepc hb12 g1) | (go_at_call 144; refine (conP.out _ w2.heap.size (by simp) (hb12.alloc hb12.size _)).mono ?_; rintro e w5 ⟨A5, c5, rfl, ho5, hb5⟩))
            go_ret2
            exact ⟨A5, c5, rfl, own_base ho5 (hb12.alloc hb12.size _).size, bstep (hb12.alloc hb12.size _) hb5⟩
          · have h1 : (a != q) = true := by simp [ha]
            have h2 : (b != q) = false := by simp [hfit.resolve_left ha]
            clear ha hfit
            go_enter Try.func76, Try.ntmps76
            go_wp2_with (first | (go_at_call 70; refine (con.out _ (by go_grown)).mono ?_; rintro e w1 ⟨rfl, hb1⟩; have y0 := keepc hb1 x0; have y1 := keepc hb1 x1) | (go_at_call 142; refine (conT.out _).mono ?_; rintro e w2 ⟨rfl, hb2⟩; have z0 := keepc hb2 y0; have z1 := keepc hb2 y1; have hb12 : Below w.heap.size w w2 := bstep (bstep (by go_grown) hb1) hb2; have k1 := keepc hb12 g1) | (go_at_call 144; refine (conP.out _ w2.heap.size (by simp) (hb12.alloc hb12.size _)).mono ?_; rintro e w5 ⟨A5, c5, rfl, ho5, hb5⟩))
            go_ret2
            exact ⟨A5, c5, rfl, own_base ho5 (hb12.alloc hb12.size _).size, bstep (hb12.alloc hb12.size _) hb5⟩
        · have eL : (if chainB (layOut xs (a + b - endI xs true) true) = true then layOut xs (a + b - endI xs true) true else []) = layL [a + b - endI xs true] xs := rfl
          have eL2 : layOut xs (a + b - endI xs true) true = [a + b - endI xs true] ++ xs := rfl
          rw [eL, eL2, hn]
          clear conN eL eL2 hn
          generalize endI xs true = q at *
          generalize endI xs false = q' at *
          have conP := Lib.hid (fun W g h hb => conM.out (a + b - q) W g h hb)
          clear conM
          obtain ⟨hq1, hq2⟩ := hq
          obtain ⟨⟨ha1, ha2⟩, hb1, hb2⟩ := hab
          obtain ⟨hp1, hp2⟩ := hpb
          generalize layL [a + b - q] xs = zs at *
          generalize chainB ([a + b - q] ++ xs) = bz at *
          by_cases ha : a = q
          · have h1 : (a != q) = false := by simp [ha]
            clear ha hfit
            go_enter Try.func76, Try.ntmps76
            go_wp2_with (first | (go_at_call 70; refine (con.out _ (by go_grown)).mono ?_; rintro e w1 ⟨rfl, hb1⟩; have y0 := keepc hb1 x0; have y1 := keepc hb1 x1) | (go_at_call 142; refine (conT.out _).mono ?_; rintro e w2 ⟨rfl, hb2⟩; have z0 := keepc hb2 y0; have z1 := keepc hb2 y1; have hb12 : Below w.heap.size w w2 := bstep (bstep (by go_grown) hb1) hb2; have k0 := keepc hb12 g0; have k1 := keepc hb12 g1) | (go_at_call 144; refine (conP.out _ w2.heap.size (by simp) (hb12.alloc hb12.size _)).mono ?_; rintro e w5 ⟨A5, c5, rfl, ho5, hb5⟩))
            go_ret2
            exact ⟨A5, c5, rfl, own_base ho5 (hb12.alloc hb12.size _).size, bstep (hb12.alloc hb12.size _) hb5⟩
          · have h1 : (a != q) = true := by simp [ha]
            have h2 : (b != q) = false := by simp [hfit.resolve_left ha]
            clear ha hfit
            go_enter Try.func76, Try.ntmps76
            go_wp2_with (first | (go_at_call 70; refine (con.out _ (by go_grown)).mono ?_; rintro e w1 ⟨rfl, hb1⟩; have y0 := keepc hb1 x0; have y1 := keepc hb1 x1) | (go_at_call 142; refine (conT.out _).mono ?_; rintro e w2 ⟨rfl, hb2⟩; have z0 := keepc hb2 y0; have z1 := keepc hb2 y1; have hb12 : Below w.heap.size w w2 := bstep (bstep (by go_grown) hb1) hb2; have k0 := keepc hb12 g0; have k1 := keepc hb12 g1) | (go_at_call 144; refine (conP.out _ w2.heap.size (by simp) (hb12.alloc hb12.size _)).mono ?_; rintro e w5 ⟨A5, c5, rfl, ho5, hb5⟩))
            go_ret2
            exact ⟨A5, c5, rfl, own_base ho5 (hb12.alloc hb12.size _).size, bstep (hb12.alloc hb12.size _) hb5⟩
      · have hnb := not_or.1 hfit
        have e3 := lay_nofit hnb.1 hnb.2
        rw [e3, if_neg (by simp)]
        have h1 : (a != endI xs front) = true := by simp [hnb.1]
        have h2 : (b != endI xs front) = true := by simp [hnb.2]
        rw [hn] at con hl ⊢
        clear e1 e2 hc hr hg e3 hnum hq0 E0 E1 hn hfit hnb conN conM
        cases front
        · generalize endI xs false = q at *
          clear g0
          go_enter Try.func76, Try.ntmps76
          go_wp2_with (first | (go_at_call 70; refine (con.out _ (by go_grown)).mono ?_; rintro e w1 ⟨rfl, hb1⟩; have y0 := keepc hb1 x0; have y1 := keepc hb1 x1) | (go_at_call 142; refine (conT.out _).mono ?_; rintro e w2 ⟨rfl, hb2⟩; have z0 := keepc hb2 y0; have z1 := keepc hb2 y1; have hb12 : Below w.heap.size w w2 := bstep (bstep (by go_grown) hb1) hb2; have k1 := (hb12.cell (p := ⟨bk, off + n, none⟩) (block_lt g1)).trans g1))
          go_ret2
          exact ⟨none, 0, rfl, World.ownsRow_nil _ _ _ _, hb12⟩
        · generalize endI xs true = q at *
          generalize endI xs false = q' at *
          go_enter Try.func76, Try.ntmps76
          go_wp2_with (first | (go_at_call 70; refine (con.out _ (by go_grown)).mono ?_; rintro e w1 ⟨rfl, hb1⟩; have y0 := keepc hb1 x0; have y1 := keepc hb1 x1) | (go_at_call 142; refine (conT.out _).mono ?_; rintro e w2 ⟨rfl, hb2⟩; have z0 := keepc hb2 y0; have z1 := keepc hb2 y1; have hb12 : Below w.heap.size w w2 := bstep (bstep (by go_grown) hb1) hb2; have k1 := (hb12.cell (p := ⟨bk, off + n, none⟩) (block_lt g1)).trans g1; have k0 := (hb12.cell (p := ⟨bk, off, none⟩) (block_lt g0)).trans g0))
          go_ret2
          exact ⟨none, 0, rfl, World.ownsRow_nil _ _ _ _, hb12⟩

end Go.Proofs.Ytlnfialfkipdjaa

namespace Go.Proofs.Ytlnfialfkipdjaa
open Go.RowKit
set_option linter.unusedVariables false

def endV (k : Nat) : Value := .string (endS k)
theorem endS_l {k : Nat} (hk : k ≤ 2) : ((endS k).toList == [108]) = (k == 1) := by
  have : k = 0 ∨ k = 1 ∨ k = 2 := by omega
  rcases this with rfl | rfl | rfl
  · show ((⟨#[]⟩ : ByteArray).toList == [108]) = false
    first | decide | rfl | kernel_rfl | (simp; done) | (go_simp; done)
  · show ((⟨#[108]⟩ : ByteArray).toList == [108]) = true
    first | decide | rfl | kernel_rfl | (simp; done) | (go_simp; done)
  · show ((⟨#[114]⟩ : ByteArray).toList == [108]) = false
    first | decide | rfl | kernel_rfl | (simp; done) | (go_simp; done)

def rowWL (R : List Int) (a b : Int) (k : Nat) : List Int := if R.length = 0 then [a, b] else layHL R a b (k == 1)

set_option maxRecDepth 100000 in
set_option maxHeartbeats 1000000 in
theorem c_rowWith (AF : Option Addr) (cF : Nat) (F : List (Int × Int)) (AS : Option Addr) (cS : Nat) (S : List (Int × Int)) (AR : Option Addr) (cR : Nat) (R : List Int) (t u : Int) (a b : Int) (k : Nat) (hk : k ≤ 2) (w : World) (hR : RdI w AR R) (lR : R.length ≤ 1048576) :
    Calls Try.prog 210 #[.agg #[.slice AF F.length cF, .slice AS S.length cS, .slice AR R.length cR, .int .i64 t, .int .i64 u], .agg #[.int .i64 a, .int .i64 b, .string (endS k)]] w (RetN w (rowWL R a b k)) := by
  have he := endS_l hk
  unfold rowWL
  generalize hs : endS k = s at *
  by_cases h0 : R.length = 0
  · have e0 : ((R.length : Int) == 0) = true := by simp [h0]
    rw [if_pos h0]
    clear h0 he hs hR
    go_enter Try.func210, Try.ntmps210
    go_upto_region 1 with (fail)
    obtain ⟨v, hv⟩ : ∃ v, v = (w.alloc (.cells #[.slice AF F.length cF, .slice AS S.length cS, .slice AR R.length cR, .int .i64 t, .int .i64 u] 43)).alloc (.cells #[.int .i64 a, .int .i64 b, .string s] 198) := ⟨_, rfl⟩
    rw [← hv]
    have hbv : Below w.heap.size w v := by rw [hv]; exact ((Below.refl _ _).alloc (Nat.le_refl _) _).alloc (by simp) _
    have x2 : v.cell? ⟨w.heap.size, 2, none⟩ = some (.slice AR R.length cR) := by rw [hv]; simp
    have y0 : v.cell? ⟨w.heap.size + 1, 0, none⟩ = some (.int .i64 a) := by rw [hv]; simp
    have y1 : v.cell? ⟨w.heap.size + 1, 1, none⟩ = some (.int .i64 b) := by rw [hv]; simp
    have y2 : v.cell? ⟨w.heap.size + 1, 2, none⟩ = some (.string s) := by rw [hv]; simp
    clear hv
    go_wp2
    go_ret
    exact ⟨some ⟨v.heap.size, 0, none⟩, 2, rfl, World.ownsRow_lit v #[.int .i64 a, .int .i64 b] 2 hbv.size (by unfold maxLen; omega) rfl, hbv.alloc hbv.size _⟩
  · have e0 : ((R.length : Int) == 0) = false := by rw [beq_eq_false_iff_ne]; omega
    rw [if_neg h0]
    have con := Lib.hid (fun W (hb : Below w.heap.size w W) => c_implLay AR cR R a b (k == 1) W (hR.below hb) lR)
    generalize layHL R a b (k == 1) = L at *
    generalize layB R a b (k == 1) = B at *
    rw [← he] at con
    clear h0 he hs hR
    go_enter Try.func210, Try.ntmps210
    go_upto_region 1 with (fail)
    obtain ⟨v, hv⟩ : ∃ v, v = (w.alloc (.cells #[.slice AF F.length cF, .slice AS S.length cS, .slice AR R.length cR, .int .i64 t, .int .i64 u] 43)).alloc (.cells #[.int .i64 a, .int .i64 b, .string s] 198) := ⟨_, rfl⟩
    rw [← hv]
    have hbv : Below w.heap.size w v := by rw [hv]; exact ((Below.refl _ _).alloc (Nat.le_refl _) _).alloc (by simp) _
    have x2 : v.cell? ⟨w.heap.size, 2, none⟩ = some (.slice AR R.length cR) := by rw [hv]; simp
    have y0 : v.cell? ⟨w.heap.size + 1, 0, none⟩ = some (.int .i64 a) := by rw [hv]; simp
    have y1 : v.cell? ⟨w.heap.size + 1, 1, none⟩ = some (.int .i64 b) := by rw [hv]; simp
    have y2 : v.cell? ⟨w.heap.size + 1, 2, none⟩ = some (.string s) := by rw [hv]; simp
    clear hv
    go_wp2_with fail
    refine (con.out v hbv).mono ?_
    rintro e w3 ⟨A3, c3, rfl, o3, h3⟩
    go_wp2
    go_ret
    exact ⟨A3, c3, rfl, own_base o3 hbv.size, bstep hbv h3⟩

end Go.Proofs.Ytlnfialfkipdjaa

namespace Go.Proofs.Ytlnfialfkipdjaa
open Go.RowKit
set_option linter.unusedVariables false

theorem zeroCells_one {zs : Array Value} (h : ∀ u ∈ zs, u.oneCell' = true) (n : Nat) : ∀ v ∈ (Builtin.zeroCells zs n).toList, v.oneCell' = true := by
  intro v hv
  simp only [Builtin.zeroCells, Array.toList_map, List.mem_map, Array.toList_range, List.mem_range] at hv
  obtain ⟨i, hi, rfl⟩ := hv
  have hm : 0 < zs.size := by
    rcases Nat.eq_zero_or_pos zs.size with h0 | h0
    · rw [h0, Nat.mul_zero] at hi; omega
    · exact h0
  have := Nat.mod_lt i hm
  rw [getElem!_pos zs _ this]
  exact h _ (Array.getElem_mem this)
theorem zeroCells_len (zs : Array Value) (n : Nat) : (Builtin.zeroCells zs n).toList.length = n * zs.size := by simp [Builtin.zeroCells]

/-- clear of a slice of n > 0 elements of more cells than one. -/
theorem run_clear_rows {P : Program} (w : World) (t e ty : TypeId) (z : Value) (ht : P.underlying t = some (.slice e)) (hv : ∀ w, (zeroValue e).run P w = .ok z w) (h1 : ∀ u ∈ z.cells, u.oneCell' = true) (b o n c : Nat) (hn : 0 < n)
    (hc : ∀ j, j < n * z.cells.size → (w.cell? ⟨b, o + j, none⟩).isSome = true) (hf : ∀ j, j < n * z.cells.size → w.frozen? ⟨b, o + j, none⟩ = false) :
    (Builtin.clear_ #[t] ty #[.slice (some ⟨b, o, none⟩) n c]).run P w = .ok (.tuple #[]) (w.setCells b o (Builtin.zeroCells z.cells n).toList) := by
  have hl := zeroCells_len z.cells n
  have hst := run_storeCells_cells (P := P) b o (Builtin.zeroCells z.cells n).toList 0 w (by rw [hl]; simpa using hc) (by rw [hl]; simpa using hf) (zeroCells_one h1 n)
  simp only [Nat.add_zero] at hst
  obtain ⟨m, rfl⟩ : ∃ m, n = m + 1 := ⟨n - 1, by omega⟩
  simp [Builtin.clear_, run_underlying ht, hv, hst]

theorem own_setRow {base e sz g n c : Nat} : ∀ (vs : List Value) (o : Nat) (w : World) (cs : List Value), w.ownsRow base e sz (.slice (some ⟨g, 0, none⟩) n c) n cs → o + vs.length ≤ n * sz →
    (w.setCells g o vs).ownsRow base e sz (.slice (some ⟨g, 0, none⟩) n c) n (cs.take o ++ vs ++ cs.drop (o + vs.length))
  | [], o, w, cs, h, _ => by simpa [World.setCells] using h
  | v :: r, o, w, cs, h, ho => by
    have hl : cs.length = n * sz := h.1
    have := own_setRow r (o + 1) _ _ (h.stored o v).1 (by simp at ho; omega)
    simp only [World.setCells]
    have e1 : (cs.set o v).take (o + 1) = cs.take o ++ [v] := by
      simp only [List.length_cons] at ho
      rw [List.take_set, List.take_succ_eq_append_getElem (by omega), List.set_append_right _ _ (by simp; omega)]
      simp [Nat.min_eq_left (show o ≤ cs.length by omega)]
    have e2 : (cs.set o v).drop (o + 1 + r.length) = cs.drop (o + (v :: r).length) := by
      rw [List.drop_set_of_lt (by omega)]
      congr 1
      simp only [List.length_cons]
      omega
    rw [e1, e2] at this
    simpa using this
theorem grown_trans {w a b : World} {r : Option Nat} (h1 : w.grownBy a r) (h2 : a.grownBy b r) : w.grownBy b r :=
  ⟨h2.os.trans h1.os, h2.tape.trans h1.tape, h2.output.trans h1.output, Nat.le_trans h1.size h2.size, fun k hk hne => (h2.block k (Nat.lt_of_lt_of_le hk h1.size) hne).trans (h1.block k hk hne)⟩
theorem grown_refl (w : World) (r : Option Nat) : w.grownBy w r := ⟨rfl, rfl, rfl, Nat.le_refl _, fun _ _ _ => rfl⟩
theorem grown_setG (w : World) (g j : Nat) (v : Value) : w.grownBy (w.setCell ⟨g, j, none⟩ v) (some g) :=
  ⟨rfl, rfl, rfl, by simp, fun k _ hk => heap_setCell_other w ⟨g, j, none⟩ k v (fun e => hk (by simp [e]))⟩
theorem grown_setRow {g : Nat} : ∀ (vs : List Value) (o : Nat) (w : World), w.grownBy (w.setCells g o vs) (some g)
  | [], _, w => grown_refl w _
  | v :: r, o, w => by
    simp only [World.setCells]
    exact grown_trans (grown_setG w g o v) (grown_setRow r (o + 1) _)
theorem own_shrink {w : World} {base e sz g n c m : Nat} {cs : List Value} (h : w.ownsRow base e sz (.slice (some ⟨g, 0, none⟩) n c) n cs) (hm : m ≤ n) :
    w.ownsRow base e sz (.slice (some ⟨g, 0, none⟩) m c) m (cs.take (m * sz)) := by
  have hms : m * sz ≤ n * sz := Nat.mul_le_mul_right _ hm
  rcases h.2 with ⟨h', _⟩ | ⟨g', cap', cur, h', hb, hg, hnc, hcm, hcs, htake⟩
  · simp at h'
  · simp only [Value.slice.injEq, Option.some.injEq, Addr.mk.injEq, and_true, true_and] at h'
    obtain ⟨rfl, rfl⟩ := h'
    refine ⟨by rw [List.length_take, h.1]; omega, .inr ⟨g, c, cur, rfl, hb, hg, by omega, hcm, hcs, ?_⟩⟩
    rw [← htake, List.take_take, Nat.min_eq_left hms]
/-- A tile written into a row of tiles. -/
theorem cellsT_setT : ∀ (ts : List (Int × Int)) (m : Nat) (p q : Int), m < ts.length → cellsT (ts.set m (p, q)) = ((cellsT ts).set (m * 2) (.int .i64 p)).set (m * 2 + 1) (.int .i64 q)
  | [], m, _, _, h => by simp at h
  | t :: ts, 0, p, q, _ => by simp [cellsT]
  | t :: ts, m + 1, p, q, h => by
    have ih := cellsT_setT ts m p q (by simpa using h)
    have e : ∀ (t : Int × Int) (us : List (Int × Int)), cellsT (t :: us) = .int .i64 t.1 :: .int .i64 t.2 :: cellsT us := fun t us => by simp [cellsT]
    rw [List.set_cons_succ, e, e, ih, show (m + 1) * 2 = m * 2 + 1 + 1 from by omega, List.set_cons_succ, List.set_cons_succ, List.set_cons_succ, List.set_cons_succ]
theorem cellsT_take (ts : List (Int × Int)) (m : Nat) : (cellsT ts).take (m * 2) = cellsT (ts.take m) := by
  induction ts generalizing m with
  | nil => simp [cellsT]
  | cons t ts ih =>
    have e : ∀ (t : Int × Int) (us : List (Int × Int)), cellsT (t :: us) = .int .i64 t.1 :: .int .i64 t.2 :: cellsT us := fun t us => by simp [cellsT]
    cases m with
    | zero => simp [cellsT]
    | succ m => rw [e, List.take_succ_cons, e, ← ih m, show (m + 1) * 2 = m * 2 + 1 + 1 from by omega]; simp
end Go.Proofs.Ytlnfialfkipdjaa

namespace Go.Proofs.Ytlnfialfkipdjaa
open Go.RowKit
set_option linter.unusedVariables false

/-- The test as a value. -/
def laidF (g : Nat) : Value := .func (.func 208) #[] #[.pointer (some ⟨g, 0, none⟩)]

set_option maxRecDepth 100000 in
set_option maxHeartbeats 1000000 in
theorem c_laidIs (g : Nat) (a b x y : Int) (w : World) (h0 : w.cell? ⟨g, 0, none⟩ = some (.int .i64 a)) (h1 : w.cell? ⟨g, 1, none⟩ = some (.int .i64 b)) :
    Calls Try.prog 208 #[.agg #[.int .i64 x, .int .i64 y], .pointer (some ⟨g, 0, none⟩)] w fun e w' => e = .returned (.bool (isTB a b (x, y))) ∧ Below w.heap.size w w' := by
  have hg := block_lt h0
  have heq := Try.eq_tile x y a b
  have hb0 : Below w.heap.size w (w.alloc (.cells #[.int .i64 x, .int .i64 y] 95)) := (Below.refl _ _).alloc (Nat.le_refl _) _
  have he : isTB a b (x, y) = (x == a && y == b) := rfl
  rw [he]
  go_enter Try.func208, Try.ntmps208
  go_wp2
  go_ret
  exact ⟨rfl, hb0⟩

set_option maxRecDepth 100000 in
set_option maxHeartbeats 2000000 in
theorem c_laidIndex (A : Option Addr) (c : Nat) (ts : List (Int × Int)) (g : Nat) (a b : Int) (w : World) (hr : RdT w A ts) (hl : ts.length ≤ 1048576) (h0 : w.cell? ⟨g, 0, none⟩ = some (.int .i64 a)) (h1 : w.cell? ⟨g, 1, none⟩ = some (.int .i64 b)) :
    Calls Try.prog 159 #[.slice A ts.length c, .func (.func 208) #[] #[.pointer (some ⟨g, 0, none⟩)]] w fun e w' => (∃ i : Nat, i ≤ ts.length ∧ (∀ j (h : j < ts.length), j < i → isTB a b ts[j] = false) ∧ ((i = ts.length ∧ e = .returned (.int .i64 (-1))) ∨ ∃ h : i < ts.length, isTB a b ts[i] = true ∧ e = .returned (.int .i64 (i : Int)))) ∧ Below w.heap.size w w' := by
  go_enter Try.func159, Try.ntmps159
  go_wp2
  go_loopw [8] (fun i wr => ∃ k : Nat, k ≤ ts.length ∧ i = .int .i64 k ∧ (∀ j (h : j < ts.length), j < k → isTB a b ts[j] = false) ∧ Below w.heap.size w wr) (fun i _ => ts.length - (intOf i).toNat)
  case atStart => exact ⟨0, Nat.zero_le _, rfl, fun j _ h => absurd h (Nat.not_lt_zero _), Below.refl _ _⟩
  case round =>
    obtain ⟨k, hk, rfl, hno, hb⟩ := hrel
    by_cases hlt : k < ts.length
    · obtain ⟨bk, off, rfl, hbk, hc⟩ := hr.at_ hlt
      have g1 := keepc hb (hc k hlt).1
      have g2 := keepc hb (hc k hlt).2
      have Hno := Lib.hid hno
      have Hb := Lib.hid hb
      have d0 := keepc hb h0
      have d1 := keepc hb h1
      obtain ⟨x, hx⟩ : ∃ x, ts[k].1 = x := ⟨_, rfl⟩
      obtain ⟨y, hy⟩ : ∃ y, ts[k].2 = y := ⟨_, rfl⟩
      rw [hx] at g1
      rw [hy] at g2
      have con := c_laidIs g a b x y wr d0 d1
      obtain ⟨q, hq⟩ : ∃ q, isTB a b ts[k] = q := ⟨_, rfl⟩
      have hq' : isTB a b (x, y) = q := by rw [← hq, ← hx, ← hy]
      rw [hq'] at con
      have Con := Lib.hid con
      have Hq := Lib.hid hq
      clear con hq hq' hx hy hc hb hno d0 d1 hr h0 h1
      cases q
      · go_wp2_with (go_at_call 208; refine Con.out.mono ?_; rintro e w2 ⟨rfl, hb2⟩)
        go_roundw
        case rel => exact ⟨k + 1, by omega, by go_num, fun j hj hjk => by
          rcases Nat.lt_succ_iff_lt_or_eq.1 hjk with h | rfl
          · exact Hno.out j hj h
          · exact Hq.out, bstep Hb.out hb2⟩
        case measure => simp [intOf]; omega
      · go_wp2_with (go_at_call 208; refine Con.out.mono ?_; rintro e w2 ⟨rfl, hb2⟩)
        go_ret
        exact ⟨⟨k, by omega, Hno.out, .inr ⟨hlt, Hq.out, rfl⟩⟩, bstep Hb.out hb2⟩
    · have : k = ts.length := by omega
      subst this
      go_wp2
      go_ret
      exact ⟨⟨ts.length, Nat.le_refl _, hno, .inl ⟨rfl, rfl⟩⟩, hb⟩

theorem woTo_first {ts : List (Int × Int)} {a b : Int} {i : Nat} (hi : i ≤ ts.length) (hno : ∀ j (h : j < ts.length), j < i → isTB a b ts[j] = false) : woTo ts a b i = ts.take i := by
  unfold woTo
  refine List.filter_eq_self.2 fun x hx => ?_
  obtain ⟨j, hj, rfl⟩ := List.mem_iff_getElem.1 hx
  rw [List.getElem_take, hno j _ (by simp at hj; omega)]
  rfl
theorem grown_of_below {w w' : World} (r : Option Nat) (h : Below w.heap.size w w') : w.grownBy w' r := ⟨h.os, h.tape, h.output, h.size, fun k hk _ => h.block k hk⟩
theorem drop_head {X ts : List (Int × Int)} {k : Nat} (h : X.drop k = ts.drop k) (hX : X.length = ts.length) (hk : k < ts.length) : X[k]'(by omega) = ts[k] := by
  have e := congrArg (fun l => l[0]?) h
  simp only [List.getElem?_drop, Nat.add_zero] at e
  rw [List.getElem?_eq_getElem (by omega), List.getElem?_eq_getElem hk] at e
  exact Option.some.inj e

/-- A row under way: its first m tiles are what is kept of the first k, from k on it is as it was. -/
structure DelAt (ts X : List (Int × Int)) (a b : Int) (m k : Nat) : Prop where
  len : X.length = ts.length
  mm : m = (woTo ts a b k).length
  ltk : m < k
  kn : k ≤ ts.length
  head : X.take m = woTo ts a b k
  tail : X.drop k = ts.drop k
theorem DelAt.skip {ts X : List (Int × Int)} {a b : Int} {m k : Nat} (h : DelAt ts X a b m k) (hk : k < ts.length) (he : isTB a b ts[k] = true) : DelAt ts X a b m (k + 1) := by
  have e := woTo_no hk he
  refine ⟨h.len, by rw [e]; exact h.mm, by have := h.ltk; omega, hk, by rw [e]; exact h.head, ?_⟩
  rw [← List.drop_drop, ← List.drop_drop, h.tail]
theorem DelAt.keep {ts X : List (Int × Int)} {a b : Int} {m k : Nat} (h : DelAt ts X a b m k) (hk : k < ts.length) (he : isTB a b ts[k] = false) : DelAt ts (X.set m ts[k]) a b (m + 1) (k + 1) := by
  have e := woTo_yes hk he
  have hm := h.ltk
  have hl := h.len
  refine ⟨by rw [List.length_set]; exact hl, by rw [e, List.length_append, ← h.mm]; rfl, by omega, hk, ?_, ?_⟩
  · rw [e, List.take_set, List.take_succ_eq_append_getElem (by omega), List.set_append_right _ _ (by rw [List.length_take]; exact Nat.min_le_left _ _), ← h.head]
    simp [Nat.min_eq_left (show m ≤ X.length by omega)]
  · rw [List.drop_set_of_lt (by omega), ← List.drop_drop, ← List.drop_drop, h.tail]

set_option maxRecDepth 100000 in
set_option maxHeartbeats 4000000 in
theorem c_laidDel (A : Option Addr) (c : Nat) (ts : List (Int × Int)) (g base : Nat) (a b : Int) (w : World) (ho : w.ownsRow base 95 2 (.slice A ts.length c) ts.length (cellsT ts)) (hl : ts.length ≤ 1048576) (hne : (Value.slice A ts.length c).ownBlock ≠ some g) (h0 : w.cell? ⟨g, 0, none⟩ = some (.int .i64 a)) (h1 : w.cell? ⟨g, 1, none⟩ = some (.int .i64 b)) :
    Calls Try.prog 209 #[.slice A ts.length c, .func (.func 208) #[] #[.pointer (some ⟨g, 0, none⟩)]] w fun e w' => e = .returned (.slice A (woL ts a b).length c) ∧ w'.ownsRow base 95 2 (.slice A (woL ts a b).length c) (woL ts a b).length (cellsT (woL ts a b)) ∧ w.grownBy w' (Value.slice A ts.length c).ownBlock := by
  have con := c_laidIndex A c ts g a b w (RdT.of_own ho) hl h0 h1
  go_enter Try.func209, Try.ntmps209
  go_wp2_with fail
  refine con.mono ?_
  rintro e w1 ⟨⟨i, hi, hno, ⟨hin, rfl⟩ | ⟨hlt, hyes, rfl⟩⟩, hb1⟩
  · subst hin
    have ew : woL ts a b = ts := by rw [← woTo_all, woTo_first (Nat.le_refl _) hno, List.take_length]
    clear con hno
    have Ew := Lib.hid ew
    clear ew
    go_wp2
    go_ret
    exact ⟨by rw [Ew.out]; rfl, by rw [Ew.out]; exact own_keep ho hb1, grown_of_below _ hb1⟩
  · obtain ⟨g0, rfl⟩ : ∃ g0, A = some ⟨g0, 0, none⟩ := by
      rcases ho.2 with ⟨_, hn⟩ | ⟨g0, _, _, hv, _⟩
      · omega
      · injection hv with e1
        exact ⟨g0, e1⟩
    have hne' : g ≠ g0 := fun e => hne (by rw [e]; rfl)
    have hgl := block_lt h0
    have ei : (((i : Nat) : Int) == -1) = false := by rw [beq_eq_false_iff_ne]; omega
    have gr1 := grown_of_below (some g0) hb1
    have o1 := own_keep ho hb1
    have st : DelAt ts ts a b i (i + 1) := by
      have e := woTo_no hlt hyes
      have e2 := woTo_first (Nat.le_of_lt hlt) hno
      exact ⟨rfl, by rw [e, e2]; simp; omega, by omega, hlt, by rw [e, e2], rfl⟩
    clear con hno hyes hne hb1
    go_wp2
    go_loopw [5, 6] (fun v j wr => ∃ (k m : Nat) (X : List (Int × Int)), DelAt ts X a b m k ∧ v = .int .i64 m ∧ j = .int .i64 k ∧ wr.ownsRow base 95 2 (.slice (some ⟨g0, 0, none⟩) ts.length c) ts.length (cellsT X) ∧ w.grownBy wr (some g0)) (fun _ j _ => ts.length - (intOf j).toNat)
    case atStart => exact ⟨i + 1, i, ts, st, rfl, by go_num, o1, gr1⟩
    case round =>
      obtain ⟨k, m, X, dl, rfl, rfl, ox, gr⟩ := hrel
      have hXl := dl.len
      have hmk := dl.ltk
      have hkn := dl.kn
      have d0 := (World.cell?_of_block (a := ⟨g, 0, none⟩) (gr.block g hgl (fun e => hne' (Option.some.inj e)))).trans h0
      have d1 := (World.cell?_of_block (a := ⟨g, 1, none⟩) (gr.block g hgl (fun e => hne' (Option.some.inj e)))).trans h1
      by_cases hk : k < ts.length
      · have rx : RdT wr (some ⟨g0, 0, none⟩) X := RdT.of_own (n := ts.length) (c := c) (by rw [hXl]; exact ox)
        obtain ⟨b2, o2, hA, hbl, hc⟩ := rx.at_ (k := k) (by omega)
        injection hA with hA
        injection hA with hA1 hA2
        subst hA1 hA2
        have x0 := (hc k (by omega)).1
        have x1 := (hc k (by omega)).2
        have y0 := (hc m (by omega)).1
        have y1 := (hc m (by omega)).2
        have eX := drop_head dl.tail hXl hk
        obtain ⟨p, hp⟩ : ∃ p, X[k].1 = p := ⟨_, rfl⟩
        obtain ⟨q, hq⟩ : ∃ q, X[k].2 = q := ⟨_, rfl⟩
        have epq : ts[k] = (p, q) := by rw [← eX, ← hp, ← hq]
        rw [hp] at x0
        rw [hq] at x1
        have con2 := Lib.hid (fun W (hb : Below wr.heap.size wr W) => c_laidIs g a b p q W (keepc hb d0) (keepc hb d1))
        have Yes := Lib.hid (fun h => dl.keep hk h)
        have No := Lib.hid (fun h => dl.skip hk h)
        rw [epq] at Yes No
        have i0 : (0 : Int) ≤ (m : Int) := by omega
        have i1 : (m : Int) < (ts.length : Int) := by omega
        simp only [Nat.zero_add] at x0 x1 y0 y1
        generalize X[m].1 = r0 at *
        generalize X[m].2 = r1 at *
        clear hc rx h0 h1 d0 d1 dl hp hq eX epq ho o1
        go_upto_region 8 with (fail)
        obtain ⟨v1, hv1⟩ : ∃ v1, v1 = wr.alloc (.cells #[.int .i64 p, .int .i64 q] 95) := ⟨_, rfl⟩
        rw [← hv1]
        have bv : Below wr.heap.size wr v1 := by rw [hv1]; exact (Below.refl _ _).alloc (Nat.le_refl _) _
        have q0 : v1.cell? ⟨wr.heap.size, 0, none⟩ = some (.int .i64 p) := by rw [hv1]; simp
        have q1 : v1.cell? ⟨wr.heap.size, 1, none⟩ = some (.int .i64 q) := by rw [hv1]; simp
        clear hv1 x0 x1
        obtain ⟨d, hd⟩ : ∃ d, isTB a b (p, q) = d := ⟨_, rfl⟩
        have Con2 := con2.out v1 bv
        rw [hd] at Con2
        have hlw : g0 < wr.heap.size := hbl
        clear con2
        cases d
        · have dk := Lib.hid (Yes.out hd)
          have Con3 := Lib.hid Con2
          clear Con2 Yes No hd
          go_wp2_with (go_at_call 208; refine Con3.out.mono ?_; rintro e w2 ⟨rfl, hb2⟩; have b12 := bstep bv hb2; have q02 := keepc hb2 q0; have q12 := keepc hb2 q1; have y02 := keepc b12 y0; have y12 := keepc b12 y1; have ox2 := own_keep ox b12; have z0 := ox2.frozenAt (m * 2); have z1 := ox2.frozenAt (m * 2 + 1))
          go_roundw
          case rel =>
            refine ⟨k + 1, m + 1, X.set m (p, q), dk.out, by go_num, by go_num, ?_, ?_⟩
            · rw [cellsT_setT X m p q (by omega)]
              exact ((ox2.stored (m * 2) _).1.stored (m * 2 + 1) _).1
            · exact grown_trans (grown_trans gr (grown_of_below _ b12)) (grown_trans (grown_setG _ _ _ _) (grown_setG _ _ _ _))
          case measure => simp [intOf]; omega
        · have dk := Lib.hid (No.out hd)
          have Con3 := Lib.hid Con2
          clear Con2 Yes No hd
          go_wp2_with (go_at_call 208; refine Con3.out.mono ?_; rintro e w2 ⟨rfl, hb2⟩; have b12 := bstep bv hb2)
          go_roundw
          case rel => exact ⟨k + 1, m, X, dk.out, rfl, by go_num, own_keep ox b12, grown_trans gr (grown_of_below _ b12)⟩
          case measure => simp [intOf]; omega
      · have : k = ts.length := by omega
        subst this
        have hm : m = (woL ts a b).length := by rw [dl.mm, woTo_all]
        have hhd := dl.head
        rw [woTo_all] at hhd
        have hcn : ts.length ≤ c := own_cap ox
        have hf := fun j => ox.frozenAt j
        have hcl : ∀ ty, (Builtin.clear_ #[22] ty #[.slice (some ⟨g0, m * 2, none⟩) (ts.length - m) (c - m)]).run Try.prog wr = .ok (.tuple #[]) (wr.setCells g0 (m * 2) (Builtin.zeroCells #[.int .i64 0, .int .i64 0] (ts.length - m)).toList) :=
          fun ty => run_clear_rows wr _ _ ty (.agg #[.int .i64 0, .int .i64 0]) Try.underlying22 Try.zeroValue95 (by intro u hu; simp [Value.cells] at hu; subst hu; rfl) g0 (m * 2) _ _ (by omega) (fun j hj => by
            have e2 : (Value.agg #[.int .i64 0, .int .i64 0]).cells.size = 2 := rfl
            rw [e2] at hj
            have hj' : m * 2 + j < (cellsT X).length := by rw [cellsT_length, hXl]; omega
            have := ox.cellAt (m * 2 + j) (by rw [cellsT_length, hXl] at hj'; omega)
            rw [this]; simp [hj']) (fun j hj => hf _)
        have i0 : (0 : Int) ≤ (m : Int) := by omega
        have i1 : (m : Int) ≤ (ts.length : Int) := by omega
        have i2 : (m : Int) ≤ (c : Int) := by omega
        clear h0 h1 d0 d1 ho o1
        have Dl := Lib.hid dl
        have Hm := Lib.hid hm
        clear dl hm
        go_wp2
        go_ret
        have hm := Hm.out
        refine ⟨by rw [← hm]; rfl, ?_, grown_trans gr (grown_setRow _ _ _)⟩
        have hz : m * 2 + (Builtin.zeroCells #[Value.int .i64 0, Value.int .i64 0] (ts.length - m)).toList.length ≤ ts.length * 2 := by
          rw [zeroCells_len]
          show m * 2 + (ts.length - m) * 2 ≤ _
          omega
        have o3 := own_shrink (own_setRow _ (m * 2) wr (cellsT X) ox hz) (m := m) (by omega)
        have e3 : ∀ (Z Y : List Value), ((cellsT X).take (m * 2) ++ Z ++ Y).take (m * 2) = cellsT (woL ts a b) := fun Z Y => by
          have hl2 : ((cellsT X).take (m * 2)).length = m * 2 := by rw [List.length_take, cellsT_length, hXl]; omega
          rw [List.append_assoc, List.take_append_of_le_length (by omega), List.take_of_length_le (by omega), cellsT_take, hhd]
        rw [e3] at o3
        rw [← hm]
        exact o3

end Go.Proofs.Ytlnfialfkipdjaa

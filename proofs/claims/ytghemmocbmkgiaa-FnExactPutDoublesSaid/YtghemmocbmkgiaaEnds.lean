/- The ends of a chain, and whether it is a ring. -/
import Derived.Test.YtghemmocbmkgiaaChn
namespace Go.Proofs.Ytghemmocbmkgiaa
open Go.RowKit
set_option linter.unusedVariables false

def e0 (xs : List Int) : Int := if chainB xs then xs.getD 0 0 else 0
def e1 (xs : List Int) : Int := if chainB xs then xs.getD (xs.length - 1) 0 else 0
def ringB (xs : List Int) : Bool := decide (1 < xs.length) && (xs.getD 0 0 == xs.getD (xs.length - 1) 0)

/-- The first and the last cell of a list that has one. -/
theorem RdI.ends {w : World} {A : Option Addr} {xs : List Int} {n : Nat} (h : RdI w A xs) (hn : xs.length = n + 1) :
    ∃ b off, A = some ⟨b, off, none⟩ ∧ w.cell? ⟨b, off, none⟩ = some (.int .i64 (xs.getD 0 0)) ∧ w.cell? ⟨b, off + n, none⟩ = some (.int .i64 (xs.getD n 0)) := by
  obtain ⟨b, off, rfl, _, hc⟩ := h.at_ (k := 0) (by omega)
  refine ⟨b, off, rfl, ?_, ?_⟩
  · have := hc 0 (by omega)
    rw [Nat.add_zero] at this
    rw [this]
    simp [List.getD, List.getElem?_eq_getElem (show 0 < xs.length by omega)]
  · rw [hc n (by omega)]
    simp [List.getD, List.getElem?_eq_getElem (show n < xs.length by omega)]

set_option maxHeartbeats 1000000 in
theorem c_specEnds (A : Option Addr) (c : Nat) (xs : List Int) (w : World) (hr : RdI w A xs) (hl : xs.length ≤ 9223372036854775807) :
    Calls Try.prog 29 #[.slice A xs.length c] w fun e w' => e = .returned (.tuple #[.int .i64 (e0 xs), .int .i64 (e1 xs), .bool (chainB xs)]) ∧ Below w.heap.size w w' := by
  have con := Lib.hid (c_haGood A c xs w hr hl)
  by_cases h : chainB xs = true
  · obtain ⟨n, hn⟩ : ∃ n, xs.length = n + 1 := ⟨xs.length - 1, by have := (chain_len h).1; omega⟩
    obtain ⟨b, off, rfl, g0, g1⟩ := hr.ends hn
    have E0 : xs.getD 0 0 = e0 xs := by simp [e0, h]
    have E1 : xs.getD n 0 = e1 xs := by simp [e1, h, hn]
    rw [E0] at g0
    rw [E1] at g1
    rw [h] at con ⊢
    rw [hn] at con hl ⊢
    clear hr h E0 E1
    have iw : IntKind.i64.wrap ((n : Int) + 1 - 1) = (n : Int) := by rw [IntWalk.i64_in _ (by omega)]; omega
    have iw' : IntKind.i64.wrap (n : Int) = (n : Int) := IntWalk.i64_in _ (by omega)
    have i0 : (0 : Int) ≤ (n : Int) := by omega
    have i1 : (n : Int) < (n : Int) + 1 := by omega
    have i2 : (0 : Int) < (n : Int) + 1 := by omega
    go_enter Try.func29, Try.ntmps29
    go_wp2_with (go_at_call 58; refine con.out.mono ?_; rintro e w1 ⟨rfl, hb1⟩; have y0 := keepc hb1 g0; have y1 := keepc hb1 g1)
    go_quiet (fail)
    go_wp2
    first | go_ret3 | go_ret2
    exact ⟨rfl, (by first | exact hb1.drew | exact belowN hb1 _)⟩
  · have h' : chainB xs = false := (Bool.not_eq_true _).mp h
    have E0 : e0 xs = 0 := by simp [e0, h']
    have E1 : e1 xs = 0 := by simp [e1, h']
    rw [E0, E1]
    rw [h'] at con ⊢
    clear h hr
    go_enter Try.func29, Try.ntmps29
    go_wp2_with (go_at_call 58; refine con.out.mono ?_; rintro e w1 ⟨rfl, hb1⟩)
    first | go_ret3 | go_ret2
    exact ⟨rfl, hb1⟩

set_option maxHeartbeats 1000000 in
theorem c_implEnds (A : Option Addr) (c : Nat) (xs : List Int) (w : World) (hr : RdI w A xs) (hl : xs.length ≤ 9223372036854775807) :
    Calls Try.prog 30 #[.slice A xs.length c] w fun e w' => e = .returned (.tuple #[.int .i64 (e0 xs), .int .i64 (e1 xs), .bool (chainB xs)]) ∧ Below w.heap.size w w' := by
  have con := Lib.hid (c_implIsChain A c xs w hr hl)
  by_cases h : chainB xs = true
  · obtain ⟨n, hn⟩ : ∃ n, xs.length = n + 1 := ⟨xs.length - 1, by have := (chain_len h).1; omega⟩
    obtain ⟨b, off, rfl, g0, g1⟩ := hr.ends hn
    have E0 : xs.getD 0 0 = e0 xs := by simp [e0, h]
    have E1 : xs.getD n 0 = e1 xs := by simp [e1, h, hn]
    rw [E0] at g0
    rw [E1] at g1
    rw [h] at con ⊢
    rw [hn] at con hl ⊢
    clear hr h E0 E1
    have iw : IntKind.i64.wrap ((n : Int) + 1 - 1) = (n : Int) := by rw [IntWalk.i64_in _ (by omega)]; omega
    have iw' : IntKind.i64.wrap (n : Int) = (n : Int) := IntWalk.i64_in _ (by omega)
    have i0 : (0 : Int) ≤ (n : Int) := by omega
    have i1 : (n : Int) < (n : Int) + 1 := by omega
    have i2 : (0 : Int) < (n : Int) + 1 := by omega
    go_enter Try.func30, Try.ntmps30
    go_wp2_with (go_at_call 26; refine con.out.mono ?_; rintro e w1 ⟨rfl, hb1⟩; have y0 := keepc hb1 g0; have y1 := keepc hb1 g1)
    go_quiet (fail)
    go_wp2
    first | go_ret3 | go_ret2
    exact ⟨rfl, (by first | exact hb1.drew | exact belowN hb1 _)⟩
  · have h' : chainB xs = false := (Bool.not_eq_true _).mp h
    have E0 : e0 xs = 0 := by simp [e0, h']
    have E1 : e1 xs = 0 := by simp [e1, h']
    rw [E0, E1]
    rw [h'] at con ⊢
    clear h hr
    go_enter Try.func30, Try.ntmps30
    go_wp2_with (go_at_call 26; refine con.out.mono ?_; rintro e w1 ⟨rfl, hb1⟩)
    first | go_ret3 | go_ret2
    exact ⟨rfl, hb1⟩

set_option maxHeartbeats 1000000 in
theorem c_haRing (A : Option Addr) (c : Nat) (xs : List Int) (w : World) (hr : RdI w A xs) (hl : xs.length ≤ 9223372036854775807) :
    Calls Try.prog 62 #[.slice A xs.length c] w fun e w' => e = .returned (.bool (ringB xs)) ∧ Below w.heap.size w w' := by
  by_cases h1 : 1 < xs.length
  · obtain ⟨n, hn⟩ : ∃ n, xs.length = n + 1 := ⟨xs.length - 1, by omega⟩
    obtain ⟨b, off, rfl, g0, g1⟩ := hr.ends hn
    have e : ringB xs = (xs.getD 0 0 == xs.getD n 0) := by
      unfold ringB
      rw [decide_eq_true h1, Bool.true_and, hn]
      rfl
    rw [e]
    rw [hn] at h1 hl ⊢
    generalize xs.getD 0 0 = p at *
    generalize xs.getD n 0 = q at *
    have hd : (1 : Int) < (n : Int) + 1 := by omega
    clear e hr hn
    have iw : IntKind.i64.wrap ((n : Int) + 1 - 1) = (n : Int) := by rw [IntWalk.i64_in _ (by omega)]; omega
    have iw' : IntKind.i64.wrap (n : Int) = (n : Int) := IntWalk.i64_in _ (by omega)
    have i0 : (0 : Int) ≤ (n : Int) := by omega
    have i1 : (n : Int) < (n : Int) + 1 := by omega
    have i2 : (0 : Int) < (n : Int) + 1 := by omega
    go_enter Try.func62, Try.ntmps62
    go_wp2
    go_quiet (fail)
    go_wp2
    go_ret
    exact ⟨rfl, belowN (Below.refl _ _) _⟩
  · have e : ringB xs = false := by simp [ringB, h1]
    rw [e]
    have hd : decide ((1 : Int) < (xs.length : Int)) = false := decide_eq_false (by omega)
    clear e hr
    go_enter Try.func62, Try.ntmps62
    go_wp2
    go_quiet (fail)
    go_wp2
    go_ret
    exact ⟨rfl, belowN (Below.refl _ _) _⟩

set_option maxHeartbeats 1000000 in
theorem c_specIsRing (A : Option Addr) (c : Nat) (xs : List Int) (w : World) (hr : RdI w A xs) (hl : xs.length ≤ 9223372036854775807) :
    Calls Try.prog 31 #[.slice A xs.length c] w fun e w' => e = .returned (.tuple #[.bool (chainB xs && ringB xs), .bool (chainB xs)]) ∧ Below w.heap.size w w' := by
  have con := Lib.hid (c_haGood A c xs w hr hl)
  have conR := Lib.hid (fun W (hb : Below w.heap.size w W) => c_haRing A c xs W (hr.below hb) hl)
  clear hr
  cases hc : chainB xs
  · rw [hc] at con
    go_enter Try.func31, Try.ntmps31
    go_wp2_with (go_at_call 58; refine con.out.mono ?_; rintro e w1 ⟨rfl, hb1⟩)
    go_ret2
    exact ⟨rfl, hb1⟩
  · rw [hc] at con
    go_enter Try.func31, Try.ntmps31
    go_wp2_with (first | (go_at_call 58; refine con.out.mono ?_; rintro e w1 ⟨rfl, hb1⟩) | (go_at_call 62; refine (conR.out _ hb1).mono ?_; rintro e w2 ⟨rfl, hb2⟩))
    go_ret2
    exact ⟨by simp, bstep hb1 hb2⟩

theorem ring_ends {xs : List Int} (h : chainB xs = true) : ringB xs = (decide (1 < xs.length) && (e0 xs == e1 xs)) := by simp [ringB, e0, e1, h]

set_option maxHeartbeats 1000000 in
theorem c_implIsRing (A : Option Addr) (c : Nat) (xs : List Int) (w : World) (hr : RdI w A xs) (hl : xs.length ≤ 9223372036854775807) :
    Calls Try.prog 32 #[.slice A xs.length c] w fun e w' => e = .returned (.tuple #[.bool (chainB xs && ringB xs), .bool (chainB xs)]) ∧ Below w.heap.size w w' := by
  have con := Lib.hid (c_implEnds A c xs w hr hl)
  clear hr
  cases hc : chainB xs
  · rw [hc] at con
    go_enter Try.func32, Try.ntmps32
    go_wp2_with (go_at_call 30; refine con.out.mono ?_; rintro e w1 ⟨rfl, hb1⟩)
    go_ret2
    exact ⟨rfl, hb1⟩
  · rw [ring_ends hc]
    rw [hc] at con
    generalize e0 xs = p at *
    generalize e1 xs = q at *
    by_cases h1 : 1 < xs.length
    · have hd : decide (1 < xs.length) = true := decide_eq_true h1
      rw [hd]
      clear hd hc
      go_enter Try.func32, Try.ntmps32
      go_wp2_with (go_at_call 30; refine con.out.mono ?_; rintro e w1 ⟨rfl, hb1⟩)
      go_ret2
      exact ⟨by simp, hb1⟩
    · have hd : decide (1 < xs.length) = false := decide_eq_false h1
      rw [hd]
      clear hd hc
      go_enter Try.func32, Try.ntmps32
      go_wp2_with (go_at_call 30; refine con.out.mono ?_; rintro e w1 ⟨rfl, hb1⟩)
      go_ret2
      exact ⟨by simp, hb1⟩

end Go.Proofs.Ytghemmocbmkgiaa

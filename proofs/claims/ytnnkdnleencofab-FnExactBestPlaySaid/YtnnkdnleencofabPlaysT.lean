/- The plays of a hand that fit: the specification's PlaysFor, CanPlay. -/
import Derived.Test.YtnnkdnleencofabPlaysS
import Derived.Test.YtnnkdnleencofabPlaysP
namespace Go.Proofs.Ytnnkdnleencofab
open Go.RowKit
set_option linter.unusedVariables false

set_option maxRecDepth 100000 in
set_option maxHeartbeats 1000000 in
theorem c_lyAsked (A : Option Addr) (c : Nat) (ps : List (Int × Int × Int)) (T : Option Addr) (m : Nat) (ts : List (Int × Int)) (w : World) (hr : RdP w A ps) (hl : ps.length ≤ 1048576) (ht : RdT w T ts) (hl2 : ts.length ≤ 1048576) (hcap : ts.length ≤ m) :
    Calls Try.prog 54 #[.slice A ps.length c, .slice T ts.length m] w fun e w' => ∃ g S, e = .returned (.tuple #[.pointer (some ⟨g, 0, none⟩), .bool (okL ps && handB ts)]) ∧ ((okL ps && handB ts) = true → StAt w.heap.size w' g S ∧ Rel (brdD ps) S) ∧ Below w.heap.size w w' := by
  have con := Lib.hid (c_lyRead A c ps w hr hl)
  have conH := Lib.hid (fun W (hb : Below w.heap.size w W) => c_tiHand T m ts W (ht.below hb) (by omega) hcap)
  clear hr ht
  cases hok : okL ps
  · have e0 : (false && handB ts) = false := rfl
    rw [e0]
    rw [hok] at con
    clear hok e0
    go_enter Try.func54, Try.ntmps54
    go_wp2_with (go_at_call 68; refine con.out.mono ?_; rintro e w1 ⟨g, S, rfl, hs, hb1⟩)
    go_ret2
    exact ⟨g, S, rfl, fun h => (by cases h), hb1⟩
  · have e0 : (true && handB ts) = handB ts := rfl
    rw [e0]
    rw [hok] at con
    clear hok e0
    go_enter Try.func54, Try.ntmps54
    go_wp2_with (first | (go_at_call 68; refine con.out.mono ?_; rintro e w1 ⟨g, S, rfl, hs, hb1⟩; have Hs := Lib.hid (hs rfl); clear hs) | (go_at_call 81; refine (conH.out _ hb1).mono ?_; rintro e w2 ⟨rfl, hb2⟩))
    go_ret2
    exact ⟨g, S, rfl, fun _ => ⟨Hs.out.1.keep hb2, Hs.out.2⟩, bstep hb1 hb2⟩

theorem sortHL_hand {ts : List (Int × Int)} (h : handB ts = true) : sortHL ts = sortL ts := by simp [sortHL, h]
end Go.Proofs.Ytnnkdnleencofab

/- The plays of a hand that fit: the specification's PlaysFor, CanPlay. -/
import Derived.Test.YtllfjffcogpaiaaPlaysS
import Derived.Test.YtllfjffcogpaiaaPlaysP
namespace Go.Proofs.Ytllfjffcogpaiaa
open Go.RowKit
set_option linter.unusedVariables false

set_option maxRecDepth 100000 in
set_option maxHeartbeats 1000000 in
theorem c_lyAsked (A : Option Addr) (c : Nat) (ps : List (Int × Int × Int)) (T : Option Addr) (m : Nat) (ts : List (Int × Int)) (w : World) (hr : RdP w A ps) (hl : ps.length ≤ 1048576) (ht : RdT w T ts) (hl2 : ts.length ≤ 1048576) (hcap : ts.length ≤ m) :
    Calls Try.prog 74 #[.slice A ps.length c, .slice T ts.length m] w fun e w' => ∃ g S, e = .returned (.tuple #[.pointer (some ⟨g, 0, none⟩), .bool (okL ps && handB ts)]) ∧ ((okL ps && handB ts) = true → StAt w.heap.size w' g S ∧ Rel (brdD ps) S) ∧ Below w.heap.size w w' := by
  have con := Lib.hid (c_lyRead A c ps w hr hl)
  have conH := Lib.hid (fun W (hb : Below w.heap.size w W) => c_tiHand T m ts W (ht.below hb) (by omega) hcap)
  clear hr ht
  cases hok : okL ps
  · have e0 : (false && handB ts) = false := rfl
    rw [e0]
    rw [hok] at con
    clear hok e0
    go_enter Try.func74, Try.ntmps74
    go_wp2_with (go_at_call 56; refine con.out.mono ?_; rintro e w1 ⟨g, S, rfl, hs, hb1⟩)
    go_ret2
    exact ⟨g, S, rfl, fun h => (by cases h), hb1⟩
  · have e0 : (true && handB ts) = handB ts := rfl
    rw [e0]
    rw [hok] at con
    clear hok e0
    go_enter Try.func74, Try.ntmps74
    go_wp2_with (first | (go_at_call 56; refine con.out.mono ?_; rintro e w1 ⟨g, S, rfl, hs, hb1⟩; have Hs := Lib.hid (hs rfl); clear hs) | (go_at_call 88; refine (conH.out _ hb1).mono ?_; rintro e w2 ⟨rfl, hb2⟩))
    go_ret2
    exact ⟨g, S, rfl, fun _ => ⟨Hs.out.1.keep hb2, Hs.out.2⟩, bstep hb1 hb2⟩

theorem sortHL_hand {ts : List (Int × Int)} (h : handB ts = true) : sortHL ts = sortL ts := by simp [sortHL, h]

set_option maxRecDepth 100000 in
set_option maxHeartbeats 1000000 in
theorem c_specPlays (A : Option Addr) (c : Nat) (ps : List (Int × Int × Int)) (T : Option Addr) (m : Nat) (ts : List (Int × Int)) (w : World) (hr : RdP w A ps) (hl : ps.length ≤ 1048576) (ht : RdT w T ts) (hl2 : ts.length ≤ 1048576) (hcap : ts.length ≤ m) :
    Calls Try.prog 45 #[.slice A ps.length c, .slice T ts.length m] w (RetP w (playsHL ps ts) (okL ps && handB ts)) := by
  have con := Lib.hid (c_lyAsked A c ps T m ts w hr hl ht hl2 hcap)
  cases hok : (okL ps && handB ts)
  · have e1 : playsHL ps ts = [] := by unfold playsHL; rw [hok]; rfl
    rw [e1]
    rw [hok] at con
    clear e1 hok hr ht
    go_enter Try.func45, Try.ntmps45
    go_wp2_with (go_at_call 74; refine con.out.mono ?_; rintro e w1 ⟨g, S, rfl, hs, hb1⟩; clear hs)
    go_ret2
    exact ⟨none, 0, rfl, World.ownsRow_nil _ _ _ _, hb1⟩
  · have hh : handB ts = true := by simp only [Bool.and_eq_true] at hok; exact hok.2
    have e1 : playsHL ps ts = playsL (brdD ps) (sortL ts) := by unfold playsHL; rw [hok, sortHL_hand hh]; rfl
    rw [e1]
    rw [hok] at con
    generalize brdD ps = B at con ⊢
    have conF := Lib.hid (fun g S W (hb : Below w.heap.size w W) (hs : StAt w.heap.size W g S) (hR : Rel B S) => c_lyFor w.heap.size g S B T m ts W hs hR (ht.below hb) hl2)
    generalize playsL B (sortL ts) = L at conF ⊢
    clear e1 hok hr ht hh
    go_enter Try.func45, Try.ntmps45
    go_wp2_with (first | (go_at_call 74; refine con.out.mono ?_; rintro e w1 ⟨g, S, rfl, hs, hb1⟩; have Hs := Lib.hid (hs rfl); clear hs) | (go_at_call 75; refine (conF.out g S _ hb1 Hs.out.1 Hs.out.2).mono ?_; rintro e w2 ⟨A2, c2, rfl, ho2, hb2⟩))
    go_ret2
    exact ⟨A2, c2, rfl, own_base ho2 hb1.size, bstep hb1 hb2⟩

set_option maxRecDepth 100000 in
set_option maxHeartbeats 1000000 in
theorem c_specCan (A : Option Addr) (c : Nat) (ps : List (Int × Int × Int)) (T : Option Addr) (m : Nat) (ts : List (Int × Int)) (w : World) (hr : RdP w A ps) (hl : ps.length ≤ 1048576) (ht : RdT w T ts) (hl2 : ts.length ≤ 1048576) (hcap : ts.length ≤ m) :
    Calls Try.prog 49 #[.slice A ps.length c, .slice T ts.length m] w fun e w' => e = .returned (.tuple #[.bool (canV ps ts), .bool (okL ps && handB ts)]) ∧ Below w.heap.size w w' := by
  have con := Lib.hid (c_lyAsked A c ps T m ts w hr hl ht hl2 hcap)
  cases hok : (okL ps && handB ts)
  · have e1 : canV ps ts = false := by unfold canV playsHL; rw [hok]; simp
    rw [e1]
    rw [hok] at con
    clear e1 hok hr ht
    go_enter Try.func49, Try.ntmps49
    go_wp2_with (go_at_call 74; refine con.out.mono ?_; rintro e w1 ⟨g, S, rfl, hs, hb1⟩; clear hs)
    go_ret2
    exact ⟨rfl, hb1⟩
  · have hh : handB ts = true := by simp only [Bool.and_eq_true] at hok; exact hok.2
    have e1 : canV ps ts = decide (0 < (playsL (brdD ps) (sortL ts)).length) := by unfold canV playsHL; rw [hok, sortHL_hand hh]; rfl
    rw [e1]
    rw [hok] at con
    generalize brdD ps = B at con ⊢
    have conF := Lib.hid (fun g S W (hb : Below w.heap.size w W) (hs : StAt w.heap.size W g S) (hR : Rel B S) => c_lyFor w.heap.size g S B T m ts W hs hR (ht.below hb) hl2)
    generalize playsL B (sortL ts) = L at conF ⊢
    clear e1 hok hr ht hh
    go_enter Try.func49, Try.ntmps49
    go_wp2_with (first | (go_at_call 74; refine con.out.mono ?_; rintro e w1 ⟨g, S, rfl, hs, hb1⟩; have Hs := Lib.hid (hs rfl); clear hs) | (go_at_call 75; refine (conF.out g S _ hb1 Hs.out.1 Hs.out.2).mono ?_; rintro e w2 ⟨A2, c2, rfl, ho2, hb2⟩))
    go_ret2
    exact ⟨rfl, bstep hb1 hb2⟩
end Go.Proofs.Ytllfjffcogpaiaa

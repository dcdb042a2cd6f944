/- Layouts, cell by cell: the other cell that a letter tells, on both sides. -/
import Derived.Test.YtnnkdnleencofaaDoorTabU
import Derived.BigQuiet
namespace Go.Proofs.YtnnkdnleencofaaDoor
open Go.RowKit
set_option linter.unusedVariables false

/-- The other cell that the letter b of cell i tells, in n cells, W in a row. -/
def othU (W n i : Nat) (b : UInt8) : Option Nat :=
  if b.toNat = 110 then (if W ≤ i then some (i - W) else none)
  else if b.toNat = 115 then (if i + W < n then some (i + W) else none)
  else if b.toNat = 101 then (if i % W + 1 < W then some (i + 1) else none)
  else if b.toNat = 119 then (if 0 < i % W then some (i - 1) else none)
  else none
def othI (W n i : Nat) (b : UInt8) : Int := match othU W n i b with | some j => (j : Int) | none => -1
def backU (b : UInt8) : Nat := if b.toNat = 110 then 115 else if b.toNat = 115 then 110 else if b.toNat = 101 then 119 else 101
/-- The pair that the letter of a cell tells. -/
def prU (W n i : Nat) (b : UInt8) : Nat × Nat := match othU W n i b with | some j => (min i j, max i j) | none => (0, 0)
def prB (W n i : Nat) (b : UInt8) : Bool := (othU W n i b).isSome
theorem oth_lt {W n i j : Nat} {b : UInt8} (hW : 0 < W) (hr : ∃ H, n = H * W) (hi : i < n) (h : othU W n i b = some j) : j < n ∧ j ≠ i := by
  unfold othU at h
  split at h
  · split at h
    · cases h; omega
    · cases h
  · split at h
    · split at h
      · cases h; omega
      · cases h
    · split at h
      · split at h
        · cases h
          obtain ⟨H, rfl⟩ := hr
          rename_i h1
          refine ⟨?_, by omega⟩
          have hd := Nat.div_add_mod i W
          have hq : i / W < H := (Nat.div_lt_iff_lt_mul hW).2 hi
          have hm : W * (i / W) + W ≤ H * W := by
            have := Nat.mul_le_mul_left W (Nat.succ_le_of_lt hq)
            rw [Nat.mul_succ, Nat.mul_comm W H] at this
            exact this
          omega
        · cases h
      · split at h
        · split at h
          · cases h
            rename_i h1
            have : i ≠ 0 := by rintro rfl; simp at h1
            omega
          · cases h
        · cases h
/-- The other cell tells this one just where its letter is the one back. -/
theorem oth_back {W n i j : Nat} {a b : UInt8} (hW : 0 < W) (hi : i < n) (hj : j < n) (h : othU W n i a = some j) : othU W n j b = some i ↔ b.toNat = backU a := by
  have hone : W = 1 → ∀ x, x % W = 0 := fun e x => by rw [e]; exact Nat.mod_one x
  unfold othU at h
  unfold backU
  by_cases a1 : a.toNat = 110
  · rw [if_pos a1] at h ⊢
    by_cases c1 : W ≤ i
    · rw [if_pos c1] at h
      cases h
      have m1 := hone
      unfold othU
      by_cases b1 : b.toNat = 110
      · simp only [b1, if_true]; split <;> simp <;> omega
      · by_cases b2 : b.toNat = 115
        · simp only [b2, if_true, if_neg (show ¬ (115 = 110) by decide)]
          rw [if_pos (by omega)]
          simp; omega
        · by_cases b3 : b.toNat = 101
          · simp only [b3, if_true]
            simp only [show ¬ (101 = 110) by decide, show ¬ (101 = 115) by decide, if_false]
            split
            · rename_i hh
              simp
              intro e
              have e1 : W = 1 := by omega
              have := m1 e1 (i - W)
              omega
            · simp
          · by_cases b4 : b.toNat = 119
            · simp only [b4]
              simp only [show ¬ (119 = 110) by decide, show ¬ (119 = 115) by decide, show ¬ (119 = 101) by decide, if_false, if_true]
              split
              · simp; omega
              · simp
            · simp [b1, b2, b3, b4]
    · rw [if_neg c1] at h; cases h
  · rw [if_neg a1] at h ⊢
    by_cases a2 : a.toNat = 115
    · rw [if_pos a2] at h ⊢
      by_cases c1 : i + W < n
      · rw [if_pos c1] at h
        cases h
        unfold othU
        by_cases b1 : b.toNat = 110
        · simp only [b1, if_true]
          rw [if_pos (by omega)]
          simp
        · by_cases b2 : b.toNat = 115
          · simp only [b2, if_true, if_neg (show ¬ (115 = 110) by decide)]
            split
            · simp; omega
            · simp
          · by_cases b3 : b.toNat = 101
            · simp only [b3]
              simp only [show ¬ (101 = 110) by decide, show ¬ (101 = 115) by decide, if_false, if_true]
              split
              · simp; omega
              · simp
            · by_cases b4 : b.toNat = 119
              · simp only [b4]
                simp only [show ¬ (119 = 110) by decide, show ¬ (119 = 115) by decide, show ¬ (119 = 101) by decide, if_false, if_true]
                split
                · rename_i hh
                  simp
                  intro e
                  have e1 : W = 1 := by omega
                  have := hone e1 (i + W)
                  omega
                · simp
              · simp [b1, b2, b3, b4]
      · rw [if_neg c1] at h; cases h
    · rw [if_neg a2] at h ⊢
      by_cases a3 : a.toNat = 101
      · rw [if_pos a3] at h ⊢
        by_cases c1 : i % W + 1 < W
        · rw [if_pos c1] at h
          cases h
          have hm : (i + 1) % W = i % W + 1 := by
            rw [Nat.add_mod, Nat.mod_eq_of_lt (show 1 < W by omega), Nat.mod_eq_of_lt c1]
          unfold othU
          by_cases b1 : b.toNat = 110
          · simp only [b1, if_true]
            split
            · simp; omega
            · simp
          · by_cases b2 : b.toNat = 115
            · simp only [b2, if_true, if_neg (show ¬ (115 = 110) by decide)]
              split
              · simp; omega
              · simp
            · by_cases b3 : b.toNat = 101
              · simp only [b3]
                simp only [show ¬ (101 = 110) by decide, show ¬ (101 = 115) by decide, if_false, if_true]
                split
                · simp; omega
                · simp
              · by_cases b4 : b.toNat = 119
                · simp only [b4]
                  simp only [show ¬ (119 = 110) by decide, show ¬ (119 = 115) by decide, show ¬ (119 = 101) by decide, if_false, if_true]
                  rw [if_pos (by omega)]
                  simp
                · simp [b1, b2, b3, b4]
        · rw [if_neg c1] at h; cases h
      · rw [if_neg a3] at h ⊢
        by_cases a4 : a.toNat = 119
        · rw [if_pos a4] at h
          by_cases c1 : 0 < i % W
          · rw [if_pos c1] at h
            cases h
            have hi0 : i ≠ 0 := by rintro rfl; simp at c1
            have hm : (i - 1) % W = i % W - 1 := by
              have hd := Nat.div_add_mod i W
              have e : i - 1 = W * (i / W) + (i % W - 1) := by omega
              have hlt := Nat.mod_lt i hW
              rw [e, Nat.mul_add_mod, Nat.mod_eq_of_lt (by omega)]
            have hlt := Nat.mod_lt i hW
            unfold othU
            by_cases b1 : b.toNat = 110
            · simp only [b1, if_true]
              split
              · simp; omega
              · simp
            · by_cases b2 : b.toNat = 115
              · simp only [b2, if_true, if_neg (show ¬ (115 = 110) by decide)]
                split
                · simp
                  intro e
                  have := hone (by omega) i
                  omega
                · simp
              · by_cases b3 : b.toNat = 101
                · simp only [b3]
                  simp only [show ¬ (101 = 110) by decide, show ¬ (101 = 115) by decide, if_false, if_true]
                  rw [if_pos (by omega)]
                  simp; omega
                · by_cases b4 : b.toNat = 119
                  · simp only [b4]
                    simp only [show ¬ (119 = 110) by decide, show ¬ (119 = 115) by decide, show ¬ (119 = 101) by decide, if_false, if_true]
                    split
                    · simp; omega
                    · simp
                  · simp [b1, b2, b3, b4]
          · rw [if_neg c1] at h; cases h
        · rw [if_neg a4] at h; cases h

theorem oth_n {W n i : Nat} {b : UInt8} (h : b.toNat = 110) : othU W n i b = if W ≤ i then some (i - W) else none := by unfold othU; rw [if_pos h]
theorem oth_s {W n i : Nat} {b : UInt8} (h : b.toNat = 115) : othU W n i b = if i + W < n then some (i + W) else none := by unfold othU; rw [if_neg (by omega), if_pos h]
theorem oth_e {W n i : Nat} {b : UInt8} (h : b.toNat = 101) : othU W n i b = if i % W + 1 < W then some (i + 1) else none := by unfold othU; rw [if_neg (by omega), if_neg (by omega), if_pos h]
theorem oth_w {W n i : Nat} {b : UInt8} (h : b.toNat = 119) : othU W n i b = if 0 < i % W then some (i - 1) else none := by unfold othU; rw [if_neg (by omega), if_neg (by omega), if_neg (by omega), if_pos h]
theorem oth_x {W n i : Nat} {b : UInt8} (h1 : b.toNat ≠ 110) (h2 : b.toNat ≠ 115) (h3 : b.toNat ≠ 101) (h4 : b.toNat ≠ 119) : othU W n i b = none := by unfold othU; rw [if_neg h1, if_neg h2, if_neg h3, if_neg h4]

set_option maxRecDepth 100000 in
set_option maxHeartbeats 1000000 in
theorem c_taOther_n1 (W H n k : Nat) (x : UInt8) (A : Option Addr) (d c : Nat) (w : World) (hW : 0 < W) (hn : (W : Int) * (H : Int) = (n : Int)) (hk : k < n) (k30 : n ≤ 60) (hW30 : W ≤ 60) (hx : x.toNat = 110) (hc : W ≤ k) :
    Calls Tryd.prog 90 #[.agg #[.int .i64 W, .int .i64 H, .slice A d c], .int .i64 k, .int .u8 (x.toNat : Int)] w fun e w' => e = .returned (.int .i64 (othI W n k x)) ∧ Below w.heap.size w w' := by
  have q0 : ((W : Int) == 0) = false := by simp; omega
  have q1 : ¬ (W : Int) = 0 := by omega
  have k0 : (0 : Int) ≤ (k : Int) := by omega
  have k1 : (k : Int) < (n : Int) := by omega
  have hm1 : (k : Int).tmod (W : Int) = ((k % W : Nat) : Int) := by rw [Int.tmod_eq_emod_of_nonneg k0]; rfl
  have hmlt := Nat.mod_lt k hW
  obtain ⟨r, hr⟩ : ∃ r, k % W = r := ⟨_, rfl⟩
  have hrk : r ≤ k := hr ▸ Nat.mod_le k W
  rw [hr] at hm1 hmlt
  have hm2 : (k : Int) % (W : Int) = (r : Int) := by rw [← hr]; rfl
  have iw2 : IntKind.i64.wrap ((k : Int) + (W : Int)) = (k : Int) + (W : Int) := IntWalk.i64_in _ (by omega)
  have iw3 : IntKind.i64.wrap ((W : Int) - 1) = (W : Int) - 1 := IntWalk.i64_in _ (by omega)
  have iw4 : IntKind.i64.wrap ((k : Int) + 1) = (k : Int) + 1 := IntWalk.i64_in _ (by omega)
  have iw7 : IntKind.i64.wrap (r : Int) = (r : Int) := IntWalk.i64_in _ (by omega)
  have iw6 : IntKind.i64.wrap ((W : Int) * (H : Int)) = (n : Int) := by rw [hn]; exact IntWalk.i64_in _ (by omega)
  have q110 : ((x.toNat : Int) == 110) = true := by simp; omega
  have q115 : ((x.toNat : Int) == 115) = false := by simp; omega
  have q101 : ((x.toNat : Int) == 101) = false := by simp; omega
  have q119 : ((x.toNat : Int) == 119) = false := by simp; omega
  have d1 : (W : Int) ≤ (k : Int) := by omega
  obtain ⟨j, hj⟩ : ∃ j : Nat, k - W = j := ⟨_, rfl⟩
  have iwj : IntKind.i64.wrap ((k : Int) - (W : Int)) = (j : Int) := by rw [IntWalk.i64_in _ (by omega)]; omega
  have R := Lib.hid (show othI W n k x = (j : Int) from by unfold othI; rw [oth_n (W := W) (n := n) (i := k) hx, if_pos hc]; show ((_ : Nat) : Int) = _; omega)
  have K := Lib.hid k30
  clear hW hn k30 hc hx hj hr
  go_enter Tryd.func90, Tryd.ntmps90
  go_wp2
  go_ret
  exact ⟨ret_i R.out.symm, by first | exact (Below.refl _ _).alloc (Nat.le_refl _) _ | exact belowN ((Below.refl _ _).alloc (Nat.le_refl _) _) _⟩

set_option maxRecDepth 100000 in
set_option maxHeartbeats 1000000 in
theorem c_taOther_n0 (W H n k : Nat) (x : UInt8) (A : Option Addr) (d c : Nat) (w : World) (hW : 0 < W) (hn : (W : Int) * (H : Int) = (n : Int)) (hk : k < n) (k30 : n ≤ 60) (hW30 : W ≤ 60) (hx : x.toNat = 110) (hc : ¬ W ≤ k) :
    Calls Tryd.prog 90 #[.agg #[.int .i64 W, .int .i64 H, .slice A d c], .int .i64 k, .int .u8 (x.toNat : Int)] w fun e w' => e = .returned (.int .i64 (othI W n k x)) ∧ Below w.heap.size w w' := by
  have q0 : ((W : Int) == 0) = false := by simp; omega
  have q1 : ¬ (W : Int) = 0 := by omega
  have k0 : (0 : Int) ≤ (k : Int) := by omega
  have k1 : (k : Int) < (n : Int) := by omega
  have hm1 : (k : Int).tmod (W : Int) = ((k % W : Nat) : Int) := by rw [Int.tmod_eq_emod_of_nonneg k0]; rfl
  have hmlt := Nat.mod_lt k hW
  obtain ⟨r, hr⟩ : ∃ r, k % W = r := ⟨_, rfl⟩
  have hrk : r ≤ k := hr ▸ Nat.mod_le k W
  rw [hr] at hm1 hmlt
  have hm2 : (k : Int) % (W : Int) = (r : Int) := by rw [← hr]; rfl
  have iw2 : IntKind.i64.wrap ((k : Int) + (W : Int)) = (k : Int) + (W : Int) := IntWalk.i64_in _ (by omega)
  have iw3 : IntKind.i64.wrap ((W : Int) - 1) = (W : Int) - 1 := IntWalk.i64_in _ (by omega)
  have iw4 : IntKind.i64.wrap ((k : Int) + 1) = (k : Int) + 1 := IntWalk.i64_in _ (by omega)
  have iw7 : IntKind.i64.wrap (r : Int) = (r : Int) := IntWalk.i64_in _ (by omega)
  have iw6 : IntKind.i64.wrap ((W : Int) * (H : Int)) = (n : Int) := by rw [hn]; exact IntWalk.i64_in _ (by omega)
  have q110 : ((x.toNat : Int) == 110) = true := by simp; omega
  have q115 : ((x.toNat : Int) == 115) = false := by simp; omega
  have q101 : ((x.toNat : Int) == 101) = false := by simp; omega
  have q119 : ((x.toNat : Int) == 119) = false := by simp; omega
  have d1 : ¬ (W : Int) ≤ (k : Int) := by omega
  have R := Lib.hid (show othI W n k x = (-1) from by unfold othI; rw [oth_n (W := W) (n := n) (i := k) hx, if_neg hc])
  have K := Lib.hid k30
  clear hW hn k30 hc hx hr
  go_enter Tryd.func90, Tryd.ntmps90
  go_wp2
  go_quiet (fail)
  go_wp2
  go_ret
  exact ⟨ret_i R.out.symm, by first | exact (Below.refl _ _).alloc (Nat.le_refl _) _ | exact belowN ((Below.refl _ _).alloc (Nat.le_refl _) _) _⟩

set_option maxRecDepth 100000 in
set_option maxHeartbeats 1000000 in
theorem c_taOther_s1 (W H n k : Nat) (x : UInt8) (A : Option Addr) (d c : Nat) (w : World) (hW : 0 < W) (hn : (W : Int) * (H : Int) = (n : Int)) (hk : k < n) (k30 : n ≤ 60) (hW30 : W ≤ 60) (hx : x.toNat = 115) (hc : k + W < n) :
    Calls Tryd.prog 90 #[.agg #[.int .i64 W, .int .i64 H, .slice A d c], .int .i64 k, .int .u8 (x.toNat : Int)] w fun e w' => e = .returned (.int .i64 (othI W n k x)) ∧ Below w.heap.size w w' := by
  have q0 : ((W : Int) == 0) = false := by simp; omega
  have q1 : ¬ (W : Int) = 0 := by omega
  have k0 : (0 : Int) ≤ (k : Int) := by omega
  have k1 : (k : Int) < (n : Int) := by omega
  have hm1 : (k : Int).tmod (W : Int) = ((k % W : Nat) : Int) := by rw [Int.tmod_eq_emod_of_nonneg k0]; rfl
  have hmlt := Nat.mod_lt k hW
  obtain ⟨r, hr⟩ : ∃ r, k % W = r := ⟨_, rfl⟩
  have hrk : r ≤ k := hr ▸ Nat.mod_le k W
  rw [hr] at hm1 hmlt
  have hm2 : (k : Int) % (W : Int) = (r : Int) := by rw [← hr]; rfl
  have iw2 : IntKind.i64.wrap ((k : Int) + (W : Int)) = (k : Int) + (W : Int) := IntWalk.i64_in _ (by omega)
  have iw3 : IntKind.i64.wrap ((W : Int) - 1) = (W : Int) - 1 := IntWalk.i64_in _ (by omega)
  have iw4 : IntKind.i64.wrap ((k : Int) + 1) = (k : Int) + 1 := IntWalk.i64_in _ (by omega)
  have iw7 : IntKind.i64.wrap (r : Int) = (r : Int) := IntWalk.i64_in _ (by omega)
  have iw6 : IntKind.i64.wrap ((W : Int) * (H : Int)) = (n : Int) := by rw [hn]; exact IntWalk.i64_in _ (by omega)
  have q110 : ((x.toNat : Int) == 110) = false := by simp; omega
  have q115 : ((x.toNat : Int) == 115) = true := by simp; omega
  have q101 : ((x.toNat : Int) == 101) = false := by simp; omega
  have q119 : ((x.toNat : Int) == 119) = false := by simp; omega
  have d1 : (k : Int) + (W : Int) < (n : Int) := by omega
  have R := Lib.hid (show othI W n k x = (k : Int) + (W : Int) from by unfold othI; rw [oth_s (W := W) (n := n) (i := k) hx, if_pos hc]; show ((_ : Nat) : Int) = _; omega)
  have K := Lib.hid k30
  clear hW hn k30 hc hx hr
  go_enter Tryd.func90, Tryd.ntmps90
  go_wp2
  go_ret
  exact ⟨ret_i R.out.symm, by first | exact (Below.refl _ _).alloc (Nat.le_refl _) _ | exact belowN ((Below.refl _ _).alloc (Nat.le_refl _) _) _⟩

set_option maxRecDepth 100000 in
set_option maxHeartbeats 1000000 in
theorem c_taOther_s0 (W H n k : Nat) (x : UInt8) (A : Option Addr) (d c : Nat) (w : World) (hW : 0 < W) (hn : (W : Int) * (H : Int) = (n : Int)) (hk : k < n) (k30 : n ≤ 60) (hW30 : W ≤ 60) (hx : x.toNat = 115) (hc : ¬ k + W < n) :
    Calls Tryd.prog 90 #[.agg #[.int .i64 W, .int .i64 H, .slice A d c], .int .i64 k, .int .u8 (x.toNat : Int)] w fun e w' => e = .returned (.int .i64 (othI W n k x)) ∧ Below w.heap.size w w' := by
  have q0 : ((W : Int) == 0) = false := by simp; omega
  have q1 : ¬ (W : Int) = 0 := by omega
  have k0 : (0 : Int) ≤ (k : Int) := by omega
  have k1 : (k : Int) < (n : Int) := by omega
  have hm1 : (k : Int).tmod (W : Int) = ((k % W : Nat) : Int) := by rw [Int.tmod_eq_emod_of_nonneg k0]; rfl
  have hmlt := Nat.mod_lt k hW
  obtain ⟨r, hr⟩ : ∃ r, k % W = r := ⟨_, rfl⟩
  have hrk : r ≤ k := hr ▸ Nat.mod_le k W
  rw [hr] at hm1 hmlt
  have hm2 : (k : Int) % (W : Int) = (r : Int) := by rw [← hr]; rfl
  have iw2 : IntKind.i64.wrap ((k : Int) + (W : Int)) = (k : Int) + (W : Int) := IntWalk.i64_in _ (by omega)
  have iw3 : IntKind.i64.wrap ((W : Int) - 1) = (W : Int) - 1 := IntWalk.i64_in _ (by omega)
  have iw4 : IntKind.i64.wrap ((k : Int) + 1) = (k : Int) + 1 := IntWalk.i64_in _ (by omega)
  have iw7 : IntKind.i64.wrap (r : Int) = (r : Int) := IntWalk.i64_in _ (by omega)
  have iw6 : IntKind.i64.wrap ((W : Int) * (H : Int)) = (n : Int) := by rw [hn]; exact IntWalk.i64_in _ (by omega)
  have q110 : ((x.toNat : Int) == 110) = false := by simp; omega
  have q115 : ((x.toNat : Int) == 115) = true := by simp; omega
  have q101 : ((x.toNat : Int) == 101) = false := by simp; omega
  have q119 : ((x.toNat : Int) == 119) = false := by simp; omega
  have d1 : ¬ (k : Int) + (W : Int) < (n : Int) := by omega
  have R := Lib.hid (show othI W n k x = (-1) from by unfold othI; rw [oth_s (W := W) (n := n) (i := k) hx, if_neg hc])
  have K := Lib.hid k30
  clear hW hn k30 hc hx hr
  go_enter Tryd.func90, Tryd.ntmps90
  go_wp2
  go_quiet (fail)
  go_wp2
  go_ret
  exact ⟨ret_i R.out.symm, by first | exact (Below.refl _ _).alloc (Nat.le_refl _) _ | exact belowN ((Below.refl _ _).alloc (Nat.le_refl _) _) _⟩

set_option maxRecDepth 100000 in
set_option maxHeartbeats 1000000 in
theorem c_taOther_e1 (W H n k : Nat) (x : UInt8) (A : Option Addr) (d c : Nat) (w : World) (hW : 0 < W) (hn : (W : Int) * (H : Int) = (n : Int)) (hk : k < n) (k30 : n ≤ 60) (hW30 : W ≤ 60) (hx : x.toNat = 101) (hc : k % W + 1 < W) :
    Calls Tryd.prog 90 #[.agg #[.int .i64 W, .int .i64 H, .slice A d c], .int .i64 k, .int .u8 (x.toNat : Int)] w fun e w' => e = .returned (.int .i64 (othI W n k x)) ∧ Below w.heap.size w w' := by
  have q0 : ((W : Int) == 0) = false := by simp; omega
  have q1 : ¬ (W : Int) = 0 := by omega
  have k0 : (0 : Int) ≤ (k : Int) := by omega
  have k1 : (k : Int) < (n : Int) := by omega
  have hm1 : (k : Int).tmod (W : Int) = ((k % W : Nat) : Int) := by rw [Int.tmod_eq_emod_of_nonneg k0]; rfl
  have hmlt := Nat.mod_lt k hW
  obtain ⟨r, hr⟩ : ∃ r, k % W = r := ⟨_, rfl⟩
  have hrk : r ≤ k := hr ▸ Nat.mod_le k W
  rw [hr] at hm1 hmlt
  have hm2 : (k : Int) % (W : Int) = (r : Int) := by rw [← hr]; rfl
  have iw2 : IntKind.i64.wrap ((k : Int) + (W : Int)) = (k : Int) + (W : Int) := IntWalk.i64_in _ (by omega)
  have iw3 : IntKind.i64.wrap ((W : Int) - 1) = (W : Int) - 1 := IntWalk.i64_in _ (by omega)
  have iw4 : IntKind.i64.wrap ((k : Int) + 1) = (k : Int) + 1 := IntWalk.i64_in _ (by omega)
  have iw7 : IntKind.i64.wrap (r : Int) = (r : Int) := IntWalk.i64_in _ (by omega)
  have iw6 : IntKind.i64.wrap ((W : Int) * (H : Int)) = (n : Int) := by rw [hn]; exact IntWalk.i64_in _ (by omega)
  have q110 : ((x.toNat : Int) == 110) = false := by simp; omega
  have q115 : ((x.toNat : Int) == 115) = false := by simp; omega
  have q101 : ((x.toNat : Int) == 101) = true := by simp; omega
  have q119 : ((x.toNat : Int) == 119) = false := by simp; omega
  have d1 : (r : Int) < (W : Int) - 1 := by omega
  have R := Lib.hid (show othI W n k x = (k : Int) + 1 from by unfold othI; rw [oth_e (W := W) (n := n) (i := k) hx, if_pos hc]; show ((_ : Nat) : Int) = _; omega)
  have K := Lib.hid k30
  clear hW hn k30 hc hx hr
  go_enter Tryd.func90, Tryd.ntmps90
  go_wp2
  go_quiet (fail)
  go_wp2
  go_ret
  exact ⟨ret_i R.out.symm, by first | exact (Below.refl _ _).alloc (Nat.le_refl _) _ | exact belowN ((Below.refl _ _).alloc (Nat.le_refl _) _) _⟩

set_option maxRecDepth 100000 in
set_option maxHeartbeats 1000000 in
theorem c_taOther_e0 (W H n k : Nat) (x : UInt8) (A : Option Addr) (d c : Nat) (w : World) (hW : 0 < W) (hn : (W : Int) * (H : Int) = (n : Int)) (hk : k < n) (k30 : n ≤ 60) (hW30 : W ≤ 60) (hx : x.toNat = 101) (hc : ¬ k % W + 1 < W) :
    Calls Tryd.prog 90 #[.agg #[.int .i64 W, .int .i64 H, .slice A d c], .int .i64 k, .int .u8 (x.toNat : Int)] w fun e w' => e = .returned (.int .i64 (othI W n k x)) ∧ Below w.heap.size w w' := by
  have q0 : ((W : Int) == 0) = false := by simp; omega
  have q1 : ¬ (W : Int) = 0 := by omega
  have k0 : (0 : Int) ≤ (k : Int) := by omega
  have k1 : (k : Int) < (n : Int) := by omega
  have hm1 : (k : Int).tmod (W : Int) = ((k % W : Nat) : Int) := by rw [Int.tmod_eq_emod_of_nonneg k0]; rfl
  have hmlt := Nat.mod_lt k hW
  obtain ⟨r, hr⟩ : ∃ r, k % W = r := ⟨_, rfl⟩
  have hrk : r ≤ k := hr ▸ Nat.mod_le k W
  rw [hr] at hm1 hmlt
  have hm2 : (k : Int) % (W : Int) = (r : Int) := by rw [← hr]; rfl
  have iw2 : IntKind.i64.wrap ((k : Int) + (W : Int)) = (k : Int) + (W : Int) := IntWalk.i64_in _ (by omega)
  have iw3 : IntKind.i64.wrap ((W : Int) - 1) = (W : Int) - 1 := IntWalk.i64_in _ (by omega)
  have iw4 : IntKind.i64.wrap ((k : Int) + 1) = (k : Int) + 1 := IntWalk.i64_in _ (by omega)
  have iw7 : IntKind.i64.wrap (r : Int) = (r : Int) := IntWalk.i64_in _ (by omega)
  have iw6 : IntKind.i64.wrap ((W : Int) * (H : Int)) = (n : Int) := by rw [hn]; exact IntWalk.i64_in _ (by omega)
  have q110 : ((x.toNat : Int) == 110) = false := by simp; omega
  have q115 : ((x.toNat : Int) == 115) = false := by simp; omega
  have q101 : ((x.toNat : Int) == 101) = true := by simp; omega
  have q119 : ((x.toNat : Int) == 119) = false := by simp; omega
  have d1 : ¬ (r : Int) < (W : Int) - 1 := by omega
  have R := Lib.hid (show othI W n k x = (-1) from by unfold othI; rw [oth_e (W := W) (n := n) (i := k) hx, if_neg hc])
  have K := Lib.hid k30
  clear hW hn k30 hc hx hr
  go_enter Tryd.func90, Tryd.ntmps90
  go_wp2
  go_quiet (fail)
  go_wp2
  go_ret
  exact ⟨ret_i R.out.symm, by first | exact (Below.refl _ _).alloc (Nat.le_refl _) _ | exact belowN ((Below.refl _ _).alloc (Nat.le_refl _) _) _⟩

set_option maxRecDepth 100000 in
set_option maxHeartbeats 1000000 in
theorem c_taOther_w1 (W H n k : Nat) (x : UInt8) (A : Option Addr) (d c : Nat) (w : World) (hW : 0 < W) (hn : (W : Int) * (H : Int) = (n : Int)) (hk : k < n) (k30 : n ≤ 60) (hW30 : W ≤ 60) (hx : x.toNat = 119) (hc : 0 < k % W) :
    Calls Tryd.prog 90 #[.agg #[.int .i64 W, .int .i64 H, .slice A d c], .int .i64 k, .int .u8 (x.toNat : Int)] w fun e w' => e = .returned (.int .i64 (othI W n k x)) ∧ Below w.heap.size w w' := by
  have q0 : ((W : Int) == 0) = false := by simp; omega
  have q1 : ¬ (W : Int) = 0 := by omega
  have k0 : (0 : Int) ≤ (k : Int) := by omega
  have k1 : (k : Int) < (n : Int) := by omega
  have hm1 : (k : Int).tmod (W : Int) = ((k % W : Nat) : Int) := by rw [Int.tmod_eq_emod_of_nonneg k0]; rfl
  have hmlt := Nat.mod_lt k hW
  obtain ⟨r, hr⟩ : ∃ r, k % W = r := ⟨_, rfl⟩
  have hrk : r ≤ k := hr ▸ Nat.mod_le k W
  rw [hr] at hm1 hmlt
  have hm2 : (k : Int) % (W : Int) = (r : Int) := by rw [← hr]; rfl
  have iw2 : IntKind.i64.wrap ((k : Int) + (W : Int)) = (k : Int) + (W : Int) := IntWalk.i64_in _ (by omega)
  have iw3 : IntKind.i64.wrap ((W : Int) - 1) = (W : Int) - 1 := IntWalk.i64_in _ (by omega)
  have iw4 : IntKind.i64.wrap ((k : Int) + 1) = (k : Int) + 1 := IntWalk.i64_in _ (by omega)
  have iw7 : IntKind.i64.wrap (r : Int) = (r : Int) := IntWalk.i64_in _ (by omega)
  have iw6 : IntKind.i64.wrap ((W : Int) * (H : Int)) = (n : Int) := by rw [hn]; exact IntWalk.i64_in _ (by omega)
  have q110 : ((x.toNat : Int) == 110) = false := by simp; omega
  have q115 : ((x.toNat : Int) == 115) = false := by simp; omega
  have q101 : ((x.toNat : Int) == 101) = false := by simp; omega
  have q119 : ((x.toNat : Int) == 119) = true := by simp; omega
  have d1 : (0 : Int) < (r : Int) := by omega
  obtain ⟨j, hj⟩ : ∃ j : Nat, k - 1 = j := ⟨_, rfl⟩
  have iwj : IntKind.i64.wrap ((k : Int) - 1) = (j : Int) := by rw [IntWalk.i64_in _ (by omega)]; omega
  have R := Lib.hid (show othI W n k x = (j : Int) from by unfold othI; rw [oth_w (W := W) (n := n) (i := k) hx, if_pos hc]; show ((_ : Nat) : Int) = _; omega)
  have K := Lib.hid k30
  clear hW hn k30 hc hx hj hr
  go_enter Tryd.func90, Tryd.ntmps90
  go_wp2
  go_quiet (fail)
  go_wp2
  go_ret
  exact ⟨ret_i R.out.symm, by first | exact (Below.refl _ _).alloc (Nat.le_refl _) _ | exact belowN ((Below.refl _ _).alloc (Nat.le_refl _) _) _⟩

set_option maxRecDepth 100000 in
set_option maxHeartbeats 1000000 in
theorem c_taOther_w0 (W H n k : Nat) (x : UInt8) (A : Option Addr) (d c : Nat) (w : World) (hW : 0 < W) (hn : (W : Int) * (H : Int) = (n : Int)) (hk : k < n) (k30 : n ≤ 60) (hW30 : W ≤ 60) (hx : x.toNat = 119) (hc : ¬ 0 < k % W) :
    Calls Tryd.prog 90 #[.agg #[.int .i64 W, .int .i64 H, .slice A d c], .int .i64 k, .int .u8 (x.toNat : Int)] w fun e w' => e = .returned (.int .i64 (othI W n k x)) ∧ Below w.heap.size w w' := by
  have q0 : ((W : Int) == 0) = false := by simp; omega
  have q1 : ¬ (W : Int) = 0 := by omega
  have k0 : (0 : Int) ≤ (k : Int) := by omega
  have k1 : (k : Int) < (n : Int) := by omega
  have hm1 : (k : Int).tmod (W : Int) = ((k % W : Nat) : Int) := by rw [Int.tmod_eq_emod_of_nonneg k0]; rfl
  have hmlt := Nat.mod_lt k hW
  obtain ⟨r, hr⟩ : ∃ r, k % W = r := ⟨_, rfl⟩
  have hrk : r ≤ k := hr ▸ Nat.mod_le k W
  rw [hr] at hm1 hmlt
  have hm2 : (k : Int) % (W : Int) = (r : Int) := by rw [← hr]; rfl
  have iw2 : IntKind.i64.wrap ((k : Int) + (W : Int)) = (k : Int) + (W : Int) := IntWalk.i64_in _ (by omega)
  have iw3 : IntKind.i64.wrap ((W : Int) - 1) = (W : Int) - 1 := IntWalk.i64_in _ (by omega)
  have iw4 : IntKind.i64.wrap ((k : Int) + 1) = (k : Int) + 1 := IntWalk.i64_in _ (by omega)
  have iw7 : IntKind.i64.wrap (r : Int) = (r : Int) := IntWalk.i64_in _ (by omega)
  have iw6 : IntKind.i64.wrap ((W : Int) * (H : Int)) = (n : Int) := by rw [hn]; exact IntWalk.i64_in _ (by omega)
  have q110 : ((x.toNat : Int) == 110) = false := by simp; omega
  have q115 : ((x.toNat : Int) == 115) = false := by simp; omega
  have q101 : ((x.toNat : Int) == 101) = false := by simp; omega
  have q119 : ((x.toNat : Int) == 119) = true := by simp; omega
  have d1 : ¬ (0 : Int) < (r : Int) := by omega
  have R := Lib.hid (show othI W n k x = (-1) from by unfold othI; rw [oth_w (W := W) (n := n) (i := k) hx, if_neg hc])
  have K := Lib.hid k30
  clear hW hn k30 hc hx hr
  go_enter Tryd.func90, Tryd.ntmps90
  go_wp2
  go_quiet (fail)
  go_wp2
  go_ret
  exact ⟨ret_i R.out.symm, by first | exact (Below.refl _ _).alloc (Nat.le_refl _) _ | exact belowN ((Below.refl _ _).alloc (Nat.le_refl _) _) _⟩

set_option maxRecDepth 100000 in
set_option maxHeartbeats 1000000 in
theorem c_taOther_x0 (W H n k : Nat) (x : UInt8) (A : Option Addr) (d c : Nat) (w : World) (hW : 0 < W) (hn : (W : Int) * (H : Int) = (n : Int)) (hk : k < n) (k30 : n ≤ 60) (hW30 : W ≤ 60) (h1 : x.toNat ≠ 110) (h2 : x.toNat ≠ 115) (h3 : x.toNat ≠ 101) (h4 : x.toNat ≠ 119) :
    Calls Tryd.prog 90 #[.agg #[.int .i64 W, .int .i64 H, .slice A d c], .int .i64 k, .int .u8 (x.toNat : Int)] w fun e w' => e = .returned (.int .i64 (othI W n k x)) ∧ Below w.heap.size w w' := by
  have q0 : ((W : Int) == 0) = false := by simp; omega
  have q1 : ¬ (W : Int) = 0 := by omega
  have k0 : (0 : Int) ≤ (k : Int) := by omega
  have k1 : (k : Int) < (n : Int) := by omega
  have hm1 : (k : Int).tmod (W : Int) = ((k % W : Nat) : Int) := by rw [Int.tmod_eq_emod_of_nonneg k0]; rfl
  have hmlt := Nat.mod_lt k hW
  obtain ⟨r, hr⟩ : ∃ r, k % W = r := ⟨_, rfl⟩
  have hrk : r ≤ k := hr ▸ Nat.mod_le k W
  rw [hr] at hm1 hmlt
  have hm2 : (k : Int) % (W : Int) = (r : Int) := by rw [← hr]; rfl
  have iw2 : IntKind.i64.wrap ((k : Int) + (W : Int)) = (k : Int) + (W : Int) := IntWalk.i64_in _ (by omega)
  have iw3 : IntKind.i64.wrap ((W : Int) - 1) = (W : Int) - 1 := IntWalk.i64_in _ (by omega)
  have iw4 : IntKind.i64.wrap ((k : Int) + 1) = (k : Int) + 1 := IntWalk.i64_in _ (by omega)
  have iw7 : IntKind.i64.wrap (r : Int) = (r : Int) := IntWalk.i64_in _ (by omega)
  have iw6 : IntKind.i64.wrap ((W : Int) * (H : Int)) = (n : Int) := by rw [hn]; exact IntWalk.i64_in _ (by omega)
  have q110 : ((x.toNat : Int) == 110) = false := by simp; omega
  have q115 : ((x.toNat : Int) == 115) = false := by simp; omega
  have q101 : ((x.toNat : Int) == 101) = false := by simp; omega
  have q119 : ((x.toNat : Int) == 119) = false := by simp; omega
  have R := Lib.hid (show othI W n k x = (-1) from by unfold othI; rw [oth_x (W := W) (n := n) (i := k) h1 h2 h3 h4])
  have K := Lib.hid k30
  clear hW hn k30 h1 h2 h3 h4 hr
  go_enter Tryd.func90, Tryd.ntmps90
  go_wp2
  go_quiet (fail)
  go_wp2
  go_ret
  exact ⟨ret_i R.out.symm, by first | exact (Below.refl _ _).alloc (Nat.le_refl _) _ | exact belowN ((Below.refl _ _).alloc (Nat.le_refl _) _) _⟩

theorem c_taOther (W H n k : Nat) (x : UInt8) (A : Option Addr) (d c : Nat) (w : World) (hW : 0 < W) (hn : (W : Int) * (H : Int) = (n : Int)) (hk : k < n) (k30 : n ≤ 60) (hW30 : W ≤ 60) :
    Calls Tryd.prog 90 #[.agg #[.int .i64 W, .int .i64 H, .slice A d c], .int .i64 k, .int .u8 (x.toNat : Int)] w fun e w' => e = .returned (.int .i64 (othI W n k x)) ∧ Below w.heap.size w w' := by
  by_cases h110 : x.toNat = 110
  · by_cases hc : W ≤ k
    · exact c_taOther_n1 W H n k x A d c w hW hn hk k30 hW30 h110 hc
    · exact c_taOther_n0 W H n k x A d c w hW hn hk k30 hW30 h110 hc
  · skip
    by_cases h115 : x.toNat = 115
    · by_cases hc : k + W < n
      · exact c_taOther_s1 W H n k x A d c w hW hn hk k30 hW30 h115 hc
      · exact c_taOther_s0 W H n k x A d c w hW hn hk k30 hW30 h115 hc
    · skip
      by_cases h101 : x.toNat = 101
      · by_cases hc : k % W + 1 < W
        · exact c_taOther_e1 W H n k x A d c w hW hn hk k30 hW30 h101 hc
        · exact c_taOther_e0 W H n k x A d c w hW hn hk k30 hW30 h101 hc
      · skip
        by_cases h119 : x.toNat = 119
        · by_cases hc : 0 < k % W
          · exact c_taOther_w1 W H n k x A d c w hW hn hk k30 hW30 h119 hc
          · exact c_taOther_w0 W H n k x A d c w hW hn hk k30 hW30 h119 hc
        · skip
          exact c_taOther_x0 W H n k x A d c w hW hn hk k30 hW30 h110 h115 h101 h119

set_option maxHeartbeats 400000 in
theorem c_taBack (x : UInt8) (w : World) : Calls Tryd.prog 91 #[.int .u8 (x.toNat : Int)] w fun e w' => e = .returned (.int .u8 (backU x)) ∧ w = w' := by
  by_cases h110 : x.toNat = 110
  · have R := Lib.hid (show backU x = 115 from by unfold backU; simp [h110])
    have q110 : ((x.toNat : Int) == 110) = true := by simp; omega
    have q115 : ((x.toNat : Int) == 115) = false := by simp; omega
    have q101 : ((x.toNat : Int) == 101) = false := by simp; omega
    go_enter Tryd.func91, Tryd.ntmps91
    go_wp2
    go_ret
    exact ⟨by rw [R.out]; rfl, rfl⟩
  · skip
    by_cases h115 : x.toNat = 115
    · have R := Lib.hid (show backU x = 110 from by unfold backU; simp [h115])
      have q110 : ((x.toNat : Int) == 110) = false := by simp; omega
      have q115 : ((x.toNat : Int) == 115) = true := by simp; omega
      have q101 : ((x.toNat : Int) == 101) = false := by simp; omega
      go_enter Tryd.func91, Tryd.ntmps91
      go_wp2
      go_ret
      exact ⟨by rw [R.out]; rfl, rfl⟩
    · skip
      by_cases h101 : x.toNat = 101
      · have R := Lib.hid (show backU x = 119 from by unfold backU; simp [h101])
        have q110 : ((x.toNat : Int) == 110) = false := by simp; omega
        have q115 : ((x.toNat : Int) == 115) = false := by simp; omega
        have q101 : ((x.toNat : Int) == 101) = true := by simp; omega
        go_enter Tryd.func91, Tryd.ntmps91
        go_wp2
        go_ret
        exact ⟨by rw [R.out]; rfl, rfl⟩
      · skip
        have R := Lib.hid (show backU x = 101 from by unfold backU; rw [if_neg h110, if_neg h115, if_neg h101])
        have q110 : ((x.toNat : Int) == 110) = false := by simp; omega
        have q115 : ((x.toNat : Int) == 115) = false := by simp; omega
        have q101 : ((x.toNat : Int) == 101) = false := by simp; omega
        go_enter Tryd.func91, Tryd.ntmps91
        go_wp2
        go_ret
        exact ⟨by rw [R.out]; rfl, rfl⟩

set_option maxRecDepth 100000 in
set_option maxHeartbeats 1000000 in
theorem c_pairAt_n1 (W n k : Nat) (A : Option Addr) (c : Nat) (x : UInt8) (b off : Nat) (w : World) (hA : A = some ⟨b, off, none⟩) (g1 : w.cell? ⟨b, off + k, none⟩ = some (.int .u8 (x.toNat : Int))) (hW : 0 < W) (hk : k < n) (k30 : n ≤ 60) (hW30 : W ≤ 60) (hx : x.toNat = 110) (hc : W ≤ k) :
    Calls Tryd.prog 108 #[.agg #[.slice A n c, .int .i64 W], .int .i64 k] w fun e w' => e = .returned (.tuple #[.agg #[.int .i64 ((prU W n k x).1 : Int), .int .i64 ((prU W n k x).2 : Int)], .bool (prB W n k x)]) ∧ Below w.heap.size w w' := by
  have q0 : ((W : Int) == 0) = false := by simp; omega
  have q1 : ¬ (W : Int) = 0 := by omega
  have k0 : (0 : Int) ≤ (k : Int) := by omega
  have k1 : (k : Int) < (n : Int) := by omega
  have hm1 : (k : Int).tmod (W : Int) = ((k % W : Nat) : Int) := by rw [Int.tmod_eq_emod_of_nonneg k0]; rfl
  have hmlt := Nat.mod_lt k hW
  obtain ⟨r, hr⟩ : ∃ r, k % W = r := ⟨_, rfl⟩
  have hrk : r ≤ k := hr ▸ Nat.mod_le k W
  rw [hr] at hm1 hmlt
  have hm2 : (k : Int) % (W : Int) = (r : Int) := by rw [← hr]; rfl
  have iw2 : IntKind.i64.wrap ((k : Int) + (W : Int)) = (k : Int) + (W : Int) := IntWalk.i64_in _ (by omega)
  have iw3 : IntKind.i64.wrap ((W : Int) - 1) = (W : Int) - 1 := IntWalk.i64_in _ (by omega)
  have iw4 : IntKind.i64.wrap ((k : Int) + 1) = (k : Int) + 1 := IntWalk.i64_in _ (by omega)
  have iw7 : IntKind.i64.wrap (r : Int) = (r : Int) := IntWalk.i64_in _ (by omega)
  subst hA
  have hzb : b < w.heap.size := block_lt g1
  have q110 : ((x.toNat : Int) == 110) = true := by simp; omega
  have q115 : ((x.toNat : Int) == 115) = false := by simp; omega
  have q101 : ((x.toNat : Int) == 101) = false := by simp; omega
  have q119 : ((x.toNat : Int) == 119) = false := by simp; omega
  have d1 : (W : Int) ≤ (k : Int) := by omega
  obtain ⟨j, hj⟩ : ∃ j : Nat, k - W = j := ⟨_, rfl⟩
  have iwj : IntKind.i64.wrap ((k : Int) - (W : Int)) = (j : Int) := by rw [IntWalk.i64_in _ (by omega)]; omega
  have R := Lib.hid (show ((prU W n k x).1 : Int) = (j : Int) ∧ ((prU W n k x).2 : Int) = (k : Int) ∧ prB W n k x = true from by unfold prU prB; rw [oth_n (W := W) (n := n) (i := k) hx, if_pos hc]; refine ⟨?_, ?_, rfl⟩ <;> simp <;> omega)
  have K := Lib.hid k30
  clear hW k30 hc hx hj hr
  go_enter Tryd.func108, Tryd.ntmps108
  go_wp2
  refine bodyPost_ret (v := .tuple #[.agg #[.int .i64 (j : Int), .int .i64 (k : Int)], .bool true]) (by simp [results, Tryd.results108, go_sem]) rfl ?_
  rw [R.out.1, R.out.2.1, R.out.2.2]
  exact ⟨rfl, by go_grown⟩

set_option maxRecDepth 100000 in
set_option maxHeartbeats 1000000 in
theorem c_pairAt_n0 (W n k : Nat) (A : Option Addr) (c : Nat) (x : UInt8) (b off : Nat) (w : World) (hA : A = some ⟨b, off, none⟩) (g1 : w.cell? ⟨b, off + k, none⟩ = some (.int .u8 (x.toNat : Int))) (hW : 0 < W) (hk : k < n) (k30 : n ≤ 60) (hW30 : W ≤ 60) (hx : x.toNat = 110) (hc : ¬ W ≤ k) :
    Calls Tryd.prog 108 #[.agg #[.slice A n c, .int .i64 W], .int .i64 k] w fun e w' => e = .returned (.tuple #[.agg #[.int .i64 ((prU W n k x).1 : Int), .int .i64 ((prU W n k x).2 : Int)], .bool (prB W n k x)]) ∧ Below w.heap.size w w' := by
  have q0 : ((W : Int) == 0) = false := by simp; omega
  have q1 : ¬ (W : Int) = 0 := by omega
  have k0 : (0 : Int) ≤ (k : Int) := by omega
  have k1 : (k : Int) < (n : Int) := by omega
  have hm1 : (k : Int).tmod (W : Int) = ((k % W : Nat) : Int) := by rw [Int.tmod_eq_emod_of_nonneg k0]; rfl
  have hmlt := Nat.mod_lt k hW
  obtain ⟨r, hr⟩ : ∃ r, k % W = r := ⟨_, rfl⟩
  have hrk : r ≤ k := hr ▸ Nat.mod_le k W
  rw [hr] at hm1 hmlt
  have hm2 : (k : Int) % (W : Int) = (r : Int) := by rw [← hr]; rfl
  have iw2 : IntKind.i64.wrap ((k : Int) + (W : Int)) = (k : Int) + (W : Int) := IntWalk.i64_in _ (by omega)
  have iw3 : IntKind.i64.wrap ((W : Int) - 1) = (W : Int) - 1 := IntWalk.i64_in _ (by omega)
  have iw4 : IntKind.i64.wrap ((k : Int) + 1) = (k : Int) + 1 := IntWalk.i64_in _ (by omega)
  have iw7 : IntKind.i64.wrap (r : Int) = (r : Int) := IntWalk.i64_in _ (by omega)
  subst hA
  have hzb : b < w.heap.size := block_lt g1
  have q110 : ((x.toNat : Int) == 110) = true := by simp; omega
  have q115 : ((x.toNat : Int) == 115) = false := by simp; omega
  have q101 : ((x.toNat : Int) == 101) = false := by simp; omega
  have q119 : ((x.toNat : Int) == 119) = false := by simp; omega
  have d1 : ¬ (W : Int) ≤ (k : Int) := by omega
  have R := Lib.hid (show ((prU W n k x).1 : Int) = 0 ∧ ((prU W n k x).2 : Int) = 0 ∧ prB W n k x = false from by unfold prU prB; rw [oth_n (W := W) (n := n) (i := k) hx, if_neg hc]; exact ⟨rfl, rfl, rfl⟩)
  have K := Lib.hid k30
  clear hW k30 hc hx hr
  go_enter Tryd.func108, Tryd.ntmps108
  go_wp2
  refine bodyPost_ret (v := .tuple #[.agg #[.int .i64 0, .int .i64 0], .bool false]) (by simp [results, Tryd.results108, go_sem]) rfl ?_
  rw [R.out.1, R.out.2.1, R.out.2.2]
  exact ⟨rfl, by go_grown⟩

set_option maxRecDepth 100000 in
set_option maxHeartbeats 1000000 in
theorem c_pairAt_s1 (W n k : Nat) (A : Option Addr) (c : Nat) (x : UInt8) (b off : Nat) (w : World) (hA : A = some ⟨b, off, none⟩) (g1 : w.cell? ⟨b, off + k, none⟩ = some (.int .u8 (x.toNat : Int))) (hW : 0 < W) (hk : k < n) (k30 : n ≤ 60) (hW30 : W ≤ 60) (hx : x.toNat = 115) (hc : k + W < n) :
    Calls Tryd.prog 108 #[.agg #[.slice A n c, .int .i64 W], .int .i64 k] w fun e w' => e = .returned (.tuple #[.agg #[.int .i64 ((prU W n k x).1 : Int), .int .i64 ((prU W n k x).2 : Int)], .bool (prB W n k x)]) ∧ Below w.heap.size w w' := by
  have q0 : ((W : Int) == 0) = false := by simp; omega
  have q1 : ¬ (W : Int) = 0 := by omega
  have k0 : (0 : Int) ≤ (k : Int) := by omega
  have k1 : (k : Int) < (n : Int) := by omega
  have hm1 : (k : Int).tmod (W : Int) = ((k % W : Nat) : Int) := by rw [Int.tmod_eq_emod_of_nonneg k0]; rfl
  have hmlt := Nat.mod_lt k hW
  obtain ⟨r, hr⟩ : ∃ r, k % W = r := ⟨_, rfl⟩
  have hrk : r ≤ k := hr ▸ Nat.mod_le k W
  rw [hr] at hm1 hmlt
  have hm2 : (k : Int) % (W : Int) = (r : Int) := by rw [← hr]; rfl
  have iw2 : IntKind.i64.wrap ((k : Int) + (W : Int)) = (k : Int) + (W : Int) := IntWalk.i64_in _ (by omega)
  have iw3 : IntKind.i64.wrap ((W : Int) - 1) = (W : Int) - 1 := IntWalk.i64_in _ (by omega)
  have iw4 : IntKind.i64.wrap ((k : Int) + 1) = (k : Int) + 1 := IntWalk.i64_in _ (by omega)
  have iw7 : IntKind.i64.wrap (r : Int) = (r : Int) := IntWalk.i64_in _ (by omega)
  subst hA
  have hzb : b < w.heap.size := block_lt g1
  have q110 : ((x.toNat : Int) == 110) = false := by simp; omega
  have q115 : ((x.toNat : Int) == 115) = true := by simp; omega
  have q101 : ((x.toNat : Int) == 101) = false := by simp; omega
  have q119 : ((x.toNat : Int) == 119) = false := by simp; omega
  have d1 : (k : Int) + (W : Int) < (n : Int) := by omega
  have R := Lib.hid (show ((prU W n k x).1 : Int) = (k : Int) ∧ ((prU W n k x).2 : Int) = ((k : Int) + (W : Int)) ∧ prB W n k x = true from by unfold prU prB; rw [oth_s (W := W) (n := n) (i := k) hx, if_pos hc]; refine ⟨?_, ?_, rfl⟩ <;> simp <;> omega)
  have K := Lib.hid k30
  clear hW k30 hc hx hr
  go_enter Tryd.func108, Tryd.ntmps108
  go_wp2
  refine bodyPost_ret (v := .tuple #[.agg #[.int .i64 (k : Int), .int .i64 ((k : Int) + (W : Int))], .bool true]) (by simp [results, Tryd.results108, go_sem]) rfl ?_
  rw [R.out.1, R.out.2.1, R.out.2.2]
  exact ⟨rfl, by go_grown⟩

set_option maxRecDepth 100000 in
set_option maxHeartbeats 1000000 in
theorem c_pairAt_s0 (W n k : Nat) (A : Option Addr) (c : Nat) (x : UInt8) (b off : Nat) (w : World) (hA : A = some ⟨b, off, none⟩) (g1 : w.cell? ⟨b, off + k, none⟩ = some (.int .u8 (x.toNat : Int))) (hW : 0 < W) (hk : k < n) (k30 : n ≤ 60) (hW30 : W ≤ 60) (hx : x.toNat = 115) (hc : ¬ k + W < n) :
    Calls Tryd.prog 108 #[.agg #[.slice A n c, .int .i64 W], .int .i64 k] w fun e w' => e = .returned (.tuple #[.agg #[.int .i64 ((prU W n k x).1 : Int), .int .i64 ((prU W n k x).2 : Int)], .bool (prB W n k x)]) ∧ Below w.heap.size w w' := by
  have q0 : ((W : Int) == 0) = false := by simp; omega
  have q1 : ¬ (W : Int) = 0 := by omega
  have k0 : (0 : Int) ≤ (k : Int) := by omega
  have k1 : (k : Int) < (n : Int) := by omega
  have hm1 : (k : Int).tmod (W : Int) = ((k % W : Nat) : Int) := by rw [Int.tmod_eq_emod_of_nonneg k0]; rfl
  have hmlt := Nat.mod_lt k hW
  obtain ⟨r, hr⟩ : ∃ r, k % W = r := ⟨_, rfl⟩
  have hrk : r ≤ k := hr ▸ Nat.mod_le k W
  rw [hr] at hm1 hmlt
  have hm2 : (k : Int) % (W : Int) = (r : Int) := by rw [← hr]; rfl
  have iw2 : IntKind.i64.wrap ((k : Int) + (W : Int)) = (k : Int) + (W : Int) := IntWalk.i64_in _ (by omega)
  have iw3 : IntKind.i64.wrap ((W : Int) - 1) = (W : Int) - 1 := IntWalk.i64_in _ (by omega)
  have iw4 : IntKind.i64.wrap ((k : Int) + 1) = (k : Int) + 1 := IntWalk.i64_in _ (by omega)
  have iw7 : IntKind.i64.wrap (r : Int) = (r : Int) := IntWalk.i64_in _ (by omega)
  subst hA
  have hzb : b < w.heap.size := block_lt g1
  have q110 : ((x.toNat : Int) == 110) = false := by simp; omega
  have q115 : ((x.toNat : Int) == 115) = true := by simp; omega
  have q101 : ((x.toNat : Int) == 101) = false := by simp; omega
  have q119 : ((x.toNat : Int) == 119) = false := by simp; omega
  have d1 : ¬ (k : Int) + (W : Int) < (n : Int) := by omega
  have R := Lib.hid (show ((prU W n k x).1 : Int) = 0 ∧ ((prU W n k x).2 : Int) = 0 ∧ prB W n k x = false from by unfold prU prB; rw [oth_s (W := W) (n := n) (i := k) hx, if_neg hc]; exact ⟨rfl, rfl, rfl⟩)
  have K := Lib.hid k30
  clear hW k30 hc hx hr
  go_enter Tryd.func108, Tryd.ntmps108
  go_wp2
  refine bodyPost_ret (v := .tuple #[.agg #[.int .i64 0, .int .i64 0], .bool false]) (by simp [results, Tryd.results108, go_sem]) rfl ?_
  rw [R.out.1, R.out.2.1, R.out.2.2]
  exact ⟨rfl, by go_grown⟩

set_option maxRecDepth 100000 in
set_option maxHeartbeats 1000000 in
theorem c_pairAt_e1 (W n k : Nat) (A : Option Addr) (c : Nat) (x : UInt8) (b off : Nat) (w : World) (hA : A = some ⟨b, off, none⟩) (g1 : w.cell? ⟨b, off + k, none⟩ = some (.int .u8 (x.toNat : Int))) (hW : 0 < W) (hk : k < n) (k30 : n ≤ 60) (hW30 : W ≤ 60) (hx : x.toNat = 101) (hc : k % W + 1 < W) :
    Calls Tryd.prog 108 #[.agg #[.slice A n c, .int .i64 W], .int .i64 k] w fun e w' => e = .returned (.tuple #[.agg #[.int .i64 ((prU W n k x).1 : Int), .int .i64 ((prU W n k x).2 : Int)], .bool (prB W n k x)]) ∧ Below w.heap.size w w' := by
  have q0 : ((W : Int) == 0) = false := by simp; omega
  have q1 : ¬ (W : Int) = 0 := by omega
  have k0 : (0 : Int) ≤ (k : Int) := by omega
  have k1 : (k : Int) < (n : Int) := by omega
  have hm1 : (k : Int).tmod (W : Int) = ((k % W : Nat) : Int) := by rw [Int.tmod_eq_emod_of_nonneg k0]; rfl
  have hmlt := Nat.mod_lt k hW
  obtain ⟨r, hr⟩ : ∃ r, k % W = r := ⟨_, rfl⟩
  have hrk : r ≤ k := hr ▸ Nat.mod_le k W
  rw [hr] at hm1 hmlt
  have hm2 : (k : Int) % (W : Int) = (r : Int) := by rw [← hr]; rfl
  have iw2 : IntKind.i64.wrap ((k : Int) + (W : Int)) = (k : Int) + (W : Int) := IntWalk.i64_in _ (by omega)
  have iw3 : IntKind.i64.wrap ((W : Int) - 1) = (W : Int) - 1 := IntWalk.i64_in _ (by omega)
  have iw4 : IntKind.i64.wrap ((k : Int) + 1) = (k : Int) + 1 := IntWalk.i64_in _ (by omega)
  have iw7 : IntKind.i64.wrap (r : Int) = (r : Int) := IntWalk.i64_in _ (by omega)
  subst hA
  have hzb : b < w.heap.size := block_lt g1
  have q110 : ((x.toNat : Int) == 110) = false := by simp; omega
  have q115 : ((x.toNat : Int) == 115) = false := by simp; omega
  have q101 : ((x.toNat : Int) == 101) = true := by simp; omega
  have q119 : ((x.toNat : Int) == 119) = false := by simp; omega
  have d1 : (r : Int) < (W : Int) - 1 := by omega
  have R := Lib.hid (show ((prU W n k x).1 : Int) = (k : Int) ∧ ((prU W n k x).2 : Int) = ((k : Int) + 1) ∧ prB W n k x = true from by unfold prU prB; rw [oth_e (W := W) (n := n) (i := k) hx, if_pos hc]; refine ⟨?_, ?_, rfl⟩ <;> simp <;> omega)
  have K := Lib.hid k30
  clear hW k30 hc hx hr
  go_enter Tryd.func108, Tryd.ntmps108
  go_wp2
  refine bodyPost_ret (v := .tuple #[.agg #[.int .i64 (k : Int), .int .i64 ((k : Int) + 1)], .bool true]) (by simp [results, Tryd.results108, go_sem]) rfl ?_
  rw [R.out.1, R.out.2.1, R.out.2.2]
  exact ⟨rfl, by go_grown⟩

set_option maxRecDepth 100000 in
set_option maxHeartbeats 1000000 in
theorem c_pairAt_e0 (W n k : Nat) (A : Option Addr) (c : Nat) (x : UInt8) (b off : Nat) (w : World) (hA : A = some ⟨b, off, none⟩) (g1 : w.cell? ⟨b, off + k, none⟩ = some (.int .u8 (x.toNat : Int))) (hW : 0 < W) (hk : k < n) (k30 : n ≤ 60) (hW30 : W ≤ 60) (hx : x.toNat = 101) (hc : ¬ k % W + 1 < W) :
    Calls Tryd.prog 108 #[.agg #[.slice A n c, .int .i64 W], .int .i64 k] w fun e w' => e = .returned (.tuple #[.agg #[.int .i64 ((prU W n k x).1 : Int), .int .i64 ((prU W n k x).2 : Int)], .bool (prB W n k x)]) ∧ Below w.heap.size w w' := by
  have q0 : ((W : Int) == 0) = false := by simp; omega
  have q1 : ¬ (W : Int) = 0 := by omega
  have k0 : (0 : Int) ≤ (k : Int) := by omega
  have k1 : (k : Int) < (n : Int) := by omega
  have hm1 : (k : Int).tmod (W : Int) = ((k % W : Nat) : Int) := by rw [Int.tmod_eq_emod_of_nonneg k0]; rfl
  have hmlt := Nat.mod_lt k hW
  obtain ⟨r, hr⟩ : ∃ r, k % W = r := ⟨_, rfl⟩
  have hrk : r ≤ k := hr ▸ Nat.mod_le k W
  rw [hr] at hm1 hmlt
  have hm2 : (k : Int) % (W : Int) = (r : Int) := by rw [← hr]; rfl
  have iw2 : IntKind.i64.wrap ((k : Int) + (W : Int)) = (k : Int) + (W : Int) := IntWalk.i64_in _ (by omega)
  have iw3 : IntKind.i64.wrap ((W : Int) - 1) = (W : Int) - 1 := IntWalk.i64_in _ (by omega)
  have iw4 : IntKind.i64.wrap ((k : Int) + 1) = (k : Int) + 1 := IntWalk.i64_in _ (by omega)
  have iw7 : IntKind.i64.wrap (r : Int) = (r : Int) := IntWalk.i64_in _ (by omega)
  subst hA
  have hzb : b < w.heap.size := block_lt g1
  have q110 : ((x.toNat : Int) == 110) = false := by simp; omega
  have q115 : ((x.toNat : Int) == 115) = false := by simp; omega
  have q101 : ((x.toNat : Int) == 101) = true := by simp; omega
  have q119 : ((x.toNat : Int) == 119) = false := by simp; omega
  have d1 : ¬ (r : Int) < (W : Int) - 1 := by omega
  have R := Lib.hid (show ((prU W n k x).1 : Int) = 0 ∧ ((prU W n k x).2 : Int) = 0 ∧ prB W n k x = false from by unfold prU prB; rw [oth_e (W := W) (n := n) (i := k) hx, if_neg hc]; exact ⟨rfl, rfl, rfl⟩)
  have K := Lib.hid k30
  clear hW k30 hc hx hr
  go_enter Tryd.func108, Tryd.ntmps108
  go_wp2
  refine bodyPost_ret (v := .tuple #[.agg #[.int .i64 0, .int .i64 0], .bool false]) (by simp [results, Tryd.results108, go_sem]) rfl ?_
  rw [R.out.1, R.out.2.1, R.out.2.2]
  exact ⟨rfl, by go_grown⟩

set_option maxRecDepth 100000 in
set_option maxHeartbeats 1000000 in
theorem c_pairAt_w1 (W n k : Nat) (A : Option Addr) (c : Nat) (x : UInt8) (b off : Nat) (w : World) (hA : A = some ⟨b, off, none⟩) (g1 : w.cell? ⟨b, off + k, none⟩ = some (.int .u8 (x.toNat : Int))) (hW : 0 < W) (hk : k < n) (k30 : n ≤ 60) (hW30 : W ≤ 60) (hx : x.toNat = 119) (hc : 0 < k % W) :
    Calls Tryd.prog 108 #[.agg #[.slice A n c, .int .i64 W], .int .i64 k] w fun e w' => e = .returned (.tuple #[.agg #[.int .i64 ((prU W n k x).1 : Int), .int .i64 ((prU W n k x).2 : Int)], .bool (prB W n k x)]) ∧ Below w.heap.size w w' := by
  have q0 : ((W : Int) == 0) = false := by simp; omega
  have q1 : ¬ (W : Int) = 0 := by omega
  have k0 : (0 : Int) ≤ (k : Int) := by omega
  have k1 : (k : Int) < (n : Int) := by omega
  have hm1 : (k : Int).tmod (W : Int) = ((k % W : Nat) : Int) := by rw [Int.tmod_eq_emod_of_nonneg k0]; rfl
  have hmlt := Nat.mod_lt k hW
  obtain ⟨r, hr⟩ : ∃ r, k % W = r := ⟨_, rfl⟩
  have hrk : r ≤ k := hr ▸ Nat.mod_le k W
  rw [hr] at hm1 hmlt
  have hm2 : (k : Int) % (W : Int) = (r : Int) := by rw [← hr]; rfl
  have iw2 : IntKind.i64.wrap ((k : Int) + (W : Int)) = (k : Int) + (W : Int) := IntWalk.i64_in _ (by omega)
  have iw3 : IntKind.i64.wrap ((W : Int) - 1) = (W : Int) - 1 := IntWalk.i64_in _ (by omega)
  have iw4 : IntKind.i64.wrap ((k : Int) + 1) = (k : Int) + 1 := IntWalk.i64_in _ (by omega)
  have iw7 : IntKind.i64.wrap (r : Int) = (r : Int) := IntWalk.i64_in _ (by omega)
  subst hA
  have hzb : b < w.heap.size := block_lt g1
  have q110 : ((x.toNat : Int) == 110) = false := by simp; omega
  have q115 : ((x.toNat : Int) == 115) = false := by simp; omega
  have q101 : ((x.toNat : Int) == 101) = false := by simp; omega
  have q119 : ((x.toNat : Int) == 119) = true := by simp; omega
  have d1 : (0 : Int) < (r : Int) := by omega
  obtain ⟨j, hj⟩ : ∃ j : Nat, k - 1 = j := ⟨_, rfl⟩
  have iwj : IntKind.i64.wrap ((k : Int) - 1) = (j : Int) := by rw [IntWalk.i64_in _ (by omega)]; omega
  have R := Lib.hid (show ((prU W n k x).1 : Int) = (j : Int) ∧ ((prU W n k x).2 : Int) = (k : Int) ∧ prB W n k x = true from by unfold prU prB; rw [oth_w (W := W) (n := n) (i := k) hx, if_pos hc]; refine ⟨?_, ?_, rfl⟩ <;> simp <;> omega)
  have K := Lib.hid k30
  clear hW k30 hc hx hj hr
  go_enter Tryd.func108, Tryd.ntmps108
  go_wp2
  refine bodyPost_ret (v := .tuple #[.agg #[.int .i64 (j : Int), .int .i64 (k : Int)], .bool true]) (by simp [results, Tryd.results108, go_sem]) rfl ?_
  rw [R.out.1, R.out.2.1, R.out.2.2]
  exact ⟨rfl, by go_grown⟩

set_option maxRecDepth 100000 in
set_option maxHeartbeats 1000000 in
theorem c_pairAt_w0 (W n k : Nat) (A : Option Addr) (c : Nat) (x : UInt8) (b off : Nat) (w : World) (hA : A = some ⟨b, off, none⟩) (g1 : w.cell? ⟨b, off + k, none⟩ = some (.int .u8 (x.toNat : Int))) (hW : 0 < W) (hk : k < n) (k30 : n ≤ 60) (hW30 : W ≤ 60) (hx : x.toNat = 119) (hc : ¬ 0 < k % W) :
    Calls Tryd.prog 108 #[.agg #[.slice A n c, .int .i64 W], .int .i64 k] w fun e w' => e = .returned (.tuple #[.agg #[.int .i64 ((prU W n k x).1 : Int), .int .i64 ((prU W n k x).2 : Int)], .bool (prB W n k x)]) ∧ Below w.heap.size w w' := by
  have q0 : ((W : Int) == 0) = false := by simp; omega
  have q1 : ¬ (W : Int) = 0 := by omega
  have k0 : (0 : Int) ≤ (k : Int) := by omega
  have k1 : (k : Int) < (n : Int) := by omega
  have hm1 : (k : Int).tmod (W : Int) = ((k % W : Nat) : Int) := by rw [Int.tmod_eq_emod_of_nonneg k0]; rfl
  have hmlt := Nat.mod_lt k hW
  obtain ⟨r, hr⟩ : ∃ r, k % W = r := ⟨_, rfl⟩
  have hrk : r ≤ k := hr ▸ Nat.mod_le k W
  rw [hr] at hm1 hmlt
  have hm2 : (k : Int) % (W : Int) = (r : Int) := by rw [← hr]; rfl
  have iw2 : IntKind.i64.wrap ((k : Int) + (W : Int)) = (k : Int) + (W : Int) := IntWalk.i64_in _ (by omega)
  have iw3 : IntKind.i64.wrap ((W : Int) - 1) = (W : Int) - 1 := IntWalk.i64_in _ (by omega)
  have iw4 : IntKind.i64.wrap ((k : Int) + 1) = (k : Int) + 1 := IntWalk.i64_in _ (by omega)
  have iw7 : IntKind.i64.wrap (r : Int) = (r : Int) := IntWalk.i64_in _ (by omega)
  subst hA
  have hzb : b < w.heap.size := block_lt g1
  have q110 : ((x.toNat : Int) == 110) = false := by simp; omega
  have q115 : ((x.toNat : Int) == 115) = false := by simp; omega
  have q101 : ((x.toNat : Int) == 101) = false := by simp; omega
  have q119 : ((x.toNat : Int) == 119) = true := by simp; omega
  have d1 : ¬ (0 : Int) < (r : Int) := by omega
  have R := Lib.hid (show ((prU W n k x).1 : Int) = 0 ∧ ((prU W n k x).2 : Int) = 0 ∧ prB W n k x = false from by unfold prU prB; rw [oth_w (W := W) (n := n) (i := k) hx, if_neg hc]; exact ⟨rfl, rfl, rfl⟩)
  have K := Lib.hid k30
  clear hW k30 hc hx hr
  go_enter Tryd.func108, Tryd.ntmps108
  go_wp2
  refine bodyPost_ret (v := .tuple #[.agg #[.int .i64 0, .int .i64 0], .bool false]) (by simp [results, Tryd.results108, go_sem]) rfl ?_
  rw [R.out.1, R.out.2.1, R.out.2.2]
  exact ⟨rfl, by go_grown⟩

set_option maxRecDepth 100000 in
set_option maxHeartbeats 1000000 in
theorem c_pairAt_x0 (W n k : Nat) (A : Option Addr) (c : Nat) (x : UInt8) (b off : Nat) (w : World) (hA : A = some ⟨b, off, none⟩) (g1 : w.cell? ⟨b, off + k, none⟩ = some (.int .u8 (x.toNat : Int))) (hW : 0 < W) (hk : k < n) (k30 : n ≤ 60) (hW30 : W ≤ 60) (h1 : x.toNat ≠ 110) (h2 : x.toNat ≠ 115) (h3 : x.toNat ≠ 101) (h4 : x.toNat ≠ 119) :
    Calls Tryd.prog 108 #[.agg #[.slice A n c, .int .i64 W], .int .i64 k] w fun e w' => e = .returned (.tuple #[.agg #[.int .i64 ((prU W n k x).1 : Int), .int .i64 ((prU W n k x).2 : Int)], .bool (prB W n k x)]) ∧ Below w.heap.size w w' := by
  have q0 : ((W : Int) == 0) = false := by simp; omega
  have q1 : ¬ (W : Int) = 0 := by omega
  have k0 : (0 : Int) ≤ (k : Int) := by omega
  have k1 : (k : Int) < (n : Int) := by omega
  have hm1 : (k : Int).tmod (W : Int) = ((k % W : Nat) : Int) := by rw [Int.tmod_eq_emod_of_nonneg k0]; rfl
  have hmlt := Nat.mod_lt k hW
  obtain ⟨r, hr⟩ : ∃ r, k % W = r := ⟨_, rfl⟩
  have hrk : r ≤ k := hr ▸ Nat.mod_le k W
  rw [hr] at hm1 hmlt
  have hm2 : (k : Int) % (W : Int) = (r : Int) := by rw [← hr]; rfl
  have iw2 : IntKind.i64.wrap ((k : Int) + (W : Int)) = (k : Int) + (W : Int) := IntWalk.i64_in _ (by omega)
  have iw3 : IntKind.i64.wrap ((W : Int) - 1) = (W : Int) - 1 := IntWalk.i64_in _ (by omega)
  have iw4 : IntKind.i64.wrap ((k : Int) + 1) = (k : Int) + 1 := IntWalk.i64_in _ (by omega)
  have iw7 : IntKind.i64.wrap (r : Int) = (r : Int) := IntWalk.i64_in _ (by omega)
  subst hA
  have hzb : b < w.heap.size := block_lt g1
  have q110 : ((x.toNat : Int) == 110) = false := by simp; omega
  have q115 : ((x.toNat : Int) == 115) = false := by simp; omega
  have q101 : ((x.toNat : Int) == 101) = false := by simp; omega
  have q119 : ((x.toNat : Int) == 119) = false := by simp; omega
  have R := Lib.hid (show ((prU W n k x).1 : Int) = 0 ∧ ((prU W n k x).2 : Int) = 0 ∧ prB W n k x = false from by unfold prU prB; rw [oth_x (W := W) (n := n) (i := k) h1 h2 h3 h4]; exact ⟨rfl, rfl, rfl⟩)
  have K := Lib.hid k30
  clear hW k30 h1 h2 h3 h4 hr
  go_enter Tryd.func108, Tryd.ntmps108
  go_wp2
  refine bodyPost_ret (v := .tuple #[.agg #[.int .i64 0, .int .i64 0], .bool false]) (by simp [results, Tryd.results108, go_sem]) rfl ?_
  rw [R.out.1, R.out.2.1, R.out.2.2]
  exact ⟨rfl, by go_grown⟩

theorem c_pairAtX (W n k : Nat) (A : Option Addr) (c : Nat) (x : UInt8) (b off : Nat) (w : World) (hA : A = some ⟨b, off, none⟩) (g1 : w.cell? ⟨b, off + k, none⟩ = some (.int .u8 (x.toNat : Int))) (hW : 0 < W) (hk : k < n) (k30 : n ≤ 60) (hW30 : W ≤ 60) :
    Calls Tryd.prog 108 #[.agg #[.slice A n c, .int .i64 W], .int .i64 k] w fun e w' => e = .returned (.tuple #[.agg #[.int .i64 ((prU W n k x).1 : Int), .int .i64 ((prU W n k x).2 : Int)], .bool (prB W n k x)]) ∧ Below w.heap.size w w' := by
  by_cases h110 : x.toNat = 110
  · by_cases hc : W ≤ k
    · exact c_pairAt_n1 W n k A c x b off w hA g1 hW hk k30 hW30 h110 hc
    · exact c_pairAt_n0 W n k A c x b off w hA g1 hW hk k30 hW30 h110 hc
  · skip
    by_cases h115 : x.toNat = 115
    · by_cases hc : k + W < n
      · exact c_pairAt_s1 W n k A c x b off w hA g1 hW hk k30 hW30 h115 hc
      · exact c_pairAt_s0 W n k A c x b off w hA g1 hW hk k30 hW30 h115 hc
    · skip
      by_cases h101 : x.toNat = 101
      · by_cases hc : k % W + 1 < W
        · exact c_pairAt_e1 W n k A c x b off w hA g1 hW hk k30 hW30 h101 hc
        · exact c_pairAt_e0 W n k A c x b off w hA g1 hW hk k30 hW30 h101 hc
      · skip
        by_cases h119 : x.toNat = 119
        · by_cases hc : 0 < k % W
          · exact c_pairAt_w1 W n k A c x b off w hA g1 hW hk k30 hW30 h119 hc
          · exact c_pairAt_w0 W n k A c x b off w hA g1 hW hk k30 hW30 h119 hc
        · skip
          exact c_pairAt_x0 W n k A c x b off w hA g1 hW hk k30 hW30 h110 h115 h101 h119

theorem c_pairAt (W k : Nat) (A : Option Addr) (c : Nat) (L : List UInt8) (w : World) (hr : RdU w A L) (hW : 0 < W) (hk : k < L.length) (k30 : L.length ≤ 60) (hW30 : W ≤ 60) :
    Calls Tryd.prog 108 #[.agg #[.slice A L.length c, .int .i64 W], .int .i64 k] w fun e w' => e = .returned (.tuple #[.agg #[.int .i64 ((prU W L.length k L[k]).1 : Int), .int .i64 ((prU W L.length k L[k]).2 : Int)], .bool (prB W L.length k L[k])]) ∧ Below w.heap.size w w' := by
  obtain ⟨b, off, hA, hb, hcc⟩ := hr.at_ hk
  exact c_pairAtX W L.length k A c L[k] b off w hA (hcc k hk) hW hk k30 hW30

end Go.Proofs.YtnnkdnleencofaaDoor

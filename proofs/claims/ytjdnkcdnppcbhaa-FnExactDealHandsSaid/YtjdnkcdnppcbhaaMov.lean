/- Moves of games: the mathematics. -/
import Derived.Test.YtjdnkcdnppcbhaaGamM
import Derived.Test.YtjdnkcdnppcbhaaGamS
import Derived.Test.YtjdnkcdnppcbhaaRowE
namespace Go.Proofs.Ytjdnkcdnppcbhaa
open Go.RowKit
set_option linter.unusedVariables false

/-- A move: a tile's numbers, and 0 for a pass, 1 for the left end, 2 for the right one. -/
abbrev Mv : Type := Int × Int × Nat

def endS (k : Nat) : ByteArray := if k = 0 then ⟨#[]⟩ else if k = 1 then ⟨#[108]⟩ else ⟨#[114]⟩
def encS (m : Mv) : List Value := [.int .i64 m.1, .int .i64 m.2.1, .bool (m.2.2 == 1), .bool (m.2.2 == 0)]
def encI (m : Mv) : List Value := [.int .i64 m.1, .int .i64 m.2.1, .string (endS m.2.2)]
theorem encS_len (m : Mv) : (encS m).length = 4 := rfl
theorem encI_len (m : Mv) : (encI m).length = 3 := rfl
theorem encS_one (m : Mv) : ∀ u ∈ encS m, u.oneCell' = true := by
  intro u hu
  simp only [encS, List.mem_cons, List.not_mem_nil, or_false] at hu
  rcases hu with rfl | rfl | rfl | rfl <;> rfl
theorem encI_one (m : Mv) : ∀ u ∈ encI m, u.oneCell' = true := by
  intro u hu
  simp only [encI, List.mem_cons, List.not_mem_nil, or_false] at hu
  rcases hu with rfl | rfl | rfl <;> rfl

def hasB (a b q : Int) : Bool := (a == q) || (b == q)
/-- The first number of a row, and the last one. -/
def fstI (R : List Int) : Int := R.getD 0 0
def lstI (R : List Int) : Int := R.getD (R.length - 1) 0
def leftB (R : List Int) (a b : Int) : Bool := decide (R.length = 0) || hasB a b (fstI R)
def rightB (R : List Int) (a b : Int) : Bool := decide (0 < R.length) && hasB a b (lstI R)
def layOf (R : List Int) (t : Int × Int) : List Mv := (if leftB R t.1 t.2 then [(t.1, t.2, 1)] else []) ++ (if rightB R t.1 t.2 then [(t.1, t.2, 2)] else [])
theorem layOf_len (R : List Int) (t : Int × Int) : (layOf R t).length ≤ 2 := by
  unfold layOf
  split <;> split <;> simp
/-- The moves that lay one of the first k tiles. -/
def laysTo (R : List Int) (H : List (Int × Int)) (k : Nat) : List Mv := (H.take k).flatMap (layOf R)
theorem laysTo_zero (R : List Int) (H : List (Int × Int)) : laysTo R H 0 = [] := by simp [laysTo]
theorem laysTo_step {R : List Int} {H : List (Int × Int)} {k : Nat} (h : k < H.length) : laysTo R H (k + 1) = laysTo R H k ++ layOf R H[k] := by
  unfold laysTo
  rw [List.take_succ_eq_append_getElem h, List.flatMap_append]
  simp
theorem laysTo_len (R : List Int) (H : List (Int × Int)) (k : Nat) : (laysTo R H k).length ≤ 2 * H.length := by
  have : ∀ (L : List (Int × Int)), (L.flatMap (layOf R)).length ≤ 2 * L.length := fun L => by
    induction L with
    | nil => simp
    | cons t L ih =>
      rw [List.flatMap_cons, List.length_append, List.length_cons]
      have := layOf_len R t
      omega
  have h1 := this (H.take k)
  have h2 : (H.take k).length ≤ H.length := List.length_take_le' _ _
  unfold laysTo
  omega
def laysL (R : List Int) (H : List (Int × Int)) : List Mv := laysTo R (sortL H) (sortL H).length
theorem laysL_len (R : List Int) (H : List (Int × Int)) : (laysL R H).length ≤ 220 := by
  have h1 := laysTo_len R (sortL H) (sortL H).length
  have h2 := sortL_len H
  unfold laysL
  omega
def handG (F S : List (Int × Int)) (t : Int) : List (Int × Int) := if t = 1 then S else F
def movesL (F S : List (Int × Int)) (R : List Int) (t u : Int) : List Mv :=
  if overB F.length S.length u then [] else if (laysL R (handG F S t)).length = 0 then [(0, 0, 0)] else laysL R (handG F S t)
theorem movesL_len (F S : List (Int × Int)) (R : List Int) (t u : Int) : (movesL F S R t u).length ≤ 220 := by
  unfold movesL
  split
  · simp
  · split
    · simp
    · exact laysL_len _ _
end Go.Proofs.Ytjdnkcdnppcbhaa

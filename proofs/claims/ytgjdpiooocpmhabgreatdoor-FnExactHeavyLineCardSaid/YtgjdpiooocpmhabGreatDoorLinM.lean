/- Lines of play: the mathematics, and rows that read whatever lies in some blocks. -/
import Derived.Test.YtgjdpiooocpmhabGreatDoorBmv
namespace Go.Proofs.YtgjdpiooocpmhabGreatDoor
open Go.RowKit
set_option linter.unusedVariables false

theorem chF_ne (W : Mv → Int) : ∀ (ms : List Mv), (∀ m ∈ ms, minI < W m) → ms ≠ [] → (chF W ms).1 ≠ [] := by
  intro ms
  induction ms using snoc_ind with
  | h0 => exact fun _ h => absurd rfl h
  | h1 ms m ih =>
    intro h _
    have hm := h m (by simp)
    have i2 := ih (fun x hx => h x (by simp [hx]))
    rw [chF_snoc]
    by_cases h0 : ms = []
    · subst h0
      rw [chF_nil]
      unfold chS
      rw [if_pos hm]
      simp
    · have i3 := i2 h0
      unfold chS
      split
      · simp
      · split
        · simp
        · exact i3
abbrev Ch : Type := Nat → List (Int × Int) → List (Int × Int) → List Int → Int → Int → List Mv
def hdM (ms : List Mv) : Mv := ms.headD (0, 0, 0)
/-- The line of play if each time the first choice is made. -/
def lineN (cl : Ch) : Nat → List (Int × Int) → List (Int × Int) → List Int → Int → Int → List Mv
  | 0, _, _, _, _, _ => []
  | n + 1, F, S, R, t, u => if overB F.length S.length u then [] else hdM (cl n F S R t u) :: lineN cl n (behF F t (hdM (cl n F S R t u))) (behS S t (hdM (cl n F S R t u))) (behR R (hdM (cl n F S R t u))) (1 - t) (behU u (hdM (cl n F S R t u)))
theorem lineN_len (cl : Ch) : ∀ (n : Nat) (F S : List (Int × Int)) (R : List Int) (t u : Int), (lineN cl n F S R t u).length ≤ n
  | 0, F, S, R, t, u => Nat.le_refl _
  | n + 1, F, S, R, t, u => by
    unfold lineN
    split
    · simp
    · rw [List.length_cons]
      exact Nat.succ_le_succ (lineN_len cl n _ _ _ _ _)
theorem lineN_over (cl : Ch) (n : Nat) {F S : List (Int × Int)} (R : List Int) (t : Int) {u : Int} (h : overB F.length S.length u = true) : lineN cl n F S R t u = [] := by
  cases n with
  | zero => rfl
  | succ n => unfold lineN; rw [h]; rfl
theorem lineN_step (cl : Ch) (n : Nat) {F S : List (Int × Int)} (R : List Int) (t : Int) {u : Int} (h : overB F.length S.length u = false) : lineN cl (n + 1) F S R t u = hdM (cl n F S R t u) :: lineN cl n (behF F t (hdM (cl n F S R t u))) (behS S t (hdM (cl n F S R t u))) (behR R (hdM (cl n F S R t u))) (1 - t) (behU u (hdM (cl n F S R t u))) := by
  rw [lineN, h]
  rfl
theorem bmL_ne {n : Nat} {F S : List (Int × Int)} {R : List Int} {t u : Int} (hg : gameB F S R t u = true) (ho : overB F.length S.length u = false) : ∃ r, bmL n F S R t u = hdM (bmL n F S R t u) :: r := by
  obtain ⟨_, _, _, ht⟩ := game_len hg
  have h := chF_ne (fun m => sidV t * gB n F S R t u m) (movesL F S R t u) (fun m hm => by
    have hb := bstN_bd n (behind_good hg hm).1
    have := (sid_mul (x := gB n F S R t u m) ht hb.1 hb.2).2
    show minI < sidV t * gB n F S R t u m
    unfold minI
    omega) (moves_some ho)
  rw [choices_are hg ho] at h
  cases e : bmL n F S R t u with
  | nil => exact absurd e h
  | cons a r => exact ⟨r, rfl⟩
theorem hd_mem {ms r : List Mv} (h : ms = hdM ms :: r) : hdM ms ∈ ms := by
  have h2 : hdM ms ∈ hdM ms :: r := List.mem_cons_self
  exact h.symm ▸ h2
theorem bmL_in {n : Nat} {F S : List (Int × Int)} {R : List Int} {t u : Int} {m : Mv} (h : m ∈ bmL n F S R t u) : m ∈ movesL F S R t u := (List.mem_filter.1 h).1

/-- A game's rows read, whatever lies in the blocks of P. -/
def RdG (w : World) (P : Nat → Prop) (AF : Option Addr) (F : List (Int × Int)) (AS : Option Addr) (S : List (Int × Int)) (AR : Option Addr) (R : List Int) : Prop :=
  ∀ W' : World, w.heap.size ≤ W'.heap.size → (∀ g, ¬ P g → g < w.heap.size → W'.heap[g]? = w.heap[g]?) → RdT W' AF F ∧ RdT W' AS S ∧ RdI W' AR R
section
variable {w w' : World} {P P' : Nat → Prop} {AF AS AR : Option Addr} {F S : List (Int × Int)} {R : List Int}
theorem RdG.now (h : RdG w P AF F AS S AR R) : RdT w AF F ∧ RdT w AS S ∧ RdI w AR R := h w (Nat.le_refl _) (fun _ _ _ => rfl)
theorem RdG.keep (h : RdG w P AF F AS S AR R) (hb : Below w.heap.size w w') : RdG w' P AF F AS S AR R := fun W' hs he => h W' (Nat.le_trans hb.size hs) (fun g hp hg => (he g hp (Nat.lt_of_lt_of_le hg hb.size)).trans (hb.block g hg))
theorem RdG.set {b j : Nat} {u : Value} (h : RdG w P AF F AS S AR R) (hP : P b) : RdG (w.setCell ⟨b, j, none⟩ u) P AF F AS S AR R := fun W' hs he => by
  have e : (w.setCell ⟨b, j, none⟩ u).heap.size = w.heap.size := by simp [World.setCell]
  rw [e] at hs
  exact h W' hs (fun g hp hg => (he g hp (by rw [e]; exact hg)).trans (Below.heap_setCell w ⟨b, j, none⟩ u g (by rintro rfl; exact hp hP)))
theorem rdT_same {W W' : World} {A : Option Addr} {ts : List (Int × Int)} {B : Nat} (h : RdT W A ts) (hB : W.heap.size ≤ B) (he : ∀ g, g < B → W'.heap[g]? = W.heap[g]?) : RdT W' A ts := by
  obtain ⟨b, off, h1, h2⟩ := h
  exact ⟨b, off, h1, fun k hk => ⟨(World.cell?_of_block (a := ⟨b, off + k * 2, none⟩) (he b (Nat.lt_of_lt_of_le (block_lt (h2 k hk).1) hB))).trans (h2 k hk).1, (World.cell?_of_block (a := ⟨b, off + k * 2 + 1, none⟩) (he b (Nat.lt_of_lt_of_le (block_lt (h2 k hk).1) hB))).trans (h2 k hk).2⟩⟩
theorem rdI_same {W W' : World} {A : Option Addr} {xs : List Int} {B : Nat} (h : RdI W A xs) (hB : W.heap.size ≤ B) (he : ∀ g, g < B → W'.heap[g]? = W.heap[g]?) : RdI W' A xs := by
  obtain ⟨b, off, h1, h2⟩ := h
  exact ⟨b, off, h1, fun k hk => (World.cell?_of_block (a := ⟨b, off + k, none⟩) (he b (Nat.lt_of_lt_of_le (block_lt (h2 k hk)) hB))).trans (h2 k hk)⟩
theorem RdG.arg (hF : RdT w AF F) (hS : RdT w AS S) (hR : RdI w AR R) (hb : Below w.heap.size w w') (hP : ∀ g, P g → w.heap.size ≤ g) : RdG w' P AF F AS S AR R := fun W' hs he => by
  have e : ∀ g, g < w.heap.size → W'.heap[g]? = w.heap[g]? := fun g hg => (he g (fun hp => by have := hP g hp; omega) (Nat.lt_of_lt_of_le hg hb.size)).trans (hb.block g hg)
  exact ⟨rdT_same hF (Nat.le_refl _) e, rdT_same hS (Nat.le_refl _) e, rdI_same hR (Nat.le_refl _) e⟩
theorem RdG.own {lo hi c1 c2 c3 : Nat} (h : OwnG w lo hi (.slice AF F.length c1) F.length F (.slice AS S.length c2) S.length S (.slice AR R.length c3) R.length R) (hP : ∀ g, P g → g < lo) : RdG w P AF F AS S AR R := fun W' hs he => by
  have o := h.moved (w' := W') (fun g h1 h2 => he g (fun hp => by have := hP g hp; omega) h2)
  exact ⟨RdT.of_own o.f, RdT.of_own o.s, RdI.of_own o.r⟩
theorem RdG.grown {row : Option Nat} (h : RdG w P AF F AS S AR R) (hg : w.grownBy w' row) (hr : ∀ g, row = some g → P g) (hP : ∀ g, P' g → P g ∨ w.heap.size ≤ g) : RdG w' P' AF F AS S AR R := fun W' hs he => by
  refine h W' (Nat.le_trans hg.size hs) (fun g hp hlt => (he g (fun hp' => ?_) (Nat.lt_of_lt_of_le hlt hg.size)).trans (hg.block g hlt (fun e => hp (hr g e.symm))))
  rcases hP g hp' with h1 | h1
  · exact hp h1
  · omega
end
def lenV : Value → Nat
  | .slice _ n _ => n
  | _ => 0
end Go.Proofs.YtgjdpiooocpmhabGreatDoor

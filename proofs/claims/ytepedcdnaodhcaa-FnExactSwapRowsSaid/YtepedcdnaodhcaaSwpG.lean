/- Rows that lie in one block of the call's own: what the laws' own functions do with them; the program's SwapRows answers so. -/
import Derived.Test.YtepedcdnaodhcaaSwpP
import Derived.Test.YtepedcdnaodhcaaNestA
namespace Go.Proofs.Ytepedcdnaodhcaa
open Go.RowKit
set_option linter.unusedVariables false

/-- The cells from off on, n of them, marked from q on. -/
def markRun (D : List Int) (off : Nat) (q : Int) (n : Nat) : List Int := (List.range D.length).map fun j => if off ≤ j ∧ j < off + n then q + ((j - off : Nat) : Int) else D.getD j 0

theorem markRun_len (D : List Int) (off : Nat) (q : Int) (n : Nat) : (markRun D off q n).length = D.length := by simp [markRun]

theorem markRun_zero (D : List Int) (off : Nat) (q : Int) : markRun D off q 0 = D := by
  refine List.ext_getElem (markRun_len _ _ _ _) fun j h1 h2 => ?_
  simp only [markRun, List.getElem_map, List.getElem_range]
  rw [if_neg (by omega), List.getD_eq_getElem?_getD, List.getElem?_eq_getElem h2]
  rfl

theorem markRun_get {D : List Int} {off : Nat} {q : Int} {n j : Nat} (h : j < D.length) : (markRun D off q n).getD j 0 = if off ≤ j ∧ j < off + n then q + ((j - off : Nat) : Int) else D.getD j 0 := by
  rw [List.getD_eq_getElem?_getD, List.getElem?_eq_getElem (by rw [markRun_len]; exact h)]
  simp only [markRun, List.getElem_map, List.getElem_range, Option.getD_some]

theorem markRun_step {D : List Int} {off : Nat} {q : Int} {k : Nat} (h : off + k < D.length) : (cellsI (markRun D off q k)).set (off + k) (.int .i64 (q + (k : Int))) = cellsI (markRun D off q (k + 1)) := by
  refine List.ext_getElem (by simp [cellsI, markRun]) fun j h1 h2 => ?_
  have hj : j < D.length := by simpa [cellsI, markRun] using h2
  rw [List.getElem_set]
  simp only [cellsI, markRun, List.getElem_map, List.getElem_range]
  by_cases e0 : off + k = j
  · subst e0
    rw [if_pos rfl, if_pos (by omega), show off + k - off = k from by omega]
  · rw [if_neg e0]
    by_cases e1 : off ≤ j ∧ j < off + k
    · rw [if_pos e1, if_pos (by omega)]
    · rw [if_neg e1, if_neg (by omega)]

set_option maxHeartbeats 400000 in
theorem c_markIntS_at (g off n c cap base : Nat) (D : List Int) (q : Int) (w : World) (hr : w.ownsRow base 3 1 (.slice (some ⟨g, 0, none⟩) D.length cap) D.length (cellsI D)) (hn : off + n ≤ D.length) (hD : D.length ≤ 1048576) (h0 : 0 ≤ q) (h1 : q + n ≤ 9223372036854775807) :
    Calls Try.prog 67 #[.slice (some ⟨g, off, none⟩) n c, .int .i64 q] w fun e w' => e = .returned (.int .i64 (q + n)) ∧
      w'.ownsRow base 3 1 (.slice (some ⟨g, 0, none⟩) D.length cap) D.length (cellsI (markRun D off q n)) ∧ w.grownBy w' (some g) := by
  go_enter Try.func67, Try.ntmps67
  go_wp2
  go_loopw [1, 5] (fun p i wr => ∃ k : Nat, k ≤ n ∧ i = .int .i64 k ∧ p = .int .i64 (q + (k : Int)) ∧ wr.ownsRow base 3 1 (.slice (some ⟨g, 0, none⟩) D.length cap) D.length (cellsI (markRun D off q k)) ∧ w.grownBy wr (some g)) (fun _ i _ => n - (intOf i).toNat)
  case atStart => exact ⟨0, Nat.zero_le _, rfl, by go_num, by rw [markRun_zero]; exact hr, World.grownBy.refl _ _⟩
  case round =>
    obtain ⟨k, hk, rfl, rfl, hown, hg⟩ := hrel
    by_cases hlt : k < n
    · have Hg := Lib.hid hg
      have Ho := Lib.hid hown
      have f1 := hown.frozenAt (off + k)
      have hcg : (cellsI (markRun D off q k))[off + k]? = some (.int .i64 ((markRun D off q k)[off + k]'(by rw [markRun_len]; omega))) := by
        simp only [cellsI, List.getElem?_map]
        rw [List.getElem?_eq_getElem (by rw [markRun_len]; omega)]
        rfl
      have x1 := (hown.cellAt (off + k) (by omega)).trans hcg
      generalize (markRun D off q k)[off + k]'(by rw [markRun_len]; omega) = z at x1
      clear hg hown hcg hr
      go_wp2
      go_roundw
      case rel =>
        refine ⟨k + 1, by omega, by go_num, by go_num, ?_, grown_set Hg.out _ _⟩
        rw [← markRun_step (by omega)]
        exact (Ho.out.stored _ _).1
      case measure => simp [intOf]; omega
    · have : k = n := by omega
      subst this
      go_wp2
      go_ret
      exact ⟨rfl, hown, hg⟩

/-- An outer row of the call's own whose rows, of W numbers each, lie apart in one more block of it. -/
def OwnSS (w : World) (lo hi : Nat) (v : Value) (rss : List (List Int)) : Prop :=
  (rss = [] ∧ v = .slice none 0 0) ∨
  ∃ (go g co cap W : Nat) (σ : Nat → Nat) (D : List Int), v = .slice (some ⟨go, 0, none⟩) rss.length co ∧ w.ownsRow lo 23 1 v rss.length ((List.range rss.length).map fun i => Value.slice (some ⟨g, σ i, none⟩) W W) ∧
    w.ownsRow lo 3 1 (.slice (some ⟨g, 0, none⟩) D.length cap) D.length (cellsI D) ∧ (g < go ∧ go < hi ∧ D.length ≤ 1048576) ∧
    (∀ i, i < rss.length → σ i + W ≤ D.length ∧ (rss.getD i []).length = W ∧ ∀ j, j < W → D.getD (σ i + j) 0 = (rss.getD i []).getD j 0) ∧
    (∀ i j, i < rss.length → j < rss.length → i ≠ j → σ i + W ≤ σ j ∨ σ j + W ≤ σ i)

section
variable {w w' : World} {lo hi : Nat} {v : Value} {rss : List (List Int)}
theorem OwnSS.below {N : Nat} (h : OwnSS w lo hi v rss) (hb : Below N w w') (hN : hi ≤ N) : OwnSS w' lo hi v rss := by
  rcases h with h | ⟨go, g, co, cap, W, σ, D, rfl, h1, h2, h3, h4, h5⟩
  · exact .inl h
  · exact .inr ⟨go, g, co, cap, W, σ, D, rfl, own_below h1 hb (fun k hk => by simp [Value.ownBlock] at hk; omega), own_below h2 hb (fun k hk => by simp [Value.ownBlock] at hk; omega), h3, h4, h5⟩
theorem OwnSS.base {lo' : Nat} (h : OwnSS w lo hi v rss) (hb : lo' ≤ lo) : OwnSS w lo' hi v rss := by
  rcases h with h | ⟨go, g, co, cap, W, σ, D, rfl, h1, h2, h3, h4, h5⟩
  · exact .inl h
  · exact .inr ⟨go, g, co, cap, W, σ, D, rfl, own_base h1 hb, own_base h2 hb, h3, h4, h5⟩
theorem OwnSS.moved (h : OwnSS w lo hi v rss) (heq : ∀ g, lo ≤ g → g < w.heap.size → w'.heap[g]? = w.heap[g]?) : OwnSS w' lo hi v rss := by
  rcases h with h | ⟨go, g, co, cap, W, σ, D, rfl, h1, h2, h3, h4, h5⟩
  · exact .inl h
  · exact .inr ⟨go, g, co, cap, W, σ, D, rfl, own_block h1 (fun k hk => heq k (h1.lt k hk).1 (h1.lt k hk).2), own_block h2 (fun k hk => heq k (h2.lt k hk).1 (h2.lt k hk).2), h3, h4, h5⟩

theorem OwnSS.row {A : Option Addr} {c : Nat} (h : OwnSS w lo hi (.slice A rss.length c) rss) : RdII w A rss := by
  rcases h with ⟨rfl, h⟩ | ⟨go, g, co, cap, W, σ, D, hv, h1, h2, h3, h4, h5⟩
  · exact ⟨0, 0, fun _ => none, fun _ => 0, fun hne => absurd rfl hne, fun k hk => by simp at hk⟩
  · injection hv with e1 _ e3
    subst e1 e3
    refine ⟨go, 0, fun i => some ⟨g, σ i, none⟩, fun _ => W, fun _ => rfl, fun k hk => ⟨?_, ⟨g, σ k, fun _ => rfl, fun j hj => ?_⟩⟩⟩
    · have := World.ownsRow.cells h1 (g := go) rfl k (.slice (some ⟨g, σ k, none⟩) W W) (by simp [hk])
      unfold rowV
      rw [(h4 k hk).2.1, ← this]
      by_cases hz : k = 0 <;> simp [Addr.add, hz]
    · obtain ⟨a1, a2, a3⟩ := h4 k hk
      have hj' : σ k + j < D.length := by omega
      have := World.ownsRow.cells h2 (g := g) rfl (σ k + j) (.int .i64 (D.getD (σ k + j) 0)) (by
        simp only [cellsI, List.getElem?_map]
        rw [List.getElem?_eq_getElem hj', List.getD_eq_getElem?_getD, List.getElem?_eq_getElem hj']
        rfl)
      rw [a3 j (by omega), List.getD_eq_getElem?_getD, List.getElem?_eq_getElem hj] at this
      rw [← Option.getD_some (a := (rss.getD k [])[j]) (b := 0), ← this]
      rw [show (⟨g, 0, none⟩ : Addr).add (σ k + j) = ⟨g, σ k + j, none⟩ from by unfold Addr.add; split <;> simp_all]
end

theorem rdSS_of {w : World} {lo hi c : Nat} {A : Option Addr} {rss : List (List Int)} (h : OwnSS w lo hi (.slice A rss.length c) rss) : RdII w A rss := h.row

theorem rdmarksSS {w : World} {lo hi c : Nat} {A : Option Addr} {rss : List (List Int)} {q : Int} (h : OwnSS w lo hi (.slice A rss.length c) (markII q rss rss.length)) : RdII w A (markII q rss rss.length) :=
  rdSS_of (lo := lo) (hi := hi) (c := c) (by rw [markII_len]; exact h)

set_option maxRecDepth 100000 in
set_option maxHeartbeats 2000000 in
theorem c_markSS (A : Option Addr) (c lo hi : Nat) (tss : List (List Int)) (q : Int) (w : World) (hr : OwnSS w lo hi (.slice A tss.length c) tss) (hlo : lo ≤ w.heap.size) (h0 : 0 ≤ q) (h1 : q + (sumTo tss tss.length : Int) ≤ 9223372036854775807) (lx : tss.length ≤ 9223372036854775807) :
    Calls Try.prog 41 #[.slice A tss.length c, .int .i64 q] w fun e w' => e = .returned (.int .i64 (q + (sumTo tss tss.length : Int))) ∧
      OwnSS w' lo hi (.slice A tss.length c) (markII q tss tss.length) ∧ Below lo w w' := by
  go_enter Try.func41, Try.ntmps41
  go_wp2
  go_loopw [1, 5] (fun p i wr => ∃ k : Nat, k ≤ tss.length ∧ i = .int .i64 k ∧ p = .int .i64 (q + (sumTo tss k : Int)) ∧ OwnSS wr lo hi (.slice A tss.length c) (markII q tss k) ∧ Below lo w wr) (fun _ i _ => tss.length - (intOf i).toNat)
  case atStart => exact ⟨0, Nat.zero_le _, rfl, by simp [sumTo], by rw [markII_zero]; exact hr, Below.refl _ _⟩
  case round =>
    obtain ⟨k, hk, rfl, rfl, hown, hb⟩ := hrel
    clear hr
    have hs := sumTo_mono tss hk
    by_cases hlt : k < tss.length
    · have hk' : k < (markII q tss k).length := by rw [markII_len]; exact hlt
      have hgk : (markII q tss k).getD k [] = tss.getD k [] := by rw [markII_get _ _ _ _ hlt]; simp
      rcases hown with ⟨hn, _⟩ | ⟨go, g, co, cap, W, σ, D, hv, o1, o2, o3, o4, o5⟩
      · rw [hn] at hk'; simp at hk'
      rw [markII_len] at hv
      injection hv with e1 _ e3
      subst e1 e3
      have hW : (tss.getD k []).length = W := by rw [← hgk]; exact (o4 k hk').2.1
      have g1 : wr.cell? ⟨go, k, none⟩ = some (.slice (some ⟨g, σ k, none⟩) W W) := by
        have := World.ownsRow.cells o1 (g := go) rfl k (.slice (some ⟨g, σ k, none⟩) W W) (by simp [markII_len, hlt])
        rw [← this]
        by_cases hz : k = 0 <;> simp [Addr.add, hz]
      have hst := sumTo_step hlt
      rw [hW] at hst
      have hs1 := sumTo_mono tss (show k + 1 ≤ tss.length by omega)
      have con := c_markIntS_at g (σ k) W W cap lo D (q + (sumTo tss k : Int)) wr o2 (o4 k hk').1 o3.2.2 (by omega) (by omega)
      have fin : ∀ w2, w2.ownsRow lo 3 1 (.slice (some ⟨g, 0, none⟩) D.length cap) D.length (cellsI (markRun D (σ k) (q + (sumTo tss k : Int)) W)) → wr.grownBy w2 (some g) →
          OwnSS w2 lo hi (.slice (some ⟨go, 0, none⟩) tss.length c) (markII q tss (k + 1)) ∧ Below lo w w2 := fun w2 ho2 hg2 => by
        refine ⟨.inr ⟨go, g, c, cap, W, σ, markRun D (σ k) (q + (sumTo tss k : Int)) W, by rw [markII_len], ?_, by rw [markRun_len]; exact ho2, by rw [markRun_len]; exact o3, fun i hi => ?_, fun i j hi hj => o5 i j (by rw [markII_len] at hi ⊢; exact hi) (by rw [markII_len] at hj ⊢; exact hj)⟩,
          hb.trans (below_of_grown hg2 (Nat.le_trans hlo hb.size) (fun x hx => by injection hx with hx; subst hx; exact (o2.lt _ rfl).1))⟩
        · rw [markII_len] at o1 ⊢
          exact o1.kept hg2 (.inr (by simp [Value.ownBlock]; omega))
        · rw [markII_len] at hi
          obtain ⟨a1, a2, a3⟩ := o4 i (by rw [markII_len]; exact hi)
          have b1 := markII_get q tss (k + 1) i hi
          have b0 := markII_get q tss k i hi
          refine ⟨by rw [markRun_len]; exact a1, ?_, fun j hj => ?_⟩
          · rw [b1]
            rw [b0] at a2
            by_cases e1 : i < k
            · rw [if_pos e1] at a2
              rw [if_pos (by omega)]
              exact a2
            · rw [if_neg e1] at a2
              split
              · rw [marksI_length]; exact a2
              · exact a2
          · rw [markRun_get (by omega)]
            by_cases e1 : i = k
            · subst e1
              rw [if_pos (by omega), b1, if_pos (by omega), List.getD_eq_getElem?_getD, List.getElem?_eq_getElem (by rw [marksI_length]; omega), Option.getD_some, marksI_get]
              rw [show σ i + j - σ i = j from by omega]
            · have hd := o5 i k (by rw [markII_len]; exact hi) hk' e1
              rw [if_neg (by omega), a3 j hj, b0, b1]
              by_cases e2 : i < k
              · rw [if_pos e2, if_pos (by omega)]
              · rw [if_neg e2, if_neg (by omega)]
      obtain ⟨s, hs0⟩ : ∃ s, s = sumTo tss k := ⟨_, rfl⟩
      obtain ⟨o, ho0⟩ : ∃ o, o = σ k := ⟨_, rfl⟩
      rw [← hs0, ← ho0] at con
      rw [← hs0] at hst
      rw [← ho0] at g1
      rw [← hs0] at hs ⊢
      simp only [← hs0, ← ho0] at fin
      have Fin := Lib.hid fin
      have Con := Lib.hid con
      have Hst := Lib.hid hst
      have i0 : (0 : Int) ≤ (k : Int) := by omega
      have i1 : (k : Int) < (tss.length : Int) := by omega
      clear con hb o1 o2 o3 o4 o5 fin hs0 ho0 hgk hk' hst hW
      go_wp2_with (go_at_call 67; refine Con.out.mono ?_; rintro e w2 ⟨rfl, ho2, hg2⟩)
      go_roundw
      case rel =>
        have hf := Fin.out w2 ho2 hg2
        exact ⟨k + 1, by omega, by go_num, by rw [Hst.out]; go_num, hf.1, hf.2⟩
      case measure => simp [intOf]; omega
    · have : k = tss.length := by omega
      subst this
      go_wp2
      go_ret
      exact ⟨rfl, hown, hb⟩

theorem sumTo_le {tss : List (List Int)} {M : Nat} (h : ∀ k, k < tss.length → (tss.getD k []).length ≤ M) : ∀ k, k ≤ tss.length → sumTo tss k ≤ k * M
  | 0, _ => by simp [sumTo]
  | k + 1, hk => by
    have := sumTo_le h k (by omega)
    have h1 := h k (by omega)
    rw [sumTo_step (by omega), Nat.add_mul, Nat.one_mul]
    omega

theorem swpL_get {rss : List (List Int)} {p q k : Nat} (h : k < rss.length) : (swpL rss p q).getD k [] = rss.getD (swpN p q k) [] := by
  rw [List.getD_eq_getElem?_getD, List.getElem?_eq_getElem (by rw [swpL_len]; exact h)]
  simp [swpL]

theorem swOk_parts {rss : List (List Int)} {i j : Int} (h : swOk rss i j = true) : ∃ p q : Nat, i = (p : Int) ∧ j = (q : Int) ∧ p < rss.length ∧ q < rss.length ∧ blkB rss = true := by
  unfold swOk at h
  simp only [Bool.and_eq_true] at h
  obtain ⟨h1, h2, h3⟩ := h
  obtain ⟨p, rfl, hp⟩ := inSw_nat h2
  obtain ⟨q, rfl, hq⟩ := inSw_nat h3
  exact ⟨p, q, rfl, rfl, hp, hq, h1⟩

theorem swR_bd (rss : List (List Int)) (i j : Int) : (swR rss i j).length ≤ 3 ∧ sumTo (swR rss i j) (swR rss i j).length ≤ 12 := by
  cases hk : swOk rss i j
  · rw [swR_no hk]; simp [sumTo]
  · rw [swR_yes hk]
    obtain ⟨p, q, rfl, rfl, hp, hq, hw⟩ := swOk_parts hk
    obtain ⟨s0, s1, s2, s3⟩ := blk_shape hw
    simp only [Int.toNat_natCast]
    refine ⟨by rw [swpL_len]; exact s1, ?_⟩
    have := sumTo_le (tss := swpL rss p q) (M := 4) (fun k hk => by
      rw [swpL_len] at hk
      rw [swpL_get hk, s3 _ (swpN_lt hp hq hk)]
      omega) _ (Nat.le_refl _)
    rw [swpL_len] at this ⊢
    omega

theorem swpN_inj {i j a b : Nat} (h : swpN i j a = swpN i j b) : a = b := by
  unfold swpN at h
  split at h <;> split at h <;> (try split at h) <;> (try split at h) <;> omega

def RetSS (w : World) (tss : List (List Int)) (ok : Bool) (e : Ending) (w' : World) : Prop :=
  ∃ A c, e = .returned (.tuple #[.slice A tss.length c, .bool ok]) ∧ OwnSS w' w.heap.size w'.heap.size (.slice A tss.length c) tss ∧ Below w.heap.size w w'

theorem c_implSwap (A : Option Addr) (c : Nat) (rss : List (List Int)) (i j : Int) (w : World) (hr : RdII w A rss) (hl : rss.length ≤ 9223372036854775807) (hlr : ∀ k, k < rss.length → (rss.getD k []).length ≤ 9223372036854775807) :
    Calls Try.prog 39 #[.slice A rss.length c, .int .i64 i, .int .i64 j] w (RetSS w (swR rss i j) (swOk rss i j)) := by
  cases hk : swOk rss i j
  · rw [swR_no hk]
    refine (c_implSwapNo A c rss i j w hr hl hlr hk).mono ?_
    rintro e w' ⟨rfl, hb⟩
    exact ⟨none, 0, rfl, .inl ⟨rfl, rfl⟩, hb⟩
  · rw [swR_yes hk]
    obtain ⟨p, q, rfl, rfl, hp, hq, hw⟩ := swOk_parts hk
    obtain ⟨s0, s1, s2, s3⟩ := blk_shape hw
    refine (c_implSwapYes A c rss p q w hr hl hlr hw hp hq).mono ?_
    rintro e w' ⟨go, g, cap, rfl, h1, h2, h3, hb⟩
    simp only [Int.toNat_natCast]
    have hfl := flat_len s3
    have hle : rss.length * widB rss ≤ 3 * 4 := Nat.mul_le_mul s1 (by omega)
    refine ⟨some ⟨go, 0, none⟩, rss.length, by rw [swpL_len], .inr ⟨go, g, rss.length, cap, widB rss, fun i => swpN p q i * widB rss, rss.flatten, by rw [swpL_len], ?_, h2, ⟨h3, (h1.lt go rfl).2, by omega⟩, fun i hi => ?_, fun i j hi hj hne => ?_⟩, hb⟩
    · rw [swpL_len]
      exact h1
    · rw [swpL_len] at hi
      have hn := swpN_lt hp hq hi
      rw [swpL_get hi]
      refine ⟨?_, s3 _ hn, fun j hj => ?_⟩
      · have : (swpN p q i + 1) * widB rss ≤ rss.length * widB rss := Nat.mul_le_mul_right _ hn
        rw [Nat.add_mul, Nat.one_mul] at this
        show swpN p q i * widB rss + widB rss ≤ _
        omega
      · rw [flat_get rss (widB rss) s3 _ j hn hj]
        rfl
    · rw [swpL_len] at hi hj
      have hne' : swpN p q i ≠ swpN p q j := fun h => hne (swpN_inj h)
      rcases Nat.lt_or_gt_of_ne hne' with h | h
      · have : (swpN p q i + 1) * widB rss ≤ swpN p q j * widB rss := Nat.mul_le_mul_right _ h
        rw [Nat.add_mul, Nat.one_mul] at this
        exact .inl this
      · have : (swpN p q j + 1) * widB rss ≤ swpN p q i * widB rss := Nat.mul_le_mul_right _ h
        rw [Nat.add_mul, Nat.one_mul] at this
        exact .inr this

end Go.Proofs.Ytepedcdnaodhcaa

/- Names: a list of all ten numbers, each once. -/
import Derived.Test.YtjdnkcdnppcbhaaInts
namespace Go.Proofs.Ytjdnkcdnppcbhaa
open Go.RowKit
set_option linter.unusedVariables false

def areP (xs : List Int) : Prop := xs.length = 10 ∧ (∀ x ∈ xs, numB x = true) ∧ xs.Nodup
instance (xs : List Int) : Decidable (areP xs) := by unfold areP; infer_instance
def areB (xs : List Int) : Bool := decide (areP xs)
theorem are_len {xs : List Int} (h : xs.length ≠ 10) : areB xs = false := decide_eq_false fun hp => h hp.1
theorem are_bad {xs : List Int} {k : Nat} (h : k < xs.length) (h1 : numB xs[k] = false) : areB xs = false :=
  decide_eq_false fun hp => by have := hp.2.1 _ (List.getElem_mem h); rw [h1] at this; cases this
theorem are_twice {xs : List Int} {k : Nat} (h : k < xs.length) (h1 : xs[k] ∈ xs.take k) : areB xs = false := decide_eq_false fun hp => by
  have h2 : (xs.take (k + 1)).Nodup := hp.2.2.sublist (List.take_sublist _ _)
  rw [List.take_succ_eq_append_getElem h, List.nodup_append] at h2
  exact h2.2.2 _ h1 _ (by simp) rfl
/-- A list that has ten numbers' worth of room for a list without repetition that it contains, has no repetition and nothing else. -/
theorem nodup_of_sub : ∀ (ys xs : List Int), ys.Nodup → (∀ y ∈ ys, y ∈ xs) → xs.length ≤ ys.length → xs.Nodup ∧ ∀ x ∈ xs, x ∈ ys
  | [], xs, _, _, hl => by
    have : xs = [] := List.length_eq_zero_iff.1 (by simpa using hl)
    subst this
    simp
  | y :: ys, xs, hn, hs, hl => by
    have hy := hs y (by simp)
    have hp := List.perm_cons_erase hy
    rw [List.nodup_cons] at hn
    have ih := nodup_of_sub ys (xs.erase y) hn.2 (fun z hz => by
      have hzy : z ≠ y := fun e => hn.1 (e ▸ hz)
      exact (List.mem_erase_of_ne hzy).2 (hs z (by simp [hz]))) (by rw [List.length_erase_of_mem hy]; simp at hl; omega)
    refine ⟨hp.nodup_iff.2 (List.nodup_cons.2 ⟨fun h => hn.1 (ih.2 y h), ih.1⟩), fun x hx => ?_⟩
    have := hp.mem_iff.1 hx
    rcases List.mem_cons.1 this with rfl | h
    · simp
    · exact List.mem_cons_of_mem _ (ih.2 x h)
def tens : List Int := (List.range 10).map fun i : Nat => (i : Int)
theorem tens_nodup : tens.Nodup := by decide
theorem are_all {xs : List Int} (h : xs.length = 10) (hm : ∀ m : Nat, m < 10 → (m : Int) ∈ xs) : areB xs = true := by
  have h1 := nodup_of_sub tens xs tens_nodup (fun y hy => by
    obtain ⟨i, hi, rfl⟩ := List.mem_map.1 hy
    exact hm i (List.mem_range.1 hi)) (by simp [tens, h])
  refine decide_eq_true ⟨h, fun x hx => ?_, h1.1⟩
  obtain ⟨i, hi, rfl⟩ := List.mem_map.1 (h1.2 x hx)
  have := List.mem_range.1 hi
  simp only [numB, Bool.and_eq_true, decide_eq_true_eq]
  omega
theorem are_mem {xs : List Int} (h : areB xs = true) (m : Nat) (hm : m < 10) : (m : Int) ∈ xs := by
  have hp : areP xs := of_decide_eq_true h
  refine (nodup_of_sub xs tens hp.2.2 (fun y hy => ?_) (by simp [tens, hp.1])).2 m (List.mem_map.2 ⟨m, List.mem_range.2 hm, rfl⟩)
  obtain ⟨n, hn, rfl⟩ := numB_nat (hp.2.1 y hy)
  exact List.mem_map.2 ⟨n, List.mem_range.2 (by omega), rfl⟩

theorem frozen_fresh (w : World) (cs : Array Value) (t : TypeId) (m : Nat) : (w.alloc (.cells cs t)).frozen? ⟨w.heap.size, m, none⟩ = false := by
  unfold World.frozen? World.alloc
  simp

set_option maxRecDepth 100000 in
set_option maxHeartbeats 2000000 in
theorem c_areNames (A : Option Addr) (c : Nat) (xs : List Int) (w : World) (hr : RdI w A xs) (hl : xs.length ≤ 9223372036854775807) :
    Calls Try.prog 90 #[.slice A xs.length c] w fun e w' => e = .returned (.bool (areB xs)) ∧ Below w.heap.size w w' := by
  by_cases h10 : xs.length = 10
  · have h10' : ((xs.length : Int) != 10) = false := by simp; omega
    have H10 := Lib.hid h10
    clear h10
    go_enter Try.func90, Try.ntmps90
    go_wp2
    go_loopw [11] (fun i wr => ∃ k : Nat, k ≤ xs.length ∧ i = .int .i64 k ∧ (∀ j (hj : j < xs.length), j < k → numB xs[j] = true) ∧ (xs.take k).Nodup ∧
        (∀ m : Nat, m < 10 → wr.cell? ⟨w.heap.size, m, none⟩ = some (.bool (decide ((m : Int) ∈ xs.take k)))) ∧ (∀ m, wr.frozen? ⟨w.heap.size, m, none⟩ = false) ∧ Below w.heap.size w wr) (fun i _ => xs.length - (intOf i).toNat)
    case atStart =>
      refine ⟨0, Nat.zero_le _, rfl, by omega, by simp, fun m hm => ?_, fun m => frozen_fresh _ _ _ m, by go_grown⟩
      match m, hm with
      | 0, _ => simp
      | 1, _ => simp
      | 2, _ => simp
      | 3, _ => simp
      | 4, _ => simp
      | 5, _ => simp
      | 6, _ => simp
      | 7, _ => simp
      | 8, _ => simp
      | 9, _ => simp
    case round =>
      obtain ⟨k, hk, rfl, hg, hnd, hce, hfr, hb⟩ := hrel
      by_cases hlt : k < xs.length
      · obtain ⟨bk, off, rfl, hbk, hc⟩ := hr.at_ hlt
        have g1 := (hb.cell (p := ⟨bk, _, none⟩) hbk).trans (hc k hlt)
        have Hg := Lib.hid hg
        have Hb := Lib.hid hb
        have Hnd := Lib.hid hnd
        have hz := hb.size
        clear hc hr hg hb hnd
        by_cases hn : numB xs[k] = true
        · obtain ⟨m, hm, e⟩ := numB_nat hn
          have E := Lib.hid e
          have Hn := Lib.hid hn
          rw [e] at g1 hn
          have hfm := hfr m
          have hcm := hce m (by omega)
          have Hce := Lib.hid hce
          have Hfr := Lib.hid hfr
          clear hce hfr e
          by_cases hin : (m : Int) ∈ xs.take k
          · have hd : decide ((m : Int) ∈ xs.take k) = true := decide_eq_true hin
            rw [hd] at hcm
            have Ha := Lib.hid (are_twice hlt (by rw [E.out]; exact hin))
            clear hd hin
            go_wp2_with (go_at_call 62; refine (c_isNumber _ _).mono ?_; rintro e w' ⟨rfl, rfl⟩)
            go_ret
            exact ⟨ret_b Ha.out.symm, Hb.out⟩
          · have hd : decide ((m : Int) ∈ xs.take k) = false := decide_eq_false hin
            rw [hd] at hcm
            have Hin := Lib.hid hin
            clear hd hin
            go_wp2_with (go_at_call 62; refine (c_isNumber _ _).mono ?_; rintro e w' ⟨rfl, rfl⟩)
            go_roundw
            case rel =>
              have htk : xs.take (k + 1) = xs.take k ++ [(m : Int)] := by rw [List.take_succ_eq_append_getElem hlt, E.out]
              refine ⟨k + 1, by omega, by go_num, fun j hj hjk => ?_, ?_, fun m' hm' => ?_, fun m' => by simp [Hfr.out], Hb.out.setCell (Nat.le_refl _) _⟩
              · rcases Nat.lt_succ_iff_lt_or_eq.1 hjk with h | rfl
                · exact Hg.out j hj h
                · exact Hn.out
              · rw [htk, List.nodup_append]
                exact ⟨Hnd.out, by simp, fun a ha b hb => by rw [List.mem_singleton.1 hb]; rintro rfl; exact Hin.out ha⟩
              · rw [htk]
                by_cases em : m' = m
                · subst em
                  rw [World.cell?_setCell_same _ _ _ hcm]
                  simp
                · rw [World.cell?_setCell_other _ _ _ _ (by simp <;> omega), Hce.out m' hm']
                  have : ¬ (m' : Int) = (m : Int) := by omega
                  simp [this]
            case measure => simp [intOf]; omega
        · have hn' : numB xs[k] = false := (Bool.not_eq_true _).mp hn
          have Ha := Lib.hid (are_bad hlt hn')
          clear hn
          go_wp2_with (go_at_call 62; refine (c_isNumber _ _).mono ?_; rintro e w' ⟨rfl, rfl⟩)
          go_ret
          exact ⟨ret_b Ha.out.symm, Hb.out⟩
      · have : k = xs.length := by omega
        have ha : areB xs = true := decide_eq_true ⟨H10.out, fun x hx => by
          obtain ⟨j, hj, rfl⟩ := List.getElem_of_mem hx
          exact hg j hj (by omega), by rw [this, List.take_length] at hnd; exact hnd⟩
        go_wp2
        go_ret
        exact ⟨ret_b ha.symm, hb⟩
  · have h10' : ((xs.length : Int) != 10) = true := by simp; omega
    have H10 := Lib.hid h10
    clear h10
    go_enter Try.func90, Try.ntmps90
    go_wp2
    go_ret
    exact ⟨ret_b (are_len H10.out).symm, Below.refl _ _⟩

end Go.Proofs.Ytjdnkcdnppcbhaa

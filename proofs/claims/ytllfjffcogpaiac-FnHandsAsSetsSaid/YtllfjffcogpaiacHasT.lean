/- Hands as sets: sums over what is joined, cut and taken away. No walk here. -/
import Derived.Test.YtllfjffcogpaiacJoin
import Derived.Test.YtllfjffcogpaiacCount
import Derived.Test.YtllfjffcogpaiacChain
namespace Go.Proofs.Ytllfjffcogpaiac
set_option linter.unusedVariables false

def sumF (f : Int × Int → Int) (ts : List (Int × Int)) : Int := (ts.map f).sum
theorem sumF_cons (f : Int × Int → Int) (t : Int × Int) (ts : List (Int × Int)) : sumF f (t :: ts) = f t + sumF f ts := by simp [sumF]
theorem sumF_erase (f : Int × Int → Int) {t : Int × Int} : ∀ {ts : List (Int × Int)}, t ∈ ts → sumF f ts = f t + sumF f (ts.erase t)
  | s :: ts, h => by
    by_cases e : s = t
    · subst e; simp [sumF_cons]
    · have h' : t ∈ ts := by
        rcases List.mem_cons.1 h with h | h
        · exact absurd h.symm e
        · exact h
      rw [List.erase_cons_tail (by simpa using e), sumF_cons, sumF_cons, sumF_erase f h']
      omega
/-- Two lists without repetition and with the same tiles have the same sums. -/
theorem sumF_same (f : Int × Int → Int) : ∀ (xs ys : List (Int × Int)), xs.Nodup → ys.Nodup → (∀ t, t ∈ xs ↔ t ∈ ys) → sumF f xs = sumF f ys
  | [], ys, _, _, h => by
    have : ys = [] := by
      cases ys with
      | nil => rfl
      | cons y ys => have := (h y).2 (by simp); simp at this
    rw [this]
  | x :: xs, ys, hx, hy, h => by
    rw [List.nodup_cons] at hx
    have hm := (h x).1 (by simp)
    rw [sumF_cons, sumF_erase f hm, sumF_same f xs (ys.erase x) hx.2 (hy.erase x) (fun t => ?_)]
    rw [List.Nodup.mem_erase_iff hy]
    constructor
    · intro ht
      exact ⟨fun e => hx.1 (e ▸ ht), (h t).1 (by simp [ht])⟩
    · rintro ⟨hne, ht⟩
      rcases List.mem_cons.1 ((h t).2 ht) with e | h1
      · exact absurd e hne
      · exact h1
theorem sumF_filter (f : Int × Int → Int) (p : Int × Int → Bool) : ∀ ts : List (Int × Int), sumF f (ts.filter p) = sumF (fun t => if p t = true then f t else 0) ts
  | [] => rfl
  | t :: ts => by
    have ih := sumF_filter f p ts
    by_cases h : p t = true
    · rw [List.filter_cons_of_pos h, sumF_cons, sumF_cons, ih]; simp [h]
    · rw [List.filter_cons_of_neg h, sumF_cons, ih]; simp [h]
theorem sumF_add (f g : Int × Int → Int) : ∀ ts : List (Int × Int), sumF (fun t => f t + g t) ts = sumF f ts + sumF g ts
  | [] => rfl
  | t :: ts => by rw [sumF_cons, sumF_cons, sumF_cons, sumF_add f g ts]; omega
theorem sumF_congr {f g : Int × Int → Int} {ts : List (Int × Int)} (h : ∀ t ∈ ts, f t = g t) : sumF f ts = sumF g ts := by
  unfold sumF
  rw [List.map_congr_left h]
theorem sort_nodup (ts : List (Int × Int)) : (sortL ts).Nodup :=
  (pickL_sorted ts true).imp (fun {a b} hab e => by subst e; simp [ltT] at hab)
theorem hand_nodup {ts : List (Int × Int)} (h : handB ts = true) : ts.Nodup := (of_decide_eq_true h : handP ts).2.2
/-- A hand's sums are those of it sorted. -/
theorem sum_hand (f : Int × Int → Int) {ts : List (Int × Int)} (h : handB ts = true) : sumF f ts = sumF f (sortL ts) :=
  sumF_same f _ _ (hand_nodup h) (sort_nodup ts) (fun t => (mem_sortL (handB_good h).2 t).symm)
theorem sum_sets (f : Int × Int → Int) {a b : List (Int × Int)} (ha : handB a = true) (hb : handB b = true) : sumF f a + sumF f b = sumF f (sortL (a ++ b)) + sumF f (thoseL a b true) := by
  rw [sum_hand f ha, sum_hand f hb]
  unfold thoseL sortL pickL
  rw [List.filter_filter, sumF_filter, sumF_filter, sumF_filter, sumF_filter, ← sumF_add, ← sumF_add]
  refine sumF_congr fun t _ => ?_
  by_cases h1 : t ∈ a <;> by_cases h2 : t ∈ b <;> simp [pickB, h1, h2]
theorem pips_sum (ts : List (Int × Int)) : pipsI ts = sumF (fun t => t.1 + t.2) ts := rfl
theorem len_sum (ts : List (Int × Int)) : (ts.length : Int) = sumF (fun _ => 1) ts := by
  induction ts with
  | nil => rfl
  | cons t ts ih => rw [sumF_cons, ← ih]; simp; omega
theorem pips_sets {a b : List (Int × Int)} (ha : handB a = true) (hb : handB b = true) : pipsI a + pipsI b = pipsI (sortL (a ++ b)) + pipsI (thoseL a b true) := by
  simp only [pips_sum]; exact sum_sets _ ha hb
theorem len_sets {a b : List (Int × Int)} (ha : handB a = true) (hb : handB b = true) : (a.length : Int) + b.length = (sortL (a ++ b)).length + (thoseL a b true).length := by
  simp only [len_sum]; exact sum_sets _ ha hb
theorem sub_hand {ts us : List (Int × Int)} (h : handB ts = true) (hn : us.Nodup) (hs : ∀ t ∈ us, t ∈ ts) : handB us = true :=
  decide_eq_true ⟨good_len (fun t ht => (handB_good h).2 t (hs t ht)) hn, fun t ht => (handB_good h).2 t (hs t ht), hn⟩
theorem sort_hand {ts : List (Int × Int)} (hg : ∀ t ∈ ts, goodB t.1 t.2 = true) : handB (sortL ts) = true :=
  decide_eq_true ⟨good_len (fun t ht => hg t ((mem_sortL hg t).1 ht)) (sort_nodup ts), fun t ht => hg t ((mem_sortL hg t).1 ht), sort_nodup ts⟩
theorem those_hand {a b : List (Int × Int)} (v : Bool) (ha : handB a = true) : handB (thoseL a b v) = true :=
  sub_hand ha ((sort_nodup a).sublist (List.filter_sublist)) (fun t ht => (mem_sortL (handB_good ha).2 t).1 (List.mem_filter.1 ht).1)
/-- What is taken away and what is cut out make the hand again. -/
theorem less_both {a b : List (Int × Int)} (ha : handB a = true) : sortL (thoseL a b false ++ thoseL a b true) = sortL a := by
  have hg := (handB_good ha).2
  unfold sortL pickL
  refine List.filter_congr fun t _ => ?_
  unfold pickB
  congr 1
  rw [decide_eq_decide]
  rw [List.mem_append]
  unfold thoseL
  rw [List.mem_filter, List.mem_filter, mem_sortL hg]
  by_cases h1 : t ∈ a <;> by_cases h2 : t ∈ b <;> simp [pickB, h1, h2]
theorem join_comm (a b : List (Int × Int)) : sortL (b ++ a) = sortL (a ++ b) := by
  unfold sortL pickL
  refine List.filter_congr fun t _ => ?_
  unfold pickB
  congr 1
  rw [decide_eq_decide, List.mem_append, List.mem_append]
  exact Or.comm
end Go.Proofs.Ytllfjffcogpaiac

/- A tile deleted at a place: slices.Delete on tiles. -/
import Derived.Test.YtjdnkcdnppcbhaaDealM
import Derived.Test.YtjdnkcdnppcbhaaDel
import Derived.Test.YtjdnkcdnppcbhaaRegS
import Derived.ArgAppend
import Derived.Deep.Cut
import Derived.BigQuiet
namespace Go.Proofs.Ytjdnkcdnppcbhaa
open Go.RowKit
set_option linter.unusedVariables false

theorem step_append_in {w : World} {ops : Array Oper} {o : Oper} {a : Act} {K : Act → World → Prop} {Q : Exit → Act → World → Prop} {E : Prop} (hgd : o.guard = none) (s x : Operand)
    (ho : o.op = .call { callee := .builtin .append, args := #[s, x], argTypes := #[28, 28] }) (g0 n c m d : Nat) (ad : Addr) (news : List Value) (hs : a.eval s = .slice (some ⟨g0, 0, none⟩) n c) (hx : a.eval x = .slice (some ad) m d)
    (hl : news.length = m * 2) (hnews : ∀ j u, news[j]? = some u → w.cell? (ad.add j) = some u) (h1 : ∀ u ∈ news, u.oneCell' = true) (hroom : n + m ≤ c) (hc : ∀ j, j < news.length → (w.cell? ⟨g0, n * 2 + j, none⟩).isSome = true) (hf : ∀ j, w.frozen? ⟨g0, j, none⟩ = false)
    (h : K (a.put o.dst (.slice (some ⟨g0, 0, none⟩) (n + m) c)) (w.setCells g0 (n * 2) news)) :
    if Region.wanted o (yielded ops a.tmps) = true then Oper.wp Try.prog o a w K Q else E := by
  have hw : Region.wanted o (yielded ops a.tmps) = true := by simp [Region.wanted, hgd]
  rw [if_pos hw]
  obtain ⟨i0, hi, hz0, hz1, hz2⟩ := info_parts Try.info_tile
  have hrun : (Builtin.append_ #[28, 28] o.type #[.slice (some ⟨g0, 0, none⟩) n c, .slice (some ad) m d]).run Try.prog w = .ok (.slice (some ⟨g0, 0, none⟩) (n + m) c) (w.setCells g0 (n * 2) news) := by
    have h2 := run_append_room_cells (P := Try.prog) w 28 o.type 82 i0 Try.underlying28 hi g0 0 n c ad m d news (by rw [hz1]; exact hl) hnews h1 hroom (fun j hj => by rw [hz1, Nat.zero_add]; exact hc j hj) (fun j hj => by rw [hz1, Nat.zero_add]; exact hf _)
    rw [hz1, Nat.zero_add] at h2
    exact h2
  unfold Oper.wp
  simp [execOp, ho, resolve, invoke, builtin, hs, hx, hrun, Result.andThen]
  exact h
theorem cellsT_drop : ∀ (ts : List (Int × Int)) (m : Nat), (cellsT ts).drop (m * 2) = cellsT (ts.drop m)
  | [], m => by simp [cellsT]
  | t :: ts, 0 => rfl
  | t :: ts, m + 1 => by
    have e : cellsT (t :: ts) = .int .i64 t.1 :: .int .i64 t.2 :: cellsT ts := by simp [cellsT]
    rw [e, show (m + 1) * 2 = m * 2 + 1 + 1 by omega, List.drop_succ_cons, List.drop_succ_cons, List.drop_succ_cons]
    exact cellsT_drop ts m
theorem erase_cells (ts : List (Int × Int)) (i : Nat) (hi : i < ts.length) : cellsT (ts.eraseIdx i) = (cellsT ts).take (i * 2) ++ cellsT (ts.drop (i + 1)) := by
  rw [List.eraseIdx_eq_take_drop_succ, cellsT_append, cellsT_take]

set_option maxRecDepth 100000 in
set_option maxHeartbeats 2000000 in
theorem c_tileDelete (g0 c : Nat) (ts : List (Int × Int)) (base i : Nat) (w : World) (ho : w.ownsRow base 82 2 (.slice (some ⟨g0, 0, none⟩) ts.length c) ts.length (cellsT ts)) (hl : ts.length ≤ 1048576) (hi : i < ts.length) :
    Calls Try.prog 96 #[.slice (some ⟨g0, 0, none⟩) ts.length c, .int .i64 i, .int .i64 (i + 1)] w fun e w' => e = .returned (.slice (some ⟨g0, 0, none⟩) (ts.eraseIdx i).length c) ∧ w'.ownsRow base 82 2 (.slice (some ⟨g0, 0, none⟩) (ts.eraseIdx i).length c) (ts.eraseIdx i).length (cellsT (ts.eraseIdx i)) ∧ w.grownBy w' (some g0) := by
  have hcap := own_capG ho
  have ei : ((i : Int) == (i : Int) + 1) = false := by rw [beq_eq_false_iff_ne]; omega
  have Ho := Lib.hid ho
  clear ho
  go_enter Try.func96, Try.ntmps96
  go_upto_region 5 with (fail)
  have v0b : Below w.heap.size w w.drew := (Below.refl _ _).drew
  refine wp_region_held_drew (S := fun _ => True) (by kernel_rfl) trivial (fun hH0 => ?_)
  obtain ⟨v0, hv0⟩ : ∃ v0, v0 = w.drew := ⟨_, rfl⟩
  rw [← hv0]
  rw [← hv0] at v0b
  clear hv0 hH0
  have b0 : ((0 : Int)) ≤ (i : Int) := by omega
  have b1 : (i : Int) ≤ (c : Int) := by omega
  have b2 : (i : Int) + 1 ≤ (ts.length : Int) := by omega
  have b3 : (0 : Int) ≤ (i : Int) + 1 := by omega
  have b4 : (ts.length : Int) ≤ (c : Int) := by omega
  refine reg_take 0 rfl (by kernel_rfl) (by kernel_rfl) (by kernel_rfl) (fun _ _ _ h => h) (by rfl) (fun w _ => by first | (go_simp; done) | (go_simp; with_reducible rfl)) trivial ?_
  try simp only [Act.put, List.setIfInBounds_toArray, List.set_cons_zero, List.set_cons_succ, List.getElem_toArray, List.getElem_cons_zero]
  refine reg_take 1 rfl (by kernel_rfl) (by kernel_rfl) (by kernel_rfl) (fun _ _ _ h => h) (by rfl) (fun w _ => by first | (go_simp; done) | (go_simp; with_reducible rfl)) trivial ?_
  try simp only [Act.put, List.setIfInBounds_toArray, List.set_cons_zero, List.set_cons_succ, List.getElem_toArray, List.getElem_cons_zero, List.getElem_cons_succ]
  refine reg_take 2 rfl (by kernel_rfl) (by kernel_rfl) (by kernel_rfl) (fun _ _ _ h => h) (by rfl) (fun w _ => by first | (go_simp; done) | (go_simp; with_reducible rfl)) trivial ?_
  try simp only [Act.put, List.setIfInBounds_toArray, List.set_cons_zero, List.set_cons_succ, List.getElem_toArray, List.getElem_cons_zero, List.getElem_cons_succ]
  refine reg_take 3 rfl (by kernel_rfl) (by kernel_rfl) (by kernel_rfl) (fun _ _ _ h => h) (by rfl) (fun w _ => by first | (go_simp; done) | (go_simp; with_reducible rfl)) trivial ?_
  try simp only [Act.put, List.setIfInBounds_toArray, List.set_cons_zero, List.set_cons_succ, List.getElem_toArray, List.getElem_cons_zero, List.getElem_cons_succ]
  refine reg_take 4 rfl (by kernel_rfl) (by kernel_rfl) (by kernel_rfl) (fun _ _ _ h => h) (by rfl) (fun w _ => by first | (go_simp; done) | (go_simp; with_reducible rfl)) trivial ?_
  try simp only [Act.put, List.setIfInBounds_toArray, List.set_cons_zero, List.set_cons_succ, List.getElem_toArray, List.getElem_cons_zero, List.getElem_cons_succ]
  refine reg_take 5 rfl (by kernel_rfl) (by kernel_rfl) (by kernel_rfl) (fun _ _ _ h => h) (by rfl) (fun w _ => by first | (go_simp; done) | (go_simp; with_reducible rfl)) trivial ?_
  try simp only [Act.put, List.setIfInBounds_toArray, List.set_cons_zero, List.set_cons_succ, List.getElem_toArray, List.getElem_cons_zero, List.getElem_cons_succ]
  obtain ⟨ad, had, hcl⟩ : ∃ ad : Addr, (if c = i + 1 then some (⟨g0, 0, none⟩ : Addr) else some ⟨g0, (i + 1) * 2, none⟩) = some ad ∧ ∀ j u, (cellsT (ts.drop (i + 1)))[j]? = some u → v0.cell? (ad.add j) = some u := by
    by_cases h : c = i + 1
    · refine ⟨⟨g0, 0, none⟩, if_pos h, fun j u hu => ?_⟩
      rw [List.drop_eq_nil_of_le (by omega)] at hu
      simp [cellsT] at hu
    · refine ⟨⟨g0, (i + 1) * 2, none⟩, if_neg h, fun j u hu => ?_⟩
      have ox := own_keep Ho.out v0b
      have hadd : (⟨g0, (i + 1) * 2, none⟩ : Addr).add j = ⟨g0, (i + 1) * 2 + j, none⟩ := by
        unfold Addr.add
        split <;> simp_all
      rw [← cellsT_drop, List.getElem?_drop] at hu
      have hj := (List.getElem?_eq_some_iff.1 hu).1
      rw [cellsT_length] at hj
      rw [hadd, ox.cellAt _ hj]
      exact hu
  simp only [had]
  have ox := own_keep Ho.out v0b
  have hm : (ts.drop (i + 1)).length = ts.length - (i + 1) := List.length_drop
  refine wpAnyH_ready (rs := [6]) (by kernel_rfl) (by simp) ?_
  refine AllReadyH.cons (i := 6) rfl (fun K hK => ?_) AllReadyH.nil
  refine step_append_in rfl (.tmp 22) (.tmp 25) rfl g0 i c (ts.length - (i + 1)) (c - (i + 1)) ad (cellsT (ts.drop (i + 1))) rfl rfl (by rw [cellsT_length, hm]) hcl (cellsT_one _) (by omega) (fun j hj => by
    rw [cellsT_length, hm] at hj
    have hj2 : i * 2 + j < (cellsT ts).length := by rw [cellsT_length]; omega
    rw [ox.cellAt (i * 2 + j) (by rw [cellsT_length] at hj2; exact hj2)]
    simp [hj2]) (fun j => ox.frozenAt j) ?_
  refine hK.out _ _ trivial (fun hHx => ?_)
  clear hK K hHx
  try simp only [Act.put, List.setIfInBounds_toArray, List.set_cons_zero, List.set_cons_succ, List.getElem_toArray, List.getElem_cons_zero, List.getElem_cons_succ]
  refine reg_take 7 rfl (by kernel_rfl) (by kernel_rfl) (by kernel_rfl) (fun _ _ _ h => h) (by rfl) (fun w _ => by first | (go_simp; done) | (go_simp; with_reducible rfl)) trivial ?_
  try simp only [Act.put, List.setIfInBounds_toArray, List.set_cons_zero, List.getElem_toArray, List.getElem_cons_zero, List.getElem_cons_succ]
  refine wpAnyH_done (by kernel_rfl) ?_ _
  have o1 := own_setRow (cellsT (ts.drop (i + 1))) (i * 2) v0 (cellsT ts) ox (by rw [cellsT_length, hm]; omega)
  have g1 : w.grownBy (v0.setCells g0 (i * 2) (cellsT (ts.drop (i + 1)))) (some g0) := grown_trans (grown_of_below _ v0b) (grown_setRow _ _ _)
  generalize v0.setCells g0 (i * 2) (cellsT (ts.drop (i + 1))) = v1 at *
  obtain ⟨n, hn⟩ : ∃ n, n = i + (ts.length - (i + 1)) := ⟨_, rfl⟩
  rw [← hn]
  have hn1 : n + 1 = ts.length := by omega
  have hcn : c ≠ n := by omega
  have hel : (ts.eraseIdx i).length = n := by rw [List.length_eraseIdx_of_lt hi]; omega
  have hec := erase_cells ts i hi
  have hlc : (cellsT (ts.eraseIdx i)).length = n * 2 := by rw [cellsT_length, hel]
  rw [← hec] at o1
  have Hel := Lib.hid hel
  have O1 := Lib.hid o1
  have hlen1 := o1.1
  have hf := fun j => o1.frozenAt j
  generalize hcs : cellsT (ts.eraseIdx i) ++ (cellsT ts).drop (i * 2 + (cellsT (ts.drop (i + 1))).length) = cs1 at o1 hlen1
  have hclr : ∀ ty, (Builtin.clear_ #[28] ty #[.slice (some ⟨g0, n * 2, none⟩) (ts.length - n) (c - n)]).run Try.prog v1 = .ok (.tuple #[]) (v1.setCells g0 (n * 2) (Builtin.zeroCells #[.int .i64 0, .int .i64 0] (ts.length - n)).toList) :=
    fun ty => run_clear_rows v1 _ _ ty (.agg #[.int .i64 0, .int .i64 0]) Try.underlying28 Try.zeroValue82 (by intro u hu; simp [Value.cells] at hu; subst hu; rfl) g0 (n * 2) _ _ (by omega) (fun j hj => by
      have e2 : (Value.agg #[.int .i64 0, .int .i64 0]).cells.size = 2 := rfl
      rw [e2] at hj
      have hj2 : n * 2 + j < ts.length * 2 := by omega
      rw [o1.cellAt (n * 2 + j) hj2]
      have hj3 : n * 2 + j < cs1.length := by rw [hlen1]; exact hj2
      simp [hj3]) (fun j hj => hf _)
  have G1 := Lib.hid g1
  have Hec := Lib.hid hec
  have Hlc := Lib.hid hlc
  have i0 : (0 : Int) ≤ (n : Int) := by omega
  have i1 : (n : Int) ≤ (ts.length : Int) := by omega
  have i2 : (n : Int) ≤ (c : Int) := by omega
  clear o1 hlen1 hf hcs g1 hec hlc hcl had ox v0b hm hn hel
  go_wp2
  go_ret
  refine ⟨by rw [Hel.out]; rfl, ?_, grown_trans G1.out (grown_setRow _ _ _)⟩
  rw [Hel.out]
  have hz : n * 2 + (Builtin.zeroCells #[Value.int .i64 0, Value.int .i64 0] (ts.length - n)).toList.length ≤ ts.length * 2 := by
    rw [zeroCells_len]
    show n * 2 + (ts.length - n) * 2 ≤ _
    omega
  have o3 := own_shrink (own_setRow _ (n * 2) v1 _ O1.out hz) (m := n) (by omega)
  have hl2 := Hlc.out
  rw [List.take_append_of_le_length (by rw [List.length_append, List.length_take, List.length_append]; omega), List.take_append_of_le_length (by rw [List.length_take, List.length_append]; omega), List.take_take, Nat.min_self, List.take_append_of_le_length (by omega), List.take_of_length_le (by omega)] at o3
  exact o3

theorem c_numberBehind (z : Int) (hz : 0 ≤ z ∧ z ≤ 10006) (w : World) : Calls Try.prog 95 #[.int .i64 z] w fun e w' => e = .returned (.int .i64 (dlZ z)) ∧ Below w.heap.size w w' := by
  have e1 : IntKind.i64.wrap (z * 163) = z * 163 := IntWalk.i64_in _ (by omega)
  have e2 : IntKind.i64.wrap (z * 163 + 229) = z * 163 + 229 := IntWalk.i64_in _ (by omega)
  have e3 : (z * 163 + 229).tmod 10007 = dlZ z := by unfold dlZ; exact Int.tmod_eq_emod_of_nonneg (by omega)
  have e4 := dlZ_bd z
  have e5 : IntKind.i64.wrap (dlZ z) = dlZ z := IntWalk.i64_in _ (by omega)
  generalize dlZ z = y at *
  go_enter Try.func95, Try.ntmps95
  go_wp2
  go_ret
  exact ⟨rfl, Below.refl _ _⟩

end Go.Proofs.Ytjdnkcdnppcbhaa

/- Numbers put into a chain by the program. -/
import Derived.Test.YtghemmocbmkgiaaPut
namespace Go.Proofs.Ytghemmocbmkgiaa
open Go.RowKit
set_option linter.unusedVariables false

theorem own_fresh {base : Nat} (w : World) (cur : Array Value) (n cp : Nat) (e : TypeId) (hb : base ≤ w.heap.size) (hn : n ≤ cp) (hm : cp ≤ maxLen) (hs : cur.size = cp) :
    (w.alloc (.cells cur e)).ownsRow base e 1 (.slice (some ⟨w.heap.size, 0, none⟩) n cp) n (cur.toList.take (n * 1)) :=
  ⟨by rw [List.length_take, Array.length_toList]; omega, .inr ⟨w.heap.size, cp, cur, rfl, hb, heap_alloc_new w _, hn, hm, by omega, rfl⟩⟩
theorem ins_list {α : Type} (B a D : List α) (p : α) (i n : Nat) (hB : n + 1 ≤ B.length) (ha : B.take i = a) (hal : a.length = i) (hi : i ≤ n) (hD : D.length = n - i) :
    ((B.take (n + 1)).take i ++ [p] ++ (B.take (n + 1)).drop (i + 1)).take (i + 1) ++ D ++ ((B.take (n + 1)).take i ++ [p] ++ (B.take (n + 1)).drop (i + 1)).drop (i + 1 + D.length) = a ++ p :: D := by
  have h1 : (B.take (n + 1)).take i = a := by rw [List.take_take, Nat.min_eq_left (by omega), ha]
  rw [h1]
  have h2 : (a ++ [p]).length = i + 1 := by simp [hal]
  rw [List.take_left' h2, List.drop_eq_nil_of_le (by simp only [List.length_append, List.length_drop, List.length_take, hal, List.length_cons, List.length_nil]; omega)]
  simp
theorem set_nodup9 : (setL 9).Nodup := by decide +kernel
theorem those_hand (a b : List (Int × Int)) (v : Bool) : handB (thoseL a b v) = true := by
  have h1 : (thoseL a b v).Sublist (setL 9) := List.Sublist.trans List.filter_sublist List.filter_sublist
  have h2 := h1.length_le
  rw [set_len9] at h2
  exact decide_eq_true ⟨h2, fun t ht => set_good9 t (h1.subset ht), set_nodup9.sublist h1⟩

def insI_ren : Go.Shelf.Ren := ⟨fun | 21 => 78 | 27 => 87 | 28 => 88 | 35 => 93 | 39 => 65 | n => n, fun | 22 => 23 | 3 => 3 | 0 => 0 | 4 => 4 | n => n, fun | n => n⟩
theorem insI : Lays2.n21 Try.prog insI_ren := {
  mixed := by kernel_rfl
  f21 := Try.func78.trans (congrArg some (by kernel_rfl))
  f27 := Try.func87.trans (congrArg some (by kernel_rfl))
  f28 := Try.func88.trans (congrArg some (by kernel_rfl))
  f35 := Try.func93.trans (congrArg some (by kernel_rfl))
  f39 := Try.func65.trans (congrArg some (by kernel_rfl))
  t0 := Try.underlying0
  a0 := Try.isAgg0
  z0 := Try.sizeOf0
  v0 := Try.zeroValue0
  t3 := Try.underlying3
  a3 := Try.isAgg3
  z3 := Try.sizeOf3
  v3 := Try.zeroValue3
  t4 := Try.underlying4
  a4 := Try.isAgg4
  z4 := Try.sizeOf4
  v4 := Try.zeroValue4
  t22 := Try.underlying23
  a22 := Try.isAgg23
  z22 := Try.sizeOf23
  v22 := Try.zeroValue23
  i3 := Try.info_int }
def idxI_ren : Go.Shelf.Ren := ⟨fun | 108 => 77 | n => n, fun | 28 => 23 | 3 => 3 | 0 => 0 | 4 => 4 | n => n, fun | n => n⟩
theorem idxI : Lays.n108 Try.prog idxI_ren := {
  mixed := by kernel_rfl
  f108 := Try.func77.trans (congrArg some (by kernel_rfl))
  t0 := Try.underlying0
  a0 := Try.isAgg0
  z0 := Try.sizeOf0
  v0 := Try.zeroValue0
  t3 := Try.underlying3
  a3 := Try.isAgg3
  z3 := Try.sizeOf3
  v3 := Try.zeroValue3
  t4 := Try.underlying4
  a4 := Try.isAgg4
  z4 := Try.sizeOf4
  v4 := Try.zeroValue4
  t28 := Try.underlying23
  a28 := Try.isAgg23
  z28 := Try.sizeOf23
  v28 := Try.zeroValue23 }

theorem idx_yes {xs : List Int} {x : Int} (h : x ∈ xs) : Lib.idxOf xs x = (xs.idxOf x : Int) := by
  have hi : xs.idxOf x < xs.length := List.idxOf_lt_length_iff.2 h
  unfold Lib.idxOf
  rw [Lib.idxFrom_hit x xs (xs.idxOf x) 0 hi (by simp [hi, List.getElem_idxOf]) (fun j hj => by
    intro e
    have hj2 : j < xs.length := by omega
    have h1 : xs[j] = x := by simpa [hj2] using e
    have := List.not_of_lt_findIdx (xs := xs) (p := fun z => z == x) (i := j) (by simpa [List.idxOf] using hj)
    simp [h1] at this)]
  simp
theorem idx_no {xs : List Int} {x : Int} (h : x ∉ xs) : Lib.idxOf xs x = -1 := by
  unfold Lib.idxOf
  exact Lib.idxFrom_miss x xs 0 (fun j hj e => h (by
    have : xs[j] = x := by simpa [hj] using e
    exact this ▸ List.getElem_mem hj))

set_option maxRecDepth 100000 in
set_option maxHeartbeats 1000000 in
theorem c_indexI (A : Option Addr) (c : Nat) (xs : List Int) (x : Int) (w : World) (hr : RdI w A xs) (hl : xs.length ≤ 1048577) :
    Calls Try.prog 77 #[.slice A xs.length c, .int .i64 x] w fun e w' => e = .returned (.int .i64 (Lib.idxOf xs x)) ∧ w = w' := by
  by_cases h0 : xs = []
  · subst h0
    exact (Any.slices_Index_int_empty idxI A c x w).mono fun e w' h => ⟨h.1, h.2.symm⟩
  · obtain ⟨b, off, rfl, _, hc⟩ := hr.at_ (List.length_pos_iff.2 h0)
    have h := Any.slices_Index_int idxI b off xs.length c xs x w (Nat.le_refl _) (by omega) (fun j hj => by rw [hc j hj]; simp [hj])
    rw [List.take_length] at h
    exact h.mono fun e w' h => ⟨h.1, h.2.symm⟩

/-- A number put into a row of the call's own. -/
theorem c_insert (base c g i : Nat) (A : Option Addr) (xs : List Int) (p : Int) (w : World) (hi : i < xs.length) (hl : xs.length ≤ 1048576) (ho : w.ownsRow base 3 1 (.slice A xs.length c) xs.length (cellsI xs))
    (hg : w.heap[g]? = some (.cells #[.int .i64 p] 3 (0, 0))) (hne : ∀ b, (Value.slice A xs.length c).ownBlock = some b → b ≠ g) (hb : base ≤ w.heap.size) :
    Calls Try.prog 78 #[.slice A xs.length c, .int .i64 i, .slice (some ⟨g, 0, none⟩) 1 1] w fun e w' => ∃ A2 c2, e = .returned (.slice A2 (xs.length + 1) c2) ∧
      w'.ownsRow base 3 1 (.slice A2 (xs.length + 1) c2) (xs.length + 1) (cellsI (xs.take i ++ p :: xs.drop i)) ∧ Below base w w' := by
  obtain ⟨b, rfl⟩ := own_at ho (by omega)
  have hbg : g ≠ b := fun e => hne b rfl e.symm
  have hbb := ho.lt b rfl
  have h0 := ho
  obtain ⟨hlen, ⟨hv, hz⟩ | ⟨b', cap, cur, hv, hbase, hheap, hnc, hcm, hcs, htake⟩⟩ := h0
  · cases hv
  injection hv with e1 e2 e3
  injection e1 with e1
  injection e1 with e1
  subst e1 e3
  have hcs' : cur.size = c := by omega
  have hcl' : cur.toList.length = c := by rw [Array.length_toList]; exact hcs'
  have hcells : ∀ j v, (cellsI xs)[j]? = some v → w.cell? ⟨b, 0 + j, none⟩ = some v := fun j v hj => by
    have hj2 : j < xs.length := by
      have := (List.getElem?_eq_some_iff.1 hj).1
      rwa [cellsI_length] at this
    rw [Nat.zero_add, ho.cellAt j (by omega), hj]
  have hvs : ∀ j v, [Value.int .i64 p][j]? = some v → w.cell? ⟨g, 0 + j, none⟩ = some v := fun j v hj => by
    match j, hj with
    | 0, hj =>
      simp only [List.getElem?_cons_zero, Option.some.injEq] at hj
      subst hj
      rw [cell_of_row _ _ _ _ _ _ hg]
      rfl
  have h1v : ∀ v ∈ [Value.int .i64 p], v.oneCell' = true := fun v hv => by rw [List.mem_singleton.1 hv]; rfl
  by_cases hroom : xs.length + 1 ≤ c
  · have hgrow : w.ownsRow base 3 1 (.slice (some ⟨b, 0, none⟩) (xs.length + 1) c) (xs.length + 1) (cur.toList.take ((xs.length + 1) * 1)) :=
      ⟨by rw [List.length_take]; omega, .inr ⟨b, c, cur, rfl, hbase, hheap, hroom, hcm, hcs, rfl⟩⟩
    refine (Any2.slices_Insert_int_shift insI b 0 xs.length c i g 0 1 1 (cellsI xs) [.int .i64 p] w hi (by omega) hroom (by unfold maxLen at hcm; omega) hbg (cellsI_length xs) rfl hcells
      (fun j hj => by rw [Nat.zero_add, hgrow.cellAt j (by omega), List.getElem?_eq_getElem (by rw [List.length_take]; omega)]; rfl) (fun j hj => by rw [Nat.zero_add]; exact hgrow.frozenAt j) hvs (cellsI_one xs) h1v 3 3 1 c
      (by unfold World.shape?; rw [hg]; rfl) (by unfold World.shape?; rw [hheap]; simp [hcs']) (by omega) (frozen_of_row _ _ _ _ _ hg) (frozen_of_row _ _ _ _ _ hg)).mono ?_
    rintro e w' ⟨rfl, rfl⟩
    have hd : ((cellsI xs).drop i).length = xs.length - i := by rw [List.length_drop, cellsI_length]
    have k1 := own_setCells ((cellsI xs).drop i) (i + 1) w.drew _ (own_drew hgrow) (by omega)
    have k2 := own_setCells [Value.int .i64 p] i _ _ k1 (by simp; omega)
    refine ⟨some ⟨b, 0, none⟩, c, rfl, ?_, ?_⟩
    · have e : cellsI (xs.take i ++ p :: xs.drop i) = ((cur.toList.take ((xs.length + 1) * 1)).take (i + 1) ++ (cellsI xs).drop i ++ (cur.toList.take ((xs.length + 1) * 1)).drop (i + 1 + ((cellsI xs).drop i).length)).take i ++ [Value.int .i64 p] ++ ((cur.toList.take ((xs.length + 1) * 1)).take (i + 1) ++ (cellsI xs).drop i ++ (cur.toList.take ((xs.length + 1) * 1)).drop (i + 1 + ((cellsI xs).drop i).length)).drop (i + [Value.int .i64 p].length) := by
        have hcur : cur.toList.length = c := by rw [Array.length_toList]; exact hcs'
        have l1 : ((cur.toList.take ((xs.length + 1) * 1)).take (i + 1)).length = i + 1 := by simp only [List.length_take]; omega
        have l2 : (cur.toList.take ((xs.length + 1) * 1)).drop (i + 1 + ((cellsI xs).drop i).length) = [] := List.drop_eq_nil_of_le (by rw [hd, List.length_take]; omega)
        rw [l2, List.append_nil, List.take_append_of_le_length (by omega), List.take_take, List.take_take, Nat.min_eq_left (by omega), Nat.min_eq_left (by omega)]
        have l3 : cur.toList.take i = (cellsI xs).take i := by
          rw [← htake, List.take_take, Nat.min_eq_left (by omega)]
        rw [l3, show i + [Value.int .i64 p].length = ((cur.toList.take ((xs.length + 1) * 1)).take (i + 1)).length from by rw [l1]; rfl, List.drop_left]
        unfold cellsI
        simp
      rw [e]
      simpa [Nat.zero_add] using k2
    · exact ((Below.refl _ _).drew.trans (below_setCells hbb.1 _ _ _)).trans (below_setCells hbb.1 _ _ _)
  · have hcap2 := grownCap_ge w (xs.length + 1) c 3
    have hcap3 := grownCap_le_maxLen w (xs.length + 1) c 3 (by unfold maxLen; omega)
    refine (Any2.slices_Insert_int_grow insI b 0 xs.length c i g 0 1 1 (cellsI xs) [.int .i64 p] w hi (by omega) hnc (by omega) (by omega) (cellsI_length xs) rfl hcells hvs (cellsI_one xs) h1v).mono ?_
    rintro e w' ⟨he, hw⟩
    have hd : ((cellsI xs).drop i).length = xs.length - i := by rw [List.length_drop, cellsI_length]
    have ht : ((cellsI xs).take i).length = i := by rw [List.length_take, cellsI_length]; omega
    obtain ⟨cp, hcp⟩ : ∃ cp, cp = grownCap w (xs.length + 1) c 3 := ⟨_, rfl⟩
    have he' : e = .returned (.slice (some ⟨w.heap.size, 0, none⟩) (xs.length + 1) cp) := by rw [hcp]; exact he
    have hw' : w' = (((w.alloc (.cells (((cellsI xs).take i).toArray ++ Builtin.zeroCells (Value.int .i64 0).cells (xs.length + 1 - i) ++ Builtin.zeroCells (Value.int .i64 0).cells (cp - (xs.length + 1))) 3)).drew.setCells w.heap.size i [Value.int .i64 p]).drew).setCells w.heap.size (i + 1) ((cellsI xs).drop i) := by rw [hcp]; exact hw
    rw [← hcp] at hcap2 hcap3
    clear he hw hcp
    have hsz : ((cellsI xs).take i).toArray.size + (Builtin.zeroCells (Value.int .i64 0).cells (xs.length + 1 - i)).size + (Builtin.zeroCells (Value.int .i64 0).cells (cp - (xs.length + 1))).size = cp := by
      rw [size_zeroCells, size_zeroCells, List.size_toArray, ht]
      simp [Value.cells]
      omega
    have htk : (((cellsI xs).take i).toArray ++ Builtin.zeroCells (Value.int .i64 0).cells (xs.length + 1 - i) ++ Builtin.zeroCells (Value.int .i64 0).cells (cp - (xs.length + 1))).toList.take i = (cellsI xs).take i := by
      rw [Array.toList_append, Array.toList_append, List.append_assoc]
      exact List.take_left' ht
    rw [← Array.size_append, ← Array.size_append] at hsz
    generalize ((cellsI xs).take i).toArray ++ Builtin.zeroCells (Value.int .i64 0).cells (xs.length + 1 - i) ++ Builtin.zeroCells (Value.int .i64 0).cells (cp - (xs.length + 1)) = big at *
    subst he' hw'
    have k0 := own_fresh (base := base) w big (xs.length + 1) cp 3 hb hcap2 hcap3 hsz
    have k1 := own_setCells [Value.int .i64 p] i _ _ (own_drew k0) (by simp; omega)
    have k2 := own_setCells ((cellsI xs).drop i) (i + 1) _ _ (own_drew k1) (by omega)
    refine ⟨some ⟨w.heap.size, 0, none⟩, cp, rfl, ?_, ?_⟩
    · have e : cellsI (xs.take i ++ p :: xs.drop i) = (cellsI xs).take i ++ Value.int .i64 p :: (cellsI xs).drop i := by unfold cellsI; simp
      have hbl : big.toList.length = cp := by rw [Array.length_toList]; exact hsz
      rw [e, ← ins_list big.toList ((cellsI xs).take i) ((cellsI xs).drop i) (Value.int .i64 p) i xs.length (by omega) htk ht (by omega) hd]
      rw [Nat.mul_one] at k2
      exact k2
    · exact ((((Below.refl base w).alloc hb _).drew.trans (below_setCells (g := w.heap.size) hb _ _ _)).drew).trans (below_setCells (g := w.heap.size) hb _ _ _)
theorem own_lt {w : World} {base e size n : Nat} {v : Value} {cs : List Value} (h : w.ownsRow base e size v n cs) : ∀ b, v.ownBlock = some b → b ≠ w.heap.size := fun b hb => Nat.ne_of_lt (h.lt b hb).2

set_option maxRecDepth 100000 in
set_option maxHeartbeats 2000000 in
theorem c_implPut (A : Option Addr) (c : Nat) (xs : List Int) (B : Option Addr) (d : Nat) (ts : List (Int × Int)) (w : World) (hrx : RdI w A xs) (lx : xs.length ≤ 1048576) (hr : RdT w B ts) (hl : ts.length ≤ 1048576) :
    Calls Try.prog 48 #[.slice A xs.length c, .slice B ts.length d] w (RetI w (putHL xs ts) (besB xs ts)) := by
  have con := Lib.hid (c_tilesBeside A c xs B d ts w hrx lx hr hl)
  cases hb : besB xs ts
  · have e2 : putHL xs ts = [] := by simp [putHL, hb]
    rw [e2]
    rw [hb] at con
    clear e2 hb hrx hr
    go_enter Try.func48, Try.ntmps48
    go_wp2_with (go_at_call 74; refine con.out.mono ?_; rintro e w1 ⟨A1, c1, rfl, ho1, hb1⟩)
    go_ret2
    exact ⟨none, 0, rfl, World.ownsRow_nil _ _ _ _, hb1⟩
  · have hbb := hb
    unfold besB at hbb
    rw [Bool.and_eq_true] at hbb
    have hx56 := (chain_len hbb.1)
    have hbl : besL xs ts = thoseL ts (tilesC xs) false := by simp [besL, hb]
    have e2 : putHL xs ts = putsTo xs (dblsTo (thoseL ts (tilesC xs) false) 10) (dblsTo (thoseL ts (tilesC xs) false) 10).length := by
      unfold putHL
      rw [if_pos hb, puts_two (handB_good hbb.2).2]
    have hh := those_hand ts (tilesC xs) false
    have hdl : (dblsTo (thoseL ts (tilesC xs) false) 10).length ≤ 10 := dblsTo_len _ _
    have hbl2 := besL_len xs ts
    rw [hb] at con
    have conC := Lib.hid (fun W (hb : Below w.heap.size w W) => c_clone A c xs W (hrx.below hb) lx (by omega))
    rw [e2]
    rw [hbl] at con hbl2
    generalize thoseL ts (tilesC xs) false = left at *
    have conD := Lib.hid (fun A' c' W (hr : RdT W A' left) => c_implDoublesOf A' c' left W hr (by omega))
    have e3 : doublesL left = dblsTo left 10 := by unfold doublesL; rw [if_pos hh]
    rw [hh, e3] at conD
    generalize dblsTo left 10 = ds at *
    have hxl := hx56.2
    clear e2 hb hbb hbl hh e3 hrx hr hx56
    go_enter Try.func48, Try.ntmps48
    go_wp2_with (first | (go_at_call 74; refine con.out.mono ?_; rintro e wa ⟨A1, c1, rfl, hoa, hba⟩) | (go_at_call 76; refine (conD.out _ _ _ (RdT.of_own hoa)).mono ?_; rintro e wb ⟨D, cD, rfl, hob, hbb⟩; have hbab := bstep hba hbb) | (go_at_call 64; refine (conC.out _ hbab).mono ?_; rintro e w1 ⟨L, cL, rfl, ho1, hbc⟩; have hb1 := bstep hbab hbc))
    have hrd := RdI.below (RdI.of_own hob) hbc
    have hs1 : w.heap.size ≤ wb.heap.size := hbab.size
    have hDl : ∀ a, D = some a → a.block < wb.heap.size := fun a ha => (hob.lt a.block (by rw [ha]; rfl)).2
    clear con conD conC hoa hob
    go_loopw [10, 31] (fun v i wr => ∃ (k : Nat) (A' : Option Addr) (c' : Nat), k ≤ ds.length ∧ i = .int .i64 k ∧ v = .slice A' (putsTo xs ds k).length c' ∧ wr.ownsRow wb.heap.size 3 1 (.slice A' (putsTo xs ds k).length c') (putsTo xs ds k).length (cellsI (putsTo xs ds k)) ∧ Below w.heap.size w wr ∧ RdI wr D ds ∧ (∀ a, D = some a → a.block < wb.heap.size) ∧ wb.heap.size ≤ wr.heap.size) (fun _ i _ => ds.length - (intOf i).toNat)
    case atStart => exact ⟨0, L, cL, by omega, rfl, rfl, ho1, hb1, hrd, hDl, hbc.size⟩
    case round =>
      clear ho1 hb1 hbc hrd hbb hba hbab
      obtain ⟨k, A', c', hk, rfl, rfl, hown, hb, hrd, hDb, hsz⟩ := hrel
      have hpl := putsTo_len xs ds k hk
      by_cases hlt : k < ds.length
      · obtain ⟨bk, off, rfl, hbk, hc⟩ := hrd.at_ hlt
        have g1 := hc k hlt
        have hst := putsTo_step (xs := xs) hlt
        generalize ds[k] = m at g1 hst
        generalize putsTo xs ds k = P at *
        have conI := Lib.hid (c_indexI A' c' P m wr (RdI.of_own hown) (by omega))
        have Hb := Lib.hid hb
        have Ho := Lib.hid hown
        have Hrd := Lib.hid hrd
        have HDb := Lib.hid hDb
        by_cases hm : m ∈ P
        · have hix : P.idxOf m < P.length := List.idxOf_lt_length_iff.2 hm
          have e1 : insF P m = P.take (P.idxOf m) ++ m :: P.drop (P.idxOf m) := by unfold insF; rw [if_pos hm]
          have hil : (insF P m).length = P.length + 1 := by rw [e1]; simp; omega
          rw [idx_yes hm] at conI
          rw [e1] at hst hil
          have Hst := Lib.hid hst
          have Hil := Lib.hid hil
          have hnw : (wr.alloc (.cells #[.int .i64 m] 3)).heap[wr.heap.size]? = some (.cells #[.int .i64 m] 3 (0, 0)) := heap_alloc_new wr _
          have conN := Lib.hid (c_insert wb.heap.size c' wr.heap.size (P.idxOf m) A' P m (wr.alloc (.cells #[.int .i64 m] 3)) hix (by omega) (Ho.out.alloc _) hnw (own_lt hown) (Nat.le_trans hsz (by simp)))
          generalize P.take (P.idxOf m) ++ m :: P.drop (P.idxOf m) = Q at *
          generalize P.idxOf m = at_ at *
          clear hm hc hb hown hrd hst hil e1 hnw hDb
          go_wp2_with (first | (go_at_call 77; refine conI.out.mono ?_; rintro e w2 ⟨rfl, rfl⟩) | (go_at_call 78; refine conN.out.mono ?_; rintro e w3 ⟨A3, c3, rfl, ho3, hb3⟩))
          go_roundw
          case rel =>
            have hbx : Below w.heap.size w (wr.alloc (.cells #[.int .i64 m] 3)) := Hb.out.alloc Hb.out.size _
            refine ⟨k + 1, A3, c3, by omega, by go_num, by rw [Hst.out, Hil.out], by rw [Hst.out, Hil.out]; exact ho3, hbx.trans (hb3.mono hs1), RdI.keep (Hrd.out.below ((Below.refl _ _).alloc (Nat.le_refl _) _)) hb3 HDb.out, HDb.out, Nat.le_trans hsz (Nat.le_trans (by simp) hb3.size)⟩
          case measure => simp [intOf]; omega
        · rw [idx_no hm] at conI
          have Hst := Lib.hid (hst.trans (insF_no hm))
          clear hm hc hb hown hrd hst hDb
          go_wp2_with (go_at_call 77; refine conI.out.mono ?_; rintro e w2 ⟨rfl, rfl⟩)
          go_roundw
          case rel => exact ⟨k + 1, A', c', by omega, by go_num, by rw [Hst.out], by rw [Hst.out]; exact Ho.out, Hb.out, Hrd.out, HDb.out, hsz⟩
          case measure => simp [intOf]; omega
      · obtain rfl : k = ds.length := by omega
        go_wp2
        go_ret2
        exact ⟨A', c', rfl, own_base hown hs1, hb⟩

end Go.Proofs.Ytghemmocbmkgiaa

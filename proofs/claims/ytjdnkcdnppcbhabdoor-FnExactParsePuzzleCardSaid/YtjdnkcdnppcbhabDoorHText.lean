/- The texts of hands: the specification's and the program's. -/
import Derived.Test.YtjdnkcdnppcbhabDoorMap
import Derived.Test.YtjdnkcdnppcbhabDoorShelf
import Derived.Laws.IdiomStrings
import Derived.Deep.RegionHeld3
namespace Go.Proofs.YtjdnkcdnppcbhabDoor
open Go.RowKit
set_option linter.unusedVariables false

/-- A number's digit. -/
def dgU (x : Int) : UInt8 := UInt8.ofNat (48 + x.toNat)
theorem dgU_nat {x : Int} (h : numB x = true) : ((dgU x).toNat : Int) = 48 + x := by
  simp only [numB, Bool.and_eq_true, decide_eq_true_eq] at h
  unfold dgU
  rw [UInt8.toNat_ofNat', Nat.mod_eq_of_lt (by omega)]
  omega
def dgB (x : Int) : ByteArray := ⟨[dgU x].toArray⟩
def tileU (t : Int × Int) : List UInt8 := [dgU t.1, dgU t.2]
def joinH (ts : List (Int × Int)) : List UInt8 := Lib.join (ts.map tileU) [44]
def joinB (ts : List (Int × Int)) : ByteArray := ⟨(joinH ts).toArray⟩
def textHB (ts : List (Int × Int)) : ByteArray := if ts = [] then ⟨#[45]⟩ else joinB ts
def textHV (ts : List (Int × Int)) : ByteArray := if handB ts then textHB ts else ⟨#[]⟩
theorem dgB_size (x : Int) : (dgB x).size = 1 := rfl

theorem joinH_one (t : Int × Int) : joinH [t] = tileU t := by
  show Lib.join [tileU t] [44] = tileU t
  exact Lib.join_one _ _

theorem joinH_snoc (ts : List (Int × Int)) (t : Int × Int) (h : ts ≠ []) : joinH (ts ++ [t]) = joinH ts ++ [44] ++ tileU t := by
  cases ts with
  | nil => exact absurd rfl h
  | cons s r =>
    show Lib.join (tileU s :: (r ++ [t]).map tileU) [44] = Lib.join (tileU s :: r.map tileU) [44] ++ [44] ++ tileU t
    rw [Lib.join_cons, Lib.join_cons]
    simp [Lib.joinTail]

theorem joinH_length (ts : List (Int × Int)) : (joinH ts).length ≤ 3 * ts.length := by
  cases ts with
  | nil => exact Nat.zero_le _
  | cons s r =>
    show (Lib.join (tileU s :: r.map tileU) [44]).length ≤ _
    rw [Lib.join_length]
    have e : ∀ l : List (Int × Int), Lib.lens (l.map tileU) = 2 * l.length := fun l => by
      induction l with
      | nil => rfl
      | cons a l ih => simp [Lib.lens, tileU] at ih ⊢; omega
    have := e (s :: r)
    simp only [List.map_cons, List.length_cons, List.length_map] at this ⊢
    rw [this]
    simp
    omega

theorem joinB_nil : joinB [] = ⟨#[]⟩ := rfl
theorem joinB_size (ts : List (Int × Int)) : (joinB ts).size ≤ 3 * ts.length := by
  have e : (joinB ts).size = (joinH ts).length := by show (joinH ts).toArray.size = _; simp
  rw [e]
  exact joinH_length ts
theorem joinB_first (t : Int × Int) : joinB [t] = dgB t.1 ++ dgB t.2 := by
  apply ByteArray.ext
  rw [ByteArray.data_append]
  show (joinH [t]).toArray = _
  rw [joinH_one]
  simp [tileU, dgB]
theorem joinB_step {ts : List (Int × Int)} {k : Nat} (h : k < ts.length) (h0 : 0 < k) : joinB (ts.take (k + 1)) = (joinB (ts.take k) ++ ⟨#[44]⟩) ++ (dgB ts[k].1 ++ dgB ts[k].2) := by
  apply ByteArray.ext
  rw [ByteArray.data_append, ByteArray.data_append, ByteArray.data_append]
  show (joinH (ts.take (k + 1))).toArray = ((joinH (ts.take k)).toArray ++ #[44]) ++ _
  rw [List.take_succ_eq_append_getElem h, joinH_snoc _ _ (by intro e; have := congrArg List.length e; simp only [List.length_take, List.length_nil] at this; omega)]
  simp [tileU, dgB]
theorem joinB_step0 {ts : List (Int × Int)} {k : Nat} (h : k < ts.length) (h0 : k = 0) : joinB (ts.take (k + 1)) = joinB (ts.take k) ++ (dgB ts[k].1 ++ dgB ts[k].2) := by
  subst h0
  have e : ts.take 1 = [ts[0]] := by rw [List.take_succ_eq_append_getElem h]; rfl
  show joinB (ts.take 1) = joinB [] ++ _
  rw [e, joinB_first]
  apply ByteArray.ext
  rw [ByteArray.data_append, joinB_nil]
  simp

theorem reg_skip {ops : Array Oper} {Q : Exit → Act → World → Prop} {md : Region.Mode} {S : World → Prop} (i : Nat) {o : Oper} {fuel : Nat} {listed : Array Bool} {a : Act} {w : World} (hi : ops[i]? = some o)
    (hs : Region.noSelect ops = true) (hf : Region.free md ops listed i = true) (hr : (Region.ready md ops listed).contains i = true)
    (hQ : ∀ c a w, Q (.panic c) (a.put o.dst undef) w → Q (.panic c) a w) (hw : Region.wanted o (yielded ops a.tmps) = false) (hS : S w)
    (h : wpAnyH Tryd.prog md ops Q S fuel (listed.setIfInBounds i true) (a.put o.dst undef) w) : wpAnyH Tryd.prog md ops Q S (fuel + 1) listed a w :=
  wpAnyH_take hi hs hf hr hQ (Or.inr ⟨hw, rfl⟩) hS h
theorem reg_take {ops : Array Oper} {Q : Exit → Act → World → Prop} {md : Region.Mode} {S : World → Prop} (i : Nat) {o : Oper} {v : Value} {fuel : Nat} {listed : Array Bool} {a : Act} {w : World} (hi : ops[i]? = some o)
    (hs : Region.noSelect ops = true) (hf : Region.free md ops listed i = true) (hr : (Region.ready md ops listed).contains i = true)
    (hQ : ∀ c a w, Q (.panic c) (a.put o.dst v) w → Q (.panic c) a w) (hw : Region.wanted o (yielded ops a.tmps) = true) (hv : ∀ w, S w → (execOp a.eval o).run Tryd.prog w = .ok (.value v) w) (hS : S w)
    (h : wpAnyH Tryd.prog md ops Q S fuel (listed.setIfInBounds i true) (a.put o.dst v) w) : wpAnyH Tryd.prog md ops Q S (fuel + 1) listed a w :=
  wpAnyH_take hi hs hf hr hQ (Or.inl ⟨hw, hv⟩) hS h
theorem gdH {w : World} (a : Addr) {v : Value} (h : w.cell? a = some v) : w.drew.cell? a = some v := h
theorem dg_u8 {x : Int} (h0 : 0 ≤ x) (h1 : x ≤ 255) : IntKind.u8.wrap x = x := by
  have : IntKind.u8.wrap x = x % 256 := rfl
  omega
theorem addr_addH (g j : Nat) : (⟨g, 0, none⟩ : Addr).add j = ⟨g, j, none⟩ := by
  unfold Addr.add
  split <;> simp_all

set_option maxRecDepth 100000 in
set_option maxHeartbeats 1000000 in
theorem c_l1NumD (x : Int) (hx : numB x = true) (w : World) :
    Calls Tryd.prog 37 #[.int .i64 x] w fun e w' => e = .returned (.string (dgB x)) ∧ Below w.heap.size w w' := by
  have hd := dgU_nat hx
  have hx2 : 0 ≤ x ∧ x ≤ 9 := by simpa [numB] using hx
  have hrun : (convert 45 9 (.slice (some ⟨w.heap.size, 0, none⟩) 1 1)).run Tryd.prog (w.alloc (.cells #[.int .u8 (48 + x)] 5)) = .ok (.string (dgB x)) (w.alloc (.cells #[.int .u8 (48 + x)] 5)) :=
    run_convert_bytes_back _ 45 9 5 ⟨w.heap.size, 0, none⟩ 1 [dgU x] Tryd.underlying45 Tryd.underlying5 Tryd.underlying9 (fun j hj => by
      obtain rfl : j = 0 := by simpa using hj
      rw [addr_addH]
      simp [hd])
  have i1 := hx2.1
  have i2 := hx2.2
  have iw : IntKind.u8.wrap (48 + x) = 48 + x := dg_u8 (by omega) (by omega)
  clear hd hx hx2
  go_enter Tryd.func37, Tryd.ntmps37
  go_wp2
  go_ret
  exact ⟨rfl, by go_grown⟩

set_option maxRecDepth 100000 in
set_option maxHeartbeats 1000000 in
theorem c_tiText (A : Option Addr) (c : Nat) (ts : List (Int × Int)) (w : World) (hr : RdT w A ts) (hl : ts.length ≤ 55) (hg : ∀ t ∈ ts, numB t.1 = true ∧ numB t.2 = true) :
    Calls Tryd.prog 36 #[.slice A ts.length c] w fun e w' => e = .returned (.string (textHB ts)) ∧ Below w.heap.size w w' := by
  by_cases h00 : ts.length = 0
  · have hc : ((ts.length : Int) == 0) = true := by rw [h00]; rfl
    have e1 : textHB ts = ⟨#[45]⟩ := if_pos (List.length_eq_zero_iff.1 h00)
    rw [e1]
    clear e1 h00 hr hg
    go_enter Tryd.func36, Tryd.ntmps36
    go_wp2
    go_ret
    exact ⟨rfl, Below.refl _ _⟩
  · have hc : ((ts.length : Int) == 0) = false := beq_eq_false_iff_ne.2 (by omega)
    have e1 : textHB ts = joinB (ts.take ts.length) := by rw [List.take_length]; exact if_neg (fun h => h00 (by rw [h]; rfl))
    rw [e1]
    have hpos : 0 < ts.length := by omega
    have hnum := Lib.hid (fun k (hk : k < ts.length) => hg _ (List.getElem_mem hk))
    clear e1 h00 hg
    go_enter Tryd.func36, Tryd.ntmps36
    go_wp2
    go_loopw [3, 11] (fun v i wr => ∃ k : Nat, k ≤ ts.length ∧ i = .int .i64 k ∧ v = .string (joinB (ts.take k)) ∧ Below w.heap.size w wr) (fun _ i _ => ts.length - (intOf i).toNat)
    case atStart => exact ⟨0, Nat.zero_le _, rfl, rfl, Below.refl _ _⟩
    case round =>
      obtain ⟨k, hk, rfl, rfl, hb⟩ := hrel
      by_cases hlt : k < ts.length
      · obtain ⟨bk, off, rfl, hbk, hcc⟩ := hr.at_ hlt
        have g1 := (hb.cell (p := ⟨bk, _, none⟩) hbk).trans (hcc k hlt).1
        have g2 := (hb.cell (p := ⟨bk, _, none⟩) hbk).trans (hcc k hlt).2
        obtain ⟨hp, hq⟩ := hnum.out k hlt
        have hsz : (joinB (ts.take k)).size ≤ 165 := Nat.le_trans (joinB_size _) (by simp; omega)
        have hz := hb.size
        have Hb := Lib.hid hb
        by_cases hk0 : 0 < k
        · have hki : (0 : Int) < (k : Int) := by omega
          have Hst := Lib.hid (joinB_step hlt hk0)
          have hst2 : (joinB (ts.take k) ++ ⟨#[44]⟩).size ≤ 166 := by rw [ByteArray.size_append]; show _ + 1 ≤ 166; omega
          generalize ts[k].1 = p at *
          generalize ts[k].2 = q at *
          generalize joinB (ts.take k) = T at *
          have conP := Lib.hid (fun W => c_l1NumD p hp W)
          have conQ := Lib.hid (fun W => c_l1NumD q hq W)
          have sp := dgB_size p
          have sq := dgB_size q
          generalize dgB p = P at *
          generalize dgB q = R at *
          have x0 : (wr.alloc (.cells #[.int .i64 p, .int .i64 q] 61)).cell? ⟨wr.heap.size, 0, none⟩ = some (.int .i64 p) := by simp
          have x1 : (wr.alloc (.cells #[.int .i64 p, .int .i64 q] 61)).cell? ⟨wr.heap.size, 1, none⟩ = some (.int .i64 q) := by simp
          have spq : (P ++ R).size ≤ 2 := by rw [ByteArray.size_append]; omega
          have hadd : ¬ 9223372036854775807 < T.size + 1 + 2 := by omega
          clear hcc hr hb hp hq hk0
          go_wp2_with fail
          obtain ⟨wv, hwv⟩ : ∃ wv, wv = wr.alloc (.cells #[.int .i64 p, .int .i64 q] 61) := ⟨_, rfl⟩
          have hbv : Below w.heap.size w wv := by rw [hwv]; exact Hb.out.alloc hz _
          rw [← hwv] at x0 x1 ⊢
          obtain ⟨G, hG⟩ : ∃ G, G = wr.heap.size := ⟨_, rfl⟩
          rw [← hG] at x0 x1 ⊢
          have Hbv := Lib.hid hbv
          clear hwv hG hbv
          refine wp_region_held_drew (S := fun w' => w'.cell? ⟨G, 0, none⟩ = some (.int .i64 p) ∧ w'.cell? ⟨G, 1, none⟩ = some (.int .i64 q)) (by kernel_rfl) ⟨x0, x1⟩ (fun hH0 => ?_)
          refine reg_take 0 rfl (by kernel_rfl) (by kernel_rfl) (by kernel_rfl) (fun _ _ _ h => h) (by rfl) (fun w _ => by first | (go_simp; done) | (go_simp; with_reducible rfl)) (by assumption) ?_
          try simp only [Act.put, List.setIfInBounds_toArray, List.set_cons_zero, List.set_cons_succ, List.getElem_toArray, List.getElem_cons_zero]
          refine reg_take 1 rfl (by kernel_rfl) (by kernel_rfl) (by kernel_rfl) (fun _ _ _ h => h) (by rfl) (fun w _ => by first | (go_simp; done) | (go_simp; with_reducible rfl)) (by assumption) ?_
          try simp only [Act.put, List.setIfInBounds_toArray, List.set_cons_zero, List.set_cons_succ, List.getElem_toArray, List.getElem_cons_zero, List.getElem_cons_succ]
          refine reg_take 2 rfl (by kernel_rfl) (by kernel_rfl) (by kernel_rfl) (fun _ _ _ h => h) (by rfl) (fun w hSw => by (try dsimp only at hSw); first | (go_simp; done) | (go_simp; with_reducible rfl)) (by assumption) ?_
          try simp only [Act.put, List.setIfInBounds_toArray, List.set_cons_zero, List.set_cons_succ, List.getElem_toArray, List.getElem_cons_zero, List.getElem_cons_succ]
          refine reg_take 4 rfl (by kernel_rfl) (by kernel_rfl) (by kernel_rfl) (fun _ _ _ h => h) (by rfl) (fun w _ => by first | (go_simp; done) | (go_simp; with_reducible rfl)) (by assumption) ?_
          try simp only [Act.put, List.setIfInBounds_toArray, List.set_cons_zero, List.set_cons_succ, List.getElem_toArray, List.getElem_cons_zero, List.getElem_cons_succ]
          refine reg_take 5 rfl (by kernel_rfl) (by kernel_rfl) (by kernel_rfl) (fun _ _ _ h => h) (by rfl) (fun w hSw => by (try dsimp only at hSw); first | (go_simp; done) | (go_simp; with_reducible rfl)) (by assumption) ?_
          try simp only [Act.put, List.setIfInBounds_toArray, List.set_cons_zero, List.set_cons_succ, List.getElem_toArray, List.getElem_cons_zero, List.getElem_cons_succ]
          refine wpAnyH_ready (rs := [3]) (by kernel_rfl) (by simp) ?_
          refine AllReadyH.cons (i := 3) rfl (fun K hK => ?_) AllReadyH.nil
          go_simp
          go_at_call 37
          refine (conP.out _).mono ?_
          rintro e w2 ⟨rfl, hb2⟩
          have y0 := keepc hb2 (gdH _ x0)
          have y1 := keepc hb2 (gdH _ x1)
          refine hK.out _ _ ⟨y0, y1⟩ (fun hH3 => ?_)
          clear hK K
          try simp only [Act.put, List.setIfInBounds_toArray, List.set_cons_zero, List.set_cons_succ, List.getElem_toArray, List.getElem_cons_zero, List.getElem_cons_succ]
          refine wpAnyH_ready (rs := [6]) (by kernel_rfl) (by simp) ?_
          refine AllReadyH.cons (i := 6) rfl (fun K hK => ?_) AllReadyH.nil
          go_simp
          go_at_call 37
          refine (conQ.out _).mono ?_
          rintro e w3 ⟨rfl, hb3⟩
          have z0 := keepc hb3 y0
          have z1 := keepc hb3 y1
          refine hK.out _ _ ⟨z0, z1⟩ (fun hH6 => ?_)
          clear hK K
          try simp only [Act.put, List.setIfInBounds_toArray, List.set_cons_zero, List.set_cons_succ, List.getElem_toArray, List.getElem_cons_zero, List.getElem_cons_succ]
          refine reg_take 7 rfl (by kernel_rfl) (by kernel_rfl) (by kernel_rfl) (fun _ _ _ h => h) (by rfl) (fun w _ => by first | (go_simp; done) | (go_simp; with_reducible rfl)) (by assumption) ?_
          try simp only [Act.put, List.setIfInBounds_toArray, List.set_cons_zero, List.set_cons_succ, List.getElem_toArray, List.getElem_cons_zero, List.getElem_cons_succ]
          refine reg_take 8 rfl (by kernel_rfl) (by kernel_rfl) (by kernel_rfl) (fun _ _ _ h => h) (by rfl) (fun w _ => by first | (go_simp; done) | (go_simp; with_reducible rfl)) (by assumption) ?_
          try simp only [Act.put, List.setIfInBounds_toArray, List.set_cons_zero, List.set_cons_succ, List.getElem_toArray, List.getElem_cons_zero, List.getElem_cons_succ]
          refine reg_take 9 rfl (by kernel_rfl) (by kernel_rfl) (by kernel_rfl) (fun _ _ _ h => h) (by rfl) (fun w _ => by first | (go_simp; done) | (go_simp; with_reducible rfl)) (by assumption) ?_
          try simp only [Act.put, List.setIfInBounds_toArray, List.set_cons_zero, List.set_cons_succ, List.getElem_toArray, List.getElem_cons_zero, List.getElem_cons_succ]
          refine wpAnyH_done (by kernel_rfl) ?_ _
          go_wp2
          go_roundw
          case rel => exact ⟨k + 1, by omega, by go_num, by rw [Hst.out], bstep (bstep Hbv.out.drew hb2) hb3⟩
          case measure => simp [intOf]; omega
        · have hki : ¬ (0 : Int) < (k : Int) := by omega
          have Hst := Lib.hid (joinB_step0 hlt (show k = 0 by omega))
          generalize ts[k].1 = p at *
          generalize ts[k].2 = q at *
          generalize joinB (ts.take k) = T at *
          have conP := Lib.hid (fun W => c_l1NumD p hp W)
          have conQ := Lib.hid (fun W => c_l1NumD q hq W)
          have sp := dgB_size p
          have sq := dgB_size q
          generalize dgB p = P at *
          generalize dgB q = R at *
          have x0 : (wr.alloc (.cells #[.int .i64 p, .int .i64 q] 61)).cell? ⟨wr.heap.size, 0, none⟩ = some (.int .i64 p) := by simp
          have x1 : (wr.alloc (.cells #[.int .i64 p, .int .i64 q] 61)).cell? ⟨wr.heap.size, 1, none⟩ = some (.int .i64 q) := by simp
          have spq : (P ++ R).size ≤ 2 := by rw [ByteArray.size_append]; omega
          have hadd : ¬ 9223372036854775807 < T.size + 2 := by omega
          clear hcc hr hb hp hq hk0
          go_wp2_with fail
          obtain ⟨wv, hwv⟩ : ∃ wv, wv = wr.alloc (.cells #[.int .i64 p, .int .i64 q] 61) := ⟨_, rfl⟩
          have hbv : Below w.heap.size w wv := by rw [hwv]; exact Hb.out.alloc hz _
          rw [← hwv] at x0 x1 ⊢
          obtain ⟨G, hG⟩ : ∃ G, G = wr.heap.size := ⟨_, rfl⟩
          rw [← hG] at x0 x1 ⊢
          have Hbv := Lib.hid hbv
          clear hwv hG hbv
          refine wp_region_held_drew (S := fun w' => w'.cell? ⟨G, 0, none⟩ = some (.int .i64 p) ∧ w'.cell? ⟨G, 1, none⟩ = some (.int .i64 q)) (by kernel_rfl) ⟨x0, x1⟩ (fun hH0 => ?_)
          refine reg_take 0 rfl (by kernel_rfl) (by kernel_rfl) (by kernel_rfl) (fun _ _ _ h => h) (by rfl) (fun w _ => by first | (go_simp; done) | (go_simp; with_reducible rfl)) (by assumption) ?_
          try simp only [Act.put, List.setIfInBounds_toArray, List.set_cons_zero, List.set_cons_succ, List.getElem_toArray, List.getElem_cons_zero]
          refine reg_take 1 rfl (by kernel_rfl) (by kernel_rfl) (by kernel_rfl) (fun _ _ _ h => h) (by rfl) (fun w _ => by first | (go_simp; done) | (go_simp; with_reducible rfl)) (by assumption) ?_
          try simp only [Act.put, List.setIfInBounds_toArray, List.set_cons_zero, List.set_cons_succ, List.getElem_toArray, List.getElem_cons_zero, List.getElem_cons_succ]
          refine reg_take 2 rfl (by kernel_rfl) (by kernel_rfl) (by kernel_rfl) (fun _ _ _ h => h) (by rfl) (fun w hSw => by (try dsimp only at hSw); first | (go_simp; done) | (go_simp; with_reducible rfl)) (by assumption) ?_
          try simp only [Act.put, List.setIfInBounds_toArray, List.set_cons_zero, List.set_cons_succ, List.getElem_toArray, List.getElem_cons_zero, List.getElem_cons_succ]
          refine reg_take 4 rfl (by kernel_rfl) (by kernel_rfl) (by kernel_rfl) (fun _ _ _ h => h) (by rfl) (fun w _ => by first | (go_simp; done) | (go_simp; with_reducible rfl)) (by assumption) ?_
          try simp only [Act.put, List.setIfInBounds_toArray, List.set_cons_zero, List.set_cons_succ, List.getElem_toArray, List.getElem_cons_zero, List.getElem_cons_succ]
          refine reg_take 5 rfl (by kernel_rfl) (by kernel_rfl) (by kernel_rfl) (fun _ _ _ h => h) (by rfl) (fun w hSw => by (try dsimp only at hSw); first | (go_simp; done) | (go_simp; with_reducible rfl)) (by assumption) ?_
          try simp only [Act.put, List.setIfInBounds_toArray, List.set_cons_zero, List.set_cons_succ, List.getElem_toArray, List.getElem_cons_zero, List.getElem_cons_succ]
          refine wpAnyH_ready (rs := [3]) (by kernel_rfl) (by simp) ?_
          refine AllReadyH.cons (i := 3) rfl (fun K hK => ?_) AllReadyH.nil
          go_simp
          go_at_call 37
          refine (conP.out _).mono ?_
          rintro e w2 ⟨rfl, hb2⟩
          have y0 := keepc hb2 (gdH _ x0)
          have y1 := keepc hb2 (gdH _ x1)
          refine hK.out _ _ ⟨y0, y1⟩ (fun hH3 => ?_)
          clear hK K
          try simp only [Act.put, List.setIfInBounds_toArray, List.set_cons_zero, List.set_cons_succ, List.getElem_toArray, List.getElem_cons_zero, List.getElem_cons_succ]
          refine wpAnyH_ready (rs := [6]) (by kernel_rfl) (by simp) ?_
          refine AllReadyH.cons (i := 6) rfl (fun K hK => ?_) AllReadyH.nil
          go_simp
          go_at_call 37
          refine (conQ.out _).mono ?_
          rintro e w3 ⟨rfl, hb3⟩
          have z0 := keepc hb3 y0
          have z1 := keepc hb3 y1
          refine hK.out _ _ ⟨z0, z1⟩ (fun hH6 => ?_)
          clear hK K
          try simp only [Act.put, List.setIfInBounds_toArray, List.set_cons_zero, List.set_cons_succ, List.getElem_toArray, List.getElem_cons_zero, List.getElem_cons_succ]
          refine reg_take 7 rfl (by kernel_rfl) (by kernel_rfl) (by kernel_rfl) (fun _ _ _ h => h) (by rfl) (fun w _ => by first | (go_simp; done) | (go_simp; with_reducible rfl)) (by assumption) ?_
          try simp only [Act.put, List.setIfInBounds_toArray, List.set_cons_zero, List.set_cons_succ, List.getElem_toArray, List.getElem_cons_zero, List.getElem_cons_succ]
          refine reg_take 8 rfl (by kernel_rfl) (by kernel_rfl) (by kernel_rfl) (fun _ _ _ h => h) (by rfl) (fun w _ => by first | (go_simp; done) | (go_simp; with_reducible rfl)) (by assumption) ?_
          try simp only [Act.put, List.setIfInBounds_toArray, List.set_cons_zero, List.set_cons_succ, List.getElem_toArray, List.getElem_cons_zero, List.getElem_cons_succ]
          refine reg_take 9 rfl (by kernel_rfl) (by kernel_rfl) (by kernel_rfl) (fun _ _ _ h => h) (by rfl) (fun w _ => by first | (go_simp; done) | (go_simp; with_reducible rfl)) (by assumption) ?_
          try simp only [Act.put, List.setIfInBounds_toArray, List.set_cons_zero, List.set_cons_succ, List.getElem_toArray, List.getElem_cons_zero, List.getElem_cons_succ]
          refine wpAnyH_done (by kernel_rfl) ?_ _
          go_wp2
          go_roundw
          case rel => exact ⟨k + 1, by omega, by go_num, by rw [Hst.out], bstep (bstep Hbv.out.drew hb2) hb3⟩
          case measure => simp [intOf]; omega
      · obtain rfl : k = ts.length := by omega
        go_wp2
        go_ret
        exact ⟨rfl, hb⟩

end Go.Proofs.YtjdnkcdnppcbhabDoor

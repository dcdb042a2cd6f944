/- The text of a grid: the program's text, the specification's taDigits. -/
import Derived.Test.YtjbdflkbclhonabDoorTabW
namespace Go.Proofs.YtjbdflkbclhonabDoor
open Go.RowKit
set_option linter.unusedVariables false

/-- The text of the first k cells: / ahead of each row but the first. -/
def txL (W : Nat) (G : Nat → UInt8) : Nat → List UInt8
  | 0 => []
  | k + 1 => (if 0 < k ∧ k % W = 0 then txL W G k ++ [47] else txL W G k) ++ [G k]

def txB (W : Nat) (G : Nat → UInt8) (k : Nat) : ByteArray := ⟨(txL W G k).toArray⟩

def rwG (W : Nat) (G : Nat → UInt8) (i : Nat) : List UInt8 := (List.range W).map fun x => G (i * W + x)

theorem txL_row {W : Nat} (G : Nat → UInt8) (hW : 0 < W) (i : Nat) : ∀ x, x ≤ W → txL W G (i * W + x) = (if 0 < i ∧ 0 < x then txL W G (i * W) ++ [47] else txL W G (i * W)) ++ (List.range x).map fun y => G (i * W + y)
  | 0, _ => by simp
  | x + 1, hx => by
    have ih := txL_row G hW i x (by omega)
    show (if 0 < i * W + x ∧ (i * W + x) % W = 0 then txL W G (i * W + x) ++ [47] else txL W G (i * W + x)) ++ [G (i * W + x)] = _
    have hm : (i * W + x) % W = x := by rw [Nat.add_comm, Nat.add_mul_mod_self_right]; exact Nat.mod_eq_of_lt (by omega)
    rw [hm, List.range_succ, List.map_append, List.map_singleton, ← List.append_assoc]
    congr 1
    by_cases h0 : x = 0
    · subst h0
      by_cases hi : 0 < i
      · have : 0 < i * W := Nat.mul_pos hi hW
        rw [if_pos ⟨by omega, rfl⟩, if_pos ⟨hi, by omega⟩]
        simp
      · obtain rfl : i = 0 := by omega
        simp
    · rw [if_neg (fun h => h0 h.2), ih]
      congr 1
      by_cases hi : 0 < i
      · rw [if_pos ⟨hi, by omega⟩, if_pos ⟨hi, by omega⟩]
      · rw [if_neg (fun h => hi h.1), if_neg (fun h => hi h.1)]

theorem join_snocU (xs : List (List UInt8)) (y : List UInt8) (h : xs ≠ []) : Lib.join (xs ++ [y]) [47] = Lib.join xs [47] ++ [47] ++ y := by
  cases xs with
  | nil => exact absurd rfl h
  | cons s r =>
    rw [List.cons_append, Lib.join_cons, Lib.join_cons]
    simp [Lib.joinTail]

theorem join_rows {W : Nat} (G : Nat → UInt8) (hW : 0 < W) : ∀ H, Lib.join ((List.range H).map (rwG W G)) [47] = txL W G (H * W)
  | 0 => by simp [Lib.join_nil, txL]
  | H + 1 => by
    have ih := join_rows G hW H
    have hr := txL_row G hW H W (Nat.le_refl _)
    rw [Nat.succ_mul, hr, List.range_succ, List.map_append, List.map_singleton]
    by_cases h0 : 0 < H
    · rw [join_snocU _ _ (by intro e; have := congrArg List.length e; simp at this; omega), ih, if_pos ⟨h0, hW⟩]
      rfl
    · obtain rfl : H = 0 := by omega
      simp [txL, Lib.join_one, rwG]

theorem txL_len (W : Nat) (G : Nat → UInt8) : ∀ k, (txL W G k).length ≤ 2 * k
  | 0 => by simp [txL]
  | k + 1 => by
    have := txL_len W G k
    show ((if 0 < k ∧ k % W = 0 then txL W G k ++ [47] else txL W G k) ++ [G k]).length ≤ _
    split <;> simp <;> omega

theorem txB_size (W : Nat) (G : Nat → UInt8) (k : Nat) : (txB W G k).size ≤ 2 * k := by
  have e : (txB W G k).size = (txL W G k).length := by show (txL W G k).toArray.size = _; simp
  rw [e]
  exact txL_len W G k

theorem txL_same {W : Nat} {G G' : Nat → UInt8} : ∀ {k : Nat}, (∀ j, j < k → G j = G' j) → txL W G k = txL W G' k
  | 0, _ => rfl
  | k + 1, h => by
    show (if 0 < k ∧ k % W = 0 then txL W G k ++ [47] else txL W G k) ++ [G k] = (if 0 < k ∧ k % W = 0 then txL W G' k ++ [47] else txL W G' k) ++ [G' k]
    rw [txL_same (k := k) (fun j hj => h j (by omega)), h k (by omega)]

theorem txB_same {W : Nat} {G G' : Nat → UInt8} {k : Nat} (h : ∀ j, j < k → G j = G' j) : txB W G k = txB W G' k := by unfold txB; rw [txL_same h]

/-- A number's digit. -/
def dgV (x : Int) : UInt8 := UInt8.ofNat (48 + x.toNat)

theorem dgV_nat {x : Int} (h : numB x = true) : ((dgV x).toNat : Int) = 48 + x := by
  simp only [numB, Bool.and_eq_true, decide_eq_true_eq] at h
  unfold dgV
  rw [UInt8.toNat_ofNat', Nat.mod_eq_of_lt (by omega)]
  omega

theorem dgV_dig {b : UInt8} (h : digB b = true) : dgV ((b.toNat : Int) - 48) = b := by
  unfold digB at h
  rw [Bool.and_eq_true, decide_eq_true_eq, decide_eq_true_eq] at h
  unfold dgV
  have e : 48 + ((b.toNat : Int) - 48).toNat = b.toNat := by omega
  rw [e, UInt8.ofNat_toNat]

def dgS (b : UInt8) : ByteArray := ⟨[b].toArray⟩

theorem txB_yes {W k : Nat} {G : Nat → UInt8} (h0 : 0 < k) (hm : k % W = 0) : txB W G (k + 1) = (txB W G k ++ ⟨#[47]⟩) ++ dgS (G k) := by
  apply ByteArray.ext
  rw [ByteArray.data_append, ByteArray.data_append]
  show ((if 0 < k ∧ k % W = 0 then txL W G k ++ [47] else txL W G k) ++ [G k]).toArray = ((txL W G k).toArray ++ #[47]) ++ _
  rw [if_pos ⟨h0, hm⟩]
  simp [dgS]

theorem txB_no {W k : Nat} {G : Nat → UInt8} (h : ¬ (0 < k ∧ k % W = 0)) : txB W G (k + 1) = txB W G k ++ dgS (G k) := by
  apply ByteArray.ext
  rw [ByteArray.data_append]
  show ((if 0 < k ∧ k % W = 0 then txL W G k ++ [47] else txL W G k) ++ [G k]).toArray = (txL W G k).toArray ++ _
  rw [if_neg h]
  simp [dgS]

theorem dg_u8V {x : Int} (h0 : 0 ≤ x) (h1 : x ≤ 255) : IntKind.u8.wrap x = x := by
  have : IntKind.u8.wrap x = x % 256 := rfl
  omega

theorem addr_addV (g o j : Nat) : (⟨g, o, none⟩ : Addr).add j = ⟨g, o + j, none⟩ := by
  unfold Addr.add
  split <;> simp_all

set_option maxRecDepth 100000 in
set_option maxHeartbeats 1000000 in
theorem c_l1NumV (x : Int) (hx : numB x = true) (w : World) :
    Calls Tryd.prog 58 #[.int .i64 x] w fun e w' => e = .returned (.string (dgS (dgV x))) ∧ Below w.heap.size w w' := by
  have hd := dgV_nat hx
  have hx2 : 0 ≤ x ∧ x ≤ 9 := by simpa [numB] using hx
  have hrun : (convert 51 9 (.slice (some ⟨w.heap.size, 0, none⟩) 1 1)).run Tryd.prog (w.alloc (.cells #[.int .u8 (48 + x)] 5)) = .ok (.string (dgS (dgV x))) (w.alloc (.cells #[.int .u8 (48 + x)] 5)) :=
    run_convert_bytes_back _ 51 9 5 ⟨w.heap.size, 0, none⟩ 1 [dgV x] Tryd.underlying51 Tryd.underlying5 Tryd.underlying9 (fun j hj => by
      obtain rfl : j = 0 := by simpa using hj
      rw [addr_addV]
      simp [hd])
  have i1 := hx2.1
  have i2 := hx2.2
  have iw : IntKind.u8.wrap (48 + x) = 48 + x := dg_u8V (by omega) (by omega)
  clear hd hx hx2
  go_enter Tryd.func58, Tryd.ntmps58
  go_wp2
  go_ret
  exact ⟨rfl, by go_grown⟩

set_option maxRecDepth 100000 in
set_option maxHeartbeats 2000000 in
theorem c_taDigits (W H n : Nat) (A : Option Addr) (c : Nat) (D : List Int) (w : World) (hA : RdI w A D) (hD : D.length = n) (hnum : ∀ x ∈ D, numB x = true) (hW : 0 < W) (k30 : n ≤ 60) (hW30 : W ≤ 60) :
    Calls Tryd.prog 38 #[.agg #[.int .i64 W, .int .i64 H, .slice A n c]] w fun e w' => e = .returned (.string (txB W (fun j => dgV (D.getD j 0)) n)) ∧ Below w.heap.size w w' := by
  obtain ⟨v1, hv1⟩ : ∃ v1, v1 = w.alloc (.cells #[.int .i64 W, .int .i64 H, .slice A n c] 46) := ⟨_, rfl⟩
  have hb0 : Below w.heap.size w v1 := by rw [hv1]; go_grown
  have r0 : v1.cell? ⟨w.heap.size, 0, none⟩ = some (.int .i64 W) := by rw [hv1]; simp
  have r2 : v1.cell? ⟨w.heap.size, 2, none⟩ = some (.slice A n c) := by rw [hv1]; simp
  have HA := Lib.hid (hA.below hb0)
  have Hb0 := Lib.hid hb0
  have Hnum := Lib.hid (fun k (h : k < D.length) => hnum D[k] (List.getElem_mem h))
  have Hg := Lib.hid (fun k (h : k < D.length) => (show dgV (D.getD k 0) = dgV D[k] from by rw [List.getD_eq_getElem?_getD, List.getElem?_eq_getElem h]; rfl))
  have Hyes := Lib.hid (fun k h0 hm => txB_yes (W := W) (k := k) (G := fun j => dgV (D.getD j 0)) h0 hm)
  have Hno := Lib.hid (fun k h => txB_no (W := W) (k := k) (G := fun j => dgV (D.getD j 0)) h)
  have Hsz := Lib.hid (fun k => txB_size W (fun j => dgV (D.getD j 0)) k)
  have Hz := Lib.hid (show txB W (fun j => dgV (D.getD j 0)) 0 = ⟨#[]⟩ from rfl)
  have Hgk := Lib.hid (fun k => (show (fun j => dgV (D.getD j 0)) k = dgV (D.getD k 0) from rfl))
  generalize txB W (fun j => dgV (D.getD j 0)) = X at *
  have w0 : ((W : Int) == 0) = false := by simp; omega
  have w1 : ¬ (W : Int) = 0 := by omega
  clear hA hb0 hnum
  go_enter Tryd.func38, Tryd.ntmps38
  go_wp2_with fail
  rw [← hv1]
  clear hv1
  go_loopw [3, 9] (fun v i wr => ∃ k : Nat, k ≤ n ∧ i = .int .i64 k ∧ v = .string (X k) ∧ Below v1.heap.size v1 wr) (fun _ i _ => n - (intOf i).toNat)
  case atStart => exact ⟨0, Nat.zero_le _, rfl, by rw [Hz.out], Below.refl _ _⟩
  case round =>
    obtain ⟨k, hk, rfl, rfl, hb⟩ := hrel
    by_cases hlt : k < n
    · obtain ⟨bd, od, rfl, hbd, hcd⟩ := HA.out.at_ (show k < D.length by omega)
      have g0 := keepc hb (hcd k (by omega))
      have s0 := keepc hb r0
      have s2 := keepc hb r2
      have j0 : (0 : Int) ≤ (k : Int) := by omega
      have j1 : (k : Int) < (n : Int) := by omega
      have hx := Hnum.out k (by omega)
      have hgx := Hg.out k (by omega)
      have hszk := Hsz.out k
      have hr : (k : Int).tmod (W : Int) = ((k % W : Nat) : Int) := by rw [Int.tmod_eq_emod_of_nonneg (by omega)]; rfl
      have hmle := Nat.mod_lt k hW
      have iwm : IntKind.i64.wrap ((k % W : Nat) : Int) = ((k % W : Nat) : Int) := IntWalk.i64_in _ (by omega)
      have hyes := Hyes.out k
      have hno := Hno.out k
      simp only [hgx] at hyes hno
      have Hb := Lib.hid hb
      clear hcd hb Hyes Hno Hnum Hg Hgk hgx
      generalize D[k]'(by omega) = x at *
      have conX := Lib.hid (fun W0 => c_l1NumV x hx W0)
      have sx : (dgS (dgV x)).size = 1 := rfl
      generalize dgS (dgV x) = R at *
      clear hx
      by_cases h0 : 0 < k
      · have k0 : (0 : Int) < (k : Int) := by omega
        by_cases hm : k % W = 0
        · have Hst := Lib.hid (hyes h0 hm)
          have m0 : (((k % W : Nat) : Int) == 0) = true := by rw [hm]; rfl
          have m1 : ((k % W : Nat) : Int) = 0 := by omega
          have hs2 : (X k ++ ⟨#[47]⟩).size ≤ 200 := by rw [ByteArray.size_append]; show _ + 1 ≤ 200; omega
          clear hyes hno hm
          generalize k % W = md at *
          generalize X k = T at *
          go_wp2_with (go_at_call 58; refine (conX.out _).mono ?_; rintro e w5 ⟨rfl, hb5⟩)
          go_roundw
          case rel => exact ⟨k + 1, by omega, by go_num, by rw [Hst.out], bstep Hb.out hb5⟩
          case measure => simp [intOf]; omega
        · have Hst := Lib.hid (hno (fun h => hm h.2))
          have m0 : (((k % W : Nat) : Int) == 0) = false := by simp; omega
          have m1 : ¬ ((k % W : Nat) : Int) = 0 := by omega
          clear hyes hno
          generalize k % W = md at *
          generalize X k = T at *
          go_wp2_with (go_at_call 58; refine (conX.out _).mono ?_; rintro e w5 ⟨rfl, hb5⟩)
          go_roundw
          case rel => exact ⟨k + 1, by omega, by go_num, by rw [Hst.out], bstep Hb.out hb5⟩
          case measure => simp [intOf]; omega
      · have k0 : ¬ (0 : Int) < (k : Int) := by omega
        have Hst := Lib.hid (hno (fun h => h0 h.1))
        clear hyes hno
        generalize k % W = md at *
        generalize X k = T at *
        go_wp2_with (go_at_call 58; refine (conX.out _).mono ?_; rintro e w5 ⟨rfl, hb5⟩)
        go_roundw
        case rel => exact ⟨k + 1, by omega, by go_num, by rw [Hst.out], bstep Hb.out hb5⟩
        case measure => simp [intOf]; omega
    · obtain rfl : k = n := by omega
      go_wp2
      go_ret
      exact ⟨rfl, bstep Hb0.out hb⟩

end Go.Proofs.YtjbdflkbclhonabDoor

/- The texts of moves: both sides. -/
import Derived.Test.YtgjdpiooocpmhabGreatDoorLayA
import Derived.Test.YtgjdpiooocpmhabGreatDoorChains
import Derived.Test.YtgjdpiooocpmhabGreatDoorShelf
import Derived.Laws.IdiomStrings
import Derived.Deep.RegionHeld3
import Derived.Deep.Cut
import Derived.BigQuiet
namespace Go.Proofs.YtgjdpiooocpmhabGreatDoor
open Go.RowKit
set_option linter.unusedVariables false

/-- A number's digit. -/
def dgU (x : Int) : UInt8 := UInt8.ofNat (48 + x.toNat)
theorem dgU_nat {x : Int} (h : numB x = true) : ((dgU x).toNat : Int) = 48 + x := by
  simp only [numB, Bool.and_eq_true, decide_eq_true_eq] at h
  unfold dgU
  rw [UInt8.toNat_ofNat', Nat.mod_eq_of_lt (by omega)]
  omega
def dgB (x : Int) : ByteArray := ⟨[dgU x].toArray⟩
theorem dgB_size (x : Int) : (dgB x).size = 1 := rfl

theorem dg_u8 {x : Int} (h0 : 0 ≤ x) (h1 : x ≤ 255) : IntKind.u8.wrap x = x := by
  have : IntKind.u8.wrap x = x % 256 := rfl
  omega
theorem addr_addH (g j : Nat) : (⟨g, 0, none⟩ : Addr).add j = ⟨g, j, none⟩ := by
  unfold Addr.add
  split <;> simp_all

theorem nat_num {n : Int} (h : numB n = true) : ∃ m : Nat, m ≤ 9 ∧ n = m := by
  simp only [numB, Bool.and_eq_true, decide_eq_true_eq] at h
  exact ⟨n.toNat, by omega, by omega⟩

theorem dec_dg {i : Nat} (h : i ≤ 9) : (⟨(Lib.decDigits i).toArray⟩ : ByteArray) = dgB (i : Int) := by
  rw [Lib.decDigits, dif_pos (by omega)]
  rfl

theorem gdH {w : World} (a : Addr) {v : Value} (h : w.cell? a = some v) : w.drew.cell? a = some v := h

set_option maxRecDepth 100000 in
set_option maxHeartbeats 1000000 in
theorem c_l1NumD (x : Int) (hx : numB x = true) (w : World) :
    Calls Tryz.prog 78 #[.int .i64 x] w fun e w' => e = .returned (.string (dgB x)) ∧ Below w.heap.size w w' := by
  have hd := dgU_nat hx
  have hx2 : 0 ≤ x ∧ x ≤ 9 := by simpa [numB] using hx
  have hrun : (convert 94 9 (.slice (some ⟨w.heap.size, 0, none⟩) 1 1)).run Tryz.prog (w.alloc (.cells #[.int .u8 (48 + x)] 5)) = .ok (.string (dgB x)) (w.alloc (.cells #[.int .u8 (48 + x)] 5)) :=
    run_convert_bytes_back _ 94 9 5 ⟨w.heap.size, 0, none⟩ 1 [dgU x] Tryz.underlying94 Tryz.underlying5 Tryz.underlying9 (fun j hj => by
      obtain rfl : j = 0 := by simpa using hj
      rw [addr_addH]
      simp [hd])
  have i1 := hx2.1
  have i2 := hx2.2
  have iw : IntKind.u8.wrap (48 + x) = 48 + x := dg_u8 (by omega) (by omega)
  clear hd hx hx2
  go_enter Tryz.func78, Tryz.ntmps78
  go_wp2
  go_ret
  exact ⟨rfl, by go_grown⟩

theorem c_itoaD (x : Int) (hx : numB x = true) (w : World) :
    Calls Tryz.prog 92 #[.int .i64 x] w fun e w' => e = .returned (.string (dgB x)) ∧ w' = w := by
  obtain ⟨i, hi, rfl⟩ := nat_num hx
  rw [← dec_dg hi]
  exact Tryz.strconv_Itoa_small i (by omega) w

set_option maxRecDepth 100000 in
set_option maxHeartbeats 1000000 in
theorem c_tileText (p q : Int) (hp : numB p = true) (hq : numB q = true) (w : World) :
    Calls Tryz.prog 74 #[.agg #[.int .i64 p, .int .i64 q]] w fun e w' => e = .returned (.string (dgB p ++ dgB q)) ∧ Below w.heap.size w w' := by
  have conP := Lib.hid (fun W => c_itoaD p hp W)
  have conQ := Lib.hid (fun W => c_itoaD q hq W)
  have sp := dgB_size p
  have sq := dgB_size q
  generalize dgB p = P at *
  generalize dgB q = R at *
  have x0 : (w.alloc (.cells #[.int .i64 p, .int .i64 q] 61)).cell? ⟨w.heap.size, 0, none⟩ = some (.int .i64 p) := by simp
  have x1 : (w.alloc (.cells #[.int .i64 p, .int .i64 q] 61)).cell? ⟨w.heap.size, 1, none⟩ = some (.int .i64 q) := by simp
  have hb0 : Below w.heap.size w (w.alloc (.cells #[.int .i64 p, .int .i64 q] 61)) := by go_grown
  have hadd : ¬ 9223372036854775807 < 1 + 1 := by omega
  clear hp hq
  go_enter Tryz.func74, Tryz.ntmps74
  go_wp2_with fail
  obtain ⟨wv, hwv⟩ : ∃ wv, wv = w.alloc (.cells #[.int .i64 p, .int .i64 q] 61) := ⟨_, rfl⟩
  rw [← hwv] at x0 x1 hb0 ⊢
  obtain ⟨G, hG⟩ : ∃ G, G = w.heap.size := ⟨_, rfl⟩
  rw [← hG] at x0 x1 ⊢
  have HG := Lib.hid hG
  clear hwv hG
  refine wp_region_held_drew (S := fun w' => w'.cell? ⟨G, 0, none⟩ = some (.int .i64 p) ∧ w'.cell? ⟨G, 1, none⟩ = some (.int .i64 q)) (by kernel_rfl) ⟨x0, x1⟩ (fun hH0 => ?_)
  refine reg_take 0 rfl (by kernel_rfl) (by kernel_rfl) (by kernel_rfl) (fun _ _ _ h => h) (by rfl) (fun w _ => by first | (go_simp; done) | (go_simp; with_reducible rfl)) (by assumption) ?_
  try simp only [Act.put, List.setIfInBounds_toArray, List.set_cons_zero, List.set_cons_succ, List.getElem_toArray, List.getElem_cons_zero]
  refine reg_take 1 rfl (by kernel_rfl) (by kernel_rfl) (by kernel_rfl) (fun _ _ _ h => h) (by rfl) (fun w hSw => by (try dsimp only at hSw); first | (go_simp; done) | (go_simp; with_reducible rfl)) (by assumption) ?_
  try simp only [Act.put, List.setIfInBounds_toArray, List.set_cons_zero, List.set_cons_succ, List.getElem_toArray, List.getElem_cons_zero, List.getElem_cons_succ]
  refine reg_take 3 rfl (by kernel_rfl) (by kernel_rfl) (by kernel_rfl) (fun _ _ _ h => h) (by rfl) (fun w _ => by first | (go_simp; done) | (go_simp; with_reducible rfl)) (by assumption) ?_
  try simp only [Act.put, List.setIfInBounds_toArray, List.set_cons_zero, List.set_cons_succ, List.getElem_toArray, List.getElem_cons_zero, List.getElem_cons_succ]
  refine reg_take 4 rfl (by kernel_rfl) (by kernel_rfl) (by kernel_rfl) (fun _ _ _ h => h) (by rfl) (fun w hSw => by (try dsimp only at hSw); first | (go_simp; done) | (go_simp; with_reducible rfl)) (by assumption) ?_
  try simp only [Act.put, List.setIfInBounds_toArray, List.set_cons_zero, List.set_cons_succ, List.getElem_toArray, List.getElem_cons_zero, List.getElem_cons_succ]
  refine wpAnyH_ready (rs := [2]) (by kernel_rfl) (by simp) ?_
  refine AllReadyH.cons (i := 2) rfl (fun K hK => ?_) AllReadyH.nil
  go_simp
  go_at_call 92
  refine (conP.out _).mono ?_
  rintro e w2 ⟨rfl, rfl⟩
  refine hK.out _ _ ⟨x0, x1⟩ (fun hH2 => ?_)
  clear hK K
  try simp only [Act.put, List.setIfInBounds_toArray, List.set_cons_zero, List.set_cons_succ, List.getElem_toArray, List.getElem_cons_zero, List.getElem_cons_succ]
  refine wpAnyH_ready (rs := [5]) (by kernel_rfl) (by simp) ?_
  refine AllReadyH.cons (i := 5) rfl (fun K hK => ?_) AllReadyH.nil
  go_simp
  go_at_call 92
  refine (conQ.out _).mono ?_
  rintro e w3 ⟨rfl, rfl⟩
  refine hK.out _ _ ⟨x0, x1⟩ (fun hH5 => ?_)
  clear hK K
  try simp only [Act.put, List.setIfInBounds_toArray, List.set_cons_zero, List.set_cons_succ, List.getElem_toArray, List.getElem_cons_zero, List.getElem_cons_succ]
  refine reg_take 6 rfl (by kernel_rfl) (by kernel_rfl) (by kernel_rfl) (fun _ _ _ h => h) (by rfl) (fun w _ => by first | (go_simp; done) | (go_simp; with_reducible rfl)) (by assumption) ?_
  try simp only [Act.put, List.setIfInBounds_toArray, List.set_cons_zero, List.set_cons_succ, List.getElem_toArray, List.getElem_cons_zero, List.getElem_cons_succ]
  refine reg_take 7 rfl (by kernel_rfl) (by kernel_rfl) (by kernel_rfl) (fun _ _ _ h => h) (by rfl) (fun w _ => by first | (go_simp; done) | (go_simp; with_reducible rfl)) (by assumption) ?_
  try simp only [Act.put, List.setIfInBounds_toArray, List.set_cons_zero, List.set_cons_succ, List.getElem_toArray, List.getElem_cons_zero, List.getElem_cons_succ]
  refine wpAnyH_done (by kernel_rfl) ?_ _
  go_wp2
  go_ret
  exact ⟨rfl, hb0.drew⟩

/-- The text of a move. -/
def mvT (a b : Int) (k : Nat) : ByteArray := if k = 0 then ⟨#[45]⟩ else (dgB a ++ dgB b) ++ (if k = 1 then ⟨#[108]⟩ else ⟨#[114]⟩)
def mvTx (m : Mv) : ByteArray := mvT m.1 m.2.1 m.2.2
theorem mvT_end {a b : Int} {k : Nat} (h : k ≠ 0) : mvT a b k = (dgB a ++ dgB b) ++ endS k := by
  unfold mvT endS
  rw [if_neg h, if_neg h]

set_option maxRecDepth 100000 in
set_option maxHeartbeats 1000000 in
theorem c_plTextL (a b : Int) (left : Bool) (ha : numB a = true) (hb : numB b = true) (w : World) :
    Calls Tryz.prog 54 #[.agg #[.int .i64 a, .int .i64 b, .bool left, .bool false]] w fun e w' => e = .returned (.string ((dgB a ++ dgB b) ++ (if left then ⟨#[108]⟩ else ⟨#[114]⟩))) ∧ Below w.heap.size w w' := by
  have conP := Lib.hid (fun W => c_l1NumD a ha W)
  have conQ := Lib.hid (fun W => c_l1NumD b hb W)
  have sp := dgB_size a
  have sq := dgB_size b
  generalize dgB a = P at *
  generalize dgB b = R at *
  have spr : (P ++ R).size = 2 := by rw [ByteArray.size_append, sp, sq]
  have hadd : ¬ 9223372036854775807 < 1 + 1 := by omega
  have hadd2 : ¬ 9223372036854775807 < 2 + 1 := by omega
  clear ha hb
  cases left
  · rw [if_neg (by decide)]
    go_enter Tryz.func54, Tryz.ntmps54
    go_wp2_with fail
    obtain ⟨w0, hw0⟩ : ∃ w0, w0 = w.alloc (.cells #[.int .i64 a, .int .i64 b, .bool false, .bool false] 70) := ⟨_, rfl⟩
    rw [← hw0]
    have x0 : w0.cell? ⟨w.heap.size, 0, none⟩ = some (.int .i64 a) := by rw [hw0]; simp
    have x1 : w0.cell? ⟨w.heap.size, 1, none⟩ = some (.int .i64 b) := by rw [hw0]; simp
    have x2 : w0.cell? ⟨w.heap.size, 2, none⟩ = some (.bool false) := by rw [hw0]; simp
    have hb0 : Below w.heap.size w w0 := by rw [hw0]; go_grown
    clear hw0
    go_region_held3 (fun w' => w'.cell? ⟨w.heap.size, 0, none⟩ = some (.int .i64 a) ∧ w'.cell? ⟨w.heap.size, 1, none⟩ = some (.int .i64 b)) (first | exact ⟨z0, z1⟩ | exact ⟨y0, y1⟩ | exact ⟨x0, x1⟩ | go_keep) (first | (have zz := y0; clear zz; go_at_call 78; refine (conQ.out _).mono ?_; rintro e w2 ⟨rfl, h2⟩; have z0 := keepc h2 y0; have z1 := keepc h2 y1; have z2 := keepc h2 y2; have hb2 := bstep hb1 h2) | (go_at_call 78; refine (conP.out _).mono ?_; rintro e w1 ⟨rfl, h1⟩; have y0 := keepc h1 (gdH _ x0); have y1 := keepc h1 (gdH _ x1); have y2 := keepc h1 (gdH _ x2); have hb1 := bstep hb0.drew h1))
    go_wp2
    go_ret
    exact ⟨rfl, hb2⟩
  · rw [if_pos rfl]
    go_enter Tryz.func54, Tryz.ntmps54
    go_wp2_with fail
    obtain ⟨w0, hw0⟩ : ∃ w0, w0 = w.alloc (.cells #[.int .i64 a, .int .i64 b, .bool true, .bool false] 70) := ⟨_, rfl⟩
    rw [← hw0]
    have x0 : w0.cell? ⟨w.heap.size, 0, none⟩ = some (.int .i64 a) := by rw [hw0]; simp
    have x1 : w0.cell? ⟨w.heap.size, 1, none⟩ = some (.int .i64 b) := by rw [hw0]; simp
    have x2 : w0.cell? ⟨w.heap.size, 2, none⟩ = some (.bool true) := by rw [hw0]; simp
    have hb0 : Below w.heap.size w w0 := by rw [hw0]; go_grown
    clear hw0
    go_region_held3 (fun w' => w'.cell? ⟨w.heap.size, 0, none⟩ = some (.int .i64 a) ∧ w'.cell? ⟨w.heap.size, 1, none⟩ = some (.int .i64 b)) (first | exact ⟨z0, z1⟩ | exact ⟨y0, y1⟩ | exact ⟨x0, x1⟩ | go_keep) (first | (have zz := y0; clear zz; go_at_call 78; refine (conQ.out _).mono ?_; rintro e w2 ⟨rfl, h2⟩; have z0 := keepc h2 y0; have z1 := keepc h2 y1; have z2 := keepc h2 y2; have hb2 := bstep hb1 h2) | (go_at_call 78; refine (conP.out _).mono ?_; rintro e w1 ⟨rfl, h1⟩; have y0 := keepc h1 (gdH _ x0); have y1 := keepc h1 (gdH _ x1); have y2 := keepc h1 (gdH _ x2); have hb1 := bstep hb0.drew h1))
    go_wp2
    go_ret
    exact ⟨rfl, hb2⟩

set_option maxHeartbeats 1000000 in
theorem c_plText (a b : Int) (k : Nat) (hk : k ≤ 2) (hab : k ≠ 0 → numB a = true ∧ numB b = true) (w : World) :
    Calls Tryz.prog 54 #[.agg #[.int .i64 a, .int .i64 b, .bool (k == 1), .bool (k == 0)]] w fun e w' => e = .returned (.string (mvT a b k)) ∧ Below w.heap.size w w' := by
  by_cases h0 : k = 0
  · subst h0
    show Calls Tryz.prog 54 #[.agg #[.int .i64 a, .int .i64 b, .bool false, .bool true]] w fun e w' => e = .returned (.string ⟨#[45]⟩) ∧ Below w.heap.size w w'
    clear hab hk
    go_enter Tryz.func54, Tryz.ntmps54
    go_wp2
    go_ret
    exact ⟨rfl, by go_grown⟩
  · have e0 : (k == 0) = false := by simp [h0]
    have em : mvT a b k = (dgB a ++ dgB b) ++ (if (k == 1) then ⟨#[108]⟩ else ⟨#[114]⟩) := by unfold mvT; rw [if_neg h0]; simp
    rw [e0, em]
    exact c_plTextL a b (k == 1) (hab h0).1 (hab h0).2 w

set_option maxRecDepth 100000 in
set_option maxHeartbeats 1000000 in
theorem c_moveText (a b : Int) (k : Nat) (hk : k ≤ 2) (hab : k ≠ 0 → numB a = true ∧ numB b = true) (w : World) :
    Calls Tryz.prog 47 #[.agg #[.int .i64 a, .int .i64 b, .string (endS k)]] w fun e w' => e = .returned (.string (mvT a b k)) ∧ Below w.heap.size w w' := by
  have conI := fun W => c_isPass a b k hk W
  by_cases h0 : k = 0
  · subst h0
    rw [show ((0 : Nat) == 0) = true from rfl] at conI
    have ConI := Lib.hid conI
    have em : mvT a b 0 = ⟨#[45]⟩ := rfl
    rw [em]
    generalize endS 0 = s at *
    clear hab hk em conI
    go_enter Tryz.func47, Tryz.ntmps47
    go_wp2_with (go_at_call 73; refine (ConI.out _).mono ?_; rintro e w1 ⟨rfl, h1⟩)
    go_ret
    exact ⟨rfl, bstep ((Below.refl _ _).alloc (Nat.le_refl _) _) h1⟩
  · have e0 : (k == 0) = false := by simp [h0]
    rw [e0] at conI
    have ConI := Lib.hid conI
    rw [mvT_end h0]
    have conT := Lib.hid (fun W => c_tileText a b (hab h0).1 (hab h0).2 W)
    have sp := dgB_size a
    have sq := dgB_size b
    have sk : (endS k).size ≤ 1 := by unfold endS; split <;> (try split) <;> decide
    generalize dgB a = P at *
    generalize dgB b = R at *
    have spr : (P ++ R).size = 2 := by rw [ByteArray.size_append, sp, sq]
    generalize P ++ R = T at *
    generalize endS k = s at *
    have hadd : ¬ 9223372036854775807 < T.size + s.size := by omega
    have hadd2 : ¬ 9223372036854775807 < 2 + s.size := by omega
    clear hab conI e0
    go_enter Tryz.func47, Tryz.ntmps47
    go_wp2_with fail
    obtain ⟨w0, hw0⟩ : ∃ w0, w0 = w.alloc (.cells #[.int .i64 a, .int .i64 b, .string s] 64) := ⟨_, rfl⟩
    rw [← hw0]
    have x0 : w0.cell? ⟨w.heap.size, 0, none⟩ = some (.int .i64 a) := by rw [hw0]; simp
    have x1 : w0.cell? ⟨w.heap.size, 1, none⟩ = some (.int .i64 b) := by rw [hw0]; simp
    have x2 : w0.cell? ⟨w.heap.size, 2, none⟩ = some (.string s) := by rw [hw0]; simp
    have hb0 : Below w.heap.size w w0 := by rw [hw0]; go_grown
    clear hw0
    refine (ConI.out _).mono ?_
    rintro e w1 ⟨rfl, h1⟩
    have y0 := keepc h1 x0
    have y1 := keepc h1 x1
    have y2 := keepc h1 x2
    have hb1 := bstep hb0 h1
    clear x0 x1 x2
    go_upto_region 3 with (fail)
    go_region_held3 (fun w' => w'.cell? ⟨w.heap.size, 0, none⟩ = some (.int .i64 a) ∧ w'.cell? ⟨w.heap.size, 1, none⟩ = some (.int .i64 b) ∧ w'.cell? ⟨w.heap.size, 2, none⟩ = some (.string s)) (first | exact ⟨z0, z1, z2⟩ | exact ⟨y0, y1, y2⟩ | go_keep) (first | (go_at_call 74; refine (conT.out _).mono ?_; rintro e w2 ⟨rfl, h2⟩; have z0 := keepc h2 (gdH _ y0); have z1 := keepc h2 (gdH _ y1); have z2 := keepc h2 (gdH _ y2); have hb2 := bstep hb1.drew h2))
    go_wp2
    go_ret
    exact ⟨rfl, hb2⟩

end Go.Proofs.YtgjdpiooocpmhabGreatDoor

/- Rows of texts, and the texts that the laws mark them with. -/
import Derived.Test.YtgjdpiooocpmhabGreatDoorTxt
import Derived.Test.YtgjdpiooocpmhabGreatDoorMovA
import Derived.Test.YtgjdpiooocpmhabGreatDoorLayA
import Derived.Test.YtgjdpiooocpmhabGreatDoorMovB
namespace Go.Proofs.YtgjdpiooocpmhabGreatDoor
open Go.RowKit
set_option linter.unusedVariables false

def encW (s : ByteArray) : List Value := [.string s]
theorem encW_len (s : ByteArray) : (encW s).length = 1 := rfl
theorem encW_one (s : ByteArray) : ∀ u ∈ encW s, u.oneCell' = true := by
  intro u h
  rw [encW, List.mem_singleton] at h
  subst h
  rfl
def cellsSt (xs : List ByteArray) : List Value := xs.map Value.string
theorem cellsSt_E (xs : List ByteArray) : cellsE encW xs = cellsSt xs := by
  induction xs with
  | nil => rfl
  | cons x xs ih =>
    show encW x ++ cellsE encW xs = _
    rw [ih]
    rfl
theorem cellsSt_append (xs ys : List ByteArray) : cellsSt (xs ++ ys) = cellsSt xs ++ cellsSt ys := by simp [cellsSt]
theorem cellsSt_length (xs : List ByteArray) : (cellsSt xs).length = xs.length := by simp [cellsSt]
theorem own_blockS {w w' : World} {base e size n : Nat} {v : Value} {cs : List Value} (h : w.ownsRow base e size v n cs) (heq : ∀ g, v.ownBlock = some g → w'.heap[g]? = w.heap[g]?) : w'.ownsRow base e size v n cs := by
  obtain ⟨h1, h2⟩ := h
  refine ⟨h1, ?_⟩
  rcases h2 with h2 | ⟨g, cap, cur, hv, hg, hh, r⟩
  · exact .inl h2
  · exact .inr ⟨g, cap, cur, hv, hg, (heq g (by subst hv; rfl)).trans hh, r⟩

/-- A slice value at A reads as a list of texts. -/
def RdSt (w : World) (A : Option Addr) (xs : List ByteArray) : Prop :=
  ∃ b off, (xs ≠ [] → A = some ⟨b, off, none⟩) ∧ ∀ k (h : k < xs.length), w.cell? ⟨b, off + k, none⟩ = some (.string xs[k])
section
variable {w w' : World} {A : Option Addr} {xs : List ByteArray}
theorem RdSt.nil_ : RdSt w A [] := ⟨0, 0, fun h => absurd rfl h, fun k h => by simp at h⟩
theorem RdSt.at_ (h : RdSt w A xs) {k : Nat} (hk : k < xs.length) : ∃ b off, A = some ⟨b, off, none⟩ ∧ b < w.heap.size ∧ ∀ k (h : k < xs.length), w.cell? ⟨b, off + k, none⟩ = some (.string xs[k]) := by
  obtain ⟨b, off, h1, h2⟩ := h
  exact ⟨b, off, h1 (by rintro rfl; simp at hk), block_lt (h2 k hk), h2⟩
theorem RdSt.below (h : RdSt w A xs) (hb : Below w.heap.size w w') : RdSt w' A xs := by
  obtain ⟨b, off, h1, h2⟩ := h
  exact ⟨b, off, h1, fun k hk => (hb.cell (block_lt (h2 k hk))).trans (h2 k hk)⟩
theorem RdSt.of_own {base e n c : Nat} (h : w.ownsRow base e 1 (.slice A xs.length c) n (cellsSt xs)) : RdSt w A xs := by
  have h0 := h
  obtain ⟨_, ⟨hv, hn⟩ | ⟨g, cap, cur, hv, _⟩⟩ := h0
  · injection hv with h1 h2 h3
    have : xs = [] := List.eq_nil_of_length_eq_zero h2
    subst this
    exact RdSt.nil_
  · injection hv with h1 h2 h3
    subst h1
    refine ⟨g, 0, fun _ => rfl, fun k hk => ?_⟩
    have h := World.ownsRow.cells h (g := g) rfl
    have e1 := h k (.string xs[k]) (by simp [cellsSt, hk])
    simp only [Addr.add] at e1
    rw [← e1]
    by_cases hz : k = 0 <;> simp [hz]
end

/-- A new slice of texts comes back, and a bool. -/
def RetStB (w : World) (xs : List ByteArray) (ok : Bool) (e : Ending) (w' : World) : Prop :=
  ∃ A c, e = .returned (.tuple #[.slice A xs.length c, .bool ok]) ∧ w'.ownsRow w.heap.size 9 1 (.slice A xs.length c) xs.length (cellsSt xs) ∧ Below w.heap.size w w'
def RetSt (w : World) (xs : List ByteArray) (e : Ending) (w' : World) : Prop :=
  ∃ A c, e = .returned (.slice A xs.length c) ∧ w'.ownsRow w.heap.size 9 1 (.slice A xs.length c) xs.length (cellsSt xs) ∧ Below w.heap.size w w'

/-- The digits of a number, and the text that marks. -/
def mtD : Nat → Nat → List UInt8
  | 0, _ => []
  | f + 1, n => if n = 0 then [] else mtD f (n / 10) ++ [dgU ((n % 10 : Nat) : Int)]
def mtV (k : Int) : ByteArray := if k ≤ 0 then ⟨#[109, 48]⟩ else ⟨#[109]⟩ ++ ⟨(mtD 20 k.toNat).toArray⟩
theorem mtD_zero (f : Nat) : mtD f 0 = [] := by cases f <;> rfl
/-- The marks from q on. -/
def mkS (q : Int) (n : Nat) : List ByteArray := (List.range n).map fun (i : Nat) => mtV (q + (i : Int))
/-- k of them laid over a row. -/
def mkSt (q : Int) (k : Nat) (xs : List ByteArray) : List ByteArray := mkS q k ++ xs.drop k
theorem mkS_length (q : Int) (n : Nat) : (mkS q n).length = n := by simp [mkS]
theorem mkS_get (q : Int) (n k : Nat) (h : k < (mkS q n).length) : (mkS q n)[k] = mtV (q + (k : Int)) := by simp [mkS]
theorem mkSt_length (q : Int) {k : Nat} {xs : List ByteArray} (h : k ≤ xs.length) : (mkSt q k xs).length = xs.length := by simp [mkSt, mkS]; omega
theorem mkSt_zero (q : Int) (xs : List ByteArray) : mkSt q 0 xs = xs := by simp [mkSt, mkS]
theorem mkSt_all (q : Int) (xs : List ByteArray) : mkSt q xs.length xs = mkS q xs.length := by simp [mkSt]
theorem mkSt_step (q : Int) {k : Nat} {xs : List ByteArray} (h : k < xs.length) : (cellsSt (mkSt q k xs)).set k (.string (mtV (q + (k : Int)))) = cellsSt (mkSt q (k + 1) xs) := by
  unfold mkSt cellsSt
  rw [List.drop_eq_getElem_cons h, List.map_append, List.map_cons, List.set_append_right _ _ (by simp [mkS]), List.length_map, mkS_length, Nat.sub_self]
  unfold mkS
  rw [List.range_succ, List.map_append, List.map_append, List.map_append]
  simp
theorem rdmarksSt {w : World} {base e n c : Nat} {A : Option Addr} {q : Int} (h : w.ownsRow base e 1 (.slice A n c) n (cellsSt (mkS q n))) : RdSt w A (mkS q n) := by
  have h2 : w.ownsRow base e 1 (.slice A (mkS q n).length c) n (cellsSt (mkS q n)) := by rw [mkS_length]; exact h
  exact RdSt.of_own h2

set_option maxRecDepth 100000 in
set_option maxHeartbeats 1000000 in
theorem c_markText (k : Int) (w : World) (h1 : k ≤ 9223372036854775807) : Calls Tryz.prog 45 #[.int .i64 k] w fun e w' => e = .returned (.string (mtV k)) ∧ Below w.heap.size w w' := by
  by_cases h0 : k ≤ 0
  · have e : mtV k = ⟨#[109, 48]⟩ := if_pos h0
    rw [e]
    go_enter Tryz.func45, Tryz.ntmps45
    go_wp2
    go_ret
    exact ⟨rfl, Below.refl _ _⟩
  have e : mtV k = ⟨#[109]⟩ ++ ⟨(mtD 20 k.toNat).toArray⟩ := if_neg h0
  rw [e]
  obtain ⟨K, rfl⟩ : ∃ K : Nat, k = K := ⟨k.toNat, by omega⟩
  rw [Int.toNat_natCast]
  have hK : K < 10 ^ 20 := by omega
  clear e
  obtain ⟨L, hL⟩ : ∃ L, L = mtD 20 K := ⟨_, rfl⟩
  rw [← hL]
  have HL := Lib.hid hL
  clear hL
  go_enter Tryz.func45, Tryz.ntmps45
  go_wp2
  go_loopw [0, 3] (fun x y wr => ∃ (f n : Nat) (T : ByteArray), x = .int .i64 n ∧ y = .string T ∧ L = mtD f n ++ T.data.toList ∧ n < 10 ^ f ∧ T.size + f = 20 ∧ n ≤ 9223372036854775807 ∧ Below w.heap.size w wr) (fun x _ _ => (intOf x).toNat)
  case atStart => exact ⟨20, K, ⟨#[]⟩, rfl, rfl, by rw [HL.out]; simp, hK, rfl, by omega, Below.refl _ _⟩
  case round =>
    obtain ⟨f, n, T, rfl, rfl, hT, hn, hf, hl, hb⟩ := hrel
    by_cases hp : 0 < n
    · obtain ⟨g, rfl⟩ : ∃ g, f = g + 1 := ⟨f - 1, by
        have : f ≠ 0 := by
          intro h0
          subst h0
          rw [Nat.pow_zero] at hn
          omega
        omega⟩
      obtain ⟨d, hd0⟩ : ∃ d, n % 10 = d := ⟨_, rfl⟩
      obtain ⟨q, hq0⟩ : ∃ q, n / 10 = q := ⟨_, rfl⟩
      have hm : d ≤ 9 := by have := Nat.mod_lt n (show 0 < 10 by omega); omega
      have hx : numB (d : Int) = true := by simp [numB]; omega
      have hd := dgU_nat hx
      have hrun : (convert 94 9 (.slice (some ⟨wr.heap.size, 0, none⟩) 1 1)).run Tryz.prog (wr.alloc (.cells #[.int .u8 (48 + (d : Int))] 5)) = .ok (.string (dgB (d : Int))) (wr.alloc (.cells #[.int .u8 (48 + (d : Int))] 5)) := run_convert_bytes_back (wr.alloc (.cells #[.int .u8 (48 + (d : Int))] 5)) 94 9 5 ⟨wr.heap.size, 0, none⟩ 1 [dgU (d : Int)] Tryz.underlying94 Tryz.underlying5 Tryz.underlying9 (fun j hj => by
        obtain rfl : j = 0 := by simpa using hj
        rw [addr_addH]
        simp [hd])
      have iw : IntKind.u8.wrap (48 + (d : Int)) = 48 + (d : Int) := dg_u8 (by omega) (by omega)
      have q1 : ((n : Int).tmod 10) = (d : Int) := by rw [← hd0, Int.ofNat_tmod]; rfl
      have q2 : ((n : Int).tdiv 10) = (q : Int) := by rw [← hq0, Int.ofNat_tdiv]; rfl
      have q3 : ((n : Int) % 10) = (d : Int) := by rw [← hd0]; rfl
      have q4 : ((n : Int) / 10) = (q : Int) := by rw [← hq0]; rfl
      have Hq := Lib.hid (show L = mtD g q ++ (dgB (d : Int) ++ T).data.toList by
        rw [hT, mtD, if_neg (by omega), hd0, hq0, ByteArray.data_append]
        simp [dgB])
      have Hlt := Lib.hid (show q < 10 ^ g by rw [← hq0]; rw [Nat.pow_succ] at hn; exact Nat.div_lt_of_lt_mul (by omega))
      have Hsz := Lib.hid (show (dgB (d : Int) ++ T).size + g = 20 by rw [ByteArray.size_append, dgB_size]; omega)
      have Hql := Lib.hid (show q ≤ n - 1 by omega)
      have ea : (dgB (d : Int)).size = 1 := rfl
      generalize dgB (d : Int) = D at *
      have Hb := Lib.hid hb
      have hadd : ¬ 9223372036854775807 < 1 + T.size := by omega
      clear hT hb hn hx hd hd0 hq0
      go_wp2
      go_roundw
      case rel => exact ⟨g, q, D ++ T, by first | rfl | go_num, rfl, Hq.out, Hlt.out, Hsz.out, by have := Hql.out; omega, Hb.out.alloc Hb.out.size _⟩
      case measure => have := Hql.out; simp [intOf]; omega
    · have : n = 0 := by omega
      subst this
      rw [mtD_zero, List.nil_append] at hT
      have HT := Lib.hid (show (⟨L.toArray⟩ : ByteArray) = T by rw [hT])
      have hadd : ¬ 9223372036854775807 < 1 + T.size := by omega
      clear hT
      go_wp2
      go_ret
      exact ⟨by rw [HT.out]; rfl, hb⟩

set_option maxHeartbeats 1000000 in
theorem c_eqStringS_same (A B : Option Addr) (c d : Nat) (xs : List ByteArray) (w : World) (hx : RdSt w A xs) (hy : RdSt w B xs) (lx : xs.length ≤ 9223372036854775807) :
    Calls Tryz.prog 13 #[.slice A xs.length c, .slice B xs.length d] w fun e w' => e = .returned (.bool true) ∧ Below w.heap.size w w' := by
  go_enter Tryz.func13, Tryz.ntmps13
  go_wp2
  go_loopw [5] (fun i wr => ∃ k : Nat, k ≤ xs.length ∧ i = .int .i64 k ∧ Below w.heap.size w wr) (fun i _ => xs.length - (intOf i).toNat)
  case atStart => exact ⟨0, Nat.zero_le _, rfl, Below.refl _ _⟩
  case round =>
    obtain ⟨k, hk, rfl, hb⟩ := hrel
    by_cases hlt : k < xs.length
    · obtain ⟨bk, off, rfl, hbk, hc⟩ := hx.at_ hlt
      obtain ⟨bj, oj, rfl, hbj, hd⟩ := hy.at_ hlt
      have g1 := (hb.cell (p := ⟨bk, _, none⟩) hbk).trans (hc k hlt)
      have g3 := (hb.cell (p := ⟨bj, _, none⟩) hbj).trans (hd k hlt)
      have Hb := Lib.hid hb
      generalize xs[k] = s at *
      clear hc hx hd hy hb
      go_wp2
      go_quiet (fail)
      go_wp2
      go_roundw
      case rel => exact ⟨k + 1, by omega, by go_num, Hb.out.trans ⟨rfl, rfl, rfl, Nat.le_refl _, fun _ _ => rfl⟩⟩
      case measure => simp [intOf]; omega
    · go_wp2
      go_ret
      exact ⟨rfl, hb⟩

set_option maxHeartbeats 1000000 in
theorem c_heldStringS (A : Option Addr) (c n : Nat) (q : Int) (w : World) (hr : RdSt w A (mkS q n)) (h0 : 0 ≤ q) (h1 : q + n ≤ 9223372036854775807) :
    Calls Tryz.prog 17 #[.slice A n c, .int .i64 q] w fun e w' => e = .returned (.int .i64 (q + n)) ∧ Below w.heap.size w w' := by
  go_enter Tryz.func17, Tryz.ntmps17
  go_wp2
  go_loopw [1, 5] (fun p i wr => ∃ k : Nat, k ≤ n ∧ i = .int .i64 k ∧ p = .int .i64 (q + (k : Int)) ∧ Below w.heap.size w wr) (fun _ i _ => n - (intOf i).toNat)
  case atStart => exact ⟨0, Nat.zero_le _, rfl, by go_num, Below.refl _ _⟩
  case round =>
    obtain ⟨k, hk, rfl, rfl, hb⟩ := hrel
    by_cases hlt : k < n
    · obtain ⟨bk, off, rfl, hbk, hc⟩ := hr.at_ (k := k) (by rw [mkS_length]; exact hlt)
      have hc := hc k (by rw [mkS_length]; exact hlt)
      rw [mkS_get] at hc
      have g1 := keepc hb hc
      have conM := Lib.hid (fun W => c_markText (q + (k : Int)) W (by omega))
      generalize mtV (q + (k : Int)) = T at *
      have Hb := Lib.hid hb
      clear hr hc hb
      go_wp2_with fail
      go_region_held3 (fun w' => w'.cell? ⟨bk, off + k, none⟩ = some (.string T)) (first | exact z1 | exact g1 | go_keep) (first | (go_at_call 45; refine (conM.out _).mono ?_; rintro e w1 ⟨rfl, h1⟩; have z1 := keepc h1 (gdH _ g1); have hb1 := bstep Hb.out.drew h1))
      go_wp2
      go_roundw
      case rel => exact ⟨k + 1, by omega, by go_num, by go_num, hb1⟩
      case measure => simp [intOf]; omega
    · have : k = n := by omega
      subst this
      go_wp2
      go_ret
      exact ⟨rfl, hb⟩

set_option maxHeartbeats 1000000 in
theorem c_markStringS (A : Option Addr) (c base : Nat) (xs : List ByteArray) (q : Int) (w : World) (hr : w.ownsRow base 9 1 (.slice A xs.length c) xs.length (cellsSt xs)) (h0 : 0 ≤ q) (h1 : q + xs.length ≤ 9223372036854775807) :
    Calls Tryz.prog 16 #[.slice A xs.length c, .int .i64 q] w fun e w' => e = .returned (.int .i64 (q + xs.length)) ∧
      w'.ownsRow base 9 1 (.slice A xs.length c) xs.length (cellsSt (mkS q xs.length)) ∧ w.grownBy w' (Value.slice A xs.length c).ownBlock := by
  go_enter Tryz.func16, Tryz.ntmps16
  go_wp2
  go_loopw [1, 5] (fun p i wr => ∃ k : Nat, k ≤ xs.length ∧ i = .int .i64 k ∧ p = .int .i64 (q + (k : Int)) ∧ wr.ownsRow base 9 1 (.slice A xs.length c) xs.length (cellsSt (mkSt q k xs)) ∧ w.grownBy wr (Value.slice A xs.length c).ownBlock) (fun _ i _ => xs.length - (intOf i).toNat)
  case atStart => exact ⟨0, Nat.zero_le _, rfl, by go_num, by rw [mkSt_zero]; exact hr, World.grownBy.refl _ _⟩
  case round =>
    obtain ⟨k, hk, rfl, rfl, hown, hg⟩ := hrel
    by_cases hlt : k < xs.length
    · have hown' := hown
      obtain ⟨_, ⟨hv, hn⟩ | ⟨g, cap, cur, hv, _⟩⟩ := hown'
      · omega
      injection hv with e1 e2 e3
      subst e1
      have Hg := Lib.hid hg
      have Ho := Lib.hid hown
      have f1 := hown.frozenAt k
      have hcg : (cellsSt (mkSt q k xs))[k]? = some (.string ((mkSt q k xs)[k]'(by rw [mkSt_length q hk]; exact hlt))) := by
        simp [cellsSt, mkSt_length q hk, hlt]
      have x1 := (hown.cellAt k (by omega)).trans hcg
      have conM := Lib.hid (fun W => c_markText (q + (k : Int)) W (by omega))
      have hstep := Lib.hid (mkSt_step q hlt)
      generalize mtV (q + (k : Int)) = T at *
      clear hg hown hcg hr e3 e2
      go_wp2_with (go_at_call 45; refine (conM.out _).mono ?_; rintro e w1 ⟨rfl, h1⟩; have y1 := keepc h1 x1; have k1 := (h1.frozen (p := ⟨g, k, none⟩) (block_lt x1)).trans f1)
      go_roundw
      case rel =>
        refine ⟨k + 1, by omega, by go_num, by go_num, ?_, grown_set (grown_trans Hg.out (grown_of_below _ h1)) _ _⟩
        rw [← hstep.out]
        exact ((own_keep Ho.out h1).stored _ _).1
      case measure => simp [intOf]; omega
    · have : k = xs.length := by omega
      subst this
      go_wp2
      go_ret
      rw [mkSt_all] at hown
      exact ⟨rfl, hown, hg⟩

theorem Tryz.info_text : (Tryz.prog.info? 9).map (fun i => (i.zero, i.size, i.bytes)) = some (some (.string ⟨#[]⟩), 1, 16) := by kernel_rfl

def cpSt (k : Nat) (xs : List ByteArray) : List ByteArray := xs.take k ++ List.replicate (xs.length - k) ⟨#[]⟩
theorem cpSt_all (xs : List ByteArray) : cpSt xs.length xs = xs := by simp [cpSt]
theorem cpSt_length {k : Nat} {xs : List ByteArray} (h : k ≤ xs.length) : (cpSt k xs).length = xs.length := by
  simp [cpSt]
  omega
theorem cellsSt_zero (n : Nat) : cellsSt (List.replicate n ⟨#[]⟩) = (madeCells (Value.string ⟨#[]⟩).cells (n * 1)).toList := by
  rw [Nat.mul_one]
  exact (by simp [cellsSt] : cellsSt (List.replicate n ⟨#[]⟩) = List.replicate n (Value.string ⟨#[]⟩)).trans (toList_madeCells_one (.string ⟨#[]⟩) n).symm
theorem cpSt_zero (xs : List ByteArray) : cpSt 0 xs = List.replicate xs.length ⟨#[]⟩ := by simp [cpSt]
theorem cpSt_step {k : Nat} {xs : List ByteArray} (h : k < xs.length) : (cellsSt (cpSt k xs)).set k (.string xs[k]) = cellsSt (cpSt (k + 1) xs) := by
  unfold cpSt cellsSt
  rw [show xs.length - k = (xs.length - (k + 1)) + 1 from by omega, List.replicate_succ, List.map_append, List.map_cons, List.take_succ_eq_append_getElem h, List.map_append, List.map_append]
  rw [List.set_append_right _ _ (by simp; omega)]
  simp [Nat.min_eq_left (Nat.le_of_lt h)]

set_option maxRecDepth 100000 in
set_option maxHeartbeats 2000000 in
theorem c_plTexts (A : Option Addr) (c : Nat) (ms : List Mv) (w : World) (hr : RdE encS 4 w A ms) (hl : ms.length ≤ 1048576) (hm : ∀ m ∈ ms, m.2.2 ≤ 2 ∧ (m.2.2 ≠ 0 → numB m.1 = true ∧ numB m.2.1 = true)) :
    Calls Tryz.prog 34 #[.slice A ms.length c] w (RetSt w (ms.map mvTx)) := by
  obtain ⟨i0, hi, hz0, hz1, hz2⟩ := info_parts Tryz.info_text
  have conT := Lib.hid (fun m (h : m ∈ ms) W => c_plText m.1 m.2.1 m.2.2 (hm m h).1 (hm m h).2 W)
  clear hm
  go_enter Tryz.func34, Tryz.ntmps34
  go_wp2
  go_loopw [3, 8] (fun v i wr => ∃ (k : Nat) (A' : Option Addr) (c' : Nat), k ≤ ms.length ∧ i = .int .i64 k ∧ v = .slice A' ((ms.take k).map mvTx).length c' ∧ wr.ownsRow w.heap.size 9 1 (.slice A' ((ms.take k).map mvTx).length c') ((ms.take k).map mvTx).length (cellsE encW ((ms.take k).map mvTx)) ∧ Below w.heap.size w wr) (fun _ i _ => ms.length - (intOf i).toNat)
  case atStart => exact ⟨0, none, 0, Nat.zero_le _, rfl, rfl, World.ownsRow_nil _ _ _ _, Below.refl _ _⟩
  case round =>
    obtain ⟨k, A', c', hk, rfl, rfl, hown, hb⟩ := hrel
    by_cases hlt : k < ms.length
    · obtain ⟨bm, om, rfl, hbm, hcm⟩ := hr.at_ hlt
      have g0 := keepc hb (hcm k hlt 0 _ rfl)
      have g1 := keepc hb (hcm k hlt 1 _ rfl)
      have g2 := keepc hb (hcm k hlt 2 _ rfl)
      have g3 := keepc hb (hcm k hlt 3 _ rfl)
      rw [Nat.add_zero] at g0
      have hst := Lib.hid (show (ms.take (k + 1)).map mvTx = (ms.take k).map mvTx ++ [mvTx ms[k]] by rw [List.take_succ_eq_append_getElem hlt, List.map_append]; rfl)
      have conT2' := conT.out ms[k] (List.getElem_mem hlt)
      have hxl : ((ms.take k).map mvTx).length ≤ 1048576 := by rw [List.length_map, List.length_take]; omega
      generalize (ms.take k).map mvTx = X at *
      generalize ms[k] = m at *
      rw [show mvT m.1 m.2.1 m.2.2 = mvTx m from rfl] at conT2'
      generalize mvTx m = T at *
      generalize (m.2.2 == 1) = p1 at *
      generalize (m.2.2 == 0) = p0 at *
      have conT2 := Lib.hid conT2'
      have hs := hb.size
      have Ho := Lib.hid hown
      have Hb := Lib.hid hb
      clear hcm conT2' hown hb hr
      go_wp2_with (first | (go_at_call 54; refine (conT2.out _).mono ?_; rintro e w1 ⟨rfl, h1⟩; have hb1 := bstep ((Below.refl wr.heap.size wr).alloc (Nat.le_refl _) _) h1; have ow1 := Lib.hid ((own_keep Ho.out hb1).alloc (.cells #[.string T] 9)); have hs1 := hb1.size) | (at_builtin; refine wp_append_E encW_len encW_one Tryz.underlying27 hi hz0 hz1 hz2 rfl (by decide) (by decide) rfl _ _ rfl w.heap.size _ X rfl ow1.out T w1.heap.size rfl (fun j u hu => by cases j with | zero => cases hu; simp | succ j => cases hu) hxl (by simp; omega) ?_; intro A2 c2 w2 hown2 hg2 hat2))
      go_roundw
      case rel =>
        refine ⟨k + 1, A2, c2, by omega, by go_num, by rw [hst.out, List.length_append]; rfl, by rw [hst.out]; exact hown2, ?_⟩
        exact Below.grown ((bstep Hb.out hb1).alloc (by omega) _) hg2 (by simp; omega) (fun g hg => (Ho.out.lt g hg).1)
      case measure => simp [intOf]; omega
    · have : k = ms.length := by omega
      subst this
      rw [List.take_length, cellsSt_E] at hown
      rw [List.take_length]
      go_wp2
      go_ret
      exact ⟨A', c', rfl, hown, hb⟩

set_option maxRecDepth 100000 in
set_option maxHeartbeats 2000000 in
theorem c_textsOf (A : Option Addr) (c : Nat) (ms : List Mv) (w : World) (hr : RdE encI 3 w A ms) (hl : ms.length ≤ 1048576) (hm : ∀ m ∈ ms, m.2.2 ≤ 2 ∧ (m.2.2 ≠ 0 → numB m.1 = true ∧ numB m.2.1 = true)) :
    Calls Tryz.prog 39 #[.slice A ms.length c] w (RetSt w (ms.map mvTx)) := by
  obtain ⟨i0, hi, hz0, hz1, hz2⟩ := info_parts Tryz.info_text
  have conT := Lib.hid (fun m (h : m ∈ ms) W => c_moveText m.1 m.2.1 m.2.2 (hm m h).1 (hm m h).2 W)
  obtain ⟨xs, hxs⟩ : ∃ xs, xs = ms.map mvTx := ⟨_, rfl⟩
  rw [← hxs]
  have hxl : xs.length = ms.length := by rw [hxs]; simp
  have Hxl := Lib.hid hxl
  have Hxk := Lib.hid (fun k (hk : k < ms.length) (hk' : k < xs.length) => show xs[k] = mvTx ms[k] by subst hxs; simp)
  clear hm hxs
  unfold RetSt
  rw [hxl]
  clear hxl
  go_enter Tryz.func39, Tryz.ntmps39
  go_wp2_with (refine wpList_make_full _ rfl _ _ _ rfl w.heap.size 9 i0 _ 1 Tryz.underlying27 hi hz0 hz1 .i64 .i64 _ _ ms.length rfl rfl rfl rfl (by rw [hz2]; omega) (by unfold maxLen; omega) (Nat.le_refl _) ?_; intro w1 hown1 hg1)
  rw [← cellsSt_zero, ← Hxl.out, ← cpSt_zero] at hown1
  rw [Hxl.out] at hown1
  have hsz : w.heap.size < w1.heap.size := (hown1.lt w.heap.size rfl).2
  have hb1 : Below w.heap.size w w1 := below_of_grown hg1 (Nat.le_refl _) (by simp)
  clear hg1 hz0 hz1 hz2 hi
  go_loopw [11] (fun i wr => ∃ k : Nat, k ≤ ms.length ∧ i = .int .i64 k ∧ wr.ownsRow w.heap.size 9 1 (.slice (some ⟨w.heap.size, 0, none⟩) ms.length ms.length) ms.length (cellsSt (cpSt k xs)) ∧ Below w.heap.size w wr) (fun i _ => ms.length - (intOf i).toNat)
  case atStart => exact ⟨0, Nat.zero_le _, rfl, hown1, hb1⟩
  case round =>
    clear hown1 hb1 hsz
    obtain ⟨k, hk, rfl, hown, hb⟩ := hrel
    by_cases hlt : k < ms.length
    · obtain ⟨bm, om, rfl, hbm, hcm⟩ := hr.at_ hlt
      have g0 := keepc hb (hcm k hlt 0 _ rfl)
      have g1 := keepc hb (hcm k hlt 1 _ rfl)
      have g2 := keepc hb (hcm k hlt 2 _ rfl)
      rw [Nat.add_zero] at g0
      have hlx : k < xs.length := by rw [Hxl.out]; exact hlt
      have hst := cpSt_step hlx
      rw [Hxk.out k hlt hlx] at hst
      have hcl : (cpSt k xs).length = ms.length := by rw [cpSt_length (by omega), Hxl.out]
      have hcg : (cellsSt (cpSt k xs))[k]? = some (.string ((cpSt k xs)[k]'(by rw [hcl]; exact hlt))) := by simp [cellsSt, hcl, hlt]
      have x1 := (hown.cellAt k (by omega)).trans hcg
      have f1 := hown.frozenAt k
      have hsz := (hown.lt w.heap.size rfl).2
      generalize (cpSt k xs)[k]'(by rw [hcl]; exact hlt) = old at x1
      have conT2' := conT.out ms[k] (List.getElem_mem hlt)
      generalize ms[k] = m at *
      rw [show mvT m.1 m.2.1 m.2.2 = mvTx m from rfl] at conT2'
      generalize mvTx m = T at *
      generalize endS m.2.2 = es at *
      have conT2 := Lib.hid conT2'
      have Hst := Lib.hid hst
      have Ho := Lib.hid hown
      have Hb := Lib.hid hb
      have hs := hb.size
      clear hcm conT2' hown hb hr hst hcg hcl hlx
      go_wp2_with (go_at_call 47; refine (conT2.out _).mono ?_; rintro e w2 ⟨rfl, h2⟩; have hb2 := bstep ((Below.refl wr.heap.size wr).alloc (Nat.le_refl _) _) h2; have y1 := keepc hb2 x1; have k1 := (hb2.frozen (p := ⟨w.heap.size, k, none⟩) hsz).trans f1)
      go_roundw
      case rel =>
        refine ⟨k + 1, by omega, by go_num, ?_, (bstep Hb.out hb2).setCell (Nat.le_refl _) _⟩
        rw [← Hst.out]
        exact ((own_keep Ho.out hb2).stored _ _).1
      case measure => simp [intOf]; omega
    · have : k = ms.length := by omega
      subst this
      rw [← Hxl.out, cpSt_all, Hxl.out] at hown
      go_wp2
      go_ret
      exact ⟨_, _, rfl, hown, hb⟩

end Go.Proofs.YtgjdpiooocpmhabGreatDoor

/- The text of a spread: the specification's and the program's. -/
import Derived.Test.YtnnkdnleencofacDoorLyR
import Derived.Test.YtnnkdnleencofacDoorBrdT
import Derived.Test.YtnnkdnleencofacDoorShelf
import Derived.Laws.IdiomStrings
namespace Go.Proofs.YtnnkdnleencofacDoor
open Go.RowKit
set_option linter.unusedVariables false

/-- A number's digit. -/
def dgU (x : Int) : UInt8 := UInt8.ofNat (48 + x.toNat)
theorem dgU_nat {x : Int} (h : numB x = true) : ((dgU x).toNat : Int) = 48 + x := by
  simp only [numB, Bool.and_eq_true, decide_eq_true_eq] at h
  unfold dgU
  rw [UInt8.toNat_ofNat', Nat.mod_eq_of_lt (by omega)]
  omega
def dgB (x : Int) : ByteArray := ⟨[dgU x].toArray⟩
theorem dgB_size (x : Int) : (dgB x).size = 1 := rfl
def playU (p : Int × Int × Int) : List UInt8 := [dgU p.1, dgU p.2.1, 64, dgU p.2.2]
def playS (p : Int × Int × Int) : ByteArray := ((dgB p.1 ++ dgB p.2.1) ++ ⟨#[64]⟩) ++ dgB p.2.2
def joinPU (ps : List (Int × Int × Int)) : List UInt8 := Lib.join (ps.map playU) [44]
def joinPB (ps : List (Int × Int × Int)) : ByteArray := ⟨(joinPU ps).toArray⟩
def textPB (ps : List (Int × Int × Int)) : ByteArray := if ps = [] then ⟨#[45]⟩ else joinPB ps
def textPV (ps : List (Int × Int × Int)) : ByteArray := if okL ps then textPB ps else ⟨#[]⟩
theorem okL_play {ps : List (Int × Int × Int)} (h : okL ps = true) {k : Nat} (hk : k < ps.length) : numB ps[k].1 = true ∧ numB ps[k].2.1 = true ∧ numB ps[k].2.2 = true := by
  have h1 : brdL (ps.take (k + 1)) ≠ none := fun e => by
    have := brdL_stop e
    unfold okL at h
    rw [this] at h
    cases h
  rw [brdL_take hk] at h1
  cases hb : brdL (ps.take k) with
  | none => rw [hb] at h1; exact absurd rfl h1
  | some B =>
    rw [hb] at h1
    have hf : fitsL B ps[k] = true := by
      cases hf : fitsL B ps[k]
      · exact absurd (by simp [stepL, hf]) h1
      · rfl
    have h4 : B.arms.length ≤ 4 := by have := (brdD_ok (ps.take k)).four; rw [(brdD_some hb).1] at this; omega
    unfold fitsL at hf
    simp only [Bool.and_eq_true] at hf
    obtain ⟨⟨⟨_, hg⟩, _⟩, ha⟩ := hf
    simp only [goodB, Bool.and_eq_true] at hg
    refine ⟨hg.1, hg.2.1, ?_⟩
    unfold numB
    split at ha
    · simp only [decide_eq_true_eq] at ha
      rw [ha]
      rfl
    · simp only [Bool.and_eq_true, decide_eq_true_eq] at ha ⊢
      omega

theorem joinPU_one (p : Int × Int × Int) : joinPU [p] = playU p := by
  show Lib.join [playU p] [44] = playU p
  exact Lib.join_one _ _
theorem joinPU_snoc (ps : List (Int × Int × Int)) (t : Int × Int × Int) (h : ps ≠ []) : joinPU (ps ++ [t]) = joinPU ps ++ [44] ++ playU t := by
  cases ps with
  | nil => exact absurd rfl h
  | cons s r =>
    show Lib.join (playU s :: (r ++ [t]).map playU) [44] = Lib.join (playU s :: r.map playU) [44] ++ [44] ++ playU t
    rw [Lib.join_cons, Lib.join_cons]
    simp [Lib.joinTail]
theorem joinPU_length (ps : List (Int × Int × Int)) : (joinPU ps).length ≤ 5 * ps.length := by
  cases ps with
  | nil => exact Nat.zero_le _
  | cons s r =>
    show (Lib.join (playU s :: r.map playU) [44]).length ≤ _
    rw [Lib.join_length]
    have e : ∀ l : List (Int × Int × Int), Lib.lens (l.map playU) = 4 * l.length := fun l => by
      induction l with
      | nil => rfl
      | cons a l ih => simp [Lib.lens, playU] at ih ⊢; omega
    have := e (s :: r)
    simp only [List.map_cons, List.length_cons, List.length_map] at this ⊢
    rw [this]
    simp
    omega
theorem joinPB_nil : joinPB [] = ⟨#[]⟩ := rfl
theorem joinPB_size (ps : List (Int × Int × Int)) : (joinPB ps).size ≤ 5 * ps.length := by
  have e : (joinPB ps).size = (joinPU ps).length := by show (joinPU ps).toArray.size = _; simp
  rw [e]
  exact joinPU_length ps
theorem playS_eq (p : Int × Int × Int) : playS p = ⟨(playU p).toArray⟩ := by
  apply ByteArray.ext
  unfold playS
  rw [ByteArray.data_append, ByteArray.data_append, ByteArray.data_append]
  simp [playU, dgB]
theorem joinPB_step {ps : List (Int × Int × Int)} {k : Nat} (h : k < ps.length) (h0 : 0 < k) : joinPB (ps.take (k + 1)) = (joinPB (ps.take k) ++ ⟨#[44]⟩) ++ playS ps[k] := by
  apply ByteArray.ext
  rw [playS_eq, ByteArray.data_append, ByteArray.data_append]
  show (joinPU (ps.take (k + 1))).toArray = ((joinPU (ps.take k)).toArray ++ #[44]) ++ _
  rw [List.take_succ_eq_append_getElem h, joinPU_snoc _ _ (by intro e; have := congrArg List.length e; simp only [List.length_take, List.length_nil] at this; omega)]
  simp
theorem joinPB_step0 {ps : List (Int × Int × Int)} {k : Nat} (h : k < ps.length) (h0 : k = 0) : joinPB (ps.take (k + 1)) = joinPB (ps.take k) ++ playS ps[k] := by
  subst h0
  have e : ps.take 1 = [ps[0]] := by rw [List.take_succ_eq_append_getElem h]; rfl
  show joinPB (ps.take 1) = joinPB [] ++ _
  rw [e, joinPB_nil, playS_eq]
  apply ByteArray.ext
  rw [ByteArray.data_append]
  show (joinPU [ps[0]]).toArray = _
  rw [joinPU_one]
  simp
theorem gdH {w : World} (a : Addr) {v : Value} (h : w.cell? a = some v) : w.drew.cell? a = some v := h
theorem dg_u8 {x : Int} (h0 : 0 ≤ x) (h1 : x ≤ 255) : IntKind.u8.wrap x = x := by
  have : IntKind.u8.wrap x = x % 256 := rfl
  omega
theorem addr_addH (g j : Nat) : (⟨g, 0, none⟩ : Addr).add j = ⟨g, j, none⟩ := by
  unfold Addr.add
  split <;> simp_all
set_option maxRecDepth 100000 in
set_option maxHeartbeats 1000000 in
theorem c_l1NumD (x : Int) (hx : numB x = true) (w : World) :
    Calls Tryd.prog 10 #[.int .i64 x] w fun e w' => e = .returned (.string (dgB x)) ∧ Below w.heap.size w w' := by
  have hd := dgU_nat hx
  have hx2 : 0 ≤ x ∧ x ≤ 9 := by simpa [numB] using hx
  have hrun : (convert 49 9 (.slice (some ⟨w.heap.size, 0, none⟩) 1 1)).run Tryd.prog (w.alloc (.cells #[.int .u8 (48 + x)] 5)) = .ok (.string (dgB x)) (w.alloc (.cells #[.int .u8 (48 + x)] 5)) :=
    run_convert_bytes_back _ 49 9 5 ⟨w.heap.size, 0, none⟩ 1 [dgU x] Tryd.underlying49 Tryd.underlying5 Tryd.underlying9 (fun j hj => by
      obtain rfl : j = 0 := by simpa using hj
      rw [addr_addH]
      simp [hd])
  have i1 := hx2.1
  have i2 := hx2.2
  have iw : IntKind.u8.wrap (48 + x) = 48 + x := dg_u8 (by omega) (by omega)
  clear hd hx hx2
  go_enter Tryd.func10, Tryd.ntmps10
  go_wp2
  go_ret
  exact ⟨rfl, by go_grown⟩
theorem nat_num {n : Int} (h : numB n = true) : ∃ m : Nat, m ≤ 9 ∧ n = m := by
  simp only [numB, Bool.and_eq_true, decide_eq_true_eq] at h
  exact ⟨n.toNat, by omega, by omega⟩
theorem dec_dg {i : Nat} (h : i ≤ 9) : (⟨(Lib.decDigits i).toArray⟩ : ByteArray) = dgB (i : Int) := by
  rw [Lib.decDigits, dif_pos (by omega)]
  rfl
theorem c_itoaD (x : Int) (hx : numB x = true) (w : World) :
    Calls Tryd.prog 14 #[.int .i64 x] w fun e w' => e = .returned (.string (dgB x)) ∧ w' = w := by
  obtain ⟨i, hi, rfl⟩ := nat_num hx
  rw [← dec_dg hi]
  exact Tryd.strconv_Itoa_small i (by omega) w

def cellsS (us : List ByteArray) : List Value := us.map Value.string
def copyS (k : Nat) (xs : List ByteArray) : List ByteArray := xs.take k ++ List.replicate (xs.length - k) ⟨#[]⟩
theorem copyS_all (xs : List ByteArray) : copyS xs.length xs = xs := by simp [copyS]
theorem copyS_length {k : Nat} {xs : List ByteArray} (h : k ≤ xs.length) : (copyS k xs).length = xs.length := by
  simp [copyS]
  omega
theorem cellsS_zero (n : Nat) : cellsS (List.replicate n ⟨#[]⟩) = (madeCells (Value.string ⟨#[]⟩).cells (n * 1)).toList := by
  rw [Nat.mul_one]
  exact (by simp [cellsS] : cellsS (List.replicate n ⟨#[]⟩) = List.replicate n (Value.string ⟨#[]⟩)).trans (toList_madeCells_one (.string ⟨#[]⟩) n).symm
theorem cellsS_step {k : Nat} {xs : List ByteArray} (h : k < xs.length) : (cellsS (copyS k xs)).set k (.string xs[k]) = cellsS (copyS (k + 1) xs) := by
  unfold copyS cellsS
  rw [show xs.length - k = (xs.length - (k + 1)) + 1 from by omega, List.replicate_succ, List.map_append, List.map_cons, List.take_succ_eq_append_getElem h, List.map_append, List.map_append]
  rw [List.set_append_right _ _ (by simp; omega)]
  simp [Nat.min_eq_left (Nat.le_of_lt h)]
theorem join_playS (ps : List (Int × Int × Int)) : (⟨(Lib.join ((ps.map playS).map (·.data.toList)) (⟨#[44]⟩ : ByteArray).data.toList).toArray⟩ : ByteArray) = joinPB ps := by
  have e : (ps.map playS).map (·.data.toList) = ps.map playU := by
    rw [List.map_map]
    apply List.map_congr_left
    intro p _
    show (playS p).data.toList = playU p
    rw [playS_eq]
  rw [e]
  rfl
theorem own_drewS {w : World} {base e size n : Nat} {v : Value} {cs : List Value} (h : w.ownsRow base e size v n cs) : w.drew.ownsRow base e size v n cs := h
theorem farS {w : World} {g a i j : Nat} {u v : Value} (h : g ≠ a) (hc : w.cell? ⟨g, j, none⟩ = some v) : (w.setCell ⟨a, i, none⟩ u).cell? ⟨g, j, none⟩ = some v :=
  (World.cell?_setCell_other _ _ _ _ (fun e => h (by injection e with e; exact e.symm))).trans hc
theorem Tryd.info_str : (Tryd.prog.info? 9).map (fun i => (i.zero, i.size, i.bytes)) = some (some (.string ⟨#[]⟩), 1, 16) := by kernel_rfl

set_option maxRecDepth 100000 in
set_option maxHeartbeats 1000000 in
theorem c_tileText (p q : Int) (hp : numB p = true) (hq : numB q = true) (w : World) :
    Calls Tryd.prog 13 #[.agg #[.int .i64 p, .int .i64 q]] w fun e w' => e = .returned (.string (dgB p ++ dgB q)) ∧ Below w.heap.size w w' := by
  have conP := Lib.hid (fun W => c_itoaD p hp W)
  have conQ := Lib.hid (fun W => c_itoaD q hq W)
  have sp := dgB_size p
  have sq := dgB_size q
  generalize dgB p = P at *
  generalize dgB q = R at *
  have x0 : (w.alloc (.cells #[.int .i64 p, .int .i64 q] 34)).cell? ⟨w.heap.size, 0, none⟩ = some (.int .i64 p) := by simp
  have x1 : (w.alloc (.cells #[.int .i64 p, .int .i64 q] 34)).cell? ⟨w.heap.size, 1, none⟩ = some (.int .i64 q) := by simp
  have hb0 : Below w.heap.size w (w.alloc (.cells #[.int .i64 p, .int .i64 q] 34)) := by go_grown
  have hadd : ¬ 9223372036854775807 < 1 + 1 := by omega
  clear hp hq
  go_enter Tryd.func13, Tryd.ntmps13
  go_wp2_with fail
  obtain ⟨wv, hwv⟩ : ∃ wv, wv = w.alloc (.cells #[.int .i64 p, .int .i64 q] 34) := ⟨_, rfl⟩
  rw [← hwv] at x0 x1 hb0 ⊢
  obtain ⟨G, hG⟩ : ∃ G, G = w.heap.size := ⟨_, rfl⟩
  rw [← hG] at x0 x1 ⊢
  have HG := Lib.hid hG
  clear hwv hG
  refine wp_region_held_drew (S := fun w' => w'.cell? ⟨G, 0, none⟩ = some (.int .i64 p) ∧ w'.cell? ⟨G, 1, none⟩ = some (.int .i64 q)) (by kernel_rfl) ⟨x0, x1⟩ (fun hH0 => ?_)
  refine reg_take 0 rfl (by kernel_rfl) (by kernel_rfl) (by kernel_rfl) (fun _ _ _ h => h) (by rfl) (fun w _ => by first | (go_simp; done) | (go_simp; with_reducible rfl)) (by assumption) ?_
  try simp only [Act.put, List.setIfInBounds_toArray, List.set_cons_zero, List.set_cons_succ, List.getElem_toArray, List.getElem_cons_zero]
  refine reg_take 1 rfl (by kernel_rfl) (by kernel_rfl) (by kernel_rfl) (fun _ _ _ h => h) (by rfl) (fun w hSw => by (try dsimp only at hSw); first | (go_simp; done) | (go_simp; with_reducible rfl)) (by assumption) ?_
  try simp only [Act.put, List.setIfInBounds_toArray, List.set_cons_zero, List.set_cons_succ, List.getElem_toArray, List.getElem_cons_zero, List.getElem_cons_succ]
  refine reg_take 3 rfl (by kernel_rfl) (by kernel_rfl) (by kernel_rfl) (fun _ _ _ h => h) (by rfl) (fun w _ => by first | (go_simp; done) | (go_simp; with_reducible rfl)) (by assumption) ?_
  try simp only [Act.put, List.setIfInBounds_toArray, List.set_cons_zero, List.set_cons_succ, List.getElem_toArray, List.getElem_cons_zero, List.getElem_cons_succ]
  refine reg_take 4 rfl (by kernel_rfl) (by kernel_rfl) (by kernel_rfl) (fun _ _ _ h => h) (by rfl) (fun w hSw => by (try dsimp only at hSw); first | (go_simp; done) | (go_simp; with_reducible rfl)) (by assumption) ?_
  try simp only [Act.put, List.setIfInBounds_toArray, List.set_cons_zero, List.set_cons_succ, List.getElem_toArray, List.getElem_cons_zero, List.getElem_cons_succ]
  refine wpAnyH_ready (rs := [2]) (by kernel_rfl) (by simp) ?_
  refine AllReadyH.cons (i := 2) rfl (fun K hK => ?_) AllReadyH.nil
  go_simp
  go_at_call 14
  refine (conP.out _).mono ?_
  rintro e w2 ⟨rfl, rfl⟩
  refine hK.out _ _ ⟨x0, x1⟩ (fun hH2 => ?_)
  clear hK K
  try simp only [Act.put, List.setIfInBounds_toArray, List.set_cons_zero, List.set_cons_succ, List.getElem_toArray, List.getElem_cons_zero, List.getElem_cons_succ]
  refine wpAnyH_ready (rs := [5]) (by kernel_rfl) (by simp) ?_
  refine AllReadyH.cons (i := 5) rfl (fun K hK => ?_) AllReadyH.nil
  go_simp
  go_at_call 14
  refine (conQ.out _).mono ?_
  rintro e w3 ⟨rfl, rfl⟩
  refine hK.out _ _ ⟨x0, x1⟩ (fun hH5 => ?_)
  clear hK K
  try simp only [Act.put, List.setIfInBounds_toArray, List.set_cons_zero, List.set_cons_succ, List.getElem_toArray, List.getElem_cons_zero, List.getElem_cons_succ]
  refine reg_take 6 rfl (by kernel_rfl) (by kernel_rfl) (by kernel_rfl) (fun _ _ _ h => h) (by rfl) (fun w _ => by first | (go_simp; done) | (go_simp; with_reducible rfl)) (by assumption) ?_
  try simp only [Act.put, List.setIfInBounds_toArray, List.set_cons_zero, List.set_cons_succ, List.getElem_toArray, List.getElem_cons_zero, List.getElem_cons_succ]
  refine reg_take 7 rfl (by kernel_rfl) (by kernel_rfl) (by kernel_rfl) (fun _ _ _ h => h) (by rfl) (fun w _ => by first | (go_simp; done) | (go_simp; with_reducible rfl)) (by assumption) ?_
  try simp only [Act.put, List.setIfInBounds_toArray, List.set_cons_zero, List.set_cons_succ, List.getElem_toArray, List.getElem_cons_zero, List.getElem_cons_succ]
  refine wpAnyH_done (by kernel_rfl) ?_ _
  go_wp2
  go_ret
  exact ⟨rfl, hb0.drew⟩

set_option maxRecDepth 100000 in
set_option maxHeartbeats 2000000 in
theorem c_specSpreadText (A : Option Addr) (c : Nat) (ps : List (Int × Int × Int)) (w : World) (hr : RdP w A ps) (hl : ps.length ≤ 1048576) :
    Calls Tryd.prog 5 #[.slice A ps.length c] w fun e w' => e = .returned (.tuple #[.string (textPV ps), .bool (okL ps)]) ∧ Below w.heap.size w w' := by
  have con := Lib.hid (c_lyRead A c ps w hr hl)
  cases hc : okL ps
  · have e1 : textPV ps = ⟨#[]⟩ := by simp [textPV, hc]
    rw [e1]
    rw [hc] at con
    clear e1 hc hr
    go_enter Tryd.func5, Tryd.ntmps5
    go_wp2_with (go_at_call 9; refine con.out.mono ?_; rintro e w1 ⟨g, S, rfl, _, hb1⟩)
    go_ret2
    exact ⟨rfl, hb1⟩
  · have e1 : textPV ps = textPB ps := by simp [textPV, hc]
    rw [e1]
    rw [hc] at con
    clear e1
    by_cases h00 : ps.length = 0
    · have hcc : ((ps.length : Int) == 0) = true := by rw [h00]; rfl
      have e1 : textPB ps = ⟨#[45]⟩ := if_pos (List.length_eq_zero_iff.1 h00)
      rw [e1]
      clear e1 h00 hr hc
      go_enter Tryd.func5, Tryd.ntmps5
      go_wp2_with (go_at_call 9; refine con.out.mono ?_; rintro e w1 ⟨g, S, rfl, _, hb1⟩)
      go_ret2
      exact ⟨rfl, hb1⟩
    · have hcc : ((ps.length : Int) == 0) = false := beq_eq_false_iff_ne.2 (by omega)
      have e1 : textPB ps = joinPB (ps.take ps.length) := by rw [List.take_length]; exact if_neg (fun h => h00 (by rw [h]; rfl))
      rw [e1]
      have hpos : 0 < ps.length := by omega
      have h28 := okL_len hc
      have hnum := Lib.hid (fun k (hk : k < ps.length) => okL_play hc hk)
      clear e1 h00 hc
      go_enter Tryd.func5, Tryd.ntmps5
      go_wp2_with (go_at_call 9; refine con.out.mono ?_; rintro e w1 ⟨g, S, rfl, hS, hb1⟩; clear hS)
      have hr1 := hr.below hb1
      have Hb1 := Lib.hid hb1
      clear hr con hb1
      go_loopw [6, 21] (fun v i wr => ∃ k : Nat, k ≤ ps.length ∧ i = .int .i64 k ∧ v = .string (joinPB (ps.take k)) ∧ Below w1.heap.size w1 wr) (fun _ i _ => ps.length - (intOf i).toNat)
      case atStart => exact ⟨0, Nat.zero_le _, rfl, rfl, Below.refl _ _⟩
      case round =>
        obtain ⟨k, hk, rfl, rfl, hb⟩ := hrel
        by_cases hlt : k < ps.length
        · obtain ⟨bk, off, rfl, hbk, hcc⟩ := hr1.at_ hlt
          have g1 := (hb.cell (p := ⟨bk, _, none⟩) hbk).trans (hcc k hlt).1
          have g2 := (hb.cell (p := ⟨bk, _, none⟩) hbk).trans (hcc k hlt).2.1
          have g3 := (hb.cell (p := ⟨bk, _, none⟩) hbk).trans (hcc k hlt).2.2
          obtain ⟨hp, hq, hr3⟩ := hnum.out k hlt
          have hsz : (joinPB (ps.take k)).size ≤ 140 := Nat.le_trans (joinPB_size _) (by simp; omega)
          have hz := hb.size
          have Hb := Lib.hid hb
          by_cases hk0 : 0 < k
          · have hki : (0 : Int) < (k : Int) := by omega
            have Hst := Lib.hid (joinPB_step hlt hk0)
            have hst2 : (joinPB (ps.take k) ++ ⟨#[44]⟩).size ≤ 141 := by rw [ByteArray.size_append]; show _ + 1 ≤ 141; omega
            unfold playS at Hst
            generalize ps[k].1 = p at *
            generalize ps[k].2.1 = q at *
            generalize ps[k].2.2 = r at *
            generalize joinPB (ps.take k) = T at *
            have conP := Lib.hid (fun W => c_l1NumD p hp W)
            have conQ := Lib.hid (fun W => c_l1NumD q hq W)
            have conR := Lib.hid (fun W => c_l1NumD r hr3 W)
            have sp := dgB_size p
            have sq := dgB_size q
            have sr := dgB_size r
            generalize dgB p = P at *
            generalize dgB q = Q at *
            generalize dgB r = R at *
            have x0 : (wr.alloc (.cells #[.int .i64 p, .int .i64 q, .int .i64 r] 36)).cell? ⟨wr.heap.size, 0, none⟩ = some (.int .i64 p) := by simp
            have x1 : (wr.alloc (.cells #[.int .i64 p, .int .i64 q, .int .i64 r] 36)).cell? ⟨wr.heap.size, 1, none⟩ = some (.int .i64 q) := by simp
            have x2 : (wr.alloc (.cells #[.int .i64 p, .int .i64 q, .int .i64 r] 36)).cell? ⟨wr.heap.size, 2, none⟩ = some (.int .i64 r) := by simp
            have s64 : (⟨#[64]⟩ : ByteArray).size = 1 := rfl
            have s2 : (P ++ Q).size = 2 := by rw [ByteArray.size_append]; omega
            have s3 : (P ++ Q ++ ⟨#[64]⟩).size = 3 := by rw [ByteArray.size_append]; omega
            have s4 : (P ++ Q ++ ⟨#[64]⟩ ++ R).size = 4 := by rw [ByteArray.size_append]; omega
            have hadd : ¬ 9223372036854775807 < T.size + 1 + 4 := by omega
            have hadd0 : ¬ 9223372036854775807 < T.size + 4 := by omega
            clear hcc hb hp hq hr3 hk0
            go_wp2_with fail
            obtain ⟨wv, hwv⟩ : ∃ wv, wv = (wr.alloc (.cells #[.int .i64 p, .int .i64 q, .int .i64 r] 36)) := ⟨_, rfl⟩
            have hbv : Below w1.heap.size w1 wv := by rw [hwv]; exact Hb.out.alloc hz _
            rw [← hwv] at x0 x1 x2 ⊢
            obtain ⟨G, hG⟩ : ∃ G, G = wr.heap.size := ⟨_, rfl⟩
            rw [← hG] at x0 x1 x2 ⊢
            have Hbv := Lib.hid hbv
            clear hwv hG hbv g1 g2 g3
            refine wp_region_held_drew (S := fun w' => w'.cell? ⟨G, 0, none⟩ = some (.int .i64 p) ∧ w'.cell? ⟨G, 1, none⟩ = some (.int .i64 q) ∧ w'.cell? ⟨G, 2, none⟩ = some (.int .i64 r)) (by kernel_rfl) ⟨x0, x1, x2⟩ (fun hH0 => ?_)
            refine reg_take 0 rfl (by kernel_rfl) (by kernel_rfl) (by kernel_rfl) (fun _ _ _ h => h) (by rfl) (fun w _ => by first | (go_simp; done) | (go_simp; with_reducible rfl)) (by assumption) ?_
            try simp only [Act.put, List.setIfInBounds_toArray, List.set_cons_zero, List.set_cons_succ, List.getElem_toArray, List.getElem_cons_zero]
            refine reg_take 1 rfl (by kernel_rfl) (by kernel_rfl) (by kernel_rfl) (fun _ _ _ h => h) (by rfl) (fun w _ => by first | (go_simp; done) | (go_simp; with_reducible rfl)) (by assumption) ?_
            try simp only [Act.put, List.setIfInBounds_toArray, List.set_cons_zero, List.set_cons_succ, List.getElem_toArray, List.getElem_cons_zero, List.getElem_cons_succ]
            refine reg_take 2 rfl (by kernel_rfl) (by kernel_rfl) (by kernel_rfl) (fun _ _ _ h => h) (by rfl) (fun w _ => by first | (go_simp; done) | (go_simp; with_reducible rfl)) (by assumption) ?_
            try simp only [Act.put, List.setIfInBounds_toArray, List.set_cons_zero, List.set_cons_succ, List.getElem_toArray, List.getElem_cons_zero, List.getElem_cons_succ]
            refine reg_take 3 rfl (by kernel_rfl) (by kernel_rfl) (by kernel_rfl) (fun _ _ _ h => h) (by rfl) (fun w hSw => by (try dsimp only at hSw); first | (go_simp; done) | (go_simp; with_reducible rfl)) (by assumption) ?_
            try simp only [Act.put, List.setIfInBounds_toArray, List.set_cons_zero, List.set_cons_succ, List.getElem_toArray, List.getElem_cons_zero, List.getElem_cons_succ]
            refine reg_take 5 rfl (by kernel_rfl) (by kernel_rfl) (by kernel_rfl) (fun _ _ _ h => h) (by rfl) (fun w _ => by first | (go_simp; done) | (go_simp; with_reducible rfl)) (by assumption) ?_
            try simp only [Act.put, List.setIfInBounds_toArray, List.set_cons_zero, List.set_cons_succ, List.getElem_toArray, List.getElem_cons_zero, List.getElem_cons_succ]
            refine reg_take 6 rfl (by kernel_rfl) (by kernel_rfl) (by kernel_rfl) (fun _ _ _ h => h) (by rfl) (fun w _ => by first | (go_simp; done) | (go_simp; with_reducible rfl)) (by assumption) ?_
            try simp only [Act.put, List.setIfInBounds_toArray, List.set_cons_zero, List.set_cons_succ, List.getElem_toArray, List.getElem_cons_zero, List.getElem_cons_succ]
            refine reg_take 7 rfl (by kernel_rfl) (by kernel_rfl) (by kernel_rfl) (fun _ _ _ h => h) (by rfl) (fun w hSw => by (try dsimp only at hSw); first | (go_simp; done) | (go_simp; with_reducible rfl)) (by assumption) ?_
            try simp only [Act.put, List.setIfInBounds_toArray, List.set_cons_zero, List.set_cons_succ, List.getElem_toArray, List.getElem_cons_zero, List.getElem_cons_succ]
            refine reg_take 11 rfl (by kernel_rfl) (by kernel_rfl) (by kernel_rfl) (fun _ _ _ h => h) (by rfl) (fun w _ => by first | (go_simp; done) | (go_simp; with_reducible rfl)) (by assumption) ?_
            try simp only [Act.put, List.setIfInBounds_toArray, List.set_cons_zero, List.set_cons_succ, List.getElem_toArray, List.getElem_cons_zero, List.getElem_cons_succ]
            refine reg_take 12 rfl (by kernel_rfl) (by kernel_rfl) (by kernel_rfl) (fun _ _ _ h => h) (by rfl) (fun w hSw => by (try dsimp only at hSw); first | (go_simp; done) | (go_simp; with_reducible rfl)) (by assumption) ?_
            try simp only [Act.put, List.setIfInBounds_toArray, List.set_cons_zero, List.set_cons_succ, List.getElem_toArray, List.getElem_cons_zero, List.getElem_cons_succ]
            refine wpAnyH_ready (rs := [4]) (by kernel_rfl) (by simp) ?_
            refine AllReadyH.cons (i := 4) rfl (fun K hK => ?_) AllReadyH.nil
            go_simp
            go_at_call 10
            refine (conP.out _).mono ?_
            rintro e w2 ⟨rfl, hb2⟩
            have y0 := keepc hb2 (gdH _ x0)
            have y1 := keepc hb2 (gdH _ x1)
            have y2 := keepc hb2 (gdH _ x2)
            have hbb2 := bstep Hbv.out.drew hb2
            refine hK.out _ _ ⟨y0, y1, y2⟩ (fun hH4 => ?_)
            clear hK K
            try simp only [Act.put, List.setIfInBounds_toArray, List.set_cons_zero, List.set_cons_succ, List.getElem_toArray, List.getElem_cons_zero, List.getElem_cons_succ]
            refine wpAnyH_ready (rs := [8]) (by kernel_rfl) (by simp) ?_
            refine AllReadyH.cons (i := 8) rfl (fun K hK => ?_) AllReadyH.nil
            go_simp
            go_at_call 10
            refine (conQ.out _).mono ?_
            rintro e w3 ⟨rfl, hb3⟩
            have z0 := keepc hb3 y0
            have z1 := keepc hb3 y1
            have z2 := keepc hb3 y2
            have hbb3 := bstep hbb2 hb3
            refine hK.out _ _ ⟨z0, z1, z2⟩ (fun hH8 => ?_)
            clear hK K
            try simp only [Act.put, List.setIfInBounds_toArray, List.set_cons_zero, List.set_cons_succ, List.getElem_toArray, List.getElem_cons_zero, List.getElem_cons_succ]
            refine reg_take 9 rfl (by kernel_rfl) (by kernel_rfl) (by kernel_rfl) (fun _ _ _ h => h) (by rfl) (fun w _ => by first | (go_simp; done) | (go_simp; with_reducible rfl)) (by assumption) ?_
            try simp only [Act.put, List.setIfInBounds_toArray, List.set_cons_zero, List.set_cons_succ, List.getElem_toArray, List.getElem_cons_zero, List.getElem_cons_succ]
            refine reg_take 10 rfl (by kernel_rfl) (by kernel_rfl) (by kernel_rfl) (fun _ _ _ h => h) (by rfl) (fun w _ => by first | (go_simp; done) | (go_simp; with_reducible rfl)) (by assumption) ?_
            try simp only [Act.put, List.setIfInBounds_toArray, List.set_cons_zero, List.set_cons_succ, List.getElem_toArray, List.getElem_cons_zero, List.getElem_cons_succ]
            refine wpAnyH_ready (rs := [13]) (by kernel_rfl) (by simp) ?_
            refine AllReadyH.cons (i := 13) rfl (fun K hK => ?_) AllReadyH.nil
            go_simp
            go_at_call 10
            refine (conR.out _).mono ?_
            rintro e w4 ⟨rfl, hb4⟩
            have u0 := keepc hb4 z0
            have u1 := keepc hb4 z1
            have u2 := keepc hb4 z2
            have hbb4 := bstep hbb3 hb4
            refine hK.out _ _ ⟨u0, u1, u2⟩ (fun hH13 => ?_)
            clear hK K
            try simp only [Act.put, List.setIfInBounds_toArray, List.set_cons_zero, List.set_cons_succ, List.getElem_toArray, List.getElem_cons_zero, List.getElem_cons_succ]
            refine reg_take 14 rfl (by kernel_rfl) (by kernel_rfl) (by kernel_rfl) (fun _ _ _ h => h) (by rfl) (fun w _ => by first | (go_simp; done) | (go_simp; with_reducible rfl)) (by assumption) ?_
            try simp only [Act.put, List.setIfInBounds_toArray, List.set_cons_zero, List.set_cons_succ, List.getElem_toArray, List.getElem_cons_zero, List.getElem_cons_succ]
            refine reg_take 15 rfl (by kernel_rfl) (by kernel_rfl) (by kernel_rfl) (fun _ _ _ h => h) (by rfl) (fun w _ => by first | (go_simp; done) | (go_simp; with_reducible rfl)) (by assumption) ?_
            try simp only [Act.put, List.setIfInBounds_toArray, List.set_cons_zero, List.set_cons_succ, List.getElem_toArray, List.getElem_cons_zero, List.getElem_cons_succ]
            refine reg_take 16 rfl (by kernel_rfl) (by kernel_rfl) (by kernel_rfl) (fun _ _ _ h => h) (by rfl) (fun w _ => by first | (go_simp; done) | (go_simp; with_reducible rfl)) (by assumption) ?_
            try simp only [Act.put, List.setIfInBounds_toArray, List.set_cons_zero, List.set_cons_succ, List.getElem_toArray, List.getElem_cons_zero, List.getElem_cons_succ]
            refine wpAnyH_done (by kernel_rfl) ?_ _
            go_wp2
            go_roundw
            case rel => exact ⟨k + 1, by omega, by go_num, by rw [Hst.out], hbb4⟩
            case measure => simp [intOf]; omega
          · have hki : ¬ (0 : Int) < (k : Int) := by omega
            have Hst := Lib.hid (joinPB_step0 hlt (show k = 0 by omega))
            unfold playS at Hst
            generalize ps[k].1 = p at *
            generalize ps[k].2.1 = q at *
            generalize ps[k].2.2 = r at *
            generalize joinPB (ps.take k) = T at *
            have conP := Lib.hid (fun W => c_l1NumD p hp W)
            have conQ := Lib.hid (fun W => c_l1NumD q hq W)
            have conR := Lib.hid (fun W => c_l1NumD r hr3 W)
            have sp := dgB_size p
            have sq := dgB_size q
            have sr := dgB_size r
            generalize dgB p = P at *
            generalize dgB q = Q at *
            generalize dgB r = R at *
            have x0 : (wr.alloc (.cells #[.int .i64 p, .int .i64 q, .int .i64 r] 36)).cell? ⟨wr.heap.size, 0, none⟩ = some (.int .i64 p) := by simp
            have x1 : (wr.alloc (.cells #[.int .i64 p, .int .i64 q, .int .i64 r] 36)).cell? ⟨wr.heap.size, 1, none⟩ = some (.int .i64 q) := by simp
            have x2 : (wr.alloc (.cells #[.int .i64 p, .int .i64 q, .int .i64 r] 36)).cell? ⟨wr.heap.size, 2, none⟩ = some (.int .i64 r) := by simp
            have s64 : (⟨#[64]⟩ : ByteArray).size = 1 := rfl
            have s2 : (P ++ Q).size = 2 := by rw [ByteArray.size_append]; omega
            have s3 : (P ++ Q ++ ⟨#[64]⟩).size = 3 := by rw [ByteArray.size_append]; omega
            have s4 : (P ++ Q ++ ⟨#[64]⟩ ++ R).size = 4 := by rw [ByteArray.size_append]; omega
            have hadd : ¬ 9223372036854775807 < T.size + 1 + 4 := by omega
            have hadd0 : ¬ 9223372036854775807 < T.size + 4 := by omega
            clear hcc hb hp hq hr3
            go_wp2_with fail
            obtain ⟨wv, hwv⟩ : ∃ wv, wv = (wr.alloc (.cells #[.int .i64 p, .int .i64 q, .int .i64 r] 36)) := ⟨_, rfl⟩
            have hbv : Below w1.heap.size w1 wv := by rw [hwv]; exact Hb.out.alloc hz _
            rw [← hwv] at x0 x1 x2 ⊢
            obtain ⟨G, hG⟩ : ∃ G, G = wr.heap.size := ⟨_, rfl⟩
            rw [← hG] at x0 x1 x2 ⊢
            have Hbv := Lib.hid hbv
            clear hwv hG hbv g1 g2 g3
            refine wp_region_held_drew (S := fun w' => w'.cell? ⟨G, 0, none⟩ = some (.int .i64 p) ∧ w'.cell? ⟨G, 1, none⟩ = some (.int .i64 q) ∧ w'.cell? ⟨G, 2, none⟩ = some (.int .i64 r)) (by kernel_rfl) ⟨x0, x1, x2⟩ (fun hH0 => ?_)
            refine reg_take 0 rfl (by kernel_rfl) (by kernel_rfl) (by kernel_rfl) (fun _ _ _ h => h) (by rfl) (fun w _ => by first | (go_simp; done) | (go_simp; with_reducible rfl)) (by assumption) ?_
            try simp only [Act.put, List.setIfInBounds_toArray, List.set_cons_zero, List.set_cons_succ, List.getElem_toArray, List.getElem_cons_zero]
            refine reg_take 1 rfl (by kernel_rfl) (by kernel_rfl) (by kernel_rfl) (fun _ _ _ h => h) (by rfl) (fun w _ => by first | (go_simp; done) | (go_simp; with_reducible rfl)) (by assumption) ?_
            try simp only [Act.put, List.setIfInBounds_toArray, List.set_cons_zero, List.set_cons_succ, List.getElem_toArray, List.getElem_cons_zero, List.getElem_cons_succ]
            refine reg_take 2 rfl (by kernel_rfl) (by kernel_rfl) (by kernel_rfl) (fun _ _ _ h => h) (by rfl) (fun w _ => by first | (go_simp; done) | (go_simp; with_reducible rfl)) (by assumption) ?_
            try simp only [Act.put, List.setIfInBounds_toArray, List.set_cons_zero, List.set_cons_succ, List.getElem_toArray, List.getElem_cons_zero, List.getElem_cons_succ]
            refine reg_take 3 rfl (by kernel_rfl) (by kernel_rfl) (by kernel_rfl) (fun _ _ _ h => h) (by rfl) (fun w hSw => by (try dsimp only at hSw); first | (go_simp; done) | (go_simp; with_reducible rfl)) (by assumption) ?_
            try simp only [Act.put, List.setIfInBounds_toArray, List.set_cons_zero, List.set_cons_succ, List.getElem_toArray, List.getElem_cons_zero, List.getElem_cons_succ]
            refine reg_take 5 rfl (by kernel_rfl) (by kernel_rfl) (by kernel_rfl) (fun _ _ _ h => h) (by rfl) (fun w _ => by first | (go_simp; done) | (go_simp; with_reducible rfl)) (by assumption) ?_
            try simp only [Act.put, List.setIfInBounds_toArray, List.set_cons_zero, List.set_cons_succ, List.getElem_toArray, List.getElem_cons_zero, List.getElem_cons_succ]
            refine reg_take 6 rfl (by kernel_rfl) (by kernel_rfl) (by kernel_rfl) (fun _ _ _ h => h) (by rfl) (fun w _ => by first | (go_simp; done) | (go_simp; with_reducible rfl)) (by assumption) ?_
            try simp only [Act.put, List.setIfInBounds_toArray, List.set_cons_zero, List.set_cons_succ, List.getElem_toArray, List.getElem_cons_zero, List.getElem_cons_succ]
            refine reg_take 7 rfl (by kernel_rfl) (by kernel_rfl) (by kernel_rfl) (fun _ _ _ h => h) (by rfl) (fun w hSw => by (try dsimp only at hSw); first | (go_simp; done) | (go_simp; with_reducible rfl)) (by assumption) ?_
            try simp only [Act.put, List.setIfInBounds_toArray, List.set_cons_zero, List.set_cons_succ, List.getElem_toArray, List.getElem_cons_zero, List.getElem_cons_succ]
            refine reg_take 11 rfl (by kernel_rfl) (by kernel_rfl) (by kernel_rfl) (fun _ _ _ h => h) (by rfl) (fun w _ => by first | (go_simp; done) | (go_simp; with_reducible rfl)) (by assumption) ?_
            try simp only [Act.put, List.setIfInBounds_toArray, List.set_cons_zero, List.set_cons_succ, List.getElem_toArray, List.getElem_cons_zero, List.getElem_cons_succ]
            refine reg_take 12 rfl (by kernel_rfl) (by kernel_rfl) (by kernel_rfl) (fun _ _ _ h => h) (by rfl) (fun w hSw => by (try dsimp only at hSw); first | (go_simp; done) | (go_simp; with_reducible rfl)) (by assumption) ?_
            try simp only [Act.put, List.setIfInBounds_toArray, List.set_cons_zero, List.set_cons_succ, List.getElem_toArray, List.getElem_cons_zero, List.getElem_cons_succ]
            refine wpAnyH_ready (rs := [4]) (by kernel_rfl) (by simp) ?_
            refine AllReadyH.cons (i := 4) rfl (fun K hK => ?_) AllReadyH.nil
            go_simp
            go_at_call 10
            refine (conP.out _).mono ?_
            rintro e w2 ⟨rfl, hb2⟩
            have y0 := keepc hb2 (gdH _ x0)
            have y1 := keepc hb2 (gdH _ x1)
            have y2 := keepc hb2 (gdH _ x2)
            have hbb2 := bstep Hbv.out.drew hb2
            refine hK.out _ _ ⟨y0, y1, y2⟩ (fun hH4 => ?_)
            clear hK K
            try simp only [Act.put, List.setIfInBounds_toArray, List.set_cons_zero, List.set_cons_succ, List.getElem_toArray, List.getElem_cons_zero, List.getElem_cons_succ]
            refine wpAnyH_ready (rs := [8]) (by kernel_rfl) (by simp) ?_
            refine AllReadyH.cons (i := 8) rfl (fun K hK => ?_) AllReadyH.nil
            go_simp
            go_at_call 10
            refine (conQ.out _).mono ?_
            rintro e w3 ⟨rfl, hb3⟩
            have z0 := keepc hb3 y0
            have z1 := keepc hb3 y1
            have z2 := keepc hb3 y2
            have hbb3 := bstep hbb2 hb3
            refine hK.out _ _ ⟨z0, z1, z2⟩ (fun hH8 => ?_)
            clear hK K
            try simp only [Act.put, List.setIfInBounds_toArray, List.set_cons_zero, List.set_cons_succ, List.getElem_toArray, List.getElem_cons_zero, List.getElem_cons_succ]
            refine reg_take 9 rfl (by kernel_rfl) (by kernel_rfl) (by kernel_rfl) (fun _ _ _ h => h) (by rfl) (fun w _ => by first | (go_simp; done) | (go_simp; with_reducible rfl)) (by assumption) ?_
            try simp only [Act.put, List.setIfInBounds_toArray, List.set_cons_zero, List.set_cons_succ, List.getElem_toArray, List.getElem_cons_zero, List.getElem_cons_succ]
            refine reg_take 10 rfl (by kernel_rfl) (by kernel_rfl) (by kernel_rfl) (fun _ _ _ h => h) (by rfl) (fun w _ => by first | (go_simp; done) | (go_simp; with_reducible rfl)) (by assumption) ?_
            try simp only [Act.put, List.setIfInBounds_toArray, List.set_cons_zero, List.set_cons_succ, List.getElem_toArray, List.getElem_cons_zero, List.getElem_cons_succ]
            refine wpAnyH_ready (rs := [13]) (by kernel_rfl) (by simp) ?_
            refine AllReadyH.cons (i := 13) rfl (fun K hK => ?_) AllReadyH.nil
            go_simp
            go_at_call 10
            refine (conR.out _).mono ?_
            rintro e w4 ⟨rfl, hb4⟩
            have u0 := keepc hb4 z0
            have u1 := keepc hb4 z1
            have u2 := keepc hb4 z2
            have hbb4 := bstep hbb3 hb4
            refine hK.out _ _ ⟨u0, u1, u2⟩ (fun hH13 => ?_)
            clear hK K
            try simp only [Act.put, List.setIfInBounds_toArray, List.set_cons_zero, List.set_cons_succ, List.getElem_toArray, List.getElem_cons_zero, List.getElem_cons_succ]
            refine reg_take 14 rfl (by kernel_rfl) (by kernel_rfl) (by kernel_rfl) (fun _ _ _ h => h) (by rfl) (fun w _ => by first | (go_simp; done) | (go_simp; with_reducible rfl)) (by assumption) ?_
            try simp only [Act.put, List.setIfInBounds_toArray, List.set_cons_zero, List.set_cons_succ, List.getElem_toArray, List.getElem_cons_zero, List.getElem_cons_succ]
            refine reg_take 15 rfl (by kernel_rfl) (by kernel_rfl) (by kernel_rfl) (fun _ _ _ h => h) (by rfl) (fun w _ => by first | (go_simp; done) | (go_simp; with_reducible rfl)) (by assumption) ?_
            try simp only [Act.put, List.setIfInBounds_toArray, List.set_cons_zero, List.set_cons_succ, List.getElem_toArray, List.getElem_cons_zero, List.getElem_cons_succ]
            refine reg_take 16 rfl (by kernel_rfl) (by kernel_rfl) (by kernel_rfl) (fun _ _ _ h => h) (by rfl) (fun w _ => by first | (go_simp; done) | (go_simp; with_reducible rfl)) (by assumption) ?_
            try simp only [Act.put, List.setIfInBounds_toArray, List.set_cons_zero, List.set_cons_succ, List.getElem_toArray, List.getElem_cons_zero, List.getElem_cons_succ]
            refine wpAnyH_done (by kernel_rfl) ?_ _
            go_wp2
            go_roundw
            case rel => exact ⟨k + 1, by omega, by go_num, by rw [Hst.out], hbb4⟩
            case measure => simp [intOf]; omega
        · obtain rfl : k = ps.length := by omega
          go_wp2
          go_ret2
          exact ⟨rfl, bstep Hb1.out hb⟩

set_option maxRecDepth 100000 in
set_option maxHeartbeats 2000000 in
theorem c_implSpreadText (A : Option Addr) (c : Nat) (ps : List (Int × Int × Int)) (w : World) (hr : RdP w A ps) (hl : ps.length ≤ 1048576) :
    Calls Tryd.prog 7 #[.slice A ps.length c] w fun e w' => e = .returned (.tuple #[.string (textPV ps), .bool (okL ps)]) ∧ Below w.heap.size w w' := by
  have con := Lib.hid (c_implIsSpread A c ps w hr hl)
  cases hc : okL ps
  · have e1 : textPV ps = ⟨#[]⟩ := by simp [textPV, hc]
    rw [e1]
    rw [hc] at con
    clear e1 hc hr
    go_enter Tryd.func7, Tryd.ntmps7
    go_wp2_with (go_at_call 12; refine con.out.mono ?_; rintro e w1 ⟨rfl, hb1⟩)
    go_ret2
    exact ⟨rfl, hb1⟩
  · have e1 : textPV ps = textPB ps := by simp [textPV, hc]
    rw [e1]
    rw [hc] at con
    clear e1
    by_cases h00 : ps.length = 0
    · have hcc : ((ps.length : Int) == 0) = true := by rw [h00]; rfl
      have e1 : textPB ps = ⟨#[45]⟩ := if_pos (List.length_eq_zero_iff.1 h00)
      rw [e1]
      clear e1 h00 hr hc
      go_enter Tryd.func7, Tryd.ntmps7
      go_wp2_with (go_at_call 12; refine con.out.mono ?_; rintro e w1 ⟨rfl, hb1⟩)
      go_ret2
      exact ⟨rfl, hb1⟩
    · have hcc : ((ps.length : Int) == 0) = false := beq_eq_false_iff_ne.2 (by omega)
      have e1 : textPB ps = joinPB ps := if_neg (fun h => h00 (by rw [h]; rfl))
      rw [e1]
      have hx28 := okL_len hc
      have hnum := Lib.hid (fun k (hk : k < ps.length) => okL_play hc hk)
      have hjl := joinPU_length ps
      have hje := join_playS ps
      obtain ⟨ss, hss⟩ : ∃ ss : List ByteArray, ss = ps.map playS := ⟨_, rfl⟩
      have hsl : ss.length = ps.length := by rw [hss]; simp
      have hsk := Lib.hid (fun k (hk : k < ps.length) (hk' : k < ss.length) => (show ss[k] = ((dgB ps[k].1 ++ dgB ps[k].2.1) ++ ⟨#[64]⟩) ++ dgB ps[k].2.2 from by subst hss; simp [playS]))
      rw [← hss] at hje
      have Hje := Lib.hid hje
      have Hsl := Lib.hid hsl
      have hjl2 : (Lib.join (ss.map (·.data.toList)) (⟨#[44]⟩ : ByteArray).data.toList).length ≤ 140737488355328 := by
        have e := congrArg ByteArray.size hje
        have e2 := joinPB_size ps
        have e3 : (⟨(Lib.join (ss.map (·.data.toList)) (⟨#[44]⟩ : ByteArray).data.toList).toArray⟩ : ByteArray).size = (Lib.join (ss.map (·.data.toList)) (⟨#[44]⟩ : ByteArray).data.toList).length := by
          show (Lib.join (ss.map (·.data.toList)) (⟨#[44]⟩ : ByteArray).data.toList).toArray.size = _
          simp only [List.size_toArray]
        omega
      obtain ⟨i0, hi, hz0, hz1, hz2⟩ := info_parts Tryd.info_str
      clear e1 hc hss hsl hje hjl h00
      go_enter Tryd.func7, Tryd.ntmps7
      go_wp2_with (first | (go_at_call 12; refine con.out.mono ?_; rintro e w1 ⟨rfl, hb1⟩) | (refine wpList_make_full _ rfl _ _ _ rfl w1.heap.size 9 i0 _ 1 Tryd.underlying43 hi hz0 hz1 .i64 .i64 _ _ ps.length rfl rfl rfl rfl (by rw [hz2]; omega) (by unfold maxLen; omega) (Nat.le_refl _) ?_; intro w2 hown2 hg2))
      have hown : w2.ownsRow w1.heap.size 9 1 (.slice (some ⟨w1.heap.size, 0, none⟩) ps.length ps.length) ps.length (cellsS (copyS 0 ss)) := by
        have e : copyS 0 ss = List.replicate ps.length ⟨#[]⟩ := by simp [copyS, Hsl.out]
        rw [e, cellsS_zero]
        exact hown2
      have hb2 : Below w1.heap.size w1 w2 := below_of_grown hg2 (Nat.le_refl _) (by simp)
      have hbb : Below w.heap.size w w2 := bstep hb1 hb2
      have hsz := hb1.size
      clear hown2 hg2 hb2 hb1 hz0 hz1 hz2 hi con
      go_loopw [18] (fun i wr => ∃ k : Nat, k ≤ ps.length ∧ i = .int .i64 k ∧ wr.ownsRow w1.heap.size 9 1 (.slice (some ⟨w1.heap.size, 0, none⟩) ps.length ps.length) ps.length (cellsS (copyS k ss)) ∧ Below w.heap.size w wr) (fun i _ => ps.length - (intOf i).toNat)
      case atStart => exact ⟨0, Nat.zero_le _, rfl, hown, hbb⟩
      case round =>
        clear hown hbb
        obtain ⟨k, hk, rfl, hown, hb⟩ := hrel
        by_cases hlt : k < ps.length
        · obtain ⟨bk, off, rfl, hbk, hcc2⟩ := hr.at_ hlt
          have g1 := (hb.cell (p := ⟨bk, _, none⟩) hbk).trans (hcc2 k hlt).1
          have g2 := (hb.cell (p := ⟨bk, _, none⟩) hbk).trans (hcc2 k hlt).2.1
          have g3 := (hb.cell (p := ⟨bk, _, none⟩) hbk).trans (hcc2 k hlt).2.2
          obtain ⟨hp, hq, hr3⟩ := hnum.out k hlt
          have hl2 : k < ss.length := by rw [Hsl.out]; exact hlt
          have hst := cellsS_step (xs := ss) hl2
          rw [hsk.out k hlt hl2] at hst
          generalize ps[k].1 = p at *
          generalize ps[k].2.1 = q at *
          generalize ps[k].2.2 = r at *
          have conT := Lib.hid (fun W => c_tileText p q hp hq W)
          have conR := Lib.hid (fun W => c_itoaD r hr3 W)
          have sp := dgB_size p
          have sq := dgB_size q
          have sr := dgB_size r
          have s64 : (⟨#[64]⟩ : ByteArray).size = 1 := rfl
          have s2 : (dgB p ++ dgB q).size = 2 := by rw [ByteArray.size_append]; omega
          generalize dgB p ++ dgB q = P at *
          generalize dgB r = R at *
          have s3 : (P ++ ⟨#[64]⟩).size = 3 := by rw [ByteArray.size_append]; omega
          have s4 : (P ++ ⟨#[64]⟩ ++ R).size = 4 := by rw [ByteArray.size_append]; omega
          have hcg : (cellsS (copyS k ss))[k]? = some (.string ((copyS k ss)[k]'(by rw [copyS_length (by omega)]; exact hl2))) := by
            simp [cellsS, copyS_length (show k ≤ ss.length by omega), hl2]
          generalize (copyS k ss)[k]'(by rw [copyS_length (by omega)]; exact hl2) = Z at hcg
          have Hst := Lib.hid hst
          have n1 : wr.heap.size ≠ w1.heap.size := by have := (hown.lt w1.heap.size rfl).2; omega
          have Hb := Lib.hid (hb.alloc (o := .cells #[.int .i64 p, .int .i64 q, .int .i64 r] 36) hb.size)
          have Ho := Lib.hid (hown.alloc (.cells #[.int .i64 p, .int .i64 q, .int .i64 r] 36))
          have x0 : (wr.alloc (.cells #[.int .i64 p, .int .i64 q, .int .i64 r] 36)).cell? ⟨wr.heap.size, 0, none⟩ = some (.int .i64 p) := by simp
          have x1 : (wr.alloc (.cells #[.int .i64 p, .int .i64 q, .int .i64 r] 36)).cell? ⟨wr.heap.size, 1, none⟩ = some (.int .i64 q) := by simp
          have x2 : (wr.alloc (.cells #[.int .i64 p, .int .i64 q, .int .i64 r] 36)).cell? ⟨wr.heap.size, 2, none⟩ = some (.int .i64 r) := by simp
          have x3 := (Ho.out.cellAt k (by omega)).trans hcg
          have f1 := Ho.out.frozenAt k
          have j0 : (0 : Int) ≤ (k : Int) := by omega
          have j1 : (k : Int) < (ps.length : Int) := by omega
          clear hcc2 hcg hown hb hst hr hp hq hr3
          go_wp2_with fail
          obtain ⟨wv, hwv⟩ : ∃ wv, wv = wr.alloc (.cells #[.int .i64 p, .int .i64 q, .int .i64 r] 36) := ⟨_, rfl⟩
          rw [← hwv] at x0 x1 x2 x3 f1 Hb Ho ⊢
          obtain ⟨G, hG⟩ : ∃ G, G = wr.heap.size := ⟨_, rfl⟩
          rw [← hG] at x0 x1 x2 n1 ⊢
          have hzx : w1.heap.size < wv.drew.heap.size := block_lt x3
          clear hwv hG g1 g2 g3
          refine wp_region_held_drew (S := fun w' => w'.cell? ⟨G, 0, none⟩ = some (.int .i64 p) ∧ w'.cell? ⟨G, 1, none⟩ = some (.int .i64 q) ∧ w'.cell? ⟨G, 2, none⟩ = some (.int .i64 r)) (by kernel_rfl) ⟨x0, x1, x2⟩ (fun hH0 => ?_)
          refine reg_take 0 rfl (by kernel_rfl) (by kernel_rfl) (by kernel_rfl) (fun _ _ _ h => h) (by rfl) (fun w _ => by first | (go_simp; done) | (go_simp; with_reducible rfl)) (by assumption) ?_
          try simp only [Act.put, List.setIfInBounds_toArray, List.set_cons_zero, List.set_cons_succ, List.getElem_toArray, List.getElem_cons_zero]
          refine reg_take 1 rfl (by kernel_rfl) (by kernel_rfl) (by kernel_rfl) (fun _ _ _ h => h) (by rfl) (fun w _ => by first | (go_simp; done) | (go_simp; with_reducible rfl)) (by assumption) ?_
          try simp only [Act.put, List.setIfInBounds_toArray, List.set_cons_zero, List.set_cons_succ, List.getElem_toArray, List.getElem_cons_zero, List.getElem_cons_succ]
          refine reg_take 2 rfl (by kernel_rfl) (by kernel_rfl) (by kernel_rfl) (fun _ _ _ h => h) (by rfl) (fun w _ => by first | (go_simp; done) | (go_simp; with_reducible rfl)) (by assumption) ?_
          try simp only [Act.put, List.setIfInBounds_toArray, List.set_cons_zero, List.set_cons_succ, List.getElem_toArray, List.getElem_cons_zero, List.getElem_cons_succ]
          refine reg_take 3 rfl (by kernel_rfl) (by kernel_rfl) (by kernel_rfl) (fun _ _ _ h => h) (by rfl) (fun w hSw => by (try dsimp only at hSw); first | (go_simp; done) | (go_simp; with_reducible rfl)) (by assumption) ?_
          try simp only [Act.put, List.setIfInBounds_toArray, List.set_cons_zero, List.set_cons_succ, List.getElem_toArray, List.getElem_cons_zero, List.getElem_cons_succ]
          refine reg_take 6 rfl (by kernel_rfl) (by kernel_rfl) (by kernel_rfl) (fun _ _ _ h => h) (by rfl) (fun w _ => by first | (go_simp; done) | (go_simp; with_reducible rfl)) (by assumption) ?_
          try simp only [Act.put, List.setIfInBounds_toArray, List.set_cons_zero, List.set_cons_succ, List.getElem_toArray, List.getElem_cons_zero, List.getElem_cons_succ]
          refine reg_take 7 rfl (by kernel_rfl) (by kernel_rfl) (by kernel_rfl) (fun _ _ _ h => h) (by rfl) (fun w hSw => by (try dsimp only at hSw); first | (go_simp; done) | (go_simp; with_reducible rfl)) (by assumption) ?_
          try simp only [Act.put, List.setIfInBounds_toArray, List.set_cons_zero, List.set_cons_succ, List.getElem_toArray, List.getElem_cons_zero, List.getElem_cons_succ]
          refine wpAnyH_ready (rs := [4]) (by kernel_rfl) (by simp) ?_
          refine AllReadyH.cons (i := 4) rfl (fun K hK => ?_) AllReadyH.nil
          go_simp
          go_at_call 13
          refine (conT.out _).mono ?_
          rintro e w4 ⟨rfl, hb4⟩
          have y0 := keepc hb4 (gdH _ x0)
          have y1 := keepc hb4 (gdH _ x1)
          have y2 := keepc hb4 (gdH _ x2)
          have y3 := keepc hb4 (gdH _ x3)
          have f3 := (hb4.frozen (p := ⟨w1.heap.size, k, none⟩) hzx).trans f1
          have Ho4 := Lib.hid (own_keep (own_drewS Ho.out) hb4)
          have Hb4 := Lib.hid (bstep Hb.out.drew hb4)
          refine hK.out _ _ ⟨y0, y1, y2⟩ (fun hH4 => ?_)
          clear hK K
          try simp only [Act.put, List.setIfInBounds_toArray, List.set_cons_zero, List.set_cons_succ, List.getElem_toArray, List.getElem_cons_zero, List.getElem_cons_succ]
          refine reg_take 5 rfl (by kernel_rfl) (by kernel_rfl) (by kernel_rfl) (fun _ _ _ h => h) (by rfl) (fun w _ => by first | (go_simp; done) | (go_simp; with_reducible rfl)) (by assumption) ?_
          try simp only [Act.put, List.setIfInBounds_toArray, List.set_cons_zero, List.set_cons_succ, List.getElem_toArray, List.getElem_cons_zero, List.getElem_cons_succ]
          refine wpAnyH_ready (rs := [8]) (by kernel_rfl) (by simp) ?_
          refine AllReadyH.cons (i := 8) rfl (fun K hK => ?_) AllReadyH.nil
          go_simp
          go_at_call 14
          refine (conR.out _).mono ?_
          rintro e w5 ⟨rfl, rfl⟩
          refine hK.out _ _ ⟨y0, y1, y2⟩ (fun hH8 => ?_)
          clear hK K
          try simp only [Act.put, List.setIfInBounds_toArray, List.set_cons_zero, List.set_cons_succ, List.getElem_toArray, List.getElem_cons_zero, List.getElem_cons_succ]
          refine reg_take 9 rfl (by kernel_rfl) (by kernel_rfl) (by kernel_rfl) (fun _ _ _ h => h) (by rfl) (fun w _ => by first | (go_simp; done) | (go_simp; with_reducible rfl)) (by assumption) ?_
          try simp only [Act.put, List.setIfInBounds_toArray, List.set_cons_zero, List.set_cons_succ, List.getElem_toArray, List.getElem_cons_zero, List.getElem_cons_succ]
          refine reg_take 10 rfl (by kernel_rfl) (by kernel_rfl) (by kernel_rfl) (fun _ _ _ h => h) (by rfl) (fun w _ => by first | (go_simp; done) | (go_simp; with_reducible rfl)) (by assumption) ?_
          try simp only [Act.put, List.setIfInBounds_toArray, List.set_cons_zero, List.set_cons_succ, List.getElem_toArray, List.getElem_cons_zero, List.getElem_cons_succ]
          refine wpAnyH_ready (rs := [11]) (by kernel_rfl) (by simp) ?_
          refine AllReadyH.cons (i := 11) rfl (fun K hK => ?_) AllReadyH.nil
          go_simp
          skip
          refine hK.out _ _ ⟨farS n1 y0, farS n1 y1, farS n1 y2⟩ (fun hH11 => ?_)
          clear hK K
          try simp only [Act.put, List.setIfInBounds_toArray, List.set_cons_zero, List.set_cons_succ, List.getElem_toArray, List.getElem_cons_zero, List.getElem_cons_succ]
          refine wpAnyH_done (by kernel_rfl) ?_ _
          go_wp2
          go_roundw
          case rel =>
            refine ⟨k + 1, by omega, by go_num, ?_, Below.setCell Hb4.out (p := ⟨w1.heap.size, k, none⟩) hsz _⟩
            rw [← Hst.out]
            exact (Ho4.out.stored _ _).1
          case measure => simp [intOf]; omega
        · obtain rfl : k = ps.length := by omega
          have e2 : copyS ps.length ss = ss := by rw [← Hsl.out]; exact copyS_all ss
          rw [e2] at hown
          have conJ := Tryd.strings_Join w1.heap.size 0 ps.length ss ⟨#[44]⟩ wr (fun j x hj => by
            obtain ⟨hj1, hj2⟩ := List.getElem?_eq_some_iff.1 hj
            have hj3 : j < ps.length := by rw [← Hsl.out]; exact hj1
            have e3 : (cellsS ss)[j]? = some (.string x) := by simp [cellsS, hj]
            have := (hown.cellAt j (by omega)).trans e3
            rw [Nat.zero_add]
            exact this) (hown.lt w1.heap.size rfl).2 (by rw [Hsl.out]; omega) (by rw [Hsl.out]; exact Nat.le_refl _) hjl2
          rw [Hsl.out, Hje.out] at conJ
          have ConJ := Lib.hid conJ
          clear conJ hr hown
          go_wp2_with (go_at_call 15; refine ConJ.out.mono ?_; rintro e w5 ⟨rfl, hb5⟩)
          go_ret2
          exact ⟨rfl, bstep hb hb5⟩
end Go.Proofs.YtnnkdnleencofacDoor

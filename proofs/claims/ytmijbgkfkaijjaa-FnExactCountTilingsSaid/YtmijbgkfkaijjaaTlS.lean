/- Layouts: the specification's search, where any tile may be taken. -/
import Derived.Test.YtmijbgkfkaijjaaTlI
import Derived.BigRegion
import Derived.Test.YtmijbgkfkaijjaaRegF
namespace Go.Proofs.Ytmijbgkfkaijjaa
open Go.RowKit
set_option linter.unusedVariables false

/-- The search in memory: its box tb, the letters in block gl. -/
structure TaS (w : World) (tb gl W H n : Nat) (gv : Value) (L : Nat → Nat) (cnt : Nat) : Prop where
  c0 : w.cell? ⟨tb, 0, none⟩ = some (.int .i64 W)
  c1 : w.cell? ⟨tb, 1, none⟩ = some (.int .i64 H)
  c2 : w.cell? ⟨tb, 2, none⟩ = some gv
  c3 : w.cell? ⟨tb, 3, none⟩ = some (.bool true)
  c4 : w.cell? ⟨tb, 4, none⟩ = some (.slice none 0 0)
  c5 : w.cell? ⟨tb, 5, none⟩ = some (.slice (some ⟨gl, 0, none⟩) n n)
  c6 : if cnt = 0 then w.cell? ⟨tb, 6, none⟩ = some (.slice none 0 0) else ∃ fA fc, w.cell? ⟨tb, 6, none⟩ = some (.slice fA 1 fc)
  c7 : w.cell? ⟨tb, 7, none⟩ = some (.int .i64 cnt)
  c8 : w.cell? ⟨tb, 8, none⟩ = some (.int .i64 0)
  le : ∀ k, k < n → w.cell? ⟨gl, k, none⟩ = some (.int .u8 (L k))
  fz : ∀ m, w.frozen? ⟨tb, m, none⟩ = false
  fl : ∀ m, w.frozen? ⟨gl, m, none⟩ = false
  ne : tb ≠ gl
  bd : ∀ k, k < n → L k ≤ 255
section
variable {w w' : World} {tb gl W H n : Nat} {gv : Value} {L : Nat → Nat} {cnt : Nat}
theorem TaS.lt (h : TaS w tb gl W H n gv L cnt) : tb < w.heap.size := block_lt h.c0
theorem TaS.lg (h : TaS w tb gl W H n gv L cnt) (hn : 0 < n) : gl < w.heap.size := block_lt (h.le 0 hn)
/-- Where the box stands but for other blocks, and the letters, too. -/
theorem TaS.blk (h : TaS w tb gl W H n gv L cnt) (h1 : w'.heap[tb]? = w.heap[tb]?) (h2 : w'.heap[gl]? = w.heap[gl]?) : TaS w' tb gl W H n gv L cnt := by
  have ct : ∀ m, w'.cell? ⟨tb, m, none⟩ = w.cell? ⟨tb, m, none⟩ := fun m => World.cell?_of_block (a := ⟨tb, m, none⟩) h1
  refine ⟨(ct _).trans h.c0, (ct _).trans h.c1, (ct _).trans h.c2, (ct _).trans h.c3, (ct _).trans h.c4, (ct _).trans h.c5, ?_, (ct _).trans h.c7, (ct _).trans h.c8, fun k hk => (World.cell?_of_block (a := ⟨gl, k, none⟩) h2).trans (h.le k hk),
    fun m => (World.frozen?_of_block (a := ⟨tb, m, none⟩) h1).trans (h.fz m), fun m => (World.frozen?_of_block (a := ⟨gl, m, none⟩) h2).trans (h.fl m), h.ne, h.bd⟩
  have h6 := h.c6
  rw [ct]
  exact h6
theorem TaS.keep (h : TaS w tb gl W H n gv L cnt) (hn : 0 < n) (hb : Below w.heap.size w w') : TaS w' tb gl W H n gv L cnt := h.blk (hb.block _ h.lt) (hb.block _ (h.lg hn))
theorem TaS.drew (h : TaS w tb gl W H n gv L cnt) : TaS w.drew tb gl W H n gv L cnt := h.blk rfl rfl
theorem TaS.eq {L' : Nat → Nat} (h : TaS w tb gl W H n gv L cnt) (e : ∀ k, L k = L' k) : TaS w tb gl W H n gv L' cnt := by
  rw [← (funext e : L = L')]
  exact h
theorem TaS.letter (h : TaS w tb gl W H n gv L cnt) {k v : Nat} (hk : k < n) (hv : v ≤ 255) : TaS (w.setCell ⟨gl, k, none⟩ (.int .u8 (v : Int))) tb gl W H n gv (fun m => if m = k then v else L m) cnt := by
  have ct : ∀ m, (w.setCell ⟨gl, k, none⟩ (.int .u8 (v : Int))).cell? ⟨tb, m, none⟩ = w.cell? ⟨tb, m, none⟩ := fun m => World.cell?_setCell_other _ _ _ _ (by have := h.ne; simp <;> omega)
  refine ⟨(ct _).trans h.c0, (ct _).trans h.c1, (ct _).trans h.c2, (ct _).trans h.c3, (ct _).trans h.c4, (ct _).trans h.c5, ?_, (ct _).trans h.c7, (ct _).trans h.c8, fun m hm => ?_, fun m => by rw [World.frozen?_setCell]; exact h.fz m, fun m => by rw [World.frozen?_setCell]; exact h.fl m, h.ne, fun m hm => ?_⟩
  · have h6 := h.c6
    rw [ct]
    exact h6
  · by_cases e : m = k
    · subst e
      rw [World.cell?_setCell_same _ _ _ (h.le m hm), if_pos rfl]
    · rw [World.cell?_setCell_other _ _ _ _ (by simp <;> omega), h.le m hm, if_neg e]
  · have := h.bd m hm
    by_cases e : m = k
    · rw [if_pos e]; exact hv
    · rw [if_neg e]; exact this
/-- A cell of the box. -/
theorem TaS.other (h : TaS w tb gl W H n gv L cnt) (p : Nat) (u : Value) : (∀ m, m ≠ p → (w.setCell ⟨tb, p, none⟩ u).cell? ⟨tb, m, none⟩ = w.cell? ⟨tb, m, none⟩) ∧ (∀ k, (w.setCell ⟨tb, p, none⟩ u).cell? ⟨gl, k, none⟩ = w.cell? ⟨gl, k, none⟩) :=
  ⟨fun m hm => World.cell?_setCell_other _ _ _ _ (by simp <;> omega), fun k => World.cell?_setCell_other _ _ _ _ (by have := h.ne; simp <;> omega)⟩
theorem TaS.up (h : TaS w tb gl W H n gv L cnt) (hc : cnt ≠ 0) : TaS (w.setCell ⟨tb, 7, none⟩ (.int .i64 ((cnt : Int) + 1))) tb gl W H n gv L (cnt + 1) := by
  obtain ⟨ct, cg⟩ := h.other 7 (.int .i64 ((cnt : Int) + 1))
  refine ⟨(ct _ (by omega)).trans h.c0, (ct _ (by omega)).trans h.c1, (ct _ (by omega)).trans h.c2, (ct _ (by omega)).trans h.c3, (ct _ (by omega)).trans h.c4, (ct _ (by omega)).trans h.c5, ?_, World.cell?_setCell_same _ _ _ h.c7, (ct _ (by omega)).trans h.c8, fun m hm => (cg m).trans (h.le m hm), fun m => by rw [World.frozen?_setCell]; exact h.fz m, fun m => by rw [World.frozen?_setCell]; exact h.fl m, h.ne, h.bd⟩
  have h6 := h.c6
  rw [if_neg hc] at h6
  rw [ct 6 (by omega), if_neg (by omega)]
  exact h6
theorem TaS.first {w2 : World} (h : TaS w tb gl W H n gv L 0) (hn : 0 < n) (hb : Below w.heap.size (w.setCell ⟨tb, 7, none⟩ (.int .i64 1)) w2) (fA : Option Addr) (fc : Nat) : TaS (w2.setCell ⟨tb, 6, none⟩ (.slice fA 1 fc)) tb gl W H n gv L 1 := by
  obtain ⟨ct, cg⟩ := h.other 7 (.int .i64 1)
  have lt := h.lt
  have lg := h.lg hn
  have c2 : ∀ m, m ≠ 7 → m ≠ 6 → (w2.setCell ⟨tb, 6, none⟩ (.slice fA 1 fc)).cell? ⟨tb, m, none⟩ = w.cell? ⟨tb, m, none⟩ := fun m h7 h6 =>
    (World.cell?_setCell_other _ _ _ _ (by simp <;> omega)).trans ((hb.cell (p := ⟨tb, m, none⟩) lt).trans (ct m h7))
  have g2 : ∀ m, (w2.setCell ⟨tb, 6, none⟩ (.slice fA 1 fc)).cell? ⟨gl, m, none⟩ = w.cell? ⟨gl, m, none⟩ := fun m =>
    (World.cell?_setCell_other _ _ _ _ (by have := h.ne; simp <;> omega)).trans ((hb.cell (p := ⟨gl, m, none⟩) lg).trans (cg m))
  have h6 := h.c6
  rw [if_pos rfl] at h6
  have h62 : w2.cell? ⟨tb, 6, none⟩ = some (.slice none 0 0) := (hb.cell (p := ⟨tb, 6, none⟩) lt).trans ((ct 6 (by omega)).trans h6)
  have h72 : w2.cell? ⟨tb, 7, none⟩ = some (.int .i64 1) := (hb.cell (p := ⟨tb, 7, none⟩) lt).trans (World.cell?_setCell_same _ _ _ h.c7)
  refine ⟨(c2 _ (by omega) (by omega)).trans h.c0, (c2 _ (by omega) (by omega)).trans h.c1, (c2 _ (by omega) (by omega)).trans h.c2, (c2 _ (by omega) (by omega)).trans h.c3, (c2 _ (by omega) (by omega)).trans h.c4, (c2 _ (by omega) (by omega)).trans h.c5, ?_,
    (World.cell?_setCell_other _ _ _ _ (by simp <;> omega)).trans h72, (c2 _ (by omega) (by omega)).trans h.c8, fun m hm => (g2 m).trans (h.le m hm), fun m => ?_, fun m => ?_, h.ne, h.bd⟩
  · rw [if_neg (by omega)]
    exact ⟨fA, fc, World.cell?_setCell_same _ _ _ h62⟩
  · rw [World.frozen?_setCell]
    exact (hb.frozen (p := ⟨tb, m, none⟩) lt).trans (by rw [World.frozen?_setCell]; exact h.fz m)
  · rw [World.frozen?_setCell]
    exact (hb.frozen (p := ⟨gl, m, none⟩) lg).trans (by rw [World.frozen?_setCell]; exact h.fl m)
theorem TaS.hand (h : TaS w tb gl W H n gv L cnt) : TaS (w.setCell ⟨tb, 4, none⟩ (.slice none 0 0)) tb gl W H n gv L cnt := by
  obtain ⟨ct, cg⟩ := h.other 4 (.slice none 0 0)
  refine ⟨(ct _ (by omega)).trans h.c0, (ct _ (by omega)).trans h.c1, (ct _ (by omega)).trans h.c2, (ct _ (by omega)).trans h.c3, World.cell?_setCell_same _ _ _ h.c4, (ct _ (by omega)).trans h.c5, ?_, (ct _ (by omega)).trans h.c7, (ct _ (by omega)).trans h.c8, fun m hm => (cg m).trans (h.le m hm), fun m => by rw [World.frozen?_setCell]; exact h.fz m, fun m => by rw [World.frozen?_setCell]; exact h.fl m, h.ne, h.bd⟩
  have h6 := h.c6
  rw [ct 6 (by omega)]
  exact h6
end

/-- The cells that have a letter. -/
def hasL (L : Nat → Nat) (k : Nat) : Bool := decide (L k ≠ 0)
def putN (W n i : Nat) (L : Nat → Nat) (j : Int) : Nat := if j < 0 then 0 else (layJ W n i (hasL L) j.toNat).length
abbrev TwoB (tb gl k : Nat) : Prop := k = tb ∨ k = gl

theorem two_set {tb gl : Nat} {a w : World} (h : Turn (TwoB tb gl) a w) {p : Addr} (hp : TwoB tb gl p.block) (u : Value) : Turn (TwoB tb gl) a (w.setCell p u) := h.trans (Turn.setCell p u hp) (fun k _ h => h)
theorem two_gl {tb gl : Nat} {a w : World} (h : Turn (TwoB tb gl) a w) (k : Nat) (u : Value) : Turn (TwoB tb gl) a (w.setCell ⟨gl, k, none⟩ u) := two_set h (p := ⟨gl, k, none⟩) (.inr rfl) u
theorem two_tb {tb gl : Nat} {a w : World} (h : Turn (TwoB tb gl) a w) (k : Nat) (u : Value) : Turn (TwoB tb gl) a (w.setCell ⟨tb, k, none⟩ u) := two_set h (p := ⟨tb, k, none⟩) (.inl rfl) u
theorem two_drew {tb gl : Nat} {a w : World} (h : Turn (TwoB tb gl) a w) : Turn (TwoB tb gl) a w.drew := ⟨h.os, h.tape, h.output, h.size, h.block⟩
theorem two_below {tb gl : Nat} {a w w' : World} (h : Turn (TwoB tb gl) a w) (hb : Below w.heap.size w w') : Turn (TwoB tb gl) a w' := h.trans (Turn.of_below hb) (fun k _ h => h)

theorem c_taBackL (a b : Nat) (hab : (a = 101 ∧ b = 119) ∨ (a = 115 ∧ b = 110)) (w : World) : Calls Try.prog 16 #[.int .u8 (a : Int)] w fun e w' => e = .returned (.int .u8 (b : Int)) ∧ w = w' := by
  rcases hab with ⟨rfl, rfl⟩ | ⟨rfl, rfl⟩
  · go_enter Try.func16, Try.ntmps16
    go_wp2
    go_ret
    exact ⟨rfl, rfl⟩
  · go_enter Try.func16, Try.ntmps16
    go_wp2
    go_ret
    exact ⟨rfl, rfl⟩

set_option maxRecDepth 100000 in
set_option maxHeartbeats 4000000 in
theorem c_put (tb gl W H n : Nat) (gv : Value) (i : Nat) (hn30 : n ≤ 30) (hi : i < n)
    (hlook : ∀ (L : Nat → Nat) (cnt : Nat) (w : World), TaS w tb gl W H n gv L cnt → cnt + (layL W n (i + 1) (hasL L)).length ≤ 2147483648 →
      Calls Try.prog 7 #[.pointer (some ⟨tb, 0, none⟩), .int .i64 ((i : Int) + 1)] w fun e w' => e = .returned (.tuple #[]) ∧ TaS w' tb gl W H n gv L (cnt + (layL W n (i + 1) (hasL L)).length) ∧ Turn (TwoB tb gl) w w')
    (L : Nat → Nat) (cnt : Nat) (w : World) (hs : TaS w tb gl W H n gv L cnt) (hLi : L i = 0) (j : Int) (hj : j = -1 ∨ ∃ k : Nat, j = k ∧ i < k ∧ k < n) (a b : Nat) (hab : (a = 101 ∧ b = 119) ∨ (a = 115 ∧ b = 110))
    (hc : cnt + putN W n i L j ≤ 2147483648) :
    Calls Try.prog 11 #[.pointer (some ⟨tb, 0, none⟩), .int .i64 i, .int .i64 j, .int .u8 a] w fun e w' => e = .returned (.tuple #[]) ∧ TaS w' tb gl W H n gv L (cnt + putN W n i L j) ∧ Turn (TwoB tb gl) w w' := by
  have HL := Lib.hid hlook
  have HS := Lib.hid hs
  have tl := hs.lt
  clear hlook
  rcases hj with rfl | ⟨k, rfl, hik, hkn⟩
  · have e0 : cnt + putN W n i L (-1) = cnt := by simp [putN]
    rw [e0]
    clear hs hc e0
    go_enter Try.func11, Try.ntmps11
    go_wp2
    first | go_end0 | (refine bodyPost_ret (results_none rfl _ _ _) rfl ?_)
    exact ⟨rfl, HS.out, Turn.refl _ _⟩
  have x5 := hs.c5
  have xk := hs.le k hkn
  have xi := hs.le i hi
  have hne := hs.ne
  by_cases hLk : L k = 0
  · rw [hLk] at xk
    rw [hLi] at xi
    have ea : a ≤ 255 ∧ a ≠ 0 ∧ b ≤ 255 ∧ b ≠ 0 := by omega
    have S1 := hs.letter (k := i) (v := a) hi ea.1
    have S2 := (S1.drew).letter (k := k) (v := b) hkn ea.2.2.1
    have eF : hasL (fun m => if m = k then b else if m = i then a else L m) = mk2 (hasL L) i k := by
      funext m
      unfold hasL mk2
      by_cases e1 : m = k
      · simp [e1, ea.2.2.2]
      · by_cases e2 : m = i
        · simp [e2, ea.2.1, Nat.ne_of_lt hik]
        · simp [e1, e2]
    have ep : putN W n i L (k : Int) = (layL W n (i + 1) (mk2 (hasL L) i k)).length := by
      unfold putN layJ
      have h0 : hasL L k = false := by simp [hasL, hLk]
      rw [if_neg (by omega), Int.toNat_natCast, h0]
      simp
    rw [ep] at hc ⊢
    have Con := Lib.hid (fun w (h : TaS w tb gl W H n gv (fun m => if m = k then b else if m = i then a else L m) cnt) => HL.out _ cnt w h (by rw [eF]; exact hc))
    rw [eF] at Con
    have x4 := hs.c4
    have x3 := hs.c3
    have fi := hs.fl i
    have fk := hs.fl k
    have f4 := hs.fz 4
    have q5 : (w.setCell ⟨gl, i, none⟩ (.int .u8 (a : Int))).drew.cell? ⟨tb, 5, none⟩ = some (.slice (some ⟨gl, 0, none⟩) n n) := S1.c5
    have r5 := q5
    have p5 : ((w.setCell ⟨gl, i, none⟩ (.int .u8 (a : Int))).drew.setCell ⟨gl, k, none⟩ (.int .u8 (b : Int))).cell? ⟨tb, 5, none⟩ = some (.slice (some ⟨gl, 0, none⟩) n n) := S2.c5
    have yk : (w.setCell ⟨gl, i, none⟩ (.int .u8 (a : Int))).drew.cell? ⟨gl, k, none⟩ = some (.int .u8 ((if k = i then a else L k : Nat) : Int)) := S1.le k hkn
    have gk : (w.setCell ⟨gl, i, none⟩ (.int .u8 (a : Int))).drew.frozen? ⟨gl, k, none⟩ = false := S1.fl k
    have HS2 := Lib.hid (S1.letter (k := k) (v := b) hkn ea.2.2.1).drew
    have HEp := Lib.hid ep
    have i0 : (0 : Int) ≤ (k : Int) := by omega
    have i9 : (k : Int) < (n : Int) := by omega
    have i8 : IntKind.i64.wrap ((i : Int) + 1) = (i : Int) + 1 := IntWalk.i64_in _ (by omega)
    have HLi := Lib.hid hLi
    have HLk := Lib.hid hLk
    clear hs S1 S2 eF ep hLi hLk
    go_enter Try.func11, Try.ntmps11
    go_wp2_with fail
    refine wp_region_held_drew (S := fun w' => w'.cell? ⟨tb, 5, none⟩ = some (.slice (some ⟨gl, 0, none⟩) n n)) (by kernel_rfl) r5 (fun hH0 => ?_)
    refine reg_take 0 rfl (by kernel_rfl) (by kernel_rfl) (by kernel_rfl) (fun _ _ _ h => h) (by rfl) (fun w _ => by first | (go_simp; done) | (go_simp; with_reducible rfl)) (by assumption) ?_
    try simp only [Act.put, List.setIfInBounds_toArray, List.set_cons_zero, List.set_cons_succ, List.getElem_toArray, List.getElem_cons_zero]
    refine reg_take 1 rfl (by kernel_rfl) (by kernel_rfl) (by kernel_rfl) (fun _ _ _ h => h) (by rfl) (fun w _ => by first | (go_simp; done) | (go_simp; with_reducible rfl)) (by assumption) ?_
    try simp only [Act.put, List.setIfInBounds_toArray, List.set_cons_zero, List.set_cons_succ, List.getElem_toArray, List.getElem_cons_zero, List.getElem_cons_succ]
    refine reg_take 2 rfl (by kernel_rfl) (by kernel_rfl) (by kernel_rfl) (fun _ _ _ h => h) (by rfl) (fun w _ => by first | (go_simp; done) | (go_simp; with_reducible rfl)) (by assumption) ?_
    try simp only [Act.put, List.setIfInBounds_toArray, List.set_cons_zero, List.set_cons_succ, List.getElem_toArray, List.getElem_cons_zero, List.getElem_cons_succ]
    refine reg_take 3 rfl (by kernel_rfl) (by kernel_rfl) (by kernel_rfl) (fun _ _ _ h => h) (by rfl) (fun w hSw => by (try dsimp only at hSw); first | (go_simp; done) | (go_simp; with_reducible rfl)) (by assumption) ?_
    try simp only [Act.put, List.setIfInBounds_toArray, List.set_cons_zero, List.set_cons_succ, List.getElem_toArray, List.getElem_cons_zero, List.getElem_cons_succ]
    refine reg_take 4 rfl (by kernel_rfl) (by kernel_rfl) (by kernel_rfl) (fun _ _ _ h => h) (by rfl) (fun w _ => by first | (go_simp; done) | (go_simp; with_reducible rfl)) (by assumption) ?_
    try simp only [Act.put, List.setIfInBounds_toArray, List.set_cons_zero, List.set_cons_succ, List.getElem_toArray, List.getElem_cons_zero, List.getElem_cons_succ]
    refine reg_take 5 rfl (by kernel_rfl) (by kernel_rfl) (by kernel_rfl) (fun _ _ _ h => h) (by rfl) (fun w _ => by first | (go_simp; done) | (go_simp; with_reducible rfl)) (by assumption) ?_
    try simp only [Act.put, List.setIfInBounds_toArray, List.set_cons_zero, List.set_cons_succ, List.getElem_toArray, List.getElem_cons_zero, List.getElem_cons_succ]
    refine wpAnyH_ready (rs := [6]) (by kernel_rfl) (by simp) ?_
    refine AllReadyH.cons (i := 6) rfl (fun K hK => ?_) AllReadyH.nil
    go_simp
    go_at_call 16
    refine (c_taBackL a b hab _).mono ?_
    rintro e w' ⟨rfl, rfl⟩
    refine hK.out _ _ r5 (fun hH6 => ?_)
    clear hK K
    try simp only [Act.put, List.setIfInBounds_toArray, List.set_cons_zero, List.set_cons_succ, List.getElem_toArray, List.getElem_cons_zero, List.getElem_cons_succ]
    refine reg_take 7 rfl (by kernel_rfl) (by kernel_rfl) (by kernel_rfl) (fun _ _ _ h => h) (by rfl) (fun w _ => by first | (go_simp; done) | (go_simp; with_reducible rfl)) (by assumption) ?_
    try simp only [Act.put, List.setIfInBounds_toArray, List.set_cons_zero, List.set_cons_succ, List.getElem_toArray, List.getElem_cons_zero, List.getElem_cons_succ]
    refine wpAnyH_ready (rs := [8]) (by kernel_rfl) (by simp) ?_
    refine AllReadyH.cons (i := 8) rfl (fun K hK => ?_) AllReadyH.nil
    go_simp
    skip
    refine hK.out _ _ p5 (fun hH8 => ?_)
    clear hK K
    try simp only [Act.put, List.setIfInBounds_toArray, List.set_cons_zero, List.set_cons_succ, List.getElem_toArray, List.getElem_cons_zero, List.getElem_cons_succ]
    refine wpAnyH_done (by kernel_rfl) ?_ _
    go_wp2_with fail
    refine (Con.out _ HS2.out).mono ?_
    rintro e w3 ⟨rfl, hs3, ht3⟩
    have y5 := hs3.c5
    have yi := hs3.le i hi
    have yk2 := hs3.le k hkn
    have y4 := hs3.c4
    have hi1 := hs3.fl i
    have hk1 := hs3.fl k
    have h4 := hs3.fz 4
    have HS3 := Lib.hid hs3
    have HT3 := Lib.hid ht3
    clear hs3 ht3 q5 r5 p5 yk gk x5 xk xi x4 x3 fi fk f4
    go_wp2
    first | go_end0 | (refine bodyPost_ret (results_none rfl _ _ _) rfl ?_)
    refine ⟨rfl, ?_, ?_⟩
    · refine (((HS3.out.letter (k := i) (v := 0) hi (by omega)).letter (k := k) (v := 0) hkn (by omega)).hand).eq fun m => ?_
      by_cases e1 : m = k
      · rw [if_pos e1, e1, HLk.out]
      · by_cases e2 : m = i
        · rw [if_neg e1, if_pos e2, e2, HLi.out]
        · rw [if_neg e1, if_neg e2, if_neg e1, if_neg e2]
    · have t1 : Turn (TwoB tb gl) w ((w.setCell ⟨gl, i, none⟩ (.int .u8 (a : Int))).setCell ⟨gl, k, none⟩ (.int .u8 (b : Int))).drew := two_drew (two_gl (two_gl (Turn.refl _ _) i _) k _)
      exact two_tb (two_gl (two_gl (t1.trans HT3.out (fun k _ h => h)) i _) k _) 4 _
  · have h0 : hasL L k = true := by simp [hasL, hLk]
    have e0 : cnt + putN W n i L (k : Int) = cnt := by
      unfold putN layJ
      rw [if_neg (by omega), Int.toNat_natCast, h0]
      simp
    rw [e0]
    have q1 : ((L k : Nat) : Int) ≠ 0 := by omega
    have q2 : (((L k : Nat) : Int) != 0) = true := by simp; omega
    generalize L k = lk at *
    clear hs hc e0 h0
    go_enter Try.func11, Try.ntmps11
    go_wp2
    first | go_end0 | (refine bodyPost_ret (results_none rfl _ _ _) rfl ?_)
    exact ⟨rfl, HS.out, Turn.refl _ _⟩

theorem put_sum {W n i : Nat} {L : Nat → Nat} (h : i < n) (hL : hasL L i = false) : (layL W n i (hasL L)).length = putN W n i L (if eastB W i then ((i + 1 : Nat) : Int) else -1) + putN W n i L (if i + W < n then ((i + W : Nat) : Int) else -1) := by
  rw [layL_free h hL]
  unfold nearL putN
  by_cases h1 : eastB W i = true
  · by_cases h2 : i + W < n
    · rw [if_pos h1, if_pos h1, if_pos h2, if_pos h2, if_neg (by omega), if_neg (by omega), Int.toNat_natCast, Int.toNat_natCast]
      simp
    · rw [if_pos h1, if_pos h1, if_neg h2, if_neg h2, if_neg (by omega), if_pos (by omega), Int.toNat_natCast]
      simp
  · by_cases h2 : i + W < n
    · rw [if_neg h1, if_neg h1, if_pos h2, if_pos h2, if_pos (by omega), if_neg (by omega), Int.toNat_natCast]
      simp
    · rw [if_neg h1, if_neg h1, if_neg h2, if_neg h2, if_pos (by omega)]
      simp
theorem near_e {W n i H : Nat} (hW : 0 < W) (hn : n = H * W) (hi : i < n) : (if eastB W i then ((i + 1 : Nat) : Int) else -1) = -1 ∨ ∃ k : Nat, (if eastB W i then ((i + 1 : Nat) : Int) else -1) = k ∧ i < k ∧ k < n := by
  by_cases h1 : eastB W i = true
  · rw [if_pos h1]
    exact .inr ⟨i + 1, rfl, nearL_bd hW hn hi (by unfold nearL; rw [if_pos h1]; simp)⟩
  · rw [if_neg h1]
    exact .inl rfl
theorem near_s {W n i : Nat} (hW : 0 < W) (hi : i < n) : (if i + W < n then ((i + W : Nat) : Int) else -1) = -1 ∨ ∃ k : Nat, (if i + W < n then ((i + W : Nat) : Int) else -1) = k ∧ i < k ∧ k < n := by
  by_cases h1 : i + W < n
  · rw [if_pos h1]
    exact .inr ⟨i + W, rfl, by omega, h1⟩
  · rw [if_neg h1]
    exact .inl rfl

theorem Try.info_u8s : (Try.prog.info? 30).map (fun i => (i.zero, i.size, i.bytes)) = some (some (.slice none 0 0), 1, 24) := by kernel_rfl
theorem news_at {w : World} {gl n : Nat} {L : Nat → Nat} (h : ∀ k, k < n → w.cell? ⟨gl, k, none⟩ = some (.int .u8 (L k))) : ∀ j u, ((List.range n).map fun k => (Value.int .u8 (L k : Int)))[j]? = some u → w.cell? ((⟨gl, 0, none⟩ : Addr).add j) = some u := by
  intro j u hj
  rw [Addr.add_mid, Nat.zero_add]
  have hl := (List.getElem?_eq_some_iff.1 hj).1
  rw [List.length_map, List.length_range] at hl
  rw [List.getElem?_map, List.getElem?_range hl] at hj
  cases hj
  exact h j hl
theorem news_one (L : Nat → Nat) (n : Nat) : ∀ u ∈ ((List.range n).map fun k => (Value.int .u8 (L k : Int))), u.oneCell' = true := by
  intro u hu
  obtain ⟨k, _, rfl⟩ := List.mem_map.1 hu
  rfl
theorem news_of_one {w : World} {g : Nat} {v : Value} (h : w.cell? ⟨g, 0, none⟩ = some v) : ∀ j u, ([v] : List Value)[j]? = some u → w.cell? ((⟨g, 0, none⟩ : Addr).add j) = some u := by
  intro j u hj
  match j, hj with
  | 0, hj => simp at hj; subst hj; simpa [Addr.add] using h
/-- An append to a slice of the call's own, at a step of a region that draws its order. -/
theorem step_append_gen {w : World} {ops : Array Oper} {o : Oper} {a : Act} {K : Act → World → Prop} {Q : Exit → Act → World → Prop} {E : Prop} (hgd : o.guard = none) (s x : Operand) (t e : TypeId)
    (ho : o.op = .call { callee := .builtin .append, args := #[s, x], argTypes := #[t, t] }) (i : TypeInfo) (z : Value) (size bytes : Nat) (ht : Try.prog.underlying t = some (.slice e)) (hi : Try.prog.info? e = some i) (hz : i.zero = some z)
    (hsize : i.size = size) (hby : i.bytes = bytes) (hzs : z.cells.size = size) (hsz : 0 < size) (base : Nat) (v : Value) (n : Nat) (xs : List Value) (hs : a.eval s = v) (hown : w.ownsRow base e size v n xs)
    (ad : Addr) (m c : Nat) (news : List Value) (hx : a.eval x = .slice (some ad) m c) (hl : news.length = m * size) (hnews : ∀ j u, news[j]? = some u → w.cell? (ad.add j) = some u) (h1 : ∀ u ∈ news, u.oneCell' = true)
    (h63 : n + m ≤ maxLen) (hbytes : (n + m) * bytes ≤ 140737488355328) (hbase : base ≤ w.heap.size) (hm : 0 < m)
    (h : ∀ A c' w', w.grownBy w' v.ownBlock → (∀ b, (Value.slice A (n + m) c').ownBlock = some b → base ≤ b) → K (a.put o.dst (.slice A (n + m) c')) w') :
    if Region.wanted o (yielded ops a.tmps) = true then Oper.wp Try.prog o a w K Q else E := by
  have hw : Region.wanted o (yielded ops a.tmps) = true := by simp [Region.wanted, hgd]
  rw [if_pos hw]
  obtain ⟨v', w', hr, k2, k3, k4, k5⟩ := run_append_own_at (P := Try.prog) w base t o.type e i z size bytes ht hi hz hsize hby hzs hsz v n xs hown ad m c news hl hnews h1 h63 hbytes hbase
  unfold Oper.wp execOp
  simp only [ho, resolve, invoke, builtin, Sem.run_bind, Sem.run_pure, Result.andThen_ok, List.map_toArray, List.map_cons, List.map_nil, hs, hx, hr]
  have k2' := k2
  obtain ⟨_, ⟨_, hn⟩ | ⟨g', cap, cur, rfl, _⟩⟩ := k2'
  · omega
  exact h _ _ w' k3 (fun b hb => (k2.lt b hb).1)

set_option maxRecDepth 100000 in
set_option maxHeartbeats 4000000 in
theorem c_look (tb gl W H n : Nat) (GA : Option Addr) (Gd Gc : Nat) (hW : 0 < W) (hn : n = H * W) (hn30 : n ≤ 30) (hn0 : 0 < n) (hW30 : W ≤ 30) : ∀ (d i : Nat) (L : Nat → Nat) (cnt : Nat) (w : World), n - i < d → i ≤ n → TaS w tb gl W H n (.slice GA Gd Gc) L cnt → cnt + (layL W n i (hasL L)).length ≤ 2147483648 →
    Calls Try.prog 7 #[.pointer (some ⟨tb, 0, none⟩), .int .i64 i] w fun e w' => e = .returned (.tuple #[]) ∧ TaS w' tb gl W H n (.slice GA Gd Gc) L (cnt + (layL W n i (hasL L)).length) ∧ Turn (TwoB tb gl) w w' := by
  have HN := Lib.hid hn
  clear hn
  intro d
  induction d with
  | zero => intro i L cnt w hd; omega
  | succ d ih =>
    intro i L cnt w hd hi hs hc
    have IH := Lib.hid ih
    have HS := Lib.hid hs
    have HC := Lib.hid hc
    have tl := hs.lt
    have x5 := hs.c5
    have hne := hs.ne
    clear ih hc hs
    go_enter Try.func7, Try.ntmps7
    go_wp2_with fail
    go_loopw [1] (fun v wr => ∃ i2 : Nat, v = .int .i64 i2 ∧ i2 ≤ n ∧ i ≤ i2 ∧ layL W n i2 (hasL L) = layL W n i (hasL L) ∧ wr = w) (fun v _ => n - (intOf v).toNat)
    case atStart => exact ⟨i, rfl, hi, Nat.le_refl _, rfl, rfl⟩
    case round =>
      obtain ⟨i2, rfl, hi2, hii, hlay, rfl⟩ := hrel
      have HLy := Lib.hid hlay
      clear hlay
      by_cases hlt : i2 < n
      · have xi := HS.out.le i2 hlt
        by_cases hL : L i2 = 0
        · rw [hL] at xi
          have HL0 := Lib.hid hL
          have hF0 : hasL L i2 = false := by simp [hasL, hL]
          have hsum := put_sum (W := W) (L := L) hlt hF0
          have hje := near_e hW HN.out hlt
          have hjs := near_s (W := W) hW hlt
          have ConN := Lib.hid (fun w => c_taNear W H n i2 GA Gd Gc w hW (by rw [HN.out, Int.natCast_mul, Int.mul_comm]) hlt (by omega) (by omega))
          generalize (if eastB W i2 then ((i2 + 1 : Nat) : Int) else -1) = jE at hsum hje ConN
          generalize (if i2 + W < n then ((i2 + W : Nat) : Int) else -1) = jS at hsum hjs ConN
          have hlook : ∀ (L : Nat → Nat) (cnt : Nat) (w : World), TaS w tb gl W H n (.slice GA Gd Gc) L cnt → cnt + (layL W n (i2 + 1) (hasL L)).length ≤ 2147483648 →
              Calls Try.prog 7 #[.pointer (some ⟨tb, 0, none⟩), .int .i64 ((i2 : Int) + 1)] w fun e w' => e = .returned (.tuple #[]) ∧ TaS w' tb gl W H n (.slice GA Gd Gc) L (cnt + (layL W n (i2 + 1) (hasL L)).length) ∧ Turn (TwoB tb gl) w w' := fun L cnt w h hc =>
            IH.out (i2 + 1) L cnt w (by clear hje hjs; omega) (by clear hje hjs; omega) h hc
          have hcc := HC.out
          rw [← HLy.out, hsum] at hcc
          have ConE := Lib.hid (fun w h => c_put tb gl W H n (.slice GA Gd Gc) i2 hn30 hlt hlook L cnt w h HL0.out jE hje 101 119 (.inl ⟨rfl, rfl⟩) (by omega))
          have ConS := Lib.hid (fun w h => c_put tb gl W H n (.slice GA Gd Gc) i2 hn30 hlt hlook L (cnt + putN W n i2 L jE) w h HL0.out jS hjs 115 110 (.inr ⟨rfl, rfl⟩) (by omega))
          have HSUM := Lib.hid hsum
          have x0 := HS.out.c0
          have x1 := HS.out.c1
          have x2 := HS.out.c2
          have qn : ((i2 : Int) == (n : Int)) = false := by simp; omega
          clear hL hF0 hsum hje hjs hlook hcc
          go_wp2_with fail
          refine (ConN.out _).mono ?_
          rintro e w1 ⟨rfl, hb1⟩
          have S1 := Lib.hid (HS.out.keep hn0 hb1)
          have T1 := Lib.hid (two_below (tb := tb) (gl := gl) (Turn.refl _ _) hb1)
          clear hb1
          go_wp2_with fail
          refine (ConE.out _ S1.out).mono ?_
          rintro e w2 ⟨rfl, hs2, ht2⟩
          have S2 := Lib.hid hs2
          have T2 := Lib.hid (T1.out.trans ht2 (fun k _ h => h))
          clear hs2 ht2
          go_wp2_with fail
          refine (ConS.out _ S2.out).mono ?_
          rintro e w3 ⟨rfl, hs3, ht3⟩
          have S3 := Lib.hid hs3
          have T3 := Lib.hid (T2.out.trans ht3 (fun k _ h => h))
          clear hs3 ht3
          go_wp2
          first | go_end0 | (refine bodyPost_ret (results_none rfl _ _ _) rfl ?_)
          refine ⟨rfl, ?_, T3.out⟩
          rw [← HLy.out, HSUM.out, ← Nat.add_assoc]
          exact S3.out
        · have q1 : ((L i2 : Nat) : Int) ≠ 0 := by omega
          have q2 : (((L i2 : Nat) : Int) != 0) = true := by simp; omega
          have HF := Lib.hid (show hasL L i2 = true by simp [hasL, hL])
          generalize L i2 = li at *
          clear hL
          go_wp2
          go_roundw
          case rel => exact ⟨i2 + 1, by go_num, by omega, by omega, by rw [← HLy.out, layL_skip hlt HF.out], by first | trivial | rfl⟩
          case measure => simp [intOf]; omega
      · have e : n = i2 := by omega
        subst e
        have x7 := HS.out.c7
        have x8 := HS.out.c8
        have f7 := HS.out.fz 7
        have elen : (layL W n i (hasL L)).length = 1 := by rw [← HLy.out, layL_end]; rfl
        have hcc := HC.out
        rw [elen] at hcc
        have jw : IntKind.i64.wrap ((cnt : Int) + 1) = (cnt : Int) + 1 := IntWalk.i64_in _ (by omega)
        have EL := Lib.hid elen
        clear elen hcc
        go_wp2_with fail
        obtain ⟨wq, hwq⟩ : ∃ wq, wq = wr.setCell ⟨tb, 7, none⟩ (.int .i64 ((cnt : Int) + 1)) := ⟨_, rfl⟩
        rw [← hwq]
        obtain ⟨ct, cg⟩ := HS.out.other 7 (.int .i64 ((cnt : Int) + 1))
        rw [← hwq] at ct cg
        have w5 := (ct 5 (by omega)).trans HS.out.c5
        have w8 := (ct 8 (by omega)).trans HS.out.c8
        have wf6 : wq.frozen? ⟨tb, 6, none⟩ = false := by rw [hwq, World.frozen?_setCell]; exact HS.out.fz 6
        have HT := Lib.hid (show Turn (TwoB tb gl) wr wq by rw [hwq]; exact two_tb (Turn.refl _ _) 7 _)
        have HQ := Lib.hid hwq
        have h6 := HS.out.c6
        by_cases hc0 : cnt = 0
        · rw [if_pos hc0] at h6
          have w6 := (ct 6 (by omega)).trans h6
          have HCG := Lib.hid (fun k hk => (cg k).trans (HS.out.le k hk))
          have HC0 := Lib.hid hc0
          clear hwq ct cg h6 x7 x8 f7 x5 hc0
          go_region
          have w5d : wq.drew.cell? ⟨tb, 5, none⟩ = some (.slice (some ⟨gl, 0, none⟩) n n) := w5
          have w6d : wq.drew.cell? ⟨tb, 6, none⟩ = some (.slice none 0 0) := w6
          have wgd : ∀ k, k < n → wq.drew.cell? ⟨gl, k, none⟩ = some (.int .u8 (L k)) := HCG.out
          go_wp2_with fail
          obtain ⟨i8, h8, z8, s8, b8⟩ := info_parts Try.info_u8
          obtain ⟨i9, h9, z9, s9, b9⟩ := info_parts Try.info_u8s
          have ltq : tb < wq.heap.size := block_lt w5
          have lgq : gl < wq.heap.size := block_lt (HCG.out 0 hn0)
          refine wp_regK (k0 := 15) (S := fun w' => w'.cell? ⟨tb, 5, none⟩ = some (.slice (some ⟨gl, 0, none⟩) n n) ∧ w'.cell? ⟨tb, 6, none⟩ = some (.slice none 0 0) ∧ ∀ k, k < n → w'.cell? ⟨gl, k, none⟩ = some (.int .u8 (L k))) (by kernel_rfl) ⟨w5d, w6d, wgd⟩ (fun hH0 => ?_)
          refine regK_take 0 rfl (by kernel_rfl) (by kernel_rfl) (by kernel_rfl) (by kernel_rfl) (by kernel_rfl) (fun _ _ _ h => h) (by rfl) (fun w _ => by first | (go_simp; done) | (go_simp; with_reducible rfl)) (by assumption) ?_
          try simp only [Act.put, List.setIfInBounds_toArray, List.set_cons_zero, List.set_cons_succ, List.getElem_toArray, List.getElem_cons_zero]
          refine regK_take 1 rfl (by kernel_rfl) (by kernel_rfl) (by kernel_rfl) (by kernel_rfl) (by kernel_rfl) (fun _ _ _ h => h) (by rfl) (fun w _ => by first | (go_simp; done) | (go_simp; with_reducible rfl)) (by assumption) ?_
          try simp only [Act.put, List.setIfInBounds_toArray, List.set_cons_zero, List.set_cons_succ, List.getElem_toArray, List.getElem_cons_zero, List.getElem_cons_succ]
          refine regK_take 2 rfl (by kernel_rfl) (by kernel_rfl) (by kernel_rfl) (by kernel_rfl) (by kernel_rfl) (fun _ _ _ h => h) (by rfl) (fun w _ => by first | (go_simp; done) | (go_simp; with_reducible rfl)) (by assumption) ?_
          try simp only [Act.put, List.setIfInBounds_toArray, List.set_cons_zero, List.set_cons_succ, List.getElem_toArray, List.getElem_cons_zero, List.getElem_cons_succ]
          refine regK_take 3 rfl (by kernel_rfl) (by kernel_rfl) (by kernel_rfl) (by kernel_rfl) (by kernel_rfl) (fun _ _ _ h => h) (by rfl) (fun w _ => by first | (go_simp; done) | (go_simp; with_reducible rfl)) (by assumption) ?_
          try simp only [Act.put, List.setIfInBounds_toArray, List.set_cons_zero, List.set_cons_succ, List.getElem_toArray, List.getElem_cons_zero, List.getElem_cons_succ]
          refine regK_take 4 rfl (by kernel_rfl) (by kernel_rfl) (by kernel_rfl) (by kernel_rfl) (by kernel_rfl) (fun _ _ _ h => h) (by rfl) (fun w hSw => by (try dsimp only at hSw); first | (go_simp; done) | (go_simp; with_reducible rfl)) (by assumption) ?_
          try simp only [Act.put, List.setIfInBounds_toArray, List.set_cons_zero, List.set_cons_succ, List.getElem_toArray, List.getElem_cons_zero, List.getElem_cons_succ]
          refine regK_take 6 rfl (by kernel_rfl) (by kernel_rfl) (by kernel_rfl) (by kernel_rfl) (by kernel_rfl) (fun _ _ _ h => h) (by rfl) (fun w _ => by first | (go_simp; done) | (go_simp; with_reducible rfl)) (by assumption) ?_
          try simp only [Act.put, List.setIfInBounds_toArray, List.set_cons_zero, List.set_cons_succ, List.getElem_toArray, List.getElem_cons_zero, List.getElem_cons_succ]
          refine regK_take 7 rfl (by kernel_rfl) (by kernel_rfl) (by kernel_rfl) (by kernel_rfl) (by kernel_rfl) (fun _ _ _ h => h) (by rfl) (fun w _ => by first | (go_simp; done) | (go_simp; with_reducible rfl)) (by assumption) ?_
          try simp only [Act.put, List.setIfInBounds_toArray, List.set_cons_zero, List.set_cons_succ, List.getElem_toArray, List.getElem_cons_zero, List.getElem_cons_succ]
          refine regK_take 8 rfl (by kernel_rfl) (by kernel_rfl) (by kernel_rfl) (by kernel_rfl) (by kernel_rfl) (fun _ _ _ h => h) (by rfl) (fun w _ => by first | (go_simp; done) | (go_simp; with_reducible rfl)) (by assumption) ?_
          try simp only [Act.put, List.setIfInBounds_toArray, List.set_cons_zero, List.set_cons_succ, List.getElem_toArray, List.getElem_cons_zero, List.getElem_cons_succ]
          refine regK_take 9 rfl (by kernel_rfl) (by kernel_rfl) (by kernel_rfl) (by kernel_rfl) (by kernel_rfl) (fun _ _ _ h => h) (by rfl) (fun w hSw => by (try dsimp only at hSw); first | (go_simp; done) | (go_simp; with_reducible rfl)) (by assumption) ?_
          try simp only [Act.put, List.setIfInBounds_toArray, List.set_cons_zero, List.set_cons_succ, List.getElem_toArray, List.getElem_cons_zero, List.getElem_cons_succ]
          refine regK_one 5 rfl (by kernel_rfl) (fun K hK => ?_)
          go_simp
          have ba : Below wq.heap.size wq (wq.alloc (.cells #[] 5)).drew.drew := ((Below.refl wq.heap.size wq).alloc (Nat.le_refl _) _).drew.drew
          have a5 := keepc ba w5
          have a6 := keepc ba w6
          have ag : ∀ k, k < n → (wq.alloc (.cells #[] 5)).drew.drew.cell? ⟨gl, k, none⟩ = some (.int .u8 (L k)) := fun k hk => keepc ba (HCG.out k hk)
          have own0 : (wq.alloc (.cells #[] 5)).drew.drew.ownsRow wq.heap.size 5 1 (.slice (some ⟨wq.heap.size, 0, none⟩) 0 0) 0 [] := ⟨rfl, .inr ⟨wq.heap.size, 0, #[], rfl, Nat.le_refl _, heap_alloc_new wq _, Nat.le_refl _, Nat.zero_le _, rfl, rfl⟩⟩
          have baf := (ba.frozen (p := ⟨tb, 6, none⟩) ltq).trans wf6
          have za : (wq.alloc (.cells #[] 5)).drew.drew.heap.size = wq.heap.size + 1 := by simp
          refine regK_go hK ⟨a5, a6, ag⟩ (fun hH5 => ?_)
          clear hK K
          try simp only [Act.put, List.setIfInBounds_toArray, List.set_cons_zero, List.set_cons_succ, List.getElem_toArray, List.getElem_cons_zero, List.getElem_cons_succ]
          refine regK_one 10 rfl (by kernel_rfl) (fun K hK => ?_)
          refine step_append_gen rfl (.tmp 54) (.tmp 58) 30 5 rfl i8 _ 1 1 Try.underlying30 h8 z8 s8 b8 rfl (by decide) wq.heap.size (.slice (some ⟨wq.heap.size, 0, none⟩) 0 0) 0 [] rfl own0 ⟨gl, 0, none⟩ n n ((List.range n).map fun k => .int .u8 (L k)) rfl (by simp) (news_at ag) (news_one L n) (by unfold maxLen <;> omega) (by omega) (by omega) hn0 ?_
          intro A1 c1 w7 hg7 hb7
          rw [Nat.zero_add]
          have n7t : some tb ≠ (Value.slice (some ⟨wq.heap.size, 0, none⟩) 0 0).ownBlock := by simp [Value.ownBlock] <;> omega
          have n7g : some gl ≠ (Value.slice (some ⟨wq.heap.size, 0, none⟩) 0 0).ownBlock := by simp [Value.ownBlock] <;> omega
          have d5 := hg7.cell a5 n7t
          have d6 := hg7.cell a6 n7t
          have dg : ∀ k, k < n → w7.cell? ⟨gl, k, none⟩ = some (.int .u8 (L k)) := fun k hk => hg7.cell (ag k hk) n7g
          have b7 : Below wq.heap.size wq w7 := ba.trans (below_of_grown hg7 (by omega) (fun g hg => by cases hg <;> exact Nat.le_refl _))
          have d6f := (b7.frozen (p := ⟨tb, 6, none⟩) ltq).trans wf6
          refine regK_go hK ⟨d5, d6, dg⟩ (fun hH10 => ?_)
          clear hK K
          try simp only [Act.put, List.setIfInBounds_toArray, List.set_cons_zero, List.set_cons_succ, List.getElem_toArray, List.getElem_cons_zero, List.getElem_cons_succ]
          refine regK_one 11 rfl (by kernel_rfl) (fun K hK => ?_)
          go_simp
          have bb : Below w7.heap.size w7 (w7.alloc (.cells #[.slice A1 n c1] 30)) := (Below.refl _ _).alloc (Nat.le_refl _) _
          have e5 := keepc bb d5
          have e6 := keepc bb d6
          have eg : ∀ k, k < n → (w7.alloc (.cells #[.slice A1 n c1] 30)).cell? ⟨gl, k, none⟩ = some (.int .u8 (L k)) := fun k hk => keepc bb (dg k hk)
          have en : (w7.alloc (.cells #[.slice A1 n c1] 30)).cell? ⟨w7.heap.size, 0, none⟩ = some (.slice A1 n c1) := by simp
          have b8' : Below wq.heap.size wq (w7.alloc (.cells #[.slice A1 n c1] 30)) := bstep b7 bb
          refine regK_go hK ⟨e5, e6, eg⟩ (fun hH11 => ?_)
          clear hK K
          try simp only [Act.put, List.setIfInBounds_toArray, List.set_cons_zero, List.set_cons_succ, List.getElem_toArray, List.getElem_cons_zero, List.getElem_cons_succ]
          refine regK_one 12 rfl (by kernel_rfl) (fun K hK => ?_)
          refine step_append_gen rfl (.tmp 53) (.tmp 60) 32 30 rfl i9 _ 1 24 Try.underlying32 h9 z9 s9 b9 rfl (by decide) wq.heap.size (.slice none 0 0) 0 [] rfl (World.ownsRow_nil _ _ _ _) ⟨w7.heap.size, 0, none⟩ 1 1 [.slice A1 n c1] rfl rfl (news_of_one en) (by simp [Value.oneCell']) (by unfold maxLen <;> omega) (by omega) b8'.size (by omega) ?_
          intro A2 c2 w9 hg9 hb9
          rw [Nat.zero_add]
          have n9 : ∀ k, some k ≠ (Value.slice none 0 0).ownBlock := fun k => by simp [Value.ownBlock]
          have f5 := hg9.cell e5 (n9 _)
          have f6 := hg9.cell e6 (n9 _)
          have fg : ∀ k, k < n → w9.cell? ⟨gl, k, none⟩ = some (.int .u8 (L k)) := fun k hk => hg9.cell (eg k hk) (n9 _)
          have b99 : Below wq.heap.size wq w9 := b8'.trans (below_of_grown hg9 b8'.size (fun g hg => by cases hg))
          have f6f := (b99.frozen (p := ⟨tb, 6, none⟩) ltq).trans wf6
          refine regK_go hK ⟨f5, f6, fg⟩ (fun hH12 => ?_)
          clear hK K
          try simp only [Act.put, List.setIfInBounds_toArray, List.set_cons_zero, List.set_cons_succ, List.getElem_toArray, List.getElem_cons_zero, List.getElem_cons_succ]
          refine regK_one 13 rfl (by kernel_rfl) (fun K hK => ?_)
          go_simp
          refine regK_go hK ⟨f5, f6, fg⟩ (fun hH13 => ?_)
          clear hK K
          try simp only [Act.put, List.setIfInBounds_toArray, List.set_cons_zero, List.set_cons_succ, List.getElem_toArray, List.getElem_cons_zero, List.getElem_cons_succ]
          refine regK_one 14 rfl (by kernel_rfl) (fun K hK => ?_)
          go_simp
          refine regK_go hK ⟨f5, f6, fg⟩ (fun hH14 => ?_)
          clear hK K
          try simp only [Act.put, List.setIfInBounds_toArray, List.set_cons_zero, List.set_cons_succ, List.getElem_toArray, List.getElem_cons_zero, List.getElem_cons_succ]
          refine regK_one 15 rfl (by kernel_rfl) (fun K hK => ?_)
          go_simp
          refine regK_on hK (by kernel_rfl) ?_
          clear hK K
          try simp only [Act.put, List.setIfInBounds_toArray, List.set_cons_zero, List.set_cons_succ, List.getElem_toArray, List.getElem_cons_zero, List.getElem_cons_succ]
          refine regK_done (by kernel_rfl) ?_ _
          go_wp2
          first | go_end0 | (refine bodyPost_ret (results_none rfl _ _ _) rfl ?_)
          have tq := two_tb (HT.out.trans (Turn.of_below b99) (fun k _ h => h)) 6 (.slice A2 1 c2)
          refine ⟨rfl, ?_, tq⟩
          have e0 := HC0.out
          subst e0
          rw [EL.out]
          exact HS.out.first hn0 (by have := HQ.out; simp only [Int.zero_add, Int.cast_ofNat_Int] at this; rw [← this, show wr.heap.size = wq.heap.size by rw [this]; simp [World.setCell]]; exact b99) A2 c2
        · rw [if_neg hc0] at h6
          obtain ⟨fA, fc, h6⟩ := h6
          have w6 := (ct 6 (by omega)).trans h6
          have HC0 := Lib.hid hc0
          clear hwq ct cg h6 x7 x8 f7 x5 hc0
          go_region
          go_wp2
          first | go_end0 | (refine bodyPost_ret (results_none rfl _ _ _) rfl ?_)
          refine ⟨rfl, ?_, two_drew HT.out⟩
          rw [EL.out, HQ.out]
          exact (HS.out.up HC0.out).drew

end Go.Proofs.Ytmijbgkfkaijjaa

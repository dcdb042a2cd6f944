/- The program's blocks. -/
import Derived.Test.YtepedcdnaodhcaaBlkS
import Derived.Test.YtepedcdnaodhcaaWinJ
namespace Go.Proofs.Ytepedcdnaodhcaa
open Go.RowKit
set_option linter.unusedVariables false

theorem own_set_low {w : World} {base e size n g j : Nat} {v u : Value} {cs : List Value} (h : w.ownsRow base e size v n cs) (hg : g < base) : (w.setCell ⟨g, j, none⟩ u).ownsRow base e size v n cs := by
  refine h.kept (grown_set (World.grownBy.refl w (some g)) j u) ?_
  cases hX : v.ownBlock with
  | none => exact .inl rfl
  | some x => exact .inr (fun e => by injection e with e; have := (h.lt x hX).1; omega)

set_option maxRecDepth 100000 in
set_option maxHeartbeats 2000000 in
theorem c_concatN (A : Option Addr) (c : Nat) (rss : List (List Int)) (w : World) (hr : RdII w A rss) (hl : rss.length ≤ 3) (hw : ∀ k, k < rss.length → (rss.getD k []).length ≤ 4) :
    Calls Try.prog 120 #[.slice A rss.length c] w (RetN w rss.flatten) := by
  have Hst := Lib.hid (fun k (hk : k < rss.length) => flatTo_step hk)
  have hle : ∀ k, k ≤ rss.length → (flatTo rss k).length ≤ 4 * k := by
    intro k
    induction k with
    | zero => intro _; simp [flatTo]
    | succ k ih =>
      intro h
      have h1 := ih (by omega)
      have h2 := hw k (by omega)
      rw [flatTo_step (by omega), List.length_append]
      omega
  have Hle := Lib.hid hle
  have Hall := Lib.hid (flatTo_all rss)
  have conG := Lib.hid (fun W => c_grow (flatTo rss rss.length).length (by have := hle _ (Nat.le_refl rss.length); omega) W)
  have Hw := Lib.hid hw
  rw [← Hall.out]
  clear hle hw
  go_enter Try.func120, Try.ntmps120
  go_wp2
  go_loop [3, 11] (fun s i => ∃ k : Nat, k ≤ rss.length ∧ i = .int .i64 k ∧ s = .int .i64 (flatTo rss k).length) (fun _ i => rss.length - (intOf i).toNat)
  case atStart => exact ⟨0, by omega, rfl, rfl⟩
  case round =>
    obtain ⟨k, hk, rfl, rfl⟩ := hrel
    have hcl := Hle.out k hk
    by_cases hlt : k < rss.length
    · obtain ⟨b, off, B, d, rfl, hbk, hc, _, _⟩ := hr.row hlt
      have hrl := Hw.out k hlt
      have hst := Hst.out k hlt
      have Hs := Lib.hid (show (flatTo rss (k + 1)).length = (flatTo rss k).length + (rss.getD k []).length from by rw [hst, List.length_append])
      have i0 : (0 : Int) ≤ (k : Int) := by omega
      have i1 : (k : Int) < (rss.length : Int) := by omega
      clear hst
      generalize (rss.getD k []).length = m at *
      generalize hn : (flatTo rss k).length = n at *
      clear hn
      go_wp2
      all_goals
        go_round
        case rel => exact ⟨k + 1, by omega, by go_num, by rw [Hs.out]; go_num⟩
        case measure => simp [intOf]; omega
    · obtain rfl : k = rss.length := by omega
      go_wp2_with (go_at_call 155; refine (conG.out _).mono ?_; rintro e w1 ⟨A1, c1, rfl, ho1, hb1⟩)
      go_loopw [6, 27] (fun v i wr => ∃ (k : Nat) (A' : Option Addr) (c' : Nat), k ≤ rss.length ∧ i = .int .i64 k ∧ v = .slice A' (flatTo rss k).length c' ∧ wr.ownsRow w.heap.size 3 1 (.slice A' (flatTo rss k).length c') (flatTo rss k).length (cellsI (flatTo rss k)) ∧ Below w.heap.size w wr) (fun _ i _ => rss.length - (intOf i).toNat)
      case atStart => exact ⟨0, A1, c1, by omega, rfl, rfl, ho1, hb1⟩
      case round =>
        clear ho1 hb1
        obtain ⟨k, A', c', hk, rfl, rfl, hown, hb⟩ := hrel
        have hcl2 := Hle.out k hk
        by_cases hlt : k < rss.length
        · obtain ⟨b, off, B, d, rfl, hbk, hc, hrk, _⟩ := hr.row hlt
          have g1 := (hb.cell (p := ⟨b, _, none⟩) hbk).trans hc
          have hrl := Hw.out k hlt
          have hru := Lib.hid (hrk.below hb)
          have Hc := Lib.hid (Hst.out k hlt)
          have Hb := Lib.hid hb
          have Ho := Lib.hid hown
          have hz := hb.size
          have i0 : (0 : Int) ≤ (k : Int) := by omega
          have i1 : (k : Int) < (rss.length : Int) := by omega
          clear hc hrk hb hown
          generalize rss.getD k [] = us at *
          generalize hT : flatTo rss k = T at *
          clear hT
          go_wp2_with (at_builtin; refine wp_append_ints rfl _ _ rfl w.heap.size _ T rfl Ho.out _ _ us rfl hru.out (by omega) (by omega) (by omega) ⟨_, _, rfl⟩ ?_; intro A4 c4 w4 ho4 hg4)
          go_roundw
          case rel =>
            refine ⟨k + 1, A4, c4, by omega, by go_num, by rw [Hc.out, List.length_append], by rw [Hc.out]; exact ho4, ?_⟩
            have hb0 := Hb.out
            exact Below.grown hb0 hg4 (by omega) (fun g hg => (Ho.out.lt g hg).1)
          case measure => simp [intOf]; omega
        · obtain rfl : k = rss.length := by omega
          go_wp2
          go_ret
          exact ⟨A', c', rfl, hown, hb⟩

def blkF (rss : List (List Int)) : List Int := if blkB rss then rss.flatten else []

def blkW (rss : List (List Int)) : Nat := if blkB rss then widB rss else 0

def RetBlk (w : World) (rss : List (List Int)) (e : Ending) (w' : World) : Prop :=
  ∃ A c, e = .returned (.tuple #[.agg #[.slice A (blkF rss).length c, .int .i64 (blkW rss)], .bool (blkB rss)]) ∧ w'.ownsRow w.heap.size 3 1 (.slice A (blkF rss).length c) (blkF rss).length (cellsI (blkF rss)) ∧ Below w.heap.size w w'

theorem retBlk_no {w w' : World} {rss : List (List Int)} {e : Ending} (h : blkB rss = false) (he : e = .returned (.tuple #[.agg #[.slice none 0 0, .int .i64 0], .bool false])) (hb : Below w.heap.size w w') : RetBlk w rss e w' := by
  have e1 : blkF rss = [] := by simp [blkF, h]
  have e2 : blkW rss = 0 := by simp [blkW, h]
  refine ⟨none, 0, ?_, ?_, hb⟩
  · rw [he, e1, e2, h]; rfl
  · rw [e1]; exact World.ownsRow_nil _ _ _ _

set_option maxRecDepth 100000 in
set_option maxHeartbeats 4000000 in
theorem c_blockOf (A : Option Addr) (c : Nat) (rss : List (List Int)) (w : World) (hr : RdII w A rss) (hl : rss.length ≤ 9223372036854775807) (hlr : ∀ k, k < rss.length → (rss.getD k []).length ≤ 9223372036854775807) :
    Calls Try.prog 86 #[.slice A rss.length c] w (RetBlk w rss) := by
  have hb0 : Below w.heap.size w (w.alloc (.cells #[.slice none 0 0, .int .i64 0] 94)) := (Below.refl _ _).alloc (Nat.le_refl _) _
  have r0 : (w.alloc (.cells #[.slice none 0 0, .int .i64 0] 94)).cell? ⟨w.heap.size, 0, none⟩ = some (.slice none 0 0) := by simp [go_sem]
  have r1 : (w.alloc (.cells #[.slice none 0 0, .int .i64 0] 94)).cell? ⟨w.heap.size, 1, none⟩ = some (.int .i64 0) := by simp [go_sem]
  have rf : ∀ m, (w.alloc (.cells #[.slice none 0 0, .int .i64 0] 94)).frozen? ⟨w.heap.size, m, none⟩ = false := fun m => by unfold World.frozen? World.alloc; simp
  have hr0 := hr.below hb0
  obtain ⟨v1, hv1⟩ : ∃ v1, v1 = w.alloc (.cells #[.slice none 0 0, .int .i64 0] 94) := ⟨_, rfl⟩
  rw [← hv1] at hb0 r0 r1 rf hr0
  have hgv := block_lt r0
  have Hb0 := Lib.hid hb0
  have HNO := Lib.hid (fun (h : blkB rss = false) e w' he hb => retBlk_no (w := w) (w' := w') (rss := rss) (e := e) h he hb)
  obtain ⟨P, hP⟩ : ∃ P, P = RetBlk w rss := ⟨_, rfl⟩
  rw [← hP] at HNO ⊢
  clear hr hb0
  by_cases h1 : 1 ≤ rss.length
  · by_cases h3 : rss.length ≤ 3
    · obtain ⟨b, off, B0, d0, rfl, hbk, hc0, _, hall⟩ := hr0.row (k := 0) (by omega)
      have g0 := hc0
      rw [Nat.add_zero, show (rss.getD 0 []).length = widB rss from rfl] at g0
      have g0L := g0
      rw [hv1] at g0L
      have hw64 : widB rss ≤ 9223372036854775807 := hlr 0 (by omega)
      have Hrows := Lib.hid hall
      have Hwid := Lib.hid (fun k (hk : k < rss.length) h => blk_wid (rss := rss) hk h)
      have j2 : (0 : Int) < (rss.length : Int) := by omega
      have j3 : ¬ (3 : Int) < (rss.length : Int) := by omega
      have j4 : ¬ (rss.length : Int) < 1 := by omega
      by_cases h24 : widB rss = 2 ∨ widB rss = 4
      · have Hsh := Lib.hid (show (∀ k, k < rss.length → (rss.getD k []).length = widB rss) → shapeP rss from fun h => ⟨h1, h3, h24, h⟩)
        have hq : ((widB rss : Int) != 2) = false ∨ (((widB rss : Int) != 2) = true ∧ ((widB rss : Int) != 4) = false) := by
          rcases h24 with h | h
          · exact .inl (nebF (by omega))
          · exact .inr ⟨nebT (by omega), nebF (by omega)⟩
        have conC := Lib.hid (fun W (hb : Below v1.heap.size v1 W) (hs : shapeP rss) => c_concatN (some ⟨b, off, none⟩) c rss W (hr0.below hb) h3 (fun k hk => by rw [hs.2.2.2 k hk]; have := hs.2.2.1; omega))
        have hfl : shapeP rss → rss.flatten.length ≤ 12 := fun hs => by
          rw [flat_len hs.2.2.2]
          have h4 : widB rss ≤ 4 := by have := hs.2.2.1; omega
          have : rss.length * widB rss ≤ 3 * 4 := Nat.mul_le_mul hs.2.1 h4
          omega
        have Hfl := Lib.hid hfl
        have Hyes := Lib.hid (fun h => blk_yes (rss := rss) h)
        have HP := Lib.hid hP
        have hl2 : widB rss ≤ 4 := by omega
        clear hc0 hall hr0 h24 hfl hP hlr
        rcases hq with q2 | ⟨q2, q4⟩
        all_goals
          go_enter Try.func86, Try.ntmps86
          go_wp2_with fail
          rw [← hv1]
          clear g0L hv1
          go_loop [32] (fun i => ∃ k : Nat, k ≤ rss.length ∧ i = .int .i64 k ∧ (∀ j, j < k → (rss.getD j []).length = widB rss)) (fun i => rss.length - (intOf i).toNat)
          case atStart => exact ⟨0, Nat.zero_le _, rfl, by omega⟩
          case round =>
            obtain ⟨k, hk, rfl, hs⟩ := hrel
            by_cases hlt : k < rss.length
            · obtain ⟨Bk, dk, hck, _⟩ := Hrows.out k hlt
              have k0 : (0 : Int) ≤ (k : Int) := by omega
              have k1 : (k : Int) < (rss.length : Int) := by omega
              by_cases he : (rss.getD k []).length = widB rss
              · have q0 : (((rss.getD k []).length : Int) != (widB rss : Int)) = false := nebF (by omega)
                have Hs2 := Lib.hid (show ∀ j, j < k + 1 → (rss.getD j []).length = widB rss from fun j hj => by
                  rcases Nat.lt_succ_iff_lt_or_eq.1 hj with h | rfl
                  · exact hs j h
                  · exact he)
                clear hs he
                generalize (rss.getD k []).length = m at *
                go_wp2
                go_round
                case rel => exact ⟨k + 1, by omega, by go_num, Hs2.out⟩
                case measure => simp [intOf]; omega
              · have q0 : (((rss.getD k []).length : Int) != (widB rss : Int)) = true := nebT (by omega)
                have Hno := Lib.hid (Hwid.out k hlt he)
                clear hs he
                generalize (rss.getD k []).length = m at *
                go_wp2
                refine bodyPost_ret (v := .tuple #[.agg #[.slice none 0 0, .int .i64 0], .bool false]) (by simp [results, Try.results86, go_sem, r0, r1]) rfl (HNO.out Hno.out _ _ rfl ((Hb0.out.setCell (Nat.le_refl _) _).setCell (Nat.le_refl _) _))
            · obtain rfl : k = rss.length := by omega
              have hsh := Hsh.out hs
              have hy := Hyes.out hsh
              have hln := Hfl.out hsh
              have conC2 := Lib.hid (conC.out v1 (Below.refl _ _) hsh)
              have conTP := Lib.hid (fun W A' c' base (ho : W.ownsRow base 3 1 (.slice A' rss.flatten.length c') rss.flatten.length (cellsI rss.flatten)) => c_tilesOfPairs A' c' rss.flatten W (RdI.of_own ho) (by omega))
              have HF := Lib.hid (fun (h : blkB rss = true) => (show blkF rss = rss.flatten ∧ blkW rss = widB rss from ⟨by simp [blkF, h], by simp [blkW, h]⟩))
              rw [← hy] at conTP
              clear hs hsh hy conC Hsh Hfl Hyes Hwid Hrows
              cases hB : blkB rss
              · rw [hB] at conTP
                have Hno := Lib.hid hB
                clear hB HF HP
                generalize rss.flatten = Fl at *
                generalize handT Fl = T at *
                go_wp2_with (first | (go_at_call 120; refine conC2.out.mono ?_; rintro e w2 ⟨A2, c2, rfl, ho2, hb2⟩) | (go_at_call 121; refine (conTP.out _ _ _ _ ho2).mono ?_; rintro e w3 ⟨A3, c3, rfl, ho3, hb3⟩; have y0 := keepc hb3 (keepc hb2 r0); have y1 := keepc hb3 (keepc hb2 r1); have yf : ∀ m, w3.frozen? ⟨w.heap.size, m, none⟩ = false := fun m => ((bstep hb2 hb3).frozen (p := ⟨w.heap.size, m, none⟩) hgv).trans (rf m)))
                refine bodyPost_ret (v := .tuple #[.agg #[.slice none 0 0, .int .i64 0], .bool false]) (by simp [results, Try.results86, go_sem, y0, y1]) rfl (HNO.out Hno.out _ _ rfl (((bstep Hb0.out (bstep hb2 hb3)).setCell (Nat.le_refl _) _).setCell (Nat.le_refl _) _))
              · rw [hB] at conTP
                have hFF := HF.out hB
                have hp := HP.out
                unfold RetBlk at hp
                rw [hB, hFF.1, hFF.2] at hp
                have Hp := Lib.hid hp
                clear hp hFF hB HF HP HNO
                generalize rss.flatten = Fl at *
                generalize handT Fl = T at *
                go_wp2_with (first | (go_at_call 120; refine conC2.out.mono ?_; rintro e w2 ⟨A2, c2, rfl, ho2, hb2⟩) | (go_at_call 121; refine (conTP.out _ _ _ _ ho2).mono ?_; rintro e w3 ⟨A3, c3, rfl, ho3, hb3⟩; have y0 := keepc hb3 (keepc hb2 r0); have y1 := keepc hb3 (keepc hb2 r1); have yf : ∀ m, w3.frozen? ⟨w.heap.size, m, none⟩ = false := fun m => ((bstep hb2 hb3).frozen (p := ⟨w.heap.size, m, none⟩) hgv).trans (rf m)))
                refine bodyPost_ret (v := .tuple #[.agg #[.slice A2 Fl.length c2, .int .i64 (widB rss)], .bool true]) (by simp [results, Try.results86, go_sem, y0, y1]) rfl ?_
                rw [Hp.out]
                exact ⟨A2, c2, rfl, own_base (own_set_low (own_set_low (own_keep ho2 hb3) hgv) hgv) Hb0.out.size, ((bstep Hb0.out (bstep hb2 hb3)).setCell (Nat.le_refl _) _).setCell (Nat.le_refl _) _⟩
      · have Hno := Lib.hid (show blkB rss = false from blk_no fun hp => h24 hp.2.2.1)
        have q2 : ((widB rss : Int) != 2) = true := nebT (by omega)
        have q4 : ((widB rss : Int) != 4) = true := nebT (by omega)
        clear hc0 hall hr0 h24 hP hlr Hwid Hrows
        go_enter Try.func86, Try.ntmps86
        go_wp2_with fail
        rw [← hv1]
        clear g0L hv1
        refine bodyPost_ret (v := .tuple #[.agg #[.slice none 0 0, .int .i64 0], .bool false]) (by simp [results, Try.results86, go_sem, r0, r1]) rfl (HNO.out Hno.out _ _ rfl Hb0.out)
    · have Hno := Lib.hid (blk_long h3)
      have j3 : (3 : Int) < (rss.length : Int) := by omega
      have j4 : ¬ (rss.length : Int) < 1 := by omega
      clear hr0 h3 hP hlr
      go_enter Try.func86, Try.ntmps86
      go_wp2_with fail
      rw [← hv1]
      clear hv1
      refine bodyPost_ret (v := .tuple #[.agg #[.slice none 0 0, .int .i64 0], .bool false]) (by simp [results, Try.results86, go_sem, r0, r1]) rfl (HNO.out Hno.out _ _ rfl Hb0.out)
  · have Hno := Lib.hid (blk_none h1)
    have j4 : (rss.length : Int) < 1 := by omega
    clear hr0 h1 hP hlr
    go_enter Try.func86, Try.ntmps86
    go_wp2_with fail
    rw [← hv1]
    clear hv1
    refine bodyPost_ret (v := .tuple #[.agg #[.slice none 0 0, .int .i64 0], .bool false]) (by simp [results, Try.results86, go_sem, r0, r1]) rfl (HNO.out Hno.out _ _ rfl Hb0.out)
end Go.Proofs.Ytepedcdnaodhcaa

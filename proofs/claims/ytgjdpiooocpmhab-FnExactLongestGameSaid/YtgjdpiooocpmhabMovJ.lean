/- A move's small functions: the program's. -/
import Derived.Test.YtgjdpiooocpmhabMov
import Derived.Test.YtgjdpiooocpmhabLay
import Derived.Test.YtgjdpiooocpmhabGamI
import Derived.Test.YtgjdpiooocpmhabMakS
import Derived.Deep.Cut
import Derived.BigQuiet
namespace Go.Proofs.Ytgjdpiooocpmhab
open Go.RowKit
set_option linter.unusedVariables false

def endV (k : Nat) : Value := .string (endS k)
theorem endS_l {k : Nat} (hk : k ≤ 2) : ((endS k).toList == [108]) = (k == 1) := by
  have : k = 0 ∨ k = 1 ∨ k = 2 := by omega
  rcases this with rfl | rfl | rfl
  · show ((⟨#[]⟩ : ByteArray).toList == [108]) = false
    first | decide | rfl | kernel_rfl | (simp; done) | (go_simp; done)
  · show ((⟨#[108]⟩ : ByteArray).toList == [108]) = true
    first | decide | rfl | kernel_rfl | (simp; done) | (go_simp; done)
  · show ((⟨#[114]⟩ : ByteArray).toList == [108]) = false
    first | decide | rfl | kernel_rfl | (simp; done) | (go_simp; done)

set_option maxRecDepth 100000 in
set_option maxHeartbeats 1000000 in
theorem c_isPass (a b : Int) (k : Nat) (hk : k ≤ 2) (w : World) : Calls Try.prog 112 #[.agg #[.int .i64 a, .int .i64 b, .string (endS k)]] w fun e w' => e = .returned (.bool (k == 0)) ∧ Below w.heap.size w w' := by
  have h3 : k = 0 ∨ k = 1 ∨ k = 2 := by omega
  rcases h3 with rfl | rfl | rfl
  · have hb0 : Below w.heap.size w (w.alloc (.cells #[.int .i64 a, .int .i64 b, .string ⟨#[]⟩] 130)) := (Below.refl _ _).alloc (Nat.le_refl _) _
    rw [show endS 0 = ⟨#[]⟩ from rfl]
    go_enter Try.func112, Try.ntmps112
    go_wp2
    go_ret
    exact ⟨rfl, hb0⟩
  · have hb0 : Below w.heap.size w (w.alloc (.cells #[.int .i64 a, .int .i64 b, .string ⟨#[108]⟩] 130)) := (Below.refl _ _).alloc (Nat.le_refl _) _
    rw [show endS 1 = ⟨#[108]⟩ from rfl]
    go_enter Try.func112, Try.ntmps112
    go_wp2
    go_ret
    exact ⟨rfl, hb0⟩
  · have hb0 : Below w.heap.size w (w.alloc (.cells #[.int .i64 a, .int .i64 b, .string ⟨#[114]⟩] 130)) := (Below.refl _ _).alloc (Nat.le_refl _) _
    rw [show endS 2 = ⟨#[114]⟩ from rfl]
    go_enter Try.func112, Try.ntmps112
    go_wp2
    go_ret
    exact ⟨rfl, hb0⟩

def rowWL (R : List Int) (a b : Int) (k : Nat) : List Int := if R.length = 0 then [a, b] else layHL R a b (k == 1)

set_option maxRecDepth 100000 in
set_option maxHeartbeats 1000000 in
theorem c_rowWith (AF : Option Addr) (cF : Nat) (F : List (Int × Int)) (AS : Option Addr) (cS : Nat) (S : List (Int × Int)) (AR : Option Addr) (cR : Nat) (R : List Int) (t u : Int) (a b : Int) (k : Nat) (hk : k ≤ 2) (w : World) (hR : RdI w AR R) (lR : R.length ≤ 1048576) :
    Calls Try.prog 129 #[.agg #[.slice AF F.length cF, .slice AS S.length cS, .slice AR R.length cR, .int .i64 t, .int .i64 u], .agg #[.int .i64 a, .int .i64 b, .string (endS k)]] w (RetN w (rowWL R a b k)) := by
  have he := endS_l hk
  unfold rowWL
  generalize hs : endS k = s at *
  by_cases h0 : R.length = 0
  · have e0 : ((R.length : Int) == 0) = true := by simp [h0]
    rw [if_pos h0]
    clear h0 he hs hR
    go_enter Try.func129, Try.ntmps129
    go_upto_region 1 with (fail)
    obtain ⟨v, hv⟩ : ∃ v, v = (w.alloc (.cells #[.slice AF F.length cF, .slice AS S.length cS, .slice AR R.length cR, .int .i64 t, .int .i64 u] 31)).alloc (.cells #[.int .i64 a, .int .i64 b, .string s] 130) := ⟨_, rfl⟩
    rw [← hv]
    have hbv : Below w.heap.size w v := by rw [hv]; exact ((Below.refl _ _).alloc (Nat.le_refl _) _).alloc (by simp) _
    have x2 : v.cell? ⟨w.heap.size, 2, none⟩ = some (.slice AR R.length cR) := by rw [hv]; simp
    have y0 : v.cell? ⟨w.heap.size + 1, 0, none⟩ = some (.int .i64 a) := by rw [hv]; simp
    have y1 : v.cell? ⟨w.heap.size + 1, 1, none⟩ = some (.int .i64 b) := by rw [hv]; simp
    have y2 : v.cell? ⟨w.heap.size + 1, 2, none⟩ = some (.string s) := by rw [hv]; simp
    clear hv
    go_wp2
    go_ret
    exact ⟨some ⟨v.heap.size, 0, none⟩, 2, rfl, World.ownsRow_lit v #[.int .i64 a, .int .i64 b] 2 hbv.size (by unfold maxLen; omega) rfl, hbv.alloc hbv.size _⟩
  · have e0 : ((R.length : Int) == 0) = false := by rw [beq_eq_false_iff_ne]; omega
    rw [if_neg h0]
    have con := Lib.hid (fun W (hb : Below w.heap.size w W) => c_implLay AR cR R a b (k == 1) W (hR.below hb) lR)
    generalize layHL R a b (k == 1) = L at *
    generalize layB R a b (k == 1) = B at *
    rw [← he] at con
    clear h0 he hs hR
    go_enter Try.func129, Try.ntmps129
    go_upto_region 1 with (fail)
    obtain ⟨v, hv⟩ : ∃ v, v = (w.alloc (.cells #[.slice AF F.length cF, .slice AS S.length cS, .slice AR R.length cR, .int .i64 t, .int .i64 u] 31)).alloc (.cells #[.int .i64 a, .int .i64 b, .string s] 130) := ⟨_, rfl⟩
    rw [← hv]
    have hbv : Below w.heap.size w v := by rw [hv]; exact ((Below.refl _ _).alloc (Nat.le_refl _) _).alloc (by simp) _
    have x2 : v.cell? ⟨w.heap.size, 2, none⟩ = some (.slice AR R.length cR) := by rw [hv]; simp
    have y0 : v.cell? ⟨w.heap.size + 1, 0, none⟩ = some (.int .i64 a) := by rw [hv]; simp
    have y1 : v.cell? ⟨w.heap.size + 1, 1, none⟩ = some (.int .i64 b) := by rw [hv]; simp
    have y2 : v.cell? ⟨w.heap.size + 1, 2, none⟩ = some (.string s) := by rw [hv]; simp
    clear hv
    go_wp2_with fail
    refine (con.out v hbv).mono ?_
    rintro e w3 ⟨A3, c3, rfl, o3, h3⟩
    go_wp2
    go_ret
    exact ⟨A3, c3, rfl, own_base o3 hbv.size, bstep hbv h3⟩

end Go.Proofs.Ytgjdpiooocpmhab

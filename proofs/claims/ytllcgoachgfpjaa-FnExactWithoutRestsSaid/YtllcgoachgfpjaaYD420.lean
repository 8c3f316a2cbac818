/- Merged texts. -/
import Derived.Test.YtllcgoachgfpjaaYD416
import Derived.Test.YtllcgoachgfpjaaYD419
import Derived.Test.YtllcgoachgfpjaaYD49
import Derived.Test.YtllcgoachgfpjaaYD41
/- Contracts: isListFor, l05Given, InverseSeries, SeriesOf (program and model). -/
namespace Go.Proofs.Ytllcgoachgfpjaa
open Go.RowKit
set_option linter.unusedVariables false
set_option linter.unusedSimpArgs false

def lisB (p : Int) (xs : List Int) (lo hi : Int) : Bool := primeB p && (decide (lo ≤ xs.length) && decide ((xs.length : Int) ≤ hi)) && areB p xs
theorem lisB_rng {p : Int} {xs : List Int} {lo hi : Int} (h : lisB p xs lo hi = true) : primeB p = true ∧ lo ≤ xs.length ∧ (xs.length : Int) ≤ hi ∧ areB p xs = true := by
  unfold lisB at h
  simp only [Bool.and_eq_true, decide_eq_true_eq] at h
  exact ⟨h.1.1, h.1.2.1, h.1.2.2, h.2⟩
set_option maxRecDepth 100000 in
set_option maxHeartbeats 1600000 in
theorem isListFor_any (p : Int) (a : Option Addr) (n c : Nat) (xs : List Int) (lo hi : Int) (w : World) (hs : SL w a n c xs) (hn : n ≤ 4000000) :
    Calls Try.prog 95 #[.int .i64 p, .slice a n c, .int .i64 lo, .int .i64 hi] w fun e w' => e = .returned (.bool (lisB p xs lo hi)) ∧ w = w' := by
  have hl := hide hs.len
  cases hP : primeB p
  · have HP := hide hP
    have HR := hide (show lisB p xs lo hi = false by simp [lisB, hP])
    clear hP
    go_enter Try.func95, Try.ntmps95
    go_wp2_with fail
    refine (isPrime_any _ _).mono ?_
    rintro e v1 ⟨rfl, rfl⟩
    rw [HP.out]
    go_wp2
    go_ret
    exact ⟨ret_bool HR.out.symm, rfl⟩
  have HP := hide hP
  by_cases q1 : lo ≤ (n : Int)
  rotate_left
  · have HR := hide (show lisB p xs lo hi = false by simp [lisB, hl.out, q1])
    clear hP
    go_enter Try.func95, Try.ntmps95
    go_wp2_with fail
    refine (isPrime_any _ _).mono ?_
    rintro e v1 ⟨rfl, rfl⟩
    rw [HP.out]
    go_wp2
    go_ret
    exact ⟨ret_bool HR.out.symm, rfl⟩
  by_cases q2 : (n : Int) ≤ hi
  rotate_left
  · have HR := hide (show lisB p xs lo hi = false by simp [lisB, hl.out, q2])
    clear hP
    go_enter Try.func95, Try.ntmps95
    go_wp2_with fail
    refine (isPrime_any _ _).mono ?_
    rintro e v1 ⟨rfl, rfl⟩
    rw [HP.out]
    go_wp2
    go_ret
    exact ⟨ret_bool HR.out.symm, rfl⟩
  have HR := hide (show lisB p xs lo hi = areB p xs by simp [lisB, hl.out, q1, q2, hP])
  clear hP
  go_enter Try.func95, Try.ntmps95
  go_wp2_with fail
  refine (isPrime_any _ _).mono ?_
  rintro e v1 ⟨rfl, rfl⟩
  rw [HP.out]
  go_wp2_with fail
  refine (areNumbers_any _ _ _ _ _ _ hs hn).mono ?_
  rintro e v2 ⟨rfl, rfl⟩
  go_wp2
  go_ret
  exact ⟨ret_bool HR.out.symm, rfl⟩
def invsC (p : Int) (xs : List Int) : Int := if lisB p xs 1 24 = true then (if xs.getD 0 0 = 0 then 5 else 0) else 2
def invsV (p : Int) (xs : List Int) : List Int := if invsC p xs = 0 then serL p [1] xs xs.length else []
theorem areB_one {p : Int} (hp : 2 ≤ p) : areB p [1] = true := by simp [areB, okN]; omega
end Go.Proofs.Ytllcgoachgfpjaa
/- Contracts: InterpolatePoly (program and model). -/
namespace Go.Proofs.Ytllcgoachgfpjaa
open Go.RowKit
set_option linter.unusedVariables false
set_option linter.unusedSimpArgs false

theorem areB_wf {p : Int} {xs : List Int} (hp2 : p ≤ 10007) (h : areB p xs = true) : ∀ y ∈ xs, (Lit.int .i64 y).wf = true := by
  intro y hy
  unfold areB at h
  rw [List.all_eq_true] at h
  have := h y hy
  unfold okN at this
  simp at this
  exact WalkArith.wf_i64 (by omega)
end Go.Proofs.Ytllcgoachgfpjaa

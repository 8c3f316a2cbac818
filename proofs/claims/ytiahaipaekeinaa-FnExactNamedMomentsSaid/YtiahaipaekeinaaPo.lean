/- Contracts: areNumbers, numberAt, isZero, IsPoly, degree, trim (program); l01Poly, IsPoly, l01Own, l01Trim (model). -/
import Derived.Test.YtiahaipaekeinaaPn
import Derived.Test.YtiahaipaekeinaaGl
namespace Go.Proofs.Ytiahaipaekeinaa
open Go.RowKit
set_option linter.unusedVariables false
set_option linter.unusedSimpArgs false

def okN (p x : Int) : Bool := decide (0 ≤ x ∧ x < p)
def areB (p : Int) (xs : List Int) : Bool := xs.all (okN p)
def lastZ (f : List Int) : Bool := f.getD (f.length - 1) 0 == 0
def polyB (p : Int) (f : List Int) : Bool := decide (f.length ≤ 25) && areB p f && (f.isEmpty || !lastZ f)
theorem take_snocI (xs : List Int) (k : Nat) (h : k < xs.length) : xs.take (k + 1) = xs.take k ++ [xs.getD k 0] := by
  rw [List.take_add_one, List.getElem?_eq_getElem h]
  simp [h]
theorem areB_snoc (p : Int) (xs : List Int) (k : Nat) (h : k < xs.length) : areB p (xs.take (k + 1)) = (areB p (xs.take k) && okN p (xs.getD k 0)) := by
  rw [take_snocI xs k h]
  simp [areB]
theorem areB_false (p : Int) (xs : List Int) (k : Nat) (h : k < xs.length) (hx : okN p (xs.getD k 0) = false) : areB p xs = false := by
  unfold areB
  rw [Bool.eq_false_iff]
  intro hall
  rw [List.all_eq_true] at hall
  have := hall (xs.getD k 0) (by simp [h])
  rw [hx] at this
  cases this
theorem areB_at {p : Int} {xs : List Int} (h : areB p xs = true) (k : Nat) (hk : k < xs.length) : 0 ≤ xs.getD k 0 ∧ xs.getD k 0 < p := by
  unfold areB at h
  rw [List.all_eq_true] at h
  have := h (xs.getD k 0) (by simp [hk])
  simpa [okN] using this
theorem polyB_rng {p : Int} {f : List Int} (h : polyB p f = true) : f.length ≤ 25 ∧ areB p f = true ∧ (f = [] ∨ f.getD (f.length - 1) 0 ≠ 0) := by
  unfold polyB at h
  simp only [Bool.and_eq_true, decide_eq_true_eq, Bool.or_eq_true, List.isEmpty_iff, Bool.not_eq_true'] at h
  refine ⟨h.1.1, h.1.2, h.2.imp id (fun h => ?_)⟩
  unfold lastZ at h
  simpa using h

theorem polyB_ne {p : Int} {xs : List Int} {n : Nat} (hn : xs.length = n) (h0 : n ≠ 0) (h : areB p xs = true) : polyB p xs = (decide (n ≤ 25) && !(xs.getD (n - 1) 0 == 0)) := by
  have hne : xs.isEmpty = false := by
    cases xs with
    | nil => simp at hn; omega
    | cons a l => rfl
  unfold polyB lastZ
  rw [h, hne, hn]
  simp
theorem SL.take {w : World} {a : Option Addr} {n c : Nat} {xs : List Int} (h : SL w a n c xs) {k : Nat} (hk : k ≤ n) : SL w a k c (xs.take k) := by
  obtain ⟨h1, h2, h3⟩ := h
  obtain ⟨h2, h2'⟩ := h2
  refine ⟨by simp; omega, ⟨by omega, h2'⟩, ?_⟩
  rcases h3 with h3 | ⟨b, off, rfl, hc⟩
  · exact .inl (by omega)
  · refine .inr ⟨b, off, rfl, fun j hj => ?_⟩
    rw [hc j (by omega)]
    simp [List.getElem?_take, hj]
theorem getD_take (xs : List Int) (k j : Nat) (h : j < k) : (xs.take k).getD j 0 = xs.getD j 0 := by simp [List.getElem?_take, h]

end Go.Proofs.Ytiahaipaekeinaa

/- Contracts: checkPolyOfMoments, IsOrthogonal (program and model). -/
import Derived.Test.YtllcgoachgfpjaaWp
import Derived.Test.YtllcgoachgfpjaaOz
namespace Go.Proofs.Ytllcgoachgfpjaa
open Go.RowKit
set_option linter.unusedVariables false
set_option linter.unusedSimpArgs false

theorem ret_b2 {a c : Bool} {b d : Int} (h : a = c) (h' : b = d) : Ending.returned (.tuple #[.bool a, .int .i64 b]) = .returned (.tuple #[.bool c, .int .i64 d]) := by rw [h, h']
def pomC (p : Int) (xs f : List Int) : Int := if momB p xs then (if polyB p f then 0 else 1) else 1
def iorC (p : Int) (xs f : List Int) (k : Int) : Int :=
  if pomC p xs f = 0 then (if 0 ≤ k ∧ k ≤ 12 then (if f.length = 0 ∨ k = 0 then 0 else if (f.length : Int) + k - 1 ≤ xs.length then 0 else 5) else 2) else 1
def iorV (p : Int) (xs f : List Int) (k : Int) : Bool := decide (iorC p xs f k = 0) && (List.range k.toNat).all (fun i => dotK p f xs i f.length == 0)
theorem iorV_bad {p : Int} {xs f : List Int} {k : Int} (h : iorC p xs f k ≠ 0) : iorV p xs f k = false := by simp [iorV, h]
theorem iorV_t {p : Int} {xs f : List Int} {k : Int} (h : iorC p xs f k = 0) (h2 : ∀ i, i < k.toNat → dotK p f xs i f.length = 0) : iorV p xs f k = true := by
  simp only [iorV, h, decide_true, Bool.true_and, List.all_eq_true, List.mem_range, beq_iff_eq]
  exact h2
theorem iorV_f {p : Int} {xs f : List Int} {k : Int} (i : Nat) (hi : i < k.toNat) (h2 : dotK p f xs i f.length ≠ 0) : iorV p xs f k = false := by
  cases e : iorV p xs f k with
  | false => rfl
  | true =>
    unfold iorV at e
    simp only [Bool.and_eq_true, List.all_eq_true, List.mem_range, beq_iff_eq] at e
    exact absurd (e.2 i hi) h2
theorem trimN_nil (xs : List Int) : ∀ k, trimN xs k = 0 ↔ ∀ i, i < k → xs.getD i 0 = 0 := by
  intro k
  induction k with
  | zero => simp [trimN]
  | succ k ih =>
    rw [trimN]
    by_cases h : xs.getD k 0 = 0
    · rw [if_pos h, ih]
      constructor
      · intro h2 i hi
        by_cases e : i = k
        · rw [e]; exact h
        · exact h2 i (by omega)
      · intro h2 i hi
        exact h2 i (by omega)
    · rw [if_neg h]
      constructor
      · intro h2; omega
      · intro h2; exact absurd (h2 k (by omega)) h
theorem pomC_cases (p : Int) (xs f : List Int) : pomC p xs f = 1 ∨ (pomC p xs f = 0 ∧ momB p xs = true ∧ polyB p f = true) := by
  unfold pomC
  cases momB p xs <;> cases polyB p f <;> simp
end Go.Proofs.Ytllcgoachgfpjaa

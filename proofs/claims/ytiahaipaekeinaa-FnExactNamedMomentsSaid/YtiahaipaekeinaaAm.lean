/- Contracts: l02Numbers, l02Are, AreMoments (program and model). -/
import Derived.Test.YtiahaipaekeinaaMo
import Derived.Test.YtiahaipaekeinaaPo
namespace Go.Proofs.Ytiahaipaekeinaa
open Go.RowKit
set_option linter.unusedVariables false
set_option linter.unusedSimpArgs false

def momB (p : Int) (xs : List Int) : Bool := primeB p && decide (1 ≤ xs.length) && decide (xs.length ≤ 24) && areB p xs
theorem momB_rng {p : Int} {xs : List Int} (h : momB p xs = true) : primeB p = true ∧ 1 ≤ xs.length ∧ xs.length ≤ 24 ∧ areB p xs = true := by
  unfold momB at h
  simp only [Bool.and_eq_true, decide_eq_true_eq] at h
  exact ⟨h.1.1.1, h.1.1.2, h.1.2, h.2⟩
end Go.Proofs.Ytiahaipaekeinaa

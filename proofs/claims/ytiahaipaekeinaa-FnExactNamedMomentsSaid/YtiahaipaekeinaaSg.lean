/- Contracts: isListFor, l05Given, InverseSeries, SeriesOf (program and model). -/
import Derived.Test.YtiahaipaekeinaaSf
import Derived.Test.YtiahaipaekeinaaIp
import Derived.Test.YtiahaipaekeinaaCh
namespace Go.Proofs.Ytiahaipaekeinaa
open Go.RowKit
set_option linter.unusedVariables false
set_option linter.unusedSimpArgs false

def lisB (p : Int) (xs : List Int) (lo hi : Int) : Bool := primeB p && (decide (lo ≤ xs.length) && decide ((xs.length : Int) ≤ hi)) && areB p xs
theorem lisB_rng {p : Int} {xs : List Int} {lo hi : Int} (h : lisB p xs lo hi = true) : primeB p = true ∧ lo ≤ xs.length ∧ (xs.length : Int) ≤ hi ∧ areB p xs = true := by
  unfold lisB at h
  simp only [Bool.and_eq_true, decide_eq_true_eq] at h
  exact ⟨h.1.1, h.1.2.1, h.1.2.2, h.2⟩
def invsC (p : Int) (xs : List Int) : Int := if lisB p xs 1 24 = true then (if xs.getD 0 0 = 0 then 5 else 0) else 2
def invsV (p : Int) (xs : List Int) : List Int := if invsC p xs = 0 then serL p [1] xs xs.length else []
theorem areB_one {p : Int} (hp : 2 ≤ p) : areB p [1] = true := by simp [areB, okN]; omega
end Go.Proofs.Ytiahaipaekeinaa

/- Contracts: evaluateAt, ValueAt (program and model). -/
import Derived.Test.YtiahaipaekeinaaEv
import Derived.Test.YtiahaipaekeinaaCh
namespace Go.Proofs.Ytiahaipaekeinaa
open Go.RowKit
set_option linter.unusedVariables false
set_option linter.unusedSimpArgs false
def valC (p : Int) (f : List Int) (x : Int) : Int := if chk1 p f = 0 then (if 0 ≤ x ∧ x < p then 0 else 2) else chk1 p f
def valV (p : Int) (f : List Int) (x : Int) : Int := if valC p f x = 0 then evM p f x else 0
end Go.Proofs.Ytiahaipaekeinaa

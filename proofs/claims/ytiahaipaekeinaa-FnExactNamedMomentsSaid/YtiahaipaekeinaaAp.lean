/- Contracts: AddPolys (program and model). -/
import Derived.Test.YtiahaipaekeinaaCh
import Derived.Test.YtiahaipaekeinaaAd
import Derived.Test.YtiahaipaekeinaaOz
namespace Go.Proofs.Ytiahaipaekeinaa
open Go.RowKit
set_option linter.unusedVariables false
set_option linter.unusedSimpArgs false

def addC (p : Int) (f g : List Int) (k : Int) : Int := if chk2 p f g = 0 then (if 0 ≤ k ∧ k < p then 0 else 2) else chk2 p f g
def addV (p : Int) (f g : List Int) (k : Int) : List Int := if addC p f g k = 0 then addM p f g k else []
theorem poly_len {p : Int} {f : List Int} (h : polyB p f = true) : f.length ≤ 25 := (polyB_rng h).1
theorem addM_len {p : Int} {f g : List Int} {k : Int} (h1 : f.length ≤ 1000) (h2 : g.length ≤ 1000) : (addM p f g k).length ≤ 1000 := by
  unfold addM
  rw [trimL_len]
  have := trimN_le (tab (max f.length g.length) (sumH p k f g g.length)) (tab (max f.length g.length) (sumH p k f g g.length)).length
  rw [tab_len] at *
  omega
theorem poly_are {p : Int} {f : List Int} (h : polyB p f = true) : areB p f = true := (polyB_rng h).2.1

end Go.Proofs.Ytiahaipaekeinaa

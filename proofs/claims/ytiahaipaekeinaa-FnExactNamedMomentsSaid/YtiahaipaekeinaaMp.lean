/- Contracts: MultiplyPolys; monic, MonicPoly (program and model). -/
import Derived.Test.YtiahaipaekeinaaMu
namespace Go.Proofs.Ytiahaipaekeinaa
open Go.RowKit
set_option linter.unusedVariables false
set_option linter.unusedSimpArgs false

def mulC (p : Int) (f g : List Int) : Int := if chk2 p f g = 0 then (if (mulM p f g).length ≤ 25 then 0 else 3) else chk2 p f g
def mulV (p : Int) (f g : List Int) : List Int := if mulC p f g = 0 then mulM p f g else []
theorem mulM_le (p : Int) (f g : List Int) : (mulM p f g).length ≤ f.length + g.length := by
  unfold mulM
  split
  · simp
  · rw [tab_len]; omega
def monM (p : Int) (f : List Int) : List Int := if f.isEmpty then [] else addM p [] f (invM p (f.getD (f.length - 1) 0))
def monC (p : Int) (f : List Int) : Int := if chk1 p f = 0 then (if f.isEmpty then 5 else 0) else chk1 p f
def monV (p : Int) (f : List Int) : List Int := if monC p f = 0 then monM p f else []
theorem monM_nil (p : Int) : monM p [] = [] := rfl
theorem monM_cons {p : Int} {f : List Int} {n : Nat} (hl : f.length = n) (h : n ≠ 0) : monM p f = addM p [] f (invM p (f.getD (n - 1) 0)) := by
  unfold monM
  cases f with
  | nil => simp at hl; omega
  | cons a f => simp [← hl]
theorem invM_rng {p : Int} (x : Int) (hp : 2 ≤ p) : 0 ≤ invM p x ∧ invM p x < p := powM_rng hp
theorem areB_nil (p : Int) : areB p [] = true := rfl
theorem monM_len {p : Int} {f : List Int} (h : f.length ≤ 1000) : (monM p f).length ≤ 1000 := by
  unfold monM
  split
  · simp
  · exact addM_len (by simp) h
end Go.Proofs.Ytiahaipaekeinaa

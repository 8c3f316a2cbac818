/- Contracts: multiply, MultiplyPolys (program), l01Times, MultiplyPolys (model). -/
import Derived.Test.YtcoloeikfechjaaMm
import Derived.Test.YtcoloeikfechjaaAp
namespace Go.Proofs.Ytcoloeikfechjaa
open Go.RowKit
set_option linter.unusedVariables false
set_option linter.unusedSimpArgs false

theorem mulM_nil {p : Int} {f g : List Int} (h : f = [] ∨ g = []) : mulM p f g = [] := by
  unfold mulM
  rcases h with rfl | rfl <;> simp
theorem mulM_tab {p : Int} {f g : List Int} (h1 : f.length ≠ 0) (h2 : g.length ≠ 0) : mulM p f g = tab (f.length + g.length - 1) (mulH p f g f.length) := by
  unfold mulM
  have e1 : f.isEmpty = false := by cases f <;> simp at *
  have e2 : g.isEmpty = false := by cases g <;> simp at *
  rw [e1, e2]; rfl
end Go.Proofs.Ytcoloeikfechjaa

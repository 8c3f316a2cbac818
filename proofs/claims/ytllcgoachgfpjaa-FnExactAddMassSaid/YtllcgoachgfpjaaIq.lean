/- Contracts: InterpolatePoly (program and model). -/
import Derived.Test.YtllcgoachgfpjaaIp
import Derived.Test.YtllcgoachgfpjaaOz
namespace Go.Proofs.Ytllcgoachgfpjaa
open Go.RowKit
set_option linter.unusedVariables false
set_option linter.unusedSimpArgs false

theorem areB_wf {p : Int} {xs : List Int} (hp2 : p ≤ 10007) (h : areB p xs = true) : ∀ y ∈ xs, (Lit.int .i64 y).wf = true := by
  intro y hy
  unfold areB at h
  rw [List.all_eq_true] at h
  have := h y hy
  unfold okN at this
  simp at this
  exact WalkArith.wf_i64 (by omega)
end Go.Proofs.Ytllcgoachgfpjaa

/- Contracts: the model's composition; ShiftPoly, ComposePolys (program and model). -/
import Derived.Test.YtiahaipaekeinaaEp
import Derived.Test.YtiahaipaekeinaaCh
namespace Go.Proofs.Ytiahaipaekeinaa
open Go.RowKit
set_option linter.unusedVariables false
set_option linter.unusedSimpArgs false
theorem litOwn (w : World) (B : Nat) (hB : B ≤ w.heap.size) (y : Int) : Own B (w.alloc (.cells #[.int .i64 y] 2)) (some ⟨w.heap.size, 0, none⟩) 1 [y] := by
  have := World.ownsRow_lit w (base := B) (e := 2) (size := 1) #[.int .i64 y] 1 hB (by decide) rfl
  exact this
theorem litSL (w : World) (y : Int) : SL (w.alloc (.cells #[.int .i64 y] 2)) (some ⟨w.heap.size, 0, none⟩) 1 1 [y] := (litOwn w _ (Nat.le_refl _) y).sl
theorem litSL2 (w : World) (y z : Int) : SL (w.alloc (.cells #[.int .i64 y, .int .i64 z] 2)) (some ⟨w.heap.size, 0, none⟩) 2 2 [y, z] := by
  have := World.ownsRow_lit w (base := w.heap.size) (e := 2) (size := 1) #[.int .i64 y, .int .i64 z] 2 (Nat.le_refl _) (by decide) rfl
  exact Own.sl this
end Go.Proofs.Ytiahaipaekeinaa

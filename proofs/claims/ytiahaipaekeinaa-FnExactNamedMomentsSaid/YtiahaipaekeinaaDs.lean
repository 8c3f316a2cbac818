/- Contracts: l01Divide (model). -/
import Derived.Test.YtiahaipaekeinaaDv
import Derived.Deep.RegionWith
import Derived.Deep.DeepCutAuto
namespace Go.Proofs.Ytiahaipaekeinaa
open Go.RowKit
set_option linter.unusedVariables false
set_option linter.unusedSimpArgs false

/-- A new row of zeros. -/
def zrow (n : Nat) : Array Value := ((List.replicate n (0 : Int)).map (Value.int .i64)).toArray
set_option maxRecDepth 100000 in
theorem run_mk (n : Nat) (hn : n ≤ 4000000) : ∀ W : World, (Instr.makeSlice 22 (.int .i64 (n : Int)) (.int .i64 (n : Int))).run Try.prog W = .ok (.slice (some ⟨W.heap.size, 0, none⟩) n n) (W.alloc (.cells (zrow n) 2)) := by
  intro W
  obtain ⟨i0, hi, hz0, hz1, hz2⟩ := info_parts infoI
  have hr := run_make (P := Try.prog) W 22 2 i0 (.int .i64 0) Try.underlying22 hi hz0 .i64 .i64 n n (by omega) (by omega) (by rw [hz2]; omega) (by omega)
  simp only [Int.toNat_natCast] at hr
  rw [hr, hz1, Nat.mul_one]
  congr 2
  have e : madeCells (Value.int IntKind.i64 0).cells n = zrow n := by
    have : (madeCells (Value.int IntKind.i64 0).cells n).toList = (zrow n).toList := by
      rw [Value.cells.eq_def]
      simp [toList_madeCells_one, zrow]
    exact Array.toList_inj.1 this
  rw [e]
theorem zrow_row (W : World) (n : Nat) : RowI (W.alloc (.cells (zrow n) 2)) W.heap.size (tab n (fun _ => 0)) := by
  unfold RowI
  rw [← tab_zero]
  exact heap_alloc_new W _
end Go.Proofs.Ytiahaipaekeinaa

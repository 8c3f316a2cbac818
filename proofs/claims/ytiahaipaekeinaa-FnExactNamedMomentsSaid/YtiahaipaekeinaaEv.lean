/- Contracts: values of polynomials: evaluate (numbers), evaluateAt, ValueAt (program); l01At, ValueAt (model). -/
import Derived.Test.YtiahaipaekeinaaAp
import Derived.Test.YtiahaipaekeinaaPi
import Derived.Deep.RegionWith
import Derived.Deep.DeepCutAuto
import Derived.Deep.CutBlock
import Derived.Deep.RegionHeld3
namespace Go.Proofs.Ytiahaipaekeinaa
open Go.RowKit
set_option linter.unusedVariables false
set_option linter.unusedSimpArgs false

/-- Horner's rule, k numbers taken in from the last one on. -/
def hor (p : Int) (f : List Int) (x : Int) : Nat → Int
  | 0 => 0
  | k + 1 => (hor p f x k * x + f.getD (f.length - 1 - k) 0) % p
def evM (p : Int) (f : List Int) (x : Int) : Int := hor p f x f.length
theorem hor_rng {p : Int} (hp : 2 ≤ p) (f : List Int) (x : Int) (k : Nat) : 0 ≤ hor p f x k ∧ hor p f x k < p := by
  cases k with
  | zero => simp [hor]; omega
  | succ k => exact modb hp
theorem evM_rng {p : Int} (hp : 2 ≤ p) (f : List Int) (x : Int) : 0 ≤ evM p f x ∧ evM p f x < p := hor_rng hp f x _
set_option maxHeartbeats 400000 in
theorem numAdd (p x y : Int) (b : Nat) (w : World) (hc : w.cell? ⟨b, 0, none⟩ = some (.int .i64 p)) (hx : 0 ≤ x) (hx2 : x ≤ 100140049) (hy : 0 ≤ y) (hy2 : y ≤ 100140049) (hp : 2 ≤ p) :
    Calls Try.prog 40 #[num x, num y, .pointer (some ⟨b, 0, none⟩)] w fun e w' => e = .returned (num ((x + y) % p)) ∧ Below w.heap.size w w' := by
  have hc3 := cell_al3 hc
  go_enter Try.func40, Try.ntmps40
  go_wp2
  refine bodyPost_ret (v := num ((x + y) % p)) (by simp [results, Try.results40, go_sem]) rfl ⟨rfl, ?_⟩
  exact bl3 _ _ _ _
end Go.Proofs.Ytiahaipaekeinaa

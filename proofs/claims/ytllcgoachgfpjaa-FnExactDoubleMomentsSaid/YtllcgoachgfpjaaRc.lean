/- Contracts: opposite, linear (program); l03Step, l03Poly, l03Second (model). -/
import Derived.Test.YtllcgoachgfpjaaRm
import Derived.Test.YtllcgoachgfpjaaJc
namespace Go.Proofs.Ytllcgoachgfpjaa
open Go.RowKit
set_option linter.unusedVariables false
set_option linter.unusedSimpArgs false

theorem opposite_any (p x : Int) (w : World) (hp : 2 ≤ p) (hp2 : p ≤ 10007) (h0 : 0 ≤ x) (h1 : x < p) :
    Calls Try.prog 102 #[.int .i64 p, .int .i64 x] w fun e w' => e = .returned (.int .i64 (opp p x)) ∧ w = w' := by
  have v1 : IntKind.i64.wrap (p - x) = p - x := IntWalk.i64_in _ (by omega)
  have v2 : (p - x).tmod p = opp p x := Int.tmod_eq_emod_of_nonneg (by omega)
  have r := opp_rng (x := x) (show 2 ≤ p by omega)
  generalize opp p x = y at v2 r ⊢
  have v3 : IntKind.i64.wrap y = y := IntWalk.i64_in _ (by omega)
  have hp0 : ¬ p = 0 := by omega
  go_enter Try.func102, Try.ntmps102
  go_wp2
  go_ret
  exact ⟨rfl, rfl⟩
theorem linear_any (p x : Int) (w : World) (hp : 2 ≤ p) (hp2 : p ≤ 10007) (h0 : 0 ≤ x) (h1 : x < p) :
    Calls Try.prog 63 #[.int .i64 p, .int .i64 x] w fun e w' => e = .returned (.slice (some ⟨w.heap.size, 0, none⟩) 2 2) ∧ Own w.heap.size w' (some ⟨w.heap.size, 0, none⟩) 2 (linM p x) ∧ Below w.heap.size w w' := by
  obtain ⟨y, hy⟩ : ∃ y, opp p x = y := ⟨_, rfl⟩
  unfold linM
  rw [hy]
  have Hy := Lib.hid hy
  clear hy
  go_enter Try.func63, Try.ntmps63
  go_wp2_with fail
  refine (opposite_any p x _ hp hp2 h0 h1).mono ?_
  rintro e w1 ⟨rfl, rfl⟩
  rw [Hy.out]
  go_wp2
  go_ret
  exact ⟨rfl, World.ownsRow_lit w (base := w.heap.size) (e := 2) (size := 1) #[.int .i64 y, .int .i64 1] 2 (Nat.le_refl _) (by decide) rfl, bl1 _ _⟩
end Go.Proofs.Ytllcgoachgfpjaa

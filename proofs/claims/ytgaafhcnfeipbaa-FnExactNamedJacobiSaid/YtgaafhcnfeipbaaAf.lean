/- Contracts: addNumber, functional at numbers, l02Apply, checkFunctional, l02Code, ApplyFunctional (program and model). -/
import Derived.Test.YtgaafhcnfeipbaaAm
import Derived.Test.YtgaafhcnfeipbaaPi
import Derived.Test.YtgaafhcnfeipbaaDq
import Derived.IntWalk
namespace Go.Proofs.Ytgaafhcnfeipbaa
open Go.RowKit
set_option linter.unusedVariables false
set_option linter.unusedSimpArgs false

set_option maxHeartbeats 400000 in
theorem addNumber_any (p s k x : Int) (w : World) (hp : 2 ≤ p) (hp2 : p ≤ 10007) (hs : 0 ≤ s) (hs2 : s < p) (hk : 0 ≤ k) (hk2 : k < p) (hx : 0 ≤ x) (hx2 : x < p) :
    Calls Try.prog 106 #[.int .i64 p, .int .i64 s, .int .i64 k, .int .i64 x] w fun e w' => e = .returned (.int .i64 ((s + k * x) % p)) ∧ w = w' := by
  obtain ⟨m1, m2⟩ := mulb hk hk2 hx hx2 hp2
  go_enter Try.func106, Try.ntmps106
  go_wp2
  go_ret
  exact ⟨rfl, rfl⟩
def fnC (p : Int) (xs f : List Int) : Int := if momB p xs then (if polyB p f then (if f.length ≤ xs.length then 0 else 2) else 1) else 1
def fnV (p : Int) (xs f : List Int) : Int := if fnC p xs f = 0 then dotK p f xs 0 f.length else 0
theorem fnC_cases (p : Int) (xs f : List Int) : fnC p xs f = 1 ∨ fnC p xs f = 2 ∨ (fnC p xs f = 0 ∧ momB p xs = true ∧ polyB p f = true ∧ f.length ≤ xs.length) := by
  unfold fnC
  cases momB p xs <;> cases polyB p f <;> simp
  by_cases h : f.length ≤ xs.length
  · exact .inr (.inr h)
  · exact .inr (.inl (by omega))
end Go.Proofs.Ytgaafhcnfeipbaa

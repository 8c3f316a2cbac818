/- Contracts: IsPoly as the law calls it. -/
import Derived.Test.YthdhhghmcnbgmaaPo
import Derived.Test.YthdhhghmcnbgmaaOz
namespace Go.Proofs.Ythdhhghmcnbgmaa
open Go.RowKit
set_option linter.unusedVariables false
set_option linter.unusedSimpArgs false
theorem implIsPoly (p : Int) (a : Option Addr) (n c : Nat) (xs : List Int) (w : World) (hs : SL w a n c xs) (hn : n ≤ 4000000) :
    Calls Try.prog 19 #[.int .i64 p, .slice a n c] w fun e w' => e = .returned (.bool (polyB p xs)) ∧ Below w.heap.size w w' := isPoly_any p a n c xs w hs hn
set_option maxHeartbeats 400000 in
theorem specIsPoly (p : Int) (a : Option Addr) (n c : Nat) (xs : List Int) (w : World) (hs : SL w a n c xs) (hn : n ≤ 4000000) :
    Calls Try.prog 20 #[.int .i64 p, .slice a n c] w fun e w' => e = .returned (.bool (polyB p xs)) ∧ Below w.heap.size w w' := by
  go_enter Try.func20, Try.ntmps20
  go_wp2_with (go_at_call 61; refine (l01Poly_any _ _ _ _ _ _ hs hn).mono ?_; rintro e w' ⟨rfl, rfl⟩)
  go_ret
  exact ⟨rfl, Below.refl _ _⟩
end Go.Proofs.Ythdhhghmcnbgmaa

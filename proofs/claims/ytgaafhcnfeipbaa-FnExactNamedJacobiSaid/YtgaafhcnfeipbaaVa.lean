/- Contracts: evaluateAt, ValueAt (program and model). -/
import Derived.Test.YtgaafhcnfeipbaaEv
import Derived.Test.YtgaafhcnfeipbaaCh
namespace Go.Proofs.Ytgaafhcnfeipbaa
open Go.RowKit
set_option linter.unusedVariables false
set_option linter.unusedSimpArgs false
def valC (p : Int) (f : List Int) (x : Int) : Int := if chk1 p f = 0 then (if 0 ≤ x ∧ x < p then 0 else 2) else chk1 p f
def valV (p : Int) (f : List Int) (x : Int) : Int := if valC p f x = 0 then evM p f x else 0
set_option maxHeartbeats 400000 in
theorem evaluateAt_any (p x : Int) (a1 : Option Addr) (n1 c1 : Nat) (f : List Int) (w : World) (h1 : SL w a1 n1 c1 f) (b1 : n1 ≤ 1000) (hp : 2 ≤ p) (hp2 : p ≤ 10007) (hx0 : 0 ≤ x) (hx1 : x < p) (hf : areB p f = true) :
    Calls Try.prog 69 #[.int .i64 p, .slice a1 n1 c1, .int .i64 x] w fun e w' => e = .returned (.int .i64 (evM p f x)) ∧ Below w.heap.size w w' := by
  have Hf := hide hf
  clear hf
  go_enter Try.func69, Try.ntmps69
  go_wp2_with fail
  refine (numbersModulo_any p _).mono ?_
  rintro e w1 ⟨rfl, hc1, hb1, hs1⟩
  go_wp2_with fail
  refine (evaluate_num p x _ _ _ f _ _ hc1 (h1.below hb1) b1 hp hp2 hx0 hx1 Hf.out).mono ?_
  rintro e w2 ⟨rfl, hb2⟩
  have i0 := num_index (evM p f x)
  go_wp2
  go_ret
  exact ⟨rfl, hb1.trans (hb2.mono (by omega))⟩
end Go.Proofs.Ytgaafhcnfeipbaa

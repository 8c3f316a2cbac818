/- Contract: JacobiOfSteps (program). -/
import Derived.Test.YtgaafhcnfeipbaaSg
import Derived.Test.YtgaafhcnfeipbaaJc
import Derived.Test.YtgaafhcnfeipbaaRx
import Derived.Test.YtgaafhcnfeipbaaRw
namespace Go.Proofs.Ytgaafhcnfeipbaa
open Go.RowKit
set_option linter.unusedVariables false
set_option linter.unusedSimpArgs false

def jsA (p : Int) (xs : List Int) (k : Nat) : Int := if k = 0 then xs.getD 1 0 else (xs.getD (2 * k) 0 + xs.getD (2 * k + 1) 0) % p
def jsB (p : Int) (xs : List Int) (k : Nat) : Int := if k = 0 then xs.getD 0 0 else xs.getD (2 * k - 1) 0 * xs.getD (2 * k) 0 % p
def josC (p : Int) (xs : List Int) : Int := if lisB p xs 2 24 = true ∧ xs.length % 2 = 0 then (if hasB 0 (tab (xs.length / 2) (jsB p xs)) = true then 5 else 0) else 2
def josP (p : Int) (xs : List Int) : Int := if josC p xs = 0 then p else 0
def josV (p : Int) (xs : List Int) : List Int := if josC p xs = 0 then tab (xs.length / 2) (jsA p xs) else []
def josU (p : Int) (xs : List Int) : List Int := if josC p xs = 0 then tab (xs.length / 2) (jsB p xs) else []
theorem jsA_rng {p : Int} (hp : 2 ≤ p) {xs : List Int} (h : areB p xs = true) (k : Nat) : 0 ≤ jsA p xs k ∧ jsA p xs k < p := by
  unfold jsA
  split
  · exact getD_rng h hp 1
  · exact modb hp
theorem jsB_rng {p : Int} (hp : 2 ≤ p) {xs : List Int} (h : areB p xs = true) (k : Nat) : 0 ≤ jsB p xs k ∧ jsB p xs k < p := by
  unfold jsB
  split
  · exact getD_rng h hp 0
  · exact modb hp
theorem own_blk_lt {B : Nat} {w : World} {a : Option Addr} {c : Nat} {ys : List Int} (h : Own B w a c ys) : ∀ g, blk a = some g → g < w.heap.size := fun g hg => by
  rcases h.shape with ⟨rfl, _, _⟩ | ⟨g', cur, rfl, _, hgc, _⟩
  · cases hg
  · cases hg; exact lt_of_block hgc
end Go.Proofs.Ytgaafhcnfeipbaa

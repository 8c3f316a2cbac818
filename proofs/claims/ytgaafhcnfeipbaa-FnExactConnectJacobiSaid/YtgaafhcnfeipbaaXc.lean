/- Contracts: steps on grounds, the rows of sums (program): addNumber, has, goDown, goLevel, goUp, moves, spread. -/
import Derived.Test.YtgaafhcnfeipbaaXa
import Derived.Test.YtgaafhcnfeipbaaJc
import Derived.Test.YtgaafhcnfeipbaaUw
import Derived.Deep.QuietTactic
namespace Go.Proofs.Ytgaafhcnfeipbaa
open Go.RowKit
set_option linter.unusedVariables false
set_option linter.unusedSimpArgs false

/-- weights of a ground modulo p: products with numbers less than p are small -/
structure GW (p : Int) (A B : List Int) : Prop where
  lo : 2 ≤ p
  hi : p ≤ 1099511627776
  a0 : ∀ j, 0 ≤ A.getD j 0 ∧ A.getD j 0 * p ≤ 1152921504606846976
  b0 : ∀ j, 0 ≤ B.getD j 0 ∧ B.getD j 0 * p ≤ 1152921504606846976
theorem gwM {p x y : Int} (h : 0 ≤ x ∧ x * p ≤ 1152921504606846976) (h0 : 0 ≤ y) (h1 : y < p) : 0 ≤ x * y ∧ x * y ≤ 1152921504606846976 := by
  refine ⟨Int.mul_nonneg h.1 h0, ?_⟩
  have := Int.mul_le_mul_of_nonneg_left (show y ≤ p by omega) h.1
  omega
theorem fr_be {w w1 : World} {b o : Nat} {v : Value} (t : Below w.heap.size w w1) (h : w.cell? ⟨b, o, none⟩ = some v) (hf : w.frozen? ⟨b, o, none⟩ = false) : w1.frozen? ⟨b, o, none⟩ = false := (t.frozen (World.block_lt_of_cell? _ _ h)).trans hf
theorem addNumber_w (p s k x : Int) (w : World) (hp : 2 ≤ p) (hs : 0 ≤ s) (hs2 : s ≤ 1152921504606846976) (hk : 0 ≤ k * x) (hk2 : k * x ≤ 1152921504606846976) :
    Calls Try.prog 106 #[.int .i64 p, .int .i64 s, .int .i64 k, .int .i64 x] w fun e w' => e = .returned (.int .i64 ((s + k * x) % p)) ∧ w = w' := by
  go_enter Try.func106, Try.ntmps106
  go_wp2
  go_ret
  exact ⟨rfl, rfl⟩
theorem addNumber_b (p s k x : Int) (w : World) (hp : 2 ≤ p) (hs : 0 ≤ s) (hs2 : s ≤ 1152921504606846976) (hk : 0 ≤ k * x) (hk2 : k * x ≤ 1152921504606846976) :
    Calls Try.prog 106 #[.int .i64 p, .int .i64 s, .int .i64 k, .int .i64 x] w fun e w' => e = .returned (.int .i64 ((s + k * x) % p)) ∧ Below w.heap.size w w' :=
  (addNumber_w p s k x w hp hs hs2 hk hk2).mono fun _ _ h => ⟨h.1, h.2 ▸ Below.refl _ _⟩
end Go.Proofs.Ytgaafhcnfeipbaa

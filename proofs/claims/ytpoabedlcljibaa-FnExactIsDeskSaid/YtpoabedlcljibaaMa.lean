/- Plain mathematics of chapter 1: numbers modulo p, as the loops compute them. No program. -/
import Derived.Below
namespace Go.Proofs.Ytpoabedlcljibaa
open Go.RowKit
set_option linter.unusedVariables false
set_option linter.unusedSimpArgs false

theorem ret_bool {a b : Bool} (h : a = b) : Ending.returned (.bool a) = .returned (.bool b) := by rw [h]
theorem ret_int {k : IntKind} {a b : Int} (h : a = b) : Ending.returned (.int k a) = .returned (.int k b) := by rw [h]
theorem hide {p : Prop} (h : p) : Hid p := h

def primeLoop : Nat → Int → Int → Bool
  | 0, _, _ => true
  | f + 1, d, p => if d * d ≤ p then (if p % d = 0 then false else primeLoop f (d + 1) p) else true
def primeB (p : Int) : Bool := if p < 2 then false else if 10007 < p then false else primeLoop 101 2 p
theorem primeB_lo {p : Int} (h : primeB p = true) : 2 ≤ p ∧ p ≤ 10007 := by
  unfold primeB at h
  split at h
  · cases h
  · split at h
    · cases h
    · omega

/-- What the loops of the powers compute. -/
def powLoop : Nat → Int → Int → Int → Int → Int
  | 0, _, r, _, _ => r
  | f + 1, p, r, b, k => if 0 < k then powLoop f p (if k % 2 = 1 then r * b % p else r) (b * b % p) (k / 2) else r
def powM (p x k : Int) : Int := powLoop 64 p 1 x k
def invM (p x : Int) : Int := powM p x (p - 2)

theorem mulb {p x y : Int} (h1 : 0 ≤ x) (h2 : x < p) (h3 : 0 ≤ y) (h4 : y < p) (hp : p ≤ 10007) : 0 ≤ x * y ∧ x * y ≤ 100140049 := by
  refine ⟨Int.mul_nonneg h1 h3, ?_⟩
  have : x * y ≤ 10007 * 10007 := Int.mul_le_mul (by omega) (by omega) h3 (by omega)
  omega
theorem modb {p x : Int} (hp : 2 ≤ p) : 0 ≤ x % p ∧ x % p < p := ⟨Int.emod_nonneg _ (by omega), Int.emod_lt_of_pos _ (by omega)⟩
theorem powLoop_zero (f : Nat) (p r b k : Int) (h : ¬ 0 < k) : powLoop f p r b k = r := by
  cases f <;> simp [powLoop, h]
theorem powLoop_rng {p : Int} (hp : 2 ≤ p) : ∀ (f : Nat) (r b k : Int), 0 ≤ r → r < p → 0 ≤ powLoop f p r b k ∧ powLoop f p r b k < p := by
  intro f
  induction f with
  | zero => intro r b k h1 h2; exact ⟨h1, h2⟩
  | succ f ih =>
    intro r b k h1 h2
    unfold powLoop
    split
    · split
      · exact ih _ _ _ (modb hp).1 (modb hp).2
      · exact ih _ _ _ h1 h2
    · exact ⟨h1, h2⟩
theorem powM_rng {p x k : Int} (hp : 2 ≤ p) : 0 ≤ powM p x k ∧ powM p x k < p := powLoop_rng hp _ _ _ _ (by omega) (by omega)

/-- Enough rounds: 'k' below '2 ^ f'. -/
def Few (f : Nat) (k : Int) : Prop := k < 2 ^ f
theorem Few.half {f : Nat} {k : Int} (h : Few (f + 1) k) : Few f (k / 2) := by
  unfold Few at *
  rw [Int.pow_succ] at h
  omega
theorem Few.zero {k : Int} (h : Few 0 k) : ¬ 0 < k := by unfold Few at h; simp at h; omega
theorem few64 {k : Int} (h : k ≤ 1000000000) : Few 64 k := by
  unfold Few
  have : (2 : Int) ^ 64 = 18446744073709551616 := by decide
  omega

theorem tmod_emod {p : Int} (x : Int) (hp : 2 ≤ p) : x.tmod p % p = x % p := by
  rw [Int.emod_eq_emod_iff_emod_sub_eq_zero]
  have := Int.mul_tdiv_add_tmod x p
  have e : x.tmod p - x = p * (- x.tdiv p) := by rw [Int.mul_neg]; omega
  rw [e]
  exact Int.mul_emod_right _ _
end Go.Proofs.Ytpoabedlcljibaa

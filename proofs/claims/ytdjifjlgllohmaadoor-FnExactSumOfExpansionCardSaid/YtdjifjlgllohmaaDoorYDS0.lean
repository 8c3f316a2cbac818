/- Merged texts. -/
import Derived.Below
import Derived.Test.YtdjifjlgllohmaaDoorProg
import Derived.WalkKit
import Derived.Lib.Hide
/- Plain mathematics of chapter 1: numbers modulo p, as the loops compute them. No program. -/
namespace Go.Proofs.YtdjifjlgllohmaaDoor
open Go.RowKit
set_option linter.unusedVariables false
set_option linter.unusedSimpArgs false

theorem ret_bool {a b : Bool} (h : a = b) : Ending.returned (.bool a) = .returned (.bool b) := by rw [h]
theorem ret_int {k : IntKind} {a b : Int} (h : a = b) : Ending.returned (.int k a) = .returned (.int k b) := by rw [h]
theorem hide {p : Prop} (h : p) : Hid p := h

def primeLoop : Nat → Int → Int → Bool
  | 0, _, _ => true
  | f + 1, d, p => if d * d ≤ p then (if p % d = 0 then false else primeLoop f (d + 1) p) else true
def primeB (p : Int) : Bool := if p < 2 then false else if 10007 < p then false else primeLoop 101 2 p
theorem primeB_lo {p : Int} (h : primeB p = true) : 2 ≤ p ∧ p ≤ 10007 := by
  unfold primeB at h
  split at h
  · cases h
  · split at h
    · cases h
    · omega

/-- What the loops of the powers compute. -/
def powLoop : Nat → Int → Int → Int → Int → Int
  | 0, _, r, _, _ => r
  | f + 1, p, r, b, k => if 0 < k then powLoop f p (if k % 2 = 1 then r * b % p else r) (b * b % p) (k / 2) else r
def powM (p x k : Int) : Int := powLoop 64 p 1 x k
def invM (p x : Int) : Int := powM p x (p - 2)

theorem mulb {p x y : Int} (h1 : 0 ≤ x) (h2 : x < p) (h3 : 0 ≤ y) (h4 : y < p) (hp : p ≤ 10007) : 0 ≤ x * y ∧ x * y ≤ 100140049 := by
  refine ⟨Int.mul_nonneg h1 h3, ?_⟩
  have : x * y ≤ 10007 * 10007 := Int.mul_le_mul (by omega) (by omega) h3 (by omega)
  omega
theorem modb {p x : Int} (hp : 2 ≤ p) : 0 ≤ x % p ∧ x % p < p := ⟨Int.emod_nonneg _ (by omega), Int.emod_lt_of_pos _ (by omega)⟩
theorem powLoop_zero (f : Nat) (p r b k : Int) (h : ¬ 0 < k) : powLoop f p r b k = r := by
  cases f <;> simp [powLoop, h]
theorem powLoop_rng {p : Int} (hp : 2 ≤ p) : ∀ (f : Nat) (r b k : Int), 0 ≤ r → r < p → 0 ≤ powLoop f p r b k ∧ powLoop f p r b k < p := by
  intro f
  induction f with
  | zero => intro r b k h1 h2; exact ⟨h1, h2⟩
  | succ f ih =>
    intro r b k h1 h2
    unfold powLoop
    split
    · split
      · exact ih _ _ _ (modb hp).1 (modb hp).2
      · exact ih _ _ _ h1 h2
    · exact ⟨h1, h2⟩
theorem powM_rng {p x k : Int} (hp : 2 ≤ p) : 0 ≤ powM p x k ∧ powM p x k < p := powLoop_rng hp _ _ _ _ (by omega) (by omega)

/-- Enough rounds: 'k' below '2 ^ f'. -/
def Few (f : Nat) (k : Int) : Prop := k < 2 ^ f
theorem Few.half {f : Nat} {k : Int} (h : Few (f + 1) k) : Few f (k / 2) := by
  unfold Few at *
  rw [Int.pow_succ] at h
  omega
theorem Few.zero {k : Int} (h : Few 0 k) : ¬ 0 < k := by unfold Few at h; simp at h; omega
theorem few64 {k : Int} (h : k ≤ 1000000000) : Few 64 k := by
  unfold Few
  have : (2 : Int) ^ 64 = 18446744073709551616 := by decide
  omega

theorem tmod_emod {p : Int} (x : Int) (hp : 2 ≤ p) : x.tmod p % p = x % p := by
  rw [Int.emod_eq_emod_iff_emod_sub_eq_zero]
  have := Int.mul_tdiv_add_tmod x p
  have e : x.tmod p - x = p * (- x.tdiv p) := by rw [Int.mul_neg]; omega
  rw [e]
  exact Int.mul_emod_right _ _
end Go.Proofs.YtdjifjlgllohmaaDoor
/- Contracts of the functions of numbers of chapter 1 (program and model). -/
namespace Go.Proofs.YtdjifjlgllohmaaDoor
open Go.RowKit
set_option linter.unusedVariables false
set_option linter.unusedSimpArgs false

set_option maxHeartbeats 400000 in
theorem isPrime_any (p : Int) (w : World) :
    Calls Tryd.prog 100 #[.int .i64 p] w fun e w' => e = .returned (.bool (primeB p)) ∧ w = w' := by
  by_cases hp : p < 2
  · go_enter Tryd.func100, Tryd.ntmps100
    go_wp2
    go_ret
    exact ⟨ret_bool (by simp [primeB, hp]), rfl⟩
  by_cases hq : 10007 < p
  · go_enter Tryd.func100, Tryd.ntmps100
    go_wp2
    go_ret
    exact ⟨ret_bool (by simp [primeB, hp, hq]), rfl⟩
  have H : Hid (primeB p = primeLoop 101 2 p) := Lib.hid (by simp [primeB, hp, hq])
  go_enter Tryd.func100, Tryd.ntmps100
  go_wp2
  go_loop [3] (fun i => ∃ k : Nat, k ≤ 100 ∧ i = .int .i64 (2 + k) ∧ Hid (primeLoop 101 2 p = primeLoop (101 - k) (2 + k) p)) (fun i => 101 - (intOf i).toNat)
  case atStart => exact ⟨0, by omega, rfl, rfl⟩
  case round =>
    obtain ⟨k, hk, rfl, hr⟩ := hrel
    have hdd : (2 + (k:Int)) * (2 + k) ≤ 102 * 102 := Int.mul_le_mul (by omega) (by omega) (by omega) (by omega)
    have hdd0 : 0 ≤ (2 + (k:Int)) * (2 + k) := Int.mul_nonneg (by omega) (by omega)
    obtain ⟨g, hg⟩ : ∃ g, 101 - k = g + 1 := ⟨100 - k, by omega⟩
    have Hg := Lib.hid hg
    clear hg
    go_wp2
    · go_ret
      have h1 : (2 + (k:Int)) * (2 + k) ≤ p := by assumption
      have h2 : (p % (2 + (k:Int)) == 0) = true := by assumption
      exact ⟨ret_bool (by rw [H.out, hr.out, Hg.out, primeLoop, if_pos h1, if_pos (by simpa using h2)]), rfl⟩
    · have h1 : (2 + (k:Int)) * (2 + k) ≤ p := by assumption
      have h2 : (p % (2 + (k:Int)) == 0) = false := by assumption
      have hk9 : k ≤ 98 := by
        rcases Nat.lt_or_ge 98 k with h | h
        · have : (101:Int) * 101 ≤ (2 + (k:Int)) * (2 + k) := Int.mul_le_mul (by omega) (by omega) (by omega) (by omega)
          omega
        · exact h
      go_round
      case rel => exact ⟨k + 1, by omega, by go_num, by
        have : 101 - (k + 1) = g := by have := Hg.out; omega
        rw [this, show (2 + ((k+1 : Nat):Int)) = 2 + (k:Int) + 1 by omega]
        refine hr.out.trans ?_
        rw [Hg.out, primeLoop, if_pos h1, if_neg (by simpa using h2)]⟩
      case measure => simp [intOf]; omega
    · go_ret
      have h1 : ¬ (2 + (k:Int)) * (2 + k) ≤ p := by first | assumption | (simp at *; omega)
      exact ⟨ret_bool (by rw [H.out, hr.out, Hg.out, primeLoop, if_neg h1]), rfl⟩
set_option maxHeartbeats 400000 in
theorem l01In_yes (n lo hi : Int) (w : World) (h1 : lo ≤ n) (h2 : n ≤ hi) :
    Calls Tryd.prog 77 #[.int .i64 n, .int .i64 lo, .int .i64 hi] w fun e w' => e = .returned (.bool true) ∧ w = w' := by
  go_enter Tryd.func77, Tryd.ntmps77
  go_wp2
  go_ret
  exact ⟨rfl, rfl⟩
set_option maxHeartbeats 400000 in
theorem l01In_no (n lo hi : Int) (w : World) (h : ¬ (lo ≤ n ∧ n ≤ hi)) :
    Calls Tryd.prog 77 #[.int .i64 n, .int .i64 lo, .int .i64 hi] w fun e w' => e = .returned (.bool false) ∧ w = w' := by
  by_cases h1 : lo ≤ n
  · have h2 : ¬ n ≤ hi := fun h2 => h ⟨h1, h2⟩
    clear h
    go_enter Tryd.func77, Tryd.ntmps77
    go_wp2
    go_ret
    exact ⟨rfl, rfl⟩
  · clear h
    go_enter Tryd.func77, Tryd.ntmps77
    go_wp2
    go_ret
    exact ⟨rfl, rfl⟩
set_option maxHeartbeats 400000 in
theorem isNumber_yes (p x : Int) (w : World) (h1 : 0 ≤ x) (h2 : x < p) :
    Calls Tryd.prog 101 #[.int .i64 p, .int .i64 x] w fun e w' => e = .returned (.bool true) ∧ w = w' := by
  go_enter Tryd.func101, Tryd.ntmps101
  go_wp2
  go_ret
  exact ⟨rfl, rfl⟩
set_option maxHeartbeats 400000 in
theorem isNumber_no (p x : Int) (w : World) (h : ¬ (0 ≤ x ∧ x < p)) :
    Calls Tryd.prog 101 #[.int .i64 p, .int .i64 x] w fun e w' => e = .returned (.bool false) ∧ w = w' := by
  by_cases h1 : 0 ≤ x
  · have h2 : ¬ x < p := fun h2 => h ⟨h1, h2⟩
    clear h
    go_enter Tryd.func101, Tryd.ntmps101
    go_wp2
    go_ret
    exact ⟨rfl, rfl⟩
  · clear h
    go_enter Tryd.func101, Tryd.ntmps101
    go_wp2
    go_ret
    exact ⟨rfl, rfl⟩
set_option maxHeartbeats 400000 in
theorem l01Prime_any (p : Int) (w : World) :
    Calls Tryd.prog 91 #[.int .i64 p] w fun e w' => e = .returned (.bool (primeB p)) ∧ w = w' := by
  by_cases hpq : ¬ (2 ≤ p ∧ p ≤ 10007)
  · have hpf : primeB p = false := by
      unfold primeB
      split
      · rfl
      · split
        · rfl
        · omega
    have Hpf := Lib.hid hpf
    clear hpf
    go_enter Tryd.func91, Tryd.ntmps91
    go_wp2_with (go_at_call 77; refine (l01In_no _ _ _ _ hpq).mono ?_; rintro e w' ⟨rfl, rfl⟩)
    go_ret
    exact ⟨ret_bool (by rw [Hpf.out]), rfl⟩
  have hp : 2 ≤ p := by omega
  have hq : p ≤ 10007 := by omega
  clear hpq
  have H : Hid (primeB p = primeLoop 101 2 p) := Lib.hid (by simp [primeB, show ¬ p < 2 by omega, show ¬ 10007 < p by omega])
  go_enter Tryd.func91, Tryd.ntmps91
  go_wp2_with (go_at_call 77; refine (l01In_yes _ _ _ _ hp hq).mono ?_; rintro e w' ⟨rfl, rfl⟩)
  go_loop [3] (fun i => ∃ k : Nat, k ≤ 100 ∧ i = .int .i64 (2 + k) ∧ Hid (primeLoop 101 2 p = primeLoop (101 - k) (2 + k) p)) (fun i => 101 - (intOf i).toNat)
  case atStart => exact ⟨0, by omega, rfl, rfl⟩
  case round =>
    obtain ⟨k, hk, rfl, hr⟩ := hrel
    have hdd : (2 + (k:Int)) * (2 + k) ≤ 102 * 102 := Int.mul_le_mul (by omega) (by omega) (by omega) (by omega)
    have hdd0 : 0 ≤ (2 + (k:Int)) * (2 + k) := Int.mul_nonneg (by omega) (by omega)
    obtain ⟨g, hg⟩ : ∃ g, 101 - k = g + 1 := ⟨100 - k, by omega⟩
    have Hg := Lib.hid hg
    clear hg
    go_wp2
    · go_ret
      have h1 : (2 + (k:Int)) * (2 + k) ≤ p := by assumption
      have h2 : (p % (2 + (k:Int)) == 0) = true := by assumption
      exact ⟨ret_bool (by rw [H.out, hr.out, Hg.out, primeLoop, if_pos h1, if_pos (by simpa using h2)]), rfl⟩
    · have h1 : (2 + (k:Int)) * (2 + k) ≤ p := by assumption
      have h2 : (p % (2 + (k:Int)) == 0) = false := by assumption
      have hk9 : k ≤ 98 := by
        rcases Nat.lt_or_ge 98 k with h | h
        · have : (101:Int) * 101 ≤ (2 + (k:Int)) * (2 + k) := Int.mul_le_mul (by omega) (by omega) (by omega) (by omega)
          omega
        · exact h
      go_round
      case rel => exact ⟨k + 1, by omega, by go_num, by
        have : 101 - (k + 1) = g := by have := Hg.out; omega
        rw [this, show (2 + ((k+1 : Nat):Int)) = 2 + (k:Int) + 1 by omega]
        refine hr.out.trans ?_
        rw [Hg.out, primeLoop, if_pos h1, if_neg (by simpa using h2)]⟩
      case measure => simp [intOf]; omega
    · go_ret
      have h1 : ¬ (2 + (k:Int)) * (2 + k) ≤ p := by first | assumption | (simp at *; omega)
      exact ⟨ret_bool (by rw [H.out, hr.out, Hg.out, primeLoop, if_neg h1]), rfl⟩
end Go.Proofs.YtdjifjlgllohmaaDoor

/- Contracts of the functions of numbers of chapter 1 (program and model). -/
import Derived.Test.YtpoabedlcljibaaProg
import Derived.Test.YtpoabedlcljibaaMa
import Derived.WalkKit
import Derived.Lib.Hide
namespace Go.Proofs.Ytpoabedlcljibaa
open Go.RowKit
set_option linter.unusedVariables false
set_option linter.unusedSimpArgs false

set_option maxHeartbeats 400000 in
theorem isPrime_any (p : Int) (w : World) :
    Calls Try.prog 43 #[.int .i64 p] w fun e w' => e = .returned (.bool (primeB p)) ∧ w = w' := by
  by_cases hp : p < 2
  · go_enter Try.func43, Try.ntmps43
    go_wp2
    go_ret
    exact ⟨ret_bool (by simp [primeB, hp]), rfl⟩
  by_cases hq : 10007 < p
  · go_enter Try.func43, Try.ntmps43
    go_wp2
    go_ret
    exact ⟨ret_bool (by simp [primeB, hp, hq]), rfl⟩
  have H : Hid (primeB p = primeLoop 101 2 p) := Lib.hid (by simp [primeB, hp, hq])
  go_enter Try.func43, Try.ntmps43
  go_wp2
  go_loop [3] (fun i => ∃ k : Nat, k ≤ 100 ∧ i = .int .i64 (2 + k) ∧ Hid (primeLoop 101 2 p = primeLoop (101 - k) (2 + k) p)) (fun i => 101 - (intOf i).toNat)
  case atStart => exact ⟨0, by omega, rfl, rfl⟩
  case round =>
    obtain ⟨k, hk, rfl, hr⟩ := hrel
    have hdd : (2 + (k:Int)) * (2 + k) ≤ 102 * 102 := Int.mul_le_mul (by omega) (by omega) (by omega) (by omega)
    have hdd0 : 0 ≤ (2 + (k:Int)) * (2 + k) := Int.mul_nonneg (by omega) (by omega)
    obtain ⟨g, hg⟩ : ∃ g, 101 - k = g + 1 := ⟨100 - k, by omega⟩
    have Hg := Lib.hid hg
    clear hg
    go_wp2
    · go_ret
      have h1 : (2 + (k:Int)) * (2 + k) ≤ p := by assumption
      have h2 : (p % (2 + (k:Int)) == 0) = true := by assumption
      exact ⟨ret_bool (by rw [H.out, hr.out, Hg.out, primeLoop, if_pos h1, if_pos (by simpa using h2)]), rfl⟩
    · have h1 : (2 + (k:Int)) * (2 + k) ≤ p := by assumption
      have h2 : (p % (2 + (k:Int)) == 0) = false := by assumption
      have hk9 : k ≤ 98 := by
        rcases Nat.lt_or_ge 98 k with h | h
        · have : (101:Int) * 101 ≤ (2 + (k:Int)) * (2 + k) := Int.mul_le_mul (by omega) (by omega) (by omega) (by omega)
          omega
        · exact h
      go_round
      case rel => exact ⟨k + 1, by omega, by go_num, by
        have : 101 - (k + 1) = g := by have := Hg.out; omega
        rw [this, show (2 + ((k+1 : Nat):Int)) = 2 + (k:Int) + 1 by omega]
        refine hr.out.trans ?_
        rw [Hg.out, primeLoop, if_pos h1, if_neg (by simpa using h2)]⟩
      case measure => simp [intOf]; omega
    · go_ret
      have h1 : ¬ (2 + (k:Int)) * (2 + k) ≤ p := by first | assumption | (simp at *; omega)
      exact ⟨ret_bool (by rw [H.out, hr.out, Hg.out, primeLoop, if_neg h1]), rfl⟩
set_option maxHeartbeats 400000 in
theorem l01In_yes (n lo hi : Int) (w : World) (h1 : lo ≤ n) (h2 : n ≤ hi) :
    Calls Try.prog 42 #[.int .i64 n, .int .i64 lo, .int .i64 hi] w fun e w' => e = .returned (.bool true) ∧ w = w' := by
  go_enter Try.func42, Try.ntmps42
  go_wp2
  go_ret
  exact ⟨rfl, rfl⟩
set_option maxHeartbeats 400000 in
theorem l01In_no (n lo hi : Int) (w : World) (h : ¬ (lo ≤ n ∧ n ≤ hi)) :
    Calls Try.prog 42 #[.int .i64 n, .int .i64 lo, .int .i64 hi] w fun e w' => e = .returned (.bool false) ∧ w = w' := by
  by_cases h1 : lo ≤ n
  · have h2 : ¬ n ≤ hi := fun h2 => h ⟨h1, h2⟩
    clear h
    go_enter Try.func42, Try.ntmps42
    go_wp2
    go_ret
    exact ⟨rfl, rfl⟩
  · clear h
    go_enter Try.func42, Try.ntmps42
    go_wp2
    go_ret
    exact ⟨rfl, rfl⟩
set_option maxHeartbeats 400000 in
theorem isNumber_yes (p x : Int) (w : World) (h1 : 0 ≤ x) (h2 : x < p) :
    Calls Try.prog 54 #[.int .i64 p, .int .i64 x] w fun e w' => e = .returned (.bool true) ∧ w = w' := by
  go_enter Try.func54, Try.ntmps54
  go_wp2
  go_ret
  exact ⟨rfl, rfl⟩
set_option maxHeartbeats 400000 in
theorem isNumber_no (p x : Int) (w : World) (h : ¬ (0 ≤ x ∧ x < p)) :
    Calls Try.prog 54 #[.int .i64 p, .int .i64 x] w fun e w' => e = .returned (.bool false) ∧ w = w' := by
  by_cases h1 : 0 ≤ x
  · have h2 : ¬ x < p := fun h2 => h ⟨h1, h2⟩
    clear h
    go_enter Try.func54, Try.ntmps54
    go_wp2
    go_ret
    exact ⟨rfl, rfl⟩
  · clear h
    go_enter Try.func54, Try.ntmps54
    go_wp2
    go_ret
    exact ⟨rfl, rfl⟩
set_option maxHeartbeats 400000 in
theorem l01Prime_any (p : Int) (w : World) :
    Calls Try.prog 40 #[.int .i64 p] w fun e w' => e = .returned (.bool (primeB p)) ∧ w = w' := by
  by_cases hpq : ¬ (2 ≤ p ∧ p ≤ 10007)
  · have hpf : primeB p = false := by
      unfold primeB
      split
      · rfl
      · split
        · rfl
        · omega
    have Hpf := Lib.hid hpf
    clear hpf
    go_enter Try.func40, Try.ntmps40
    go_wp2_with (go_at_call 42; refine (l01In_no _ _ _ _ hpq).mono ?_; rintro e w' ⟨rfl, rfl⟩)
    go_ret
    exact ⟨ret_bool (by rw [Hpf.out]), rfl⟩
  have hp : 2 ≤ p := by omega
  have hq : p ≤ 10007 := by omega
  clear hpq
  have H : Hid (primeB p = primeLoop 101 2 p) := Lib.hid (by simp [primeB, show ¬ p < 2 by omega, show ¬ 10007 < p by omega])
  go_enter Try.func40, Try.ntmps40
  go_wp2_with (go_at_call 42; refine (l01In_yes _ _ _ _ hp hq).mono ?_; rintro e w' ⟨rfl, rfl⟩)
  go_loop [3] (fun i => ∃ k : Nat, k ≤ 100 ∧ i = .int .i64 (2 + k) ∧ Hid (primeLoop 101 2 p = primeLoop (101 - k) (2 + k) p)) (fun i => 101 - (intOf i).toNat)
  case atStart => exact ⟨0, by omega, rfl, rfl⟩
  case round =>
    obtain ⟨k, hk, rfl, hr⟩ := hrel
    have hdd : (2 + (k:Int)) * (2 + k) ≤ 102 * 102 := Int.mul_le_mul (by omega) (by omega) (by omega) (by omega)
    have hdd0 : 0 ≤ (2 + (k:Int)) * (2 + k) := Int.mul_nonneg (by omega) (by omega)
    obtain ⟨g, hg⟩ : ∃ g, 101 - k = g + 1 := ⟨100 - k, by omega⟩
    have Hg := Lib.hid hg
    clear hg
    go_wp2
    · go_ret
      have h1 : (2 + (k:Int)) * (2 + k) ≤ p := by assumption
      have h2 : (p % (2 + (k:Int)) == 0) = true := by assumption
      exact ⟨ret_bool (by rw [H.out, hr.out, Hg.out, primeLoop, if_pos h1, if_pos (by simpa using h2)]), rfl⟩
    · have h1 : (2 + (k:Int)) * (2 + k) ≤ p := by assumption
      have h2 : (p % (2 + (k:Int)) == 0) = false := by assumption
      have hk9 : k ≤ 98 := by
        rcases Nat.lt_or_ge 98 k with h | h
        · have : (101:Int) * 101 ≤ (2 + (k:Int)) * (2 + k) := Int.mul_le_mul (by omega) (by omega) (by omega) (by omega)
          omega
        · exact h
      go_round
      case rel => exact ⟨k + 1, by omega, by go_num, by
        have : 101 - (k + 1) = g := by have := Hg.out; omega
        rw [this, show (2 + ((k+1 : Nat):Int)) = 2 + (k:Int) + 1 by omega]
        refine hr.out.trans ?_
        rw [Hg.out, primeLoop, if_pos h1, if_neg (by simpa using h2)]⟩
      case measure => simp [intOf]; omega
    · go_ret
      have h1 : ¬ (2 + (k:Int)) * (2 + k) ≤ p := by first | assumption | (simp at *; omega)
      exact ⟨ret_bool (by rw [H.out, hr.out, Hg.out, primeLoop, if_neg h1]), rfl⟩
end Go.Proofs.Ytpoabedlcljibaa

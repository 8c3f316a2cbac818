/- The mathematics of FnPrimeNumbers, and what its walk meets. -/
import Derived.Test.YtjmhkodbkkdfdaaDn
import Derived.Test.YtjmhkodbkkdfdaaPi
import Derived.Test.YtjmhkodbkkdfdaaFe
namespace Go.Proofs.Ytjmhkodbkkdfdaa
open Go.RowKit
set_option linter.unusedVariables false
set_option linter.unusedSimpArgs false
theorem inv_facts {p x : Int} (h : invOk p x = true) : invOfC p x = 0 ∧ invOfV p x = invM p x ∧ powOfC p x (p - 1) = 0 ∧ powOfV p x (p - 1) = 1 ∧ x * invM p x % p = 1 ∧ (2 ≤ p ∧ p ≤ 10007) ∧ (1 ≤ x ∧ x < p) ∧ (0 ≤ invM p x ∧ invM p x < p) := by
  have h0 := h
  unfold invOk at h
  simp only [Bool.and_eq_true, decide_eq_true_eq] at h
  obtain ⟨hp, hx⟩ := h
  have hl := primeB_lo hp
  have hok : powOk p x (p - 1) = true := by simp [powOk, hp]; omega
  have h1 : powM p x (p - 1) = 1 := by
    rw [powM_eq hl.1 (by omega) (by omega)]
    exact fermat1 hp (by omega) hx.2
  exact ⟨by simp [invOfC, h0], by simp [invOfV, h0], by simp [powOfC, hok], by simp [powOfV, hok, h1], invM_mul hp (by omega) hx.2, hl, hx, powM_rng hl.1⟩
theorem inv_no {p x : Int} (h : invOk p x = false) : invOfC p x = 2 := by simp [invOfC, h]
theorem pow_facts {q y k : Int} (h : powOk q y k = true) (hk : k < 1000000000) : powOfC q y k = 0 ∧ powOfC q y (k + 1) = 0 ∧ powOfV q y (k + 1) = powOfV q y k * y % q ∧ (2 ≤ q ∧ q ≤ 10007) ∧ (0 ≤ y ∧ y < q) ∧ (0 ≤ powOfV q y k ∧ powOfV q y k < q) := by
  have h0 := h
  unfold powOk at h
  simp only [Bool.and_eq_true, decide_eq_true_eq] at h
  obtain ⟨hp, hy0, hy1, hk0, hk1⟩ := h
  have hl := primeB_lo hp
  have hok : powOk q y (k + 1) = true := by simp [powOk, hp]; omega
  refine ⟨by simp [powOfC, h0], by simp [powOfC, hok], ?_, hl, ⟨hy0, hy1⟩, by simp only [powOfV, h0, if_true]; exact powM_rng hl.1⟩
  simp only [powOfV, hok, h0, if_true]
  rw [powM_eq hl.1 (by omega) (by omega), powM_eq hl.1 hk0 (by omega), show (k + 1).toNat = k.toNat + 1 by omega, Int.pow_succ, Int.mul_emod (y ^ k.toNat % q), Int.emod_emod, ← Int.mul_emod]
theorem pow_no {q y k : Int} (h : powOk q y k = false) : powOfC q y k = 2 := by simp [powOfC, h]
theorem pow_yes {q y k : Int} (h : powOk q y k = true) : powOfC q y k = 0 := by simp [powOfC, h]
theorem big_no (a : Option Addr) (n c : Nat) (w : World) (h : n ≤ 4096) : Calls Try.prog 27 #[.slice a n c] w fun e w' => e = .returned (.bool false) ∧ w = w' := by
  have h' : ¬ 4096 < (n : Int) := by omega
  go_enter Try.func27, Try.ntmps27
  go_wp2
  go_ret
  exact ⟨ret_bool (by simp), rfl⟩
theorem big_yes (a : Option Addr) (n c : Nat) (w : World) (h : 4096 < n) : Calls Try.prog 27 #[.slice a n c] w fun e w' => e = .returned (.bool true) ∧ w = w' := by
  have h' : 4096 < (n : Int) := by omega
  go_enter Try.func27, Try.ntmps27
  go_wp2
  go_ret
  exact ⟨ret_bool (by simp), rfl⟩
theorem specIsPrime (p : Int) (w : World) : Calls Try.prog 58 #[.int .i64 p] w fun e w' => e = .returned (.bool (primeB p)) ∧ w = w' := by
  go_enter Try.func58, Try.ntmps58
  go_wp2_with fail
  refine (l01Prime_any _ _).mono ?_
  rintro e w' ⟨rfl, rfl⟩
  go_wp2
  go_ret
  exact ⟨rfl, rfl⟩
end Go.Proofs.Ytjmhkodbkkdfdaa

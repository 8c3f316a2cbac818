/- Merged texts. -/
import Derived.Test.YthahcnmfaghohaaProg
import Derived.Test.YthahcnmfaghohaaYTC0
import Derived.WalkKit
import Derived.Lib.Hide
import Derived.Test.YthahcnmfaghohaaYTC1
/- Contracts of the functions of numbers of chapter 1 (program and model). -/
namespace Go.Proofs.Ythahcnmfaghohaa
open Go.RowKit
set_option linter.unusedVariables false
set_option linter.unusedSimpArgs false

set_option maxHeartbeats 400000 in
theorem isPrime_any (p : Int) (w : World) :
    Calls Try.prog 43 #[.int .i64 p] w fun e w' => e = .returned (.bool (primeB p)) ∧ w = w' := by
  by_cases hp : p < 2
  · go_enter Try.func43, Try.ntmps43
    go_wp2
    go_ret
    exact ⟨ret_bool (by simp [primeB, hp]), rfl⟩
  by_cases hq : 10007 < p
  · go_enter Try.func43, Try.ntmps43
    go_wp2
    go_ret
    exact ⟨ret_bool (by simp [primeB, hp, hq]), rfl⟩
  have H : Hid (primeB p = primeLoop 101 2 p) := Lib.hid (by simp [primeB, hp, hq])
  go_enter Try.func43, Try.ntmps43
  go_wp2
  go_loop [3] (fun i => ∃ k : Nat, k ≤ 100 ∧ i = .int .i64 (2 + k) ∧ Hid (primeLoop 101 2 p = primeLoop (101 - k) (2 + k) p)) (fun i => 101 - (intOf i).toNat)
  case atStart => exact ⟨0, by omega, rfl, rfl⟩
  case round =>
    obtain ⟨k, hk, rfl, hr⟩ := hrel
    have hdd : (2 + (k:Int)) * (2 + k) ≤ 102 * 102 := Int.mul_le_mul (by omega) (by omega) (by omega) (by omega)
    have hdd0 : 0 ≤ (2 + (k:Int)) * (2 + k) := Int.mul_nonneg (by omega) (by omega)
    obtain ⟨g, hg⟩ : ∃ g, 101 - k = g + 1 := ⟨100 - k, by omega⟩
    have Hg := Lib.hid hg
    clear hg
    go_wp2
    · go_ret
      have h1 : (2 + (k:Int)) * (2 + k) ≤ p := by assumption
      have h2 : (p % (2 + (k:Int)) == 0) = true := by assumption
      exact ⟨ret_bool (by rw [H.out, hr.out, Hg.out, primeLoop, if_pos h1, if_pos (by simpa using h2)]), rfl⟩
    · have h1 : (2 + (k:Int)) * (2 + k) ≤ p := by assumption
      have h2 : (p % (2 + (k:Int)) == 0) = false := by assumption
      have hk9 : k ≤ 98 := by
        rcases Nat.lt_or_ge 98 k with h | h
        · have : (101:Int) * 101 ≤ (2 + (k:Int)) * (2 + k) := Int.mul_le_mul (by omega) (by omega) (by omega) (by omega)
          omega
        · exact h
      go_round
      case rel => exact ⟨k + 1, by omega, by go_num, by
        have : 101 - (k + 1) = g := by have := Hg.out; omega
        rw [this, show (2 + ((k+1 : Nat):Int)) = 2 + (k:Int) + 1 by omega]
        refine hr.out.trans ?_
        rw [Hg.out, primeLoop, if_pos h1, if_neg (by simpa using h2)]⟩
      case measure => simp [intOf]; omega
    · go_ret
      have h1 : ¬ (2 + (k:Int)) * (2 + k) ≤ p := by first | assumption | (simp at *; omega)
      exact ⟨ret_bool (by rw [H.out, hr.out, Hg.out, primeLoop, if_neg h1]), rfl⟩
set_option maxHeartbeats 400000 in
theorem l01In_yes (n lo hi : Int) (w : World) (h1 : lo ≤ n) (h2 : n ≤ hi) :
    Calls Try.prog 31 #[.int .i64 n, .int .i64 lo, .int .i64 hi] w fun e w' => e = .returned (.bool true) ∧ w = w' := by
  go_enter Try.func31, Try.ntmps31
  go_wp2
  go_ret
  exact ⟨rfl, rfl⟩
set_option maxHeartbeats 400000 in
theorem l01In_no (n lo hi : Int) (w : World) (h : ¬ (lo ≤ n ∧ n ≤ hi)) :
    Calls Try.prog 31 #[.int .i64 n, .int .i64 lo, .int .i64 hi] w fun e w' => e = .returned (.bool false) ∧ w = w' := by
  by_cases h1 : lo ≤ n
  · have h2 : ¬ n ≤ hi := fun h2 => h ⟨h1, h2⟩
    clear h
    go_enter Try.func31, Try.ntmps31
    go_wp2
    go_ret
    exact ⟨rfl, rfl⟩
  · clear h
    go_enter Try.func31, Try.ntmps31
    go_wp2
    go_ret
    exact ⟨rfl, rfl⟩
set_option maxHeartbeats 400000 in
theorem isNumber_yes (p x : Int) (w : World) (h1 : 0 ≤ x) (h2 : x < p) :
    Calls Try.prog 55 #[.int .i64 p, .int .i64 x] w fun e w' => e = .returned (.bool true) ∧ w = w' := by
  go_enter Try.func55, Try.ntmps55
  go_wp2
  go_ret
  exact ⟨rfl, rfl⟩
set_option maxHeartbeats 400000 in
theorem isNumber_no (p x : Int) (w : World) (h : ¬ (0 ≤ x ∧ x < p)) :
    Calls Try.prog 55 #[.int .i64 p, .int .i64 x] w fun e w' => e = .returned (.bool false) ∧ w = w' := by
  by_cases h1 : 0 ≤ x
  · have h2 : ¬ x < p := fun h2 => h ⟨h1, h2⟩
    clear h
    go_enter Try.func55, Try.ntmps55
    go_wp2
    go_ret
    exact ⟨rfl, rfl⟩
  · clear h
    go_enter Try.func55, Try.ntmps55
    go_wp2
    go_ret
    exact ⟨rfl, rfl⟩
set_option maxHeartbeats 400000 in
theorem l01Prime_any (p : Int) (w : World) :
    Calls Try.prog 54 #[.int .i64 p] w fun e w' => e = .returned (.bool (primeB p)) ∧ w = w' := by
  by_cases hpq : ¬ (2 ≤ p ∧ p ≤ 10007)
  · have hpf : primeB p = false := by
      unfold primeB
      split
      · rfl
      · split
        · rfl
        · omega
    have Hpf := Lib.hid hpf
    clear hpf
    go_enter Try.func54, Try.ntmps54
    go_wp2_with (go_at_call 31; refine (l01In_no _ _ _ _ hpq).mono ?_; rintro e w' ⟨rfl, rfl⟩)
    go_ret
    exact ⟨ret_bool (by rw [Hpf.out]), rfl⟩
  have hp : 2 ≤ p := by omega
  have hq : p ≤ 10007 := by omega
  clear hpq
  have H : Hid (primeB p = primeLoop 101 2 p) := Lib.hid (by simp [primeB, show ¬ p < 2 by omega, show ¬ 10007 < p by omega])
  go_enter Try.func54, Try.ntmps54
  go_wp2_with (go_at_call 31; refine (l01In_yes _ _ _ _ hp hq).mono ?_; rintro e w' ⟨rfl, rfl⟩)
  go_loop [3] (fun i => ∃ k : Nat, k ≤ 100 ∧ i = .int .i64 (2 + k) ∧ Hid (primeLoop 101 2 p = primeLoop (101 - k) (2 + k) p)) (fun i => 101 - (intOf i).toNat)
  case atStart => exact ⟨0, by omega, rfl, rfl⟩
  case round =>
    obtain ⟨k, hk, rfl, hr⟩ := hrel
    have hdd : (2 + (k:Int)) * (2 + k) ≤ 102 * 102 := Int.mul_le_mul (by omega) (by omega) (by omega) (by omega)
    have hdd0 : 0 ≤ (2 + (k:Int)) * (2 + k) := Int.mul_nonneg (by omega) (by omega)
    obtain ⟨g, hg⟩ : ∃ g, 101 - k = g + 1 := ⟨100 - k, by omega⟩
    have Hg := Lib.hid hg
    clear hg
    go_wp2
    · go_ret
      have h1 : (2 + (k:Int)) * (2 + k) ≤ p := by assumption
      have h2 : (p % (2 + (k:Int)) == 0) = true := by assumption
      exact ⟨ret_bool (by rw [H.out, hr.out, Hg.out, primeLoop, if_pos h1, if_pos (by simpa using h2)]), rfl⟩
    · have h1 : (2 + (k:Int)) * (2 + k) ≤ p := by assumption
      have h2 : (p % (2 + (k:Int)) == 0) = false := by assumption
      have hk9 : k ≤ 98 := by
        rcases Nat.lt_or_ge 98 k with h | h
        · have : (101:Int) * 101 ≤ (2 + (k:Int)) * (2 + k) := Int.mul_le_mul (by omega) (by omega) (by omega) (by omega)
          omega
        · exact h
      go_round
      case rel => exact ⟨k + 1, by omega, by go_num, by
        have : 101 - (k + 1) = g := by have := Hg.out; omega
        rw [this, show (2 + ((k+1 : Nat):Int)) = 2 + (k:Int) + 1 by omega]
        refine hr.out.trans ?_
        rw [Hg.out, primeLoop, if_pos h1, if_neg (by simpa using h2)]⟩
      case measure => simp [intOf]; omega
    · go_ret
      have h1 : ¬ (2 + (k:Int)) * (2 + k) ≤ p := by first | assumption | (simp at *; omega)
      exact ⟨ret_bool (by rw [H.out, hr.out, Hg.out, primeLoop, if_neg h1]), rfl⟩
end Go.Proofs.Ythahcnmfaghohaa
/- Contracts: areNumbers, numberAt, isZero, IsPoly, degree, trim (program); l01Poly, IsPoly, l01Own, l01Trim (model). -/
namespace Go.Proofs.Ythahcnmfaghohaa
open Go.RowKit
set_option linter.unusedVariables false
set_option linter.unusedSimpArgs false

def okN (p x : Int) : Bool := decide (0 ≤ x ∧ x < p)
def areB (p : Int) (xs : List Int) : Bool := xs.all (okN p)
def lastZ (f : List Int) : Bool := f.getD (f.length - 1) 0 == 0
def polyB (p : Int) (f : List Int) : Bool := decide (f.length ≤ 25) && areB p f && (f.isEmpty || !lastZ f)
theorem take_snocI (xs : List Int) (k : Nat) (h : k < xs.length) : xs.take (k + 1) = xs.take k ++ [xs.getD k 0] := by
  rw [List.take_add_one, List.getElem?_eq_getElem h]
  simp [h]
theorem areB_snoc (p : Int) (xs : List Int) (k : Nat) (h : k < xs.length) : areB p (xs.take (k + 1)) = (areB p (xs.take k) && okN p (xs.getD k 0)) := by
  rw [take_snocI xs k h]
  simp [areB]
theorem areB_false (p : Int) (xs : List Int) (k : Nat) (h : k < xs.length) (hx : okN p (xs.getD k 0) = false) : areB p xs = false := by
  unfold areB
  rw [Bool.eq_false_iff]
  intro hall
  rw [List.all_eq_true] at hall
  have := hall (xs.getD k 0) (by simp [h])
  rw [hx] at this
  cases this
theorem areB_at {p : Int} {xs : List Int} (h : areB p xs = true) (k : Nat) (hk : k < xs.length) : 0 ≤ xs.getD k 0 ∧ xs.getD k 0 < p := by
  unfold areB at h
  rw [List.all_eq_true] at h
  have := h (xs.getD k 0) (by simp [hk])
  simpa [okN] using this
theorem polyB_rng {p : Int} {f : List Int} (h : polyB p f = true) : f.length ≤ 25 ∧ areB p f = true ∧ (f = [] ∨ f.getD (f.length - 1) 0 ≠ 0) := by
  unfold polyB at h
  simp only [Bool.and_eq_true, decide_eq_true_eq, Bool.or_eq_true, List.isEmpty_iff, Bool.not_eq_true'] at h
  refine ⟨h.1.1, h.1.2, h.2.imp id (fun h => ?_)⟩
  unfold lastZ at h
  simpa using h

theorem polyB_ne {p : Int} {xs : List Int} {n : Nat} (hn : xs.length = n) (h0 : n ≠ 0) (h : areB p xs = true) : polyB p xs = (decide (n ≤ 25) && !(xs.getD (n - 1) 0 == 0)) := by
  have hne : xs.isEmpty = false := by
    cases xs with
    | nil => simp at hn; omega
    | cons a l => rfl
  unfold polyB lastZ
  rw [h, hne, hn]
  simp
set_option maxHeartbeats 800000 in
theorem areNumbers_any (p : Int) (a : Option Addr) (n c : Nat) (xs : List Int) (w : World) (hs : SL w a n c xs) (hn : n ≤ 4000000) :
    Calls Try.prog 44 #[.int .i64 p, .slice a n c] w fun e w' => e = .returned (.bool (areB p xs)) ∧ w = w' := by
  have hl := hide hs.len
  by_cases h0 : n = 0
  · subst h0
    obtain rfl := hs.empty
    go_enter Try.func44, Try.ntmps44
    go_wp2
    refine wp_loop_rounds 1 ?_
    rw [rounds_succ]
    go_wp2
    go_ret
    exact ⟨rfl, rfl⟩
  obtain ⟨b, off, rfl, hbw, hcell⟩ := hs.at (by omega)
  clear hs
  go_enter Try.func44, Try.ntmps44
  go_wp2
  go_loop [9] (fun i => ∃ k : Nat, k ≤ n ∧ i = .int .i64 k ∧ Hid (areB p (xs.take k) = true)) (fun i => n - (intOf i).toNat)
  case atStart => exact ⟨0, by omega, rfl, by simp [Hid, areB]⟩
  case round =>
    obtain ⟨k, hk, rfl, hR⟩ := hrel
    by_cases hlt : k < n
    · have e1 := hcell k hlt
      have hsn := Lib.hid (areB_snoc p xs k (by rw [hl.out]; exact hlt))
      obtain ⟨x, hx⟩ : ∃ x, x = xs.getD k 0 := ⟨_, rfl⟩
      rw [← hx] at e1
      have Hx := Lib.hid hx
      clear hx hcell
      by_cases hok : 0 ≤ x ∧ x < p
      · go_wp2_with (go_at_call 55; refine (isNumber_yes _ _ _ hok.1 hok.2).mono ?_; rintro e w' ⟨rfl, rfl⟩)
        go_round
        case rel => exact ⟨k + 1, by omega, by go_num, hide (by rw [hsn.out, hR.out, ← Hx.out]; simp [okN, hok])⟩
        case measure => simp [intOf]; omega
      · have hF : Hid (areB p xs = false) := hide (areB_false p xs k (by rw [hl.out]; exact hlt) (by rw [← Hx.out]; simp [okN]; omega))
        go_wp2_with (go_at_call 55; refine (isNumber_no _ _ _ hok).mono ?_; rintro e w' ⟨rfl, rfl⟩)
        go_ret
        exact ⟨ret_bool hF.out.symm, rfl⟩
    · obtain rfl : k = n := by omega
      have hF : Hid (areB p xs = true) := hide (by have := hR.out; rwa [List.take_of_length_le (by rw [hl.out]; omega)] at this)
      go_wp2
      go_ret
      exact ⟨ret_bool hF.out.symm, rfl⟩
theorem SL.take {w : World} {a : Option Addr} {n c : Nat} {xs : List Int} (h : SL w a n c xs) {k : Nat} (hk : k ≤ n) : SL w a k c (xs.take k) := by
  obtain ⟨h1, h2, h3⟩ := h
  obtain ⟨h2, h2'⟩ := h2
  refine ⟨by simp; omega, ⟨by omega, h2'⟩, ?_⟩
  rcases h3 with h3 | ⟨b, off, rfl, hc⟩
  · exact .inl (by omega)
  · refine .inr ⟨b, off, rfl, fun j hj => ?_⟩
    rw [hc j (by omega)]
    simp [List.getElem?_take, hj]
theorem getD_take (xs : List Int) (k j : Nat) (h : j < k) : (xs.take k).getD j 0 = xs.getD j 0 := by simp [List.getElem?_take, h]

end Go.Proofs.Ythahcnmfaghohaa

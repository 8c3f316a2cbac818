/- Plain mathematics: powers modulo a prime; Fermat's theorem; inverses. No program. -/
import Derived.Test.YtiahaipaekeinaaMm
namespace Go.Proofs.Ytiahaipaekeinaa
open Go.RowKit
set_option linter.unusedVariables false
set_option linter.unusedSimpArgs false

theorem pow_mod (p x : Int) (n : Nat) : (x % p) ^ n % p = x ^ n % p := by
  induction n with
  | zero => simp
  | succ n ih =>
    rw [Int.pow_succ, Int.pow_succ, Int.mul_emod, ih, Int.emod_emod, ← Int.mul_emod]
theorem powLoop_eq {p : Int} (hp : 2 ≤ p) : ∀ (f : Nat) (r b k : Int), 0 ≤ r → r < p → 0 ≤ k → Few f k → powLoop f p r b k = r * b ^ k.toNat % p := by
  intro f
  induction f with
  | zero =>
    intro r b k h1 h2 h3 h4
    have hk : k = 0 := by have := h4.zero; omega
    subst hk
    simp [powLoop]
    exact (Int.emod_eq_of_lt h1 h2).symm
  | succ f ih =>
    intro r b k h1 h2 h3 h4
    unfold powLoop
    by_cases hk : 0 < k
    · rw [if_pos hk]
      have hm : (b * b % p) ^ (k / 2).toNat % p = (b * b) ^ (k / 2).toNat % p := pow_mod _ _ _
      have hsq : (b * b) ^ (k / 2).toNat = b ^ (2 * (k / 2).toNat) := by
        rw [Int.pow_mul]
        congr 1
        rw [Int.pow_succ, Int.pow_succ, Int.pow_zero, Int.one_mul]
      by_cases ho : k % 2 = 1
      · rw [if_pos ho, ih _ _ _ (modb hp).1 (modb hp).2 (by omega) h4.half]
        have e : k.toNat = 2 * (k / 2).toNat + 1 := by omega
        rw [Int.mul_emod, hm, Int.emod_emod, ← Int.mul_emod, hsq, e, Int.pow_succ]
        congr 1
        rw [Int.mul_assoc, Int.mul_comm b]
      · rw [if_neg ho, ih _ _ _ h1 h2 (by omega) h4.half]
        have e : k.toNat = 2 * (k / 2).toNat := by omega
        rw [Int.mul_emod, hm, ← Int.mul_emod, hsq, ← e]
    · rw [if_neg hk]
      have hk : k = 0 := by omega
      subst hk
      simp
      exact (Int.emod_eq_of_lt h1 h2).symm
theorem powM_eq {p x k : Int} (hp : 2 ≤ p) (h0 : 0 ≤ k) (h1 : k ≤ 1000000000) : powM p x k = x ^ k.toNat % p := by
  unfold powM
  rw [powLoop_eq hp 64 1 x k (by omega) (by omega) h0 (few64 h1), Int.one_mul]

/-- Pascal's numbers. -/
def ch : Nat → Nat → Nat
  | _, 0 => 1
  | 0, _ + 1 => 0
  | n + 1, k + 1 => ch n k + ch n (k + 1)
theorem ch_big : ∀ (n k : Nat), n < k → ch n k = 0 := by
  intro n
  induction n with
  | zero => intro k h; cases k with | zero => omega | succ k => rfl
  | succ n ih =>
    intro k h
    cases k with
    | zero => omega
    | succ k => unfold ch; rw [ih k (by omega), ih (k + 1) (by omega)]
theorem ch_self : ∀ n, ch n n = 1 := by
  intro n
  induction n with
  | zero => rfl
  | succ n ih => unfold ch; rw [ih, ch_big n (n + 1) (by omega)]
theorem ch_zero (n : Nat) : ch n 0 = 1 := by cases n <;> rfl
theorem ch_absorb : ∀ (n k : Nat), (k + 1) * ch (n + 1) (k + 1) = (n + 1) * ch n k := by
  intro n
  induction n with
  | zero =>
    intro k
    cases k with
    | zero => rfl
    | succ k => rw [ch_big 1 (k + 1 + 1) (by omega), ch_big 0 (k + 1) (by omega)]; simp
  | succ m ih =>
    intro k
    cases k with
    | zero =>
      have h1 := ih 0
      rw [ch_zero] at h1 ⊢
      have e1 : ch (m + 1 + 1) (0 + 1) = ch (m + 1) 0 + ch (m + 1) (0 + 1) := rfl
      rw [e1, ch_zero]
      simp only [Nat.zero_add, Nat.one_mul, Nat.mul_one] at *
      omega
    | succ j =>
      have h1 := ih j
      have h2 := ih (j + 1)
      have e1 : ch (m + 1 + 1) (j + 1 + 1) = ch (m + 1) (j + 1) + ch (m + 1) (j + 1 + 1) := by rw [ch]
      have e2 : ch (m + 1) (j + 1) = ch m j + ch m (j + 1) := by rw [ch]
      rw [e1, Nat.mul_add, h2]
      have e3 : (j + 1 + 1) * ch (m + 1) (j + 1) = (j + 1) * ch (m + 1) (j + 1) + ch (m + 1) (j + 1) := Nat.succ_mul _ _
      rw [e3, h1]
      have e4 : (m + 1 + 1) * ch (m + 1) (j + 1) = (m + 1) * ch (m + 1) (j + 1) + ch (m + 1) (j + 1) := Nat.succ_mul _ _
      rw [e4, show (m + 1) * ch (m + 1) (j + 1) = (m + 1) * ch m j + (m + 1) * ch m (j + 1) by rw [e2, Nat.mul_add]]
      omega
/-- Sums of the first n. -/
def sm : Nat → (Nat → Int) → Int
  | 0, _ => 0
  | n + 1, f => sm n f + f n
theorem sm_congr {n : Nat} {f g : Nat → Int} (h : ∀ k, k < n → f k = g k) : sm n f = sm n g := by
  induction n with
  | zero => rfl
  | succ n ih => unfold sm; rw [ih (fun k hk => h k (by omega)), h n (by omega)]
theorem sm_head (n : Nat) (f : Nat → Int) : sm (n + 1) f = f 0 + sm n (fun k => f (k + 1)) := by
  induction n with
  | zero => simp [sm]
  | succ n ih => rw [sm, ih, sm, Int.add_assoc]
theorem sm_add (n : Nat) (f g : Nat → Int) : sm n (fun k => f k + g k) = sm n f + sm n g := by
  induction n with
  | zero => rfl
  | succ n ih => rw [sm, sm, sm, ih]; omega
theorem sm_mul (n : Nat) (a : Int) (f : Nat → Int) : sm n (fun k => a * f k) = a * sm n f := by
  induction n with
  | zero => simp [sm]
  | succ n ih => rw [sm, sm, ih, Int.mul_add]
theorem sm_mod (p : Int) (n : Nat) (f : Nat → Int) (h : ∀ k, k < n → f k % p = 0) : sm n f % p = 0 := by
  induction n with
  | zero => simp [sm]
  | succ n ih => rw [sm, Int.add_emod, ih (fun k hk => h k (by omega)), h n (by omega)]; simp
theorem binom (a : Int) : ∀ n : Nat, (a + 1) ^ n = sm (n + 1) (fun k => (ch n k : Int) * a ^ k) := by
  intro n
  induction n with
  | zero => simp [sm, ch]
  | succ n ih =>
    have h1 : sm (n + 2) (fun k => (ch (n + 1) k : Int) * a ^ k) = 1 + sm (n + 1) (fun k => ((ch n k : Int) + (ch n (k + 1) : Int)) * a ^ (k + 1)) := by
      rw [sm_head]
      simp [ch]
    have h2 : sm (n + 1) (fun k => ((ch n k : Int) + (ch n (k + 1) : Int)) * a ^ (k + 1)) = a * sm (n + 1) (fun k => (ch n k : Int) * a ^ k) + sm (n + 1) (fun k => (ch n (k + 1) : Int) * a ^ (k + 1)) := by
      rw [← sm_mul, ← sm_add]
      apply sm_congr
      intro k _
      rw [Int.add_mul, Int.pow_succ]
      congr 1
      rw [← Int.mul_assoc, ← Int.mul_assoc, Int.mul_comm]
      rw [Int.mul_assoc]
    have h3 : 1 + sm (n + 1) (fun k => (ch n (k + 1) : Int) * a ^ (k + 1)) = sm (n + 1) (fun k => (ch n k : Int) * a ^ k) := by
      have e := sm_head (n + 1) (fun k => (ch n k : Int) * a ^ k)
      rw [sm] at e
      simp only [ch_big n (n + 1) (by omega), ch_zero] at e
      simp at e
      rw [e]
    rw [h1, h2, Int.pow_succ, ih, Int.mul_add, Int.mul_one]
    rw [Int.mul_comm _ a]
    omega
theorem dvd_ch {p : Int} (hp : primeB p = true) (k : Nat) (h0 : 0 < k) (h1 : (k : Int) < p) : ((ch p.toNat k : Nat) : Int) % p = 0 := by
  have hl := primeB_lo hp
  obtain ⟨n, hn⟩ : ∃ n, p.toNat = n + 1 := ⟨p.toNat - 1, by omega⟩
  obtain ⟨j, rfl⟩ : ∃ j, k = j + 1 := ⟨k - 1, by omega⟩
  have ha := ch_absorb n j
  have hd : p.toNat ∣ (j + 1) * ch p.toNat (j + 1) := by rw [hn, ha]; exact Nat.dvd_mul_right _ _
  have hg1 : Nat.gcd p.toNat (j + 1) = 1 := by
    rcases Nat.lt_or_ge (Nat.gcd p.toNat (j + 1)) 2 with hlt | hge
    · have : 0 < Nat.gcd p.toNat (j + 1) := Nat.gcd_pos_of_pos_left _ (by omega)
      omega
    · have h2 := primeB_dvd hp _ hge (Nat.gcd_dvd_left _ _)
      have h3 : Nat.gcd p.toNat (j + 1) ≤ j + 1 := Nat.gcd_le_right _ (by omega)
      omega
  have hq : p.toNat ∣ ch p.toNat (j + 1) := Nat.Coprime.dvd_of_dvd_mul_left (Nat.coprime_iff_gcd_eq_one.2 hg1) hd
  have e : ((p.toNat : Nat) : Int) = p := Int.toNat_of_nonneg (by omega)
  have : ((p.toNat : Nat) : Int) ∣ ((ch p.toNat (j + 1) : Nat) : Int) := by exact_mod_cast hq
  rw [e] at this
  exact Int.emod_eq_zero_of_dvd this
theorem dream {p : Int} (hp : primeB p = true) (a : Int) : (a + 1) ^ p.toNat % p = (a ^ p.toNat + 1) % p := by
  have hl := primeB_lo hp
  obtain ⟨n, hn⟩ : ∃ n, p.toNat = n + 1 := ⟨p.toNat - 1, by omega⟩
  rw [binom, hn, sm, sm_head]
  have hz : sm n (fun k => (ch (n + 1) (k + 1) : Int) * a ^ (k + 1)) % p = 0 := by
    apply sm_mod
    intro k hk
    rw [Int.mul_emod, ← hn, dvd_ch hp (k + 1) (by omega) (by omega)]
    simp
  rw [ch_zero, ch_self]
  simp only [Int.pow_zero, Int.cast_ofNat_Int, Int.one_mul, Int.mul_one]
  have e : (1 + sm n (fun k => (ch (n + 1) (k + 1) : Int) * a ^ (k + 1)) + a ^ (n + 1)) = (a ^ (n + 1) + 1) + sm n (fun k => (ch (n + 1) (k + 1) : Int) * a ^ (k + 1)) := by omega
  rw [e, Int.add_emod, hz]
  simp
theorem fermat {p : Int} (hp : primeB p = true) (a : Nat) : (a : Int) ^ p.toNat % p = (a : Int) % p := by
  have hl := primeB_lo hp
  induction a with
  | zero =>
    obtain ⟨n, hn⟩ : ∃ n, p.toNat = n + 1 := ⟨p.toNat - 1, by omega⟩
    rw [hn, Int.pow_succ]
    simp
  | succ a ih =>
    rw [show ((a + 1 : Nat) : Int) = (a : Int) + 1 by omega, dream hp, Int.add_emod, ih, ← Int.add_emod]
theorem cancel {p a b : Int} (hp : primeB p = true) (ha0 : 0 < a) (ha1 : a < p) (h : a * b % p = 0) : b % p = 0 := by
  have hl := primeB_lo hp
  have hb := modb (x := b) hl.1
  by_cases hz : b % p = 0
  · exact hz
  · exfalso
    have := prime_mul hp ha0 ha1 (show 0 < b % p by omega) hb.2
    rw [Int.mul_emod, Int.emod_emod, ← Int.mul_emod] at this
    exact this h
theorem fermat1 {p a : Int} (hp : primeB p = true) (ha0 : 0 < a) (ha1 : a < p) : a ^ (p - 1).toNat % p = 1 := by
  have hl := primeB_lo hp
  obtain ⟨A, rfl⟩ := Int.eq_ofNat_of_zero_le (show 0 ≤ a by omega)
  have hf := fermat hp A
  have e : p.toNat = (p - 1).toNat + 1 := by omega
  rw [e, Int.pow_succ] at hf
  have h0 : (A : Int) * ((A : Int) ^ (p - 1).toNat - 1) % p = 0 := by
    rw [Int.mul_sub, Int.mul_one, Int.mul_comm]
    exact Int.emod_eq_emod_iff_emod_sub_eq_zero.1 hf
  have h1 := cancel hp ha0 ha1 h0
  have h2 : (A : Int) ^ (p - 1).toNat % p = 1 % p := Int.emod_eq_emod_iff_emod_sub_eq_zero.2 h1
  rw [h2]
  exact Int.emod_eq_of_lt (by omega) (by omega)
/-- The inverse is one. -/
theorem invM_mul {p x : Int} (hp : primeB p = true) (h0 : 0 < x) (h1 : x < p) : x * invM p x % p = 1 := by
  have hl := primeB_lo hp
  unfold invM
  rw [powM_eq hl.1 (by omega) (by omega), Int.mul_emod, Int.emod_emod, ← Int.mul_emod]
  have e : x * x ^ (p - 2).toNat = x ^ (p - 1).toNat := by
    rw [show (p - 1).toNat = (p - 2).toNat + 1 by omega, Int.pow_succ, Int.mul_comm]
  rw [e]
  exact fermat1 hp h0 h1
end Go.Proofs.Ytiahaipaekeinaa

/- Merged texts. -/
import Derived.Test.YtdjifjlgllohmaaDoorYDS2
/- Plain mathematics: primes as the loop tests them; products of lists of numbers modulo p. No program. -/
namespace Go.Proofs.YtdjifjlgllohmaaDoor
open Go.RowKit
set_option linter.unusedVariables false
set_option linter.unusedSimpArgs false

theorem primeLoop_spec : ∀ (f : Nat) (d p : Int), 2 ≤ d → primeLoop f d p = true → ∀ e : Int, d ≤ e → e < d + f → e * e ≤ p → p % e ≠ 0 := by
  intro f
  induction f with
  | zero => intro d p _ _ e h1 h2 _; omega
  | succ f ih =>
    intro d p hd h e h1 h2 h3
    unfold primeLoop at h
    have hde : d * d ≤ e * e := Int.mul_le_mul h1 h1 (by omega) (by omega)
    rw [if_pos (by omega)] at h
    split at h
    · cases h
    · rename_i hne
      by_cases he : e = d
      · rw [he]; exact hne
      · exact ih (d + 1) p (by omega) h e (by omega) (by omega) h3
theorem primeB_small {p : Int} (h : primeB p = true) (e : Int) (h1 : 2 ≤ e) (h2 : e * e ≤ p) : p % e ≠ 0 := by
  have hp := primeB_lo h
  unfold primeB at h
  rw [if_neg (by omega), if_neg (by omega)] at h
  refine primeLoop_spec 101 2 p (by omega) h e h1 ?_ h2
  rcases Int.lt_or_le e 103 with hh | hh
  · omega
  · have : (103 : Int) * 103 ≤ e * e := Int.mul_le_mul hh hh (by omega) (by omega)
    omega
/-- No number between 1 and p divides p. -/
theorem primeB_dvd {p : Int} (h : primeB p = true) (e : Nat) (he : 2 ≤ e) (hd : e ∣ p.toNat) : e = p.toNat := by
  have hp := primeB_lo h
  obtain ⟨c, hc⟩ := hd
  have hpc : p = (e : Int) * (c : Int) := by
    have h1 : ((p.toNat : Nat) : Int) = p := Int.toNat_of_nonneg (by omega)
    rw [← h1, hc]
    simp
  have hcpos : c ≠ 0 := fun h0 => by subst h0; simp at hpc; omega
  by_cases hc1 : c = 1
  · subst hc1; simpa using hc.symm
  · exfalso
    rcases Nat.le_total e c with hle | hle
    · have h2 : (e : Int) * e ≤ p := by rw [hpc]; exact Int.mul_le_mul_of_nonneg_left (by omega) (by omega)
      exact primeB_small h e (by omega) h2 (by rw [hpc]; exact Int.mul_emod_right _ _)
    · have h2 : (c : Int) * c ≤ p := by rw [hpc]; exact Int.mul_le_mul_of_nonneg_right (by omega) (by omega)
      exact primeB_small h c (by omega) h2 (by rw [hpc]; exact Int.mul_emod_left _ _)
/-- A prime divides no product of numbers that it doesn't divide. -/
theorem prime_mul {p a b : Int} (h : primeB p = true) (ha0 : 0 < a) (ha1 : a < p) (hb0 : 0 < b) (hb1 : b < p) : a * b % p ≠ 0 := by
  intro hz
  have hp := primeB_lo h
  obtain ⟨P, rfl⟩ := Int.eq_ofNat_of_zero_le (show 0 ≤ p by omega)
  obtain ⟨A, rfl⟩ := Int.eq_ofNat_of_zero_le (show 0 ≤ a by omega)
  obtain ⟨B, rfl⟩ := Int.eq_ofNat_of_zero_le (show 0 ≤ b by omega)
  have hdv : P ∣ A * B := by
    have : (P : Int) ∣ (A : Int) * B := Int.dvd_of_emod_eq_zero hz
    exact_mod_cast this
  have hg : Nat.gcd P A ∣ P := Nat.gcd_dvd_left _ _
  have hg1 : Nat.gcd P A = 1 := by
    rcases Nat.lt_or_ge (Nat.gcd P A) 2 with hlt | hge
    · have : 0 < Nat.gcd P A := Nat.gcd_pos_of_pos_left _ (by omega)
      omega
    · have h1 := primeB_dvd h _ hge (by simpa using hg)
      have h2 : Nat.gcd P A ≤ A := Nat.gcd_le_right _ (by omega)
      simp at h1
      omega
  have : P ∣ B := Nat.Coprime.dvd_of_dvd_mul_left (Nat.coprime_iff_gcd_eq_one.2 hg1) hdv
  have := Nat.le_of_dvd (by omega) this
  omega

def mulIn (p a : Int) (g : List Int) (H : Nat → Int) (i k : Nat) : Nat → Int := fun j => if i ≤ j ∧ j < i + k then (H j + a * g.getD (j - i) 0) % p else H j
def mulH (p : Int) (f g : List Int) : Nat → Nat → Int
  | 0 => fun _ => 0
  | i + 1 => mulIn p (f.getD i 0) g (mulH p f g i) i g.length
def mulM (p : Int) (f g : List Int) : List Int := if f.isEmpty || g.isEmpty then [] else tab (f.length + g.length - 1) (mulH p f g f.length)
theorem mulIn_step (p a : Int) (g : List Int) (H : Nat → Int) (N i k : Nat) : (tab N (mulIn p a g H i k)).set (i + k) ((H (i + k) + a * g.getD k 0) % p) = tab N (mulIn p a g H i (k + 1)) := by
  rw [tab_set]
  apply tab_congr
  intro j _
  unfold mulIn
  by_cases e : j = i + k
  · subst e
    rw [if_pos rfl, if_pos (by omega), show i + k - i = k by omega]
  · rw [if_neg e]
    by_cases h : i ≤ j ∧ j < i + k
    · rw [if_pos h, if_pos (by omega)]
    · rw [if_neg h, if_neg (by omega)]
theorem mulIn_zero (p a : Int) (g : List Int) (H : Nat → Int) (i : Nat) : mulIn p a g H i 0 = H := by
  funext j
  unfold mulIn
  rw [if_neg (by omega)]
theorem mulIn_rng {p : Int} (hp : 2 ≤ p) {a : Int} {g : List Int} {H : Nat → Int} {i k : Nat} (hH : ∀ j, 0 ≤ H j ∧ H j < p) : ∀ j, 0 ≤ mulIn p a g H i k j ∧ mulIn p a g H i k j < p := by
  intro j
  unfold mulIn
  split
  · exact modb hp
  · exact hH j
theorem mulH_rng {p : Int} (hp : 2 ≤ p) (f g : List Int) (i : Nat) : ∀ j, 0 ≤ mulH p f g i j ∧ mulH p f g i j < p := by
  induction i with
  | zero => intro j; simp [mulH]; omega
  | succ i ih => exact mulIn_rng hp ih
theorem mulH_far (p : Int) (f g : List Int) (i : Nat) : ∀ j, i + g.length ≤ j + 1 → mulH p f g i j = 0 := by
  induction i with
  | zero => intro j _; rfl
  | succ i ih =>
    intro j hj
    unfold mulH mulIn
    rw [if_neg (by omega)]
    exact ih j (by omega)
theorem mulM_len {p : Int} {f g : List Int} (h1 : f ≠ []) (h2 : g ≠ []) : (mulM p f g).length = f.length + g.length - 1 := by
  unfold mulM
  cases f with
  | nil => exact absurd rfl h1
  | cons a f =>
    cases g with
    | nil => exact absurd rfl h2
    | cons b g => simp [tab_len]
theorem trimL_self {xs : List Int} (h : xs.getD (xs.length - 1) 0 ≠ 0) : trimL xs = xs := by
  unfold trimL
  by_cases h0 : xs.length = 0
  · have : xs = [] := List.eq_nil_of_length_eq_zero h0
    subst this; rfl
  · rw [trimN_stop h (by omega)]
    simp
theorem trimL_nil : trimL [] = [] := rfl
/-- The product of two polynomials has no zero at its end. -/
theorem mulM_trim {p : Int} {f g : List Int} (hp : primeB p = true) (hf : polyB p f = true) (hg : polyB p g = true) : trimL (mulM p f g) = mulM p f g := by
  by_cases h1 : f = []
  · subst h1; rfl
  by_cases h2 : g = []
  · subst h2; unfold mulM; simp; rfl
  have hpl := primeB_lo hp
  have lf : f.length ≠ 0 := fun h => h1 (List.eq_nil_of_length_eq_zero h)
  have lg : g.length ≠ 0 := fun h => h2 (List.eq_nil_of_length_eq_zero h)
  apply trimL_self
  rw [mulM_len h1 h2]
  have e : mulM p f g = tab (f.length + g.length - 1) (mulH p f g f.length) := by
    unfold mulM
    have e1 : f.isEmpty = false := by simpa using h1
    have e2 : g.isEmpty = false := by simpa using h2
    rw [e1, e2]; rfl
  rw [e, tab_at _ _ _ (by omega)]
  obtain ⟨n, hn⟩ : ∃ n, f.length = n + 1 := ⟨f.length - 1, by omega⟩
  rw [hn]
  unfold mulH mulIn
  rw [if_pos (by omega), mulH_far p f g n _ (by omega)]
  obtain ⟨f1, f2, f3⟩ := polyB_rng hf
  obtain ⟨g1, g2, g3⟩ := polyB_rng hg
  have a1 := areB_at f2 n (by omega)
  have b1 := areB_at g2 (g.length - 1) (by omega)
  have a0 : f.getD n 0 ≠ 0 := by
    rcases f3 with h | h
    · exact absurd h h1
    · rwa [hn, Nat.add_sub_cancel] at h
  have b0 : g.getD (g.length - 1) 0 ≠ 0 := by
    rcases g3 with h | h
    · exact absurd h h2
    · exact h
  have e2 : n + 1 + g.length - 1 - 1 - n = g.length - 1 := by omega
  rw [e2, Int.zero_add]
  exact prime_mul hp (by omega) (by omega) (by omega) (by omega)
end Go.Proofs.YtdjifjlgllohmaaDoor
/- Plain mathematics: powers modulo a prime; Fermat's theorem; inverses. No program. -/
namespace Go.Proofs.YtdjifjlgllohmaaDoor
open Go.RowKit
set_option linter.unusedVariables false
set_option linter.unusedSimpArgs false

theorem pow_mod (p x : Int) (n : Nat) : (x % p) ^ n % p = x ^ n % p := by
  induction n with
  | zero => simp
  | succ n ih =>
    rw [Int.pow_succ, Int.pow_succ, Int.mul_emod, ih, Int.emod_emod, ← Int.mul_emod]
theorem powLoop_eq {p : Int} (hp : 2 ≤ p) : ∀ (f : Nat) (r b k : Int), 0 ≤ r → r < p → 0 ≤ k → Few f k → powLoop f p r b k = r * b ^ k.toNat % p := by
  intro f
  induction f with
  | zero =>
    intro r b k h1 h2 h3 h4
    have hk : k = 0 := by have := h4.zero; omega
    subst hk
    simp [powLoop]
    exact (Int.emod_eq_of_lt h1 h2).symm
  | succ f ih =>
    intro r b k h1 h2 h3 h4
    unfold powLoop
    by_cases hk : 0 < k
    · rw [if_pos hk]
      have hm : (b * b % p) ^ (k / 2).toNat % p = (b * b) ^ (k / 2).toNat % p := pow_mod _ _ _
      have hsq : (b * b) ^ (k / 2).toNat = b ^ (2 * (k / 2).toNat) := by
        rw [Int.pow_mul]
        congr 1
        rw [Int.pow_succ, Int.pow_succ, Int.pow_zero, Int.one_mul]
      by_cases ho : k % 2 = 1
      · rw [if_pos ho, ih _ _ _ (modb hp).1 (modb hp).2 (by omega) h4.half]
        have e : k.toNat = 2 * (k / 2).toNat + 1 := by omega
        rw [Int.mul_emod, hm, Int.emod_emod, ← Int.mul_emod, hsq, e, Int.pow_succ]
        congr 1
        rw [Int.mul_assoc, Int.mul_comm b]
      · rw [if_neg ho, ih _ _ _ h1 h2 (by omega) h4.half]
        have e : k.toNat = 2 * (k / 2).toNat := by omega
        rw [Int.mul_emod, hm, ← Int.mul_emod, hsq, ← e]
    · rw [if_neg hk]
      have hk : k = 0 := by omega
      subst hk
      simp
      exact (Int.emod_eq_of_lt h1 h2).symm
theorem powM_eq {p x k : Int} (hp : 2 ≤ p) (h0 : 0 ≤ k) (h1 : k ≤ 1000000000) : powM p x k = x ^ k.toNat % p := by
  unfold powM
  rw [powLoop_eq hp 64 1 x k (by omega) (by omega) h0 (few64 h1), Int.one_mul]

/-- Pascal's numbers. -/
def ch : Nat → Nat → Nat
  | _, 0 => 1
  | 0, _ + 1 => 0
  | n + 1, k + 1 => ch n k + ch n (k + 1)
theorem ch_big : ∀ (n k : Nat), n < k → ch n k = 0 := by
  intro n
  induction n with
  | zero => intro k h; cases k with | zero => omega | succ k => rfl
  | succ n ih =>
    intro k h
    cases k with
    | zero => omega
    | succ k => unfold ch; rw [ih k (by omega), ih (k + 1) (by omega)]
theorem ch_self : ∀ n, ch n n = 1 := by
  intro n
  induction n with
  | zero => rfl
  | succ n ih => unfold ch; rw [ih, ch_big n (n + 1) (by omega)]
theorem ch_zero (n : Nat) : ch n 0 = 1 := by cases n <;> rfl
theorem ch_absorb : ∀ (n k : Nat), (k + 1) * ch (n + 1) (k + 1) = (n + 1) * ch n k := by
  intro n
  induction n with
  | zero =>
    intro k
    cases k with
    | zero => rfl
    | succ k => rw [ch_big 1 (k + 1 + 1) (by omega), ch_big 0 (k + 1) (by omega)]; simp
  | succ m ih =>
    intro k
    cases k with
    | zero =>
      have h1 := ih 0
      rw [ch_zero] at h1 ⊢
      have e1 : ch (m + 1 + 1) (0 + 1) = ch (m + 1) 0 + ch (m + 1) (0 + 1) := rfl
      rw [e1, ch_zero]
      simp only [Nat.zero_add, Nat.one_mul, Nat.mul_one] at *
      omega
    | succ j =>
      have h1 := ih j
      have h2 := ih (j + 1)
      have e1 : ch (m + 1 + 1) (j + 1 + 1) = ch (m + 1) (j + 1) + ch (m + 1) (j + 1 + 1) := by rw [ch]
      have e2 : ch (m + 1) (j + 1) = ch m j + ch m (j + 1) := by rw [ch]
      rw [e1, Nat.mul_add, h2]
      have e3 : (j + 1 + 1) * ch (m + 1) (j + 1) = (j + 1) * ch (m + 1) (j + 1) + ch (m + 1) (j + 1) := Nat.succ_mul _ _
      rw [e3, h1]
      have e4 : (m + 1 + 1) * ch (m + 1) (j + 1) = (m + 1) * ch (m + 1) (j + 1) + ch (m + 1) (j + 1) := Nat.succ_mul _ _
      rw [e4, show (m + 1) * ch (m + 1) (j + 1) = (m + 1) * ch m j + (m + 1) * ch m (j + 1) by rw [e2, Nat.mul_add]]
      omega
/-- Sums of the first n. -/
def sm : Nat → (Nat → Int) → Int
  | 0, _ => 0
  | n + 1, f => sm n f + f n
theorem sm_congr {n : Nat} {f g : Nat → Int} (h : ∀ k, k < n → f k = g k) : sm n f = sm n g := by
  induction n with
  | zero => rfl
  | succ n ih => unfold sm; rw [ih (fun k hk => h k (by omega)), h n (by omega)]
theorem sm_head (n : Nat) (f : Nat → Int) : sm (n + 1) f = f 0 + sm n (fun k => f (k + 1)) := by
  induction n with
  | zero => simp [sm]
  | succ n ih => rw [sm, ih, sm, Int.add_assoc]
theorem sm_add (n : Nat) (f g : Nat → Int) : sm n (fun k => f k + g k) = sm n f + sm n g := by
  induction n with
  | zero => rfl
  | succ n ih => rw [sm, sm, sm, ih]; omega
theorem sm_mul (n : Nat) (a : Int) (f : Nat → Int) : sm n (fun k => a * f k) = a * sm n f := by
  induction n with
  | zero => simp [sm]
  | succ n ih => rw [sm, sm, ih, Int.mul_add]
theorem sm_mod (p : Int) (n : Nat) (f : Nat → Int) (h : ∀ k, k < n → f k % p = 0) : sm n f % p = 0 := by
  induction n with
  | zero => simp [sm]
  | succ n ih => rw [sm, Int.add_emod, ih (fun k hk => h k (by omega)), h n (by omega)]; simp
theorem binom (a : Int) : ∀ n : Nat, (a + 1) ^ n = sm (n + 1) (fun k => (ch n k : Int) * a ^ k) := by
  intro n
  induction n with
  | zero => simp [sm, ch]
  | succ n ih =>
    have h1 : sm (n + 2) (fun k => (ch (n + 1) k : Int) * a ^ k) = 1 + sm (n + 1) (fun k => ((ch n k : Int) + (ch n (k + 1) : Int)) * a ^ (k + 1)) := by
      rw [sm_head]
      simp [ch]
    have h2 : sm (n + 1) (fun k => ((ch n k : Int) + (ch n (k + 1) : Int)) * a ^ (k + 1)) = a * sm (n + 1) (fun k => (ch n k : Int) * a ^ k) + sm (n + 1) (fun k => (ch n (k + 1) : Int) * a ^ (k + 1)) := by
      rw [← sm_mul, ← sm_add]
      apply sm_congr
      intro k _
      rw [Int.add_mul, Int.pow_succ]
      congr 1
      rw [← Int.mul_assoc, ← Int.mul_assoc, Int.mul_comm]
      rw [Int.mul_assoc]
    have h3 : 1 + sm (n + 1) (fun k => (ch n (k + 1) : Int) * a ^ (k + 1)) = sm (n + 1) (fun k => (ch n k : Int) * a ^ k) := by
      have e := sm_head (n + 1) (fun k => (ch n k : Int) * a ^ k)
      rw [sm] at e
      simp only [ch_big n (n + 1) (by omega), ch_zero] at e
      simp at e
      rw [e]
    rw [h1, h2, Int.pow_succ, ih, Int.mul_add, Int.mul_one]
    rw [Int.mul_comm _ a]
    omega
theorem dvd_ch {p : Int} (hp : primeB p = true) (k : Nat) (h0 : 0 < k) (h1 : (k : Int) < p) : ((ch p.toNat k : Nat) : Int) % p = 0 := by
  have hl := primeB_lo hp
  obtain ⟨n, hn⟩ : ∃ n, p.toNat = n + 1 := ⟨p.toNat - 1, by omega⟩
  obtain ⟨j, rfl⟩ : ∃ j, k = j + 1 := ⟨k - 1, by omega⟩
  have ha := ch_absorb n j
  have hd : p.toNat ∣ (j + 1) * ch p.toNat (j + 1) := by rw [hn, ha]; exact Nat.dvd_mul_right _ _
  have hg1 : Nat.gcd p.toNat (j + 1) = 1 := by
    rcases Nat.lt_or_ge (Nat.gcd p.toNat (j + 1)) 2 with hlt | hge
    · have : 0 < Nat.gcd p.toNat (j + 1) := Nat.gcd_pos_of_pos_left _ (by omega)
      omega
    · have h2 := primeB_dvd hp _ hge (Nat.gcd_dvd_left _ _)
      have h3 : Nat.gcd p.toNat (j + 1) ≤ j + 1 := Nat.gcd_le_right _ (by omega)
      omega
  have hq : p.toNat ∣ ch p.toNat (j + 1) := Nat.Coprime.dvd_of_dvd_mul_left (Nat.coprime_iff_gcd_eq_one.2 hg1) hd
  have e : ((p.toNat : Nat) : Int) = p := Int.toNat_of_nonneg (by omega)
  have : ((p.toNat : Nat) : Int) ∣ ((ch p.toNat (j + 1) : Nat) : Int) := by exact_mod_cast hq
  rw [e] at this
  exact Int.emod_eq_zero_of_dvd this
theorem dream {p : Int} (hp : primeB p = true) (a : Int) : (a + 1) ^ p.toNat % p = (a ^ p.toNat + 1) % p := by
  have hl := primeB_lo hp
  obtain ⟨n, hn⟩ : ∃ n, p.toNat = n + 1 := ⟨p.toNat - 1, by omega⟩
  rw [binom, hn, sm, sm_head]
  have hz : sm n (fun k => (ch (n + 1) (k + 1) : Int) * a ^ (k + 1)) % p = 0 := by
    apply sm_mod
    intro k hk
    rw [Int.mul_emod, ← hn, dvd_ch hp (k + 1) (by omega) (by omega)]
    simp
  rw [ch_zero, ch_self]
  simp only [Int.pow_zero, Int.cast_ofNat_Int, Int.one_mul, Int.mul_one]
  have e : (1 + sm n (fun k => (ch (n + 1) (k + 1) : Int) * a ^ (k + 1)) + a ^ (n + 1)) = (a ^ (n + 1) + 1) + sm n (fun k => (ch (n + 1) (k + 1) : Int) * a ^ (k + 1)) := by omega
  rw [e, Int.add_emod, hz]
  simp
theorem fermat {p : Int} (hp : primeB p = true) (a : Nat) : (a : Int) ^ p.toNat % p = (a : Int) % p := by
  have hl := primeB_lo hp
  induction a with
  | zero =>
    obtain ⟨n, hn⟩ : ∃ n, p.toNat = n + 1 := ⟨p.toNat - 1, by omega⟩
    rw [hn, Int.pow_succ]
    simp
  | succ a ih =>
    rw [show ((a + 1 : Nat) : Int) = (a : Int) + 1 by omega, dream hp, Int.add_emod, ih, ← Int.add_emod]
theorem cancel {p a b : Int} (hp : primeB p = true) (ha0 : 0 < a) (ha1 : a < p) (h : a * b % p = 0) : b % p = 0 := by
  have hl := primeB_lo hp
  have hb := modb (x := b) hl.1
  by_cases hz : b % p = 0
  · exact hz
  · exfalso
    have := prime_mul hp ha0 ha1 (show 0 < b % p by omega) hb.2
    rw [Int.mul_emod, Int.emod_emod, ← Int.mul_emod] at this
    exact this h
theorem fermat1 {p a : Int} (hp : primeB p = true) (ha0 : 0 < a) (ha1 : a < p) : a ^ (p - 1).toNat % p = 1 := by
  have hl := primeB_lo hp
  obtain ⟨A, rfl⟩ := Int.eq_ofNat_of_zero_le (show 0 ≤ a by omega)
  have hf := fermat hp A
  have e : p.toNat = (p - 1).toNat + 1 := by omega
  rw [e, Int.pow_succ] at hf
  have h0 : (A : Int) * ((A : Int) ^ (p - 1).toNat - 1) % p = 0 := by
    rw [Int.mul_sub, Int.mul_one, Int.mul_comm]
    exact Int.emod_eq_emod_iff_emod_sub_eq_zero.1 hf
  have h1 := cancel hp ha0 ha1 h0
  have h2 : (A : Int) ^ (p - 1).toNat % p = 1 % p := Int.emod_eq_emod_iff_emod_sub_eq_zero.2 h1
  rw [h2]
  exact Int.emod_eq_of_lt (by omega) (by omega)
/-- The inverse is one. -/
theorem invM_mul {p x : Int} (hp : primeB p = true) (h0 : 0 < x) (h1 : x < p) : x * invM p x % p = 1 := by
  have hl := primeB_lo hp
  unfold invM
  rw [powM_eq hl.1 (by omega) (by omega), Int.mul_emod, Int.emod_emod, ← Int.mul_emod]
  have e : x * x ^ (p - 2).toNat = x ^ (p - 1).toNat := by
    rw [show (p - 1).toNat = (p - 2).toNat + 1 by omega, Int.pow_succ, Int.mul_comm]
  rw [e]
  exact fermat1 hp h0 h1
end Go.Proofs.YtdjifjlgllohmaaDoor

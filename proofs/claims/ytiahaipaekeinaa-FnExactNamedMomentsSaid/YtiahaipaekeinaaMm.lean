/- Plain mathematics: primes as the loop tests them; products of lists of numbers modulo p. No program. -/
import Derived.Test.YtiahaipaekeinaaPc
namespace Go.Proofs.Ytiahaipaekeinaa
open Go.RowKit
set_option linter.unusedVariables false
set_option linter.unusedSimpArgs false

theorem primeLoop_spec : ∀ (f : Nat) (d p : Int), 2 ≤ d → primeLoop f d p = true → ∀ e : Int, d ≤ e → e < d + f → e * e ≤ p → p % e ≠ 0 := by
  intro f
  induction f with
  | zero => intro d p _ _ e h1 h2 _; omega
  | succ f ih =>
    intro d p hd h e h1 h2 h3
    unfold primeLoop at h
    have hde : d * d ≤ e * e := Int.mul_le_mul h1 h1 (by omega) (by omega)
    rw [if_pos (by omega)] at h
    split at h
    · cases h
    · rename_i hne
      by_cases he : e = d
      · rw [he]; exact hne
      · exact ih (d + 1) p (by omega) h e (by omega) (by omega) h3
theorem primeB_small {p : Int} (h : primeB p = true) (e : Int) (h1 : 2 ≤ e) (h2 : e * e ≤ p) : p % e ≠ 0 := by
  have hp := primeB_lo h
  unfold primeB at h
  rw [if_neg (by omega), if_neg (by omega)] at h
  refine primeLoop_spec 101 2 p (by omega) h e h1 ?_ h2
  rcases Int.lt_or_le e 103 with hh | hh
  · omega
  · have : (103 : Int) * 103 ≤ e * e := Int.mul_le_mul hh hh (by omega) (by omega)
    omega
/-- No number between 1 and p divides p. -/
theorem primeB_dvd {p : Int} (h : primeB p = true) (e : Nat) (he : 2 ≤ e) (hd : e ∣ p.toNat) : e = p.toNat := by
  have hp := primeB_lo h
  obtain ⟨c, hc⟩ := hd
  have hpc : p = (e : Int) * (c : Int) := by
    have h1 : ((p.toNat : Nat) : Int) = p := Int.toNat_of_nonneg (by omega)
    rw [← h1, hc]
    simp
  have hcpos : c ≠ 0 := fun h0 => by subst h0; simp at hpc; omega
  by_cases hc1 : c = 1
  · subst hc1; simpa using hc.symm
  · exfalso
    rcases Nat.le_total e c with hle | hle
    · have h2 : (e : Int) * e ≤ p := by rw [hpc]; exact Int.mul_le_mul_of_nonneg_left (by omega) (by omega)
      exact primeB_small h e (by omega) h2 (by rw [hpc]; exact Int.mul_emod_right _ _)
    · have h2 : (c : Int) * c ≤ p := by rw [hpc]; exact Int.mul_le_mul_of_nonneg_right (by omega) (by omega)
      exact primeB_small h c (by omega) h2 (by rw [hpc]; exact Int.mul_emod_left _ _)
/-- A prime divides no product of numbers that it doesn't divide. -/
theorem prime_mul {p a b : Int} (h : primeB p = true) (ha0 : 0 < a) (ha1 : a < p) (hb0 : 0 < b) (hb1 : b < p) : a * b % p ≠ 0 := by
  intro hz
  have hp := primeB_lo h
  obtain ⟨P, rfl⟩ := Int.eq_ofNat_of_zero_le (show 0 ≤ p by omega)
  obtain ⟨A, rfl⟩ := Int.eq_ofNat_of_zero_le (show 0 ≤ a by omega)
  obtain ⟨B, rfl⟩ := Int.eq_ofNat_of_zero_le (show 0 ≤ b by omega)
  have hdv : P ∣ A * B := by
    have : (P : Int) ∣ (A : Int) * B := Int.dvd_of_emod_eq_zero hz
    exact_mod_cast this
  have hg : Nat.gcd P A ∣ P := Nat.gcd_dvd_left _ _
  have hg1 : Nat.gcd P A = 1 := by
    rcases Nat.lt_or_ge (Nat.gcd P A) 2 with hlt | hge
    · have : 0 < Nat.gcd P A := Nat.gcd_pos_of_pos_left _ (by omega)
      omega
    · have h1 := primeB_dvd h _ hge (by simpa using hg)
      have h2 : Nat.gcd P A ≤ A := Nat.gcd_le_right _ (by omega)
      simp at h1
      omega
  have : P ∣ B := Nat.Coprime.dvd_of_dvd_mul_left (Nat.coprime_iff_gcd_eq_one.2 hg1) hdv
  have := Nat.le_of_dvd (by omega) this
  omega

def mulIn (p a : Int) (g : List Int) (H : Nat → Int) (i k : Nat) : Nat → Int := fun j => if i ≤ j ∧ j < i + k then (H j + a * g.getD (j - i) 0) % p else H j
def mulH (p : Int) (f g : List Int) : Nat → Nat → Int
  | 0 => fun _ => 0
  | i + 1 => mulIn p (f.getD i 0) g (mulH p f g i) i g.length
def mulM (p : Int) (f g : List Int) : List Int := if f.isEmpty || g.isEmpty then [] else tab (f.length + g.length - 1) (mulH p f g f.length)
theorem mulIn_step (p a : Int) (g : List Int) (H : Nat → Int) (N i k : Nat) : (tab N (mulIn p a g H i k)).set (i + k) ((H (i + k) + a * g.getD k 0) % p) = tab N (mulIn p a g H i (k + 1)) := by
  rw [tab_set]
  apply tab_congr
  intro j _
  unfold mulIn
  by_cases e : j = i + k
  · subst e
    rw [if_pos rfl, if_pos (by omega), show i + k - i = k by omega]
  · rw [if_neg e]
    by_cases h : i ≤ j ∧ j < i + k
    · rw [if_pos h, if_pos (by omega)]
    · rw [if_neg h, if_neg (by omega)]
theorem mulIn_zero (p a : Int) (g : List Int) (H : Nat → Int) (i : Nat) : mulIn p a g H i 0 = H := by
  funext j
  unfold mulIn
  rw [if_neg (by omega)]
theorem mulIn_rng {p : Int} (hp : 2 ≤ p) {a : Int} {g : List Int} {H : Nat → Int} {i k : Nat} (hH : ∀ j, 0 ≤ H j ∧ H j < p) : ∀ j, 0 ≤ mulIn p a g H i k j ∧ mulIn p a g H i k j < p := by
  intro j
  unfold mulIn
  split
  · exact modb hp
  · exact hH j
theorem mulH_rng {p : Int} (hp : 2 ≤ p) (f g : List Int) (i : Nat) : ∀ j, 0 ≤ mulH p f g i j ∧ mulH p f g i j < p := by
  induction i with
  | zero => intro j; simp [mulH]; omega
  | succ i ih => exact mulIn_rng hp ih
theorem mulH_far (p : Int) (f g : List Int) (i : Nat) : ∀ j, i + g.length ≤ j + 1 → mulH p f g i j = 0 := by
  induction i with
  | zero => intro j _; rfl
  | succ i ih =>
    intro j hj
    unfold mulH mulIn
    rw [if_neg (by omega)]
    exact ih j (by omega)
theorem mulM_len {p : Int} {f g : List Int} (h1 : f ≠ []) (h2 : g ≠ []) : (mulM p f g).length = f.length + g.length - 1 := by
  unfold mulM
  cases f with
  | nil => exact absurd rfl h1
  | cons a f =>
    cases g with
    | nil => exact absurd rfl h2
    | cons b g => simp [tab_len]
theorem trimL_self {xs : List Int} (h : xs.getD (xs.length - 1) 0 ≠ 0) : trimL xs = xs := by
  unfold trimL
  by_cases h0 : xs.length = 0
  · have : xs = [] := List.eq_nil_of_length_eq_zero h0
    subst this; rfl
  · rw [trimN_stop h (by omega)]
    simp
theorem trimL_nil : trimL [] = [] := rfl
/-- The product of two polynomials has no zero at its end. -/
theorem mulM_trim {p : Int} {f g : List Int} (hp : primeB p = true) (hf : polyB p f = true) (hg : polyB p g = true) : trimL (mulM p f g) = mulM p f g := by
  by_cases h1 : f = []
  · subst h1; rfl
  by_cases h2 : g = []
  · subst h2; unfold mulM; simp; rfl
  have hpl := primeB_lo hp
  have lf : f.length ≠ 0 := fun h => h1 (List.eq_nil_of_length_eq_zero h)
  have lg : g.length ≠ 0 := fun h => h2 (List.eq_nil_of_length_eq_zero h)
  apply trimL_self
  rw [mulM_len h1 h2]
  have e : mulM p f g = tab (f.length + g.length - 1) (mulH p f g f.length) := by
    unfold mulM
    have e1 : f.isEmpty = false := by simpa using h1
    have e2 : g.isEmpty = false := by simpa using h2
    rw [e1, e2]; rfl
  rw [e, tab_at _ _ _ (by omega)]
  obtain ⟨n, hn⟩ : ∃ n, f.length = n + 1 := ⟨f.length - 1, by omega⟩
  rw [hn]
  unfold mulH mulIn
  rw [if_pos (by omega), mulH_far p f g n _ (by omega)]
  obtain ⟨f1, f2, f3⟩ := polyB_rng hf
  obtain ⟨g1, g2, g3⟩ := polyB_rng hg
  have a1 := areB_at f2 n (by omega)
  have b1 := areB_at g2 (g.length - 1) (by omega)
  have a0 : f.getD n 0 ≠ 0 := by
    rcases f3 with h | h
    · exact absurd h h1
    · rwa [hn, Nat.add_sub_cancel] at h
  have b0 : g.getD (g.length - 1) 0 ≠ 0 := by
    rcases g3 with h | h
    · exact absurd h h2
    · exact h
  have e2 : n + 1 + g.length - 1 - 1 - n = g.length - 1 := by omega
  rw [e2, Int.zero_add]
  exact prime_mul hp (by omega) (by omega) (by omega) (by omega)
end Go.Proofs.Ytiahaipaekeinaa

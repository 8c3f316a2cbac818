/- Plain mathematics of chapter 5: series of quotients, number by number. No program. -/
import Derived.Test.YtiahaipaekeinaaPa
namespace Go.Proofs.Ytiahaipaekeinaa
open Go.RowKit
set_option linter.unusedVariables false
set_option linter.unusedSimpArgs false

/-- The number k of f less the first i products of numbers of g, from x^1 on, and of S that are told ahead of it. -/
def serT (p : Int) (f g : List Int) (S : Nat → Int) (k : Nat) : Nat → Int
  | 0 => f.getD k 0
  | i + 1 => (serT p f g S k i - g.getD (i + 1) 0 * S (k - (i + 1))) % p
/-- The first n numbers of the series of f and g. -/
def serL (p : Int) (f g : List Int) : Nat → List Int
  | 0 => []
  | k + 1 => serL p f g k ++ [serT p f g (fun j => (serL p f g k).getD j 0) k k * invM p (g.getD 0 0) % p]
def serS (p : Int) (f g : List Int) (k : Nat) : Int := (serL p f g (k + 1)).getD k 0
theorem serL_len (p : Int) (f g : List Int) (n : Nat) : (serL p f g n).length = n := by
  induction n with
  | zero => rfl
  | succ n ih => simp [serL, ih]
theorem serL_tab (p : Int) (f g : List Int) (n : Nat) : serL p f g n = tab n (serS p f g) := by
  induction n with
  | zero => rfl
  | succ n ih =>
    have e : serL p f g (n + 1) = tab n (serS p f g) ++ [serS p f g n] := by
      have h : serS p f g n = serT p f g (fun j => (serL p f g n).getD j 0) n n * invM p (g.getD 0 0) % p := by
        unfold serS
        rw [serL]
        simp [List.getElem?_append_right (show (serL p f g n).length ≤ n by rw [serL_len]; exact Nat.le_refl _), serL_len]
      rw [h, ← ih, serL]
    rw [e]
    unfold tab
    rw [List.range_succ, List.map_append]
    rfl
theorem serT_congr (p : Int) (f g : List Int) (S S' : Nat → Int) (k : Nat) (h : ∀ j, j < k → S j = S' j) : ∀ i, i ≤ k → serT p f g S k i = serT p f g S' k i := by
  intro i
  induction i with
  | zero => intro _; rfl
  | succ i ih => intro hi; rw [serT, serT, ih (by omega), h (k - (i + 1)) (by omega)]
theorem serS_eq (p : Int) (f g : List Int) (k : Nat) : serS p f g k = serT p f g (serS p f g) k k * invM p (g.getD 0 0) % p := by
  have h : serS p f g k = serT p f g (fun j => (serL p f g k).getD j 0) k k * invM p (g.getD 0 0) % p := by
    unfold serS
    rw [serL]
    simp [List.getElem?_append_right (show (serL p f g k).length ≤ k by rw [serL_len]; exact Nat.le_refl _), serL_len]
  rw [h, serT_congr p f g _ (serS p f g) k (fun j hj => by rw [serL_tab, tab_at _ _ _ hj]) k (Nat.le_refl _)]
theorem serS_rng {p : Int} (hp : 2 ≤ p) (f g : List Int) (k : Nat) : 0 ≤ serS p f g k ∧ serS p f g k < p := by
  rw [serS_eq]; exact modb hp
theorem serL_are {p : Int} (hp : 2 ≤ p) (f g : List Int) (n : Nat) : areB p (serL p f g n) = true := areB_mk fun j hj => by
  rw [serL_len] at hj
  rw [serL_tab, tab_at _ _ _ hj]
  exact serS_rng hp f g j
theorem serT_rng {p : Int} (hp : 2 ≤ p) {f : List Int} (hf : areB p f = true) (g : List Int) (S : Nat → Int) (k i : Nat) : 0 ≤ serT p f g S k i ∧ serT p f g S k i < p := by
  cases i with
  | zero => exact getD_rng hf hp k
  | succ i => exact modb hp
theorem getD_far {g : List Int} {j : Nat} (h : g.length ≤ j) : g.getD j 0 = 0 := by
  rw [List.getD_eq_getElem?_getD, List.getElem?_eq_none h]; rfl
/-- Behind the numbers of g nothing changes any more. -/
theorem serT_far {p : Int} (hp : 2 ≤ p) {f : List Int} (hf : areB p f = true) (g : List Int) (S : Nat → Int) (k m : Nat) (hm : g.length ≤ m + 1) : ∀ i, m ≤ i → serT p f g S k i = serT p f g S k m := by
  intro i
  induction i with
  | zero => intro h; rw [show m = 0 by omega]
  | succ i ih =>
    intro h
    by_cases e : m = i + 1
    · rw [e]
    · have r := serT_rng hp hf g S k i
      rw [serT, getD_far (g := g) (j := i + 1) (by omega), Int.zero_mul, Int.sub_zero, Int.emod_eq_of_lt r.1 r.2]
      exact ih (by omega)
/-- The numbers behind k, when what those ahead of the place i add to them is taken off. -/
def serP (p : Int) (f g : List Int) (S : Nat → Int) : Nat → Nat → Int
  | 0, j => f.getD j 0
  | i + 1, j => if i < j then (serP p f g S i j + (p - S i) * g.getD (j - i) 0) % p else serP p f g S i j
theorem serP_rng {p : Int} (hp : 2 ≤ p) {f : List Int} (hf : areB p f = true) (g : List Int) (S : Nat → Int) (i j : Nat) : 0 ≤ serP p f g S i j ∧ serP p f g S i j < p := by
  induction i with
  | zero => exact getD_rng hf hp j
  | succ i ih =>
    unfold serP
    split
    · exact modb hp
    · exact ih
theorem serP_sm (p : Int) (f g : List Int) (S : Nat → Int) (j : Nat) : ∀ i, i ≤ j → serP p f g S i j % p = (f.getD j 0 - sm i (fun a => S a * g.getD (j - a) 0)) % p := by
  intro i
  induction i with
  | zero => intro _; simp [serP, sm]
  | succ i ih =>
    intro hi
    rw [serP, if_pos (by omega), Int.emod_emod, Int.add_emod, ih (by omega), ← Int.add_emod, sm]
    have e : f.getD j 0 - sm i (fun a => S a * g.getD (j - a) 0) + (p - S i) * g.getD (j - i) 0 = f.getD j 0 - (sm i (fun a => S a * g.getD (j - a) 0) + S i * g.getD (j - i) 0) + p * g.getD (j - i) 0 := by
      rw [Int.sub_mul]; omega
    rw [e, Int.add_mul_emod_self_left]
theorem serT_sm (p : Int) (f g : List Int) (S : Nat → Int) (k : Nat) : ∀ i, serT p f g S k i % p = (f.getD k 0 - sm i (fun a => g.getD (a + 1) 0 * S (k - (a + 1)))) % p := by
  intro i
  induction i with
  | zero => simp [serT, sm]
  | succ i ih =>
    rw [serT, Int.emod_emod, Int.sub_emod, ih, ← Int.sub_emod, sm]
    congr 1
    omega
theorem serP_T {p : Int} (hp : 2 ≤ p) {f : List Int} (hf : areB p f = true) (g : List Int) (S : Nat → Int) (k : Nat) : serP p f g S k k = serT p f g S k k := by
  have r1 := serP_rng hp hf g S k k
  have r2 := serT_rng hp hf g S k k
  rw [← Int.emod_eq_of_lt r1.1 r1.2, ← Int.emod_eq_of_lt r2.1 r2.2, serP_sm p f g S k k (Nat.le_refl _), serT_sm]
  congr 2
  cases k with
  | zero => rfl
  | succ n =>
    rw [sm_rev]
    apply sm_congr
    intro a ha
    rw [show n + 1 - (n - a) = a + 1 by omega, show n + 1 - (a + 1) = n - a by omega, Int.mul_comm]
/-- The row when the first k numbers are done. -/
def serR (p : Int) (f g : List Int) (k : Nat) : Nat → Int := fun j => if j < k then serS p f g j else serP p f g (serS p f g) k j
/-- The row while the number k takes itself off those behind it, up to k + i. -/
def serI (p : Int) (f g : List Int) (k i : Nat) : Nat → Int := fun j => if j < k + 1 then serS p f g j else if j < k + i then serP p f g (serS p f g) (k + 1) j else serP p f g (serS p f g) k j
theorem serR_done (p : Int) (f g : List Int) (n : Nat) : tab n (serR p f g n) = serL p f g n := by
  rw [serL_tab]
  exact tab_congr fun j hj => if_pos hj
theorem serR_at {p : Int} (hp : 2 ≤ p) {f : List Int} (hf : areB p f = true) (g : List Int) (k : Nat) : serR p f g k k * invM p (g.getD 0 0) % p = serS p f g k := by
  unfold serR
  rw [if_neg (by omega), serP_T hp hf, ← serS_eq]
theorem serR_rng {p : Int} (hp : 2 ≤ p) {f : List Int} (hf : areB p f = true) (g : List Int) (k j : Nat) : 0 ≤ serR p f g k j ∧ serR p f g k j < p := by
  unfold serR
  split
  · exact serS_rng hp f g j
  · exact serP_rng hp hf g _ k j
theorem serR_set (p : Int) (f g : List Int) (n k : Nat) : (tab n (serR p f g k)).set k (serS p f g k) = tab n (serI p f g k 1) := by
  rw [tab_set]
  apply tab_congr
  intro j _
  unfold serR serI
  by_cases e : j = k
  · subst e; rw [if_pos rfl, if_pos (by omega)]
  · rw [if_neg e]
    by_cases h : j < k
    · rw [if_pos h, if_pos (by omega)]
    · rw [if_neg h, if_neg (by omega), if_neg (by omega)]
theorem serI_set (p : Int) (f g : List Int) (n k i : Nat) (hi : 1 ≤ i) : (tab n (serI p f g k i)).set (k + i) ((serP p f g (serS p f g) k (k + i) + (p - serS p f g k) * g.getD i 0) % p) = tab n (serI p f g k (i + 1)) := by
  rw [tab_set]
  apply tab_congr
  intro j _
  unfold serI
  by_cases e : j = k + i
  · subst e
    rw [if_pos rfl, if_neg (by omega), if_pos (by omega), serP, if_pos (by omega), show k + i - k = i by omega]
  · rw [if_neg e]
    by_cases h : j < k + 1
    · rw [if_pos h, if_pos h]
    · rw [if_neg h, if_neg h]
      by_cases h2 : j < k + i
      · rw [if_pos h2, if_pos (by omega)]
      · rw [if_neg h2, if_neg (by omega)]
theorem serI_at (p : Int) (f g : List Int) (k i : Nat) (hi : 1 ≤ i) : serI p f g k i (k + i) = serP p f g (serS p f g) k (k + i) ∧ serI p f g k i k = serS p f g k := by
  unfold serI
  exact ⟨by rw [if_neg (by omega), if_neg (by omega)], by rw [if_pos (by omega)]⟩
theorem serI_end {p : Int} (hp : 2 ≤ p) {f : List Int} (hf : areB p f = true) (g : List Int) (n k i : Nat) (hi : g.length ≤ i ∨ n ≤ k + i) : tab n (serI p f g k i) = tab n (serR p f g (k + 1)) := by
  apply tab_congr
  intro j hj
  unfold serI serR
  by_cases h : j < k + 1
  · rw [if_pos h, if_pos h]
  · rw [if_neg h, if_neg h]
    by_cases h2 : j < k + i
    · rw [if_pos h2]
    · have r := serP_rng hp hf g (serS p f g) k j
      rw [if_neg h2, serP, if_pos (by omega), getD_far (g := g) (j := j - k) (by omega), Int.mul_zero, Int.add_zero, Int.emod_eq_of_lt r.1 r.2]
theorem serR_zero (p : Int) (f g : List Int) (n : Nat) : tab n (fun j => f.getD j 0) = tab n (serR p f g 0) := tab_congr fun j _ => by
  unfold serR
  rw [if_neg (by omega)]; rfl
end Go.Proofs.Ytiahaipaekeinaa

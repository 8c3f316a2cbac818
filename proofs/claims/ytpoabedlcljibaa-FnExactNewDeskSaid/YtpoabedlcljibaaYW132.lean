/- Merged texts. -/
import Derived.Test.YtpoabedlcljibaaYW129
import Derived.Test.YtpoabedlcljibaaYW123
import Derived.Test.YtpoabedlcljibaaYW15
import Derived.Test.YtpoabedlcljibaaYW112
/- Contract: JacobiOfSteps (model). -/
namespace Go.Proofs.Ytpoabedlcljibaa
open Go.RowKit
set_option linter.unusedVariables false
set_option linter.unusedSimpArgs false

theorem jos_jac {p : Int} (hP : primeB p = true) {xs : List Int} (h : areB p xs = true) (r : Nat) (h1 : 1 ≤ r) (h2 : r ≤ 12) : jacB p (tab r (jsA p xs)) (tab r (jsB p xs)) = !hasB 0 (tab r (jsB p xs)) := by
  have hp := (primeB_lo hP).1
  have e1 : areB p (tab r (jsA p xs)) = true := areB_mk fun j hj => by
    rw [tab_len] at hj
    rw [tab_at _ _ _ hj]
    exact jsA_rng hp h j
  have e2 : areB p (tab r (jsB p xs)) = true := areB_mk fun j hj => by
    rw [tab_len] at hj
    rw [tab_at _ _ _ hj]
    exact jsB_rng hp h j
  unfold jacB
  rw [posB_eq, hP, e1, e2, tab_len, tab_len]
  simp [h1, h2]
end Go.Proofs.Ytpoabedlcljibaa
/- Mathematics of steps of data: the numbers d(0), l(1), d(1), l(2), .. that go on by turns, and the data that they make. -/
namespace Go.Proofs.Ytpoabedlcljibaa
open Go.RowKit
set_option linter.unusedVariables false
set_option linter.unusedSimpArgs false

def dfL (p : Int) (xs ys : List Int) (c l0 : Int) : Nat → Int
  | 0 => l0
  | k + 1 => ys.getD (k + 1) 0 * invM p ((xs.getD k 0 - c - dfL p xs ys c l0 k) % p) % p
def dfD (p : Int) (xs ys : List Int) (c l0 : Int) (k : Nat) : Int := (xs.getD k 0 - c - dfL p xs ys c l0 k) % p
theorem dfL_succ (p : Int) (xs ys : List Int) (c l0 : Int) (k : Nat) : dfL p xs ys c l0 (k + 1) = ys.getD (k + 1) 0 * invM p (dfD p xs ys c l0 k) % p := rfl
theorem dfL_rng {p : Int} (hp : 2 ≤ p) (xs ys : List Int) (c : Int) {l0 : Int} (h0 : 0 ≤ l0) (h1 : l0 < p) (k : Nat) : 0 ≤ dfL p xs ys c l0 k ∧ dfL p xs ys c l0 k < p := by
  cases k with
  | zero => exact ⟨h0, h1⟩
  | succ k => exact modb hp
theorem dfD_rng {p : Int} (hp : 2 ≤ p) (xs ys : List Int) (c l0 : Int) (k : Nat) : 0 ≤ dfD p xs ys c l0 k ∧ dfD p xs ys c l0 k < p := modb hp
/-- The list of these numbers after k rounds. -/
def dqV (p : Int) (xs ys : List Int) (c l0 : Int) : Nat → List Int
  | 0 => []
  | k + 1 => dqV p xs ys c l0 k ++ [dfD p xs ys c l0 k] ++ [dfL p xs ys c l0 (k + 1)]
theorem dqV_len (p : Int) (xs ys : List Int) (c l0 : Int) (k : Nat) : (dqV p xs ys c l0 k).length = 2 * k := by
  induction k with
  | zero => rfl
  | succ k ih => simp only [dqV, List.length_append, ih, List.length_singleton]; omega
theorem dqV_at (p : Int) (xs ys : List Int) (c l0 : Int) (k i : Nat) (h : i < k) : (dqV p xs ys c l0 k).getD (2 * i) 0 = dfD p xs ys c l0 i ∧ (dqV p xs ys c l0 k).getD (2 * i + 1) 0 = dfL p xs ys c l0 (i + 1) := by
  induction k with
  | zero => omega
  | succ k ih =>
    have hl := dqV_len p xs ys c l0 k
    by_cases e : i = k
    · subst e
      constructor
      · simp [dqV, List.getD_eq_getElem?_getD, List.getElem?_append, hl]
      · simp [dqV, List.getD_eq_getElem?_getD, List.getElem?_append, hl]
    · have := ih (by omega)
      rw [← this.1, ← this.2]
      have a1 : 2 * i < 2 * k := by omega
      have a2 : 2 * i + 1 < 2 * k := by omega
      have a3 : 2 * i < 2 * k + 1 := by omega
      constructor
      · simp [dqV, List.getD_eq_getElem?_getD, List.getElem?_append, hl, a1, a3]
      · simp [dqV, List.getD_eq_getElem?_getD, List.getElem?_append, hl, a2]
theorem dqV_are {p : Int} (hp : 2 ≤ p) (xs ys : List Int) (c l0 : Int) (k : Nat) : areB p (dqV p xs ys c l0 k) = true := areB_mk fun j hj => by
  rw [dqV_len] at hj
  have h := dqV_at p xs ys c l0 k (j / 2) (by omega)
  by_cases e : j % 2 = 0
  · rw [show j = 2 * (j / 2) by omega, h.1]; exact modb hp
  · rw [show j = 2 * (j / 2) + 1 by omega, h.2]; exact modb hp
/-- No division by 0 ahead of round n. -/
def dqB (p : Int) (xs ys : List Int) (c l0 : Int) (n : Nat) : Bool := (List.range n).all fun k => !(dfD p xs ys c l0 k == 0)
theorem dqB_t {p : Int} {xs ys : List Int} {c l0 : Int} {n : Nat} (h : ∀ k, k < n → dfD p xs ys c l0 k ≠ 0) : dqB p xs ys c l0 n = true := by
  unfold dqB
  rw [List.all_eq_true]
  intro k hk
  simpa using h k (by simpa using hk)
theorem dqB_f {p : Int} {xs ys : List Int} {c l0 : Int} {n : Nat} (k : Nat) (hk : k < n) (h : dfD p xs ys c l0 k = 0) : dqB p xs ys c l0 n = false := by
  unfold dqB
  rw [Bool.eq_false_iff]
  intro hc
  rw [List.all_eq_true] at hc
  have := hc k (by simpa using hk)
  simp [h] at this
theorem dqB_at {p : Int} {xs ys : List Int} {c l0 : Int} {n : Nat} (h : dqB p xs ys c l0 n = true) (k : Nat) (hk : k < n) : dfD p xs ys c l0 k ≠ 0 := by
  unfold dqB at h
  rw [List.all_eq_true] at h
  have := h k (by simpa using hk)
  simpa using this
theorem invM_pos {p x : Int} (hP : primeB p = true) (h0 : 0 < x) (h1 : x < p) : 0 < invM p x := by
  have hp := (primeB_lo hP).1
  have h := invM_rng x hp
  have e := invM_mul hP h0 h1
  by_cases z : invM p x = 0
  · rw [z] at e; simp at e
  · omega
theorem dfL_pos {p : Int} (hP : primeB p = true) {xs ys : List Int} {c l0 : Int} (hy : posB p ys = true) {n : Nat} (h : dqB p xs ys c l0 n = true) (k : Nat) (hk : k < n) (hk2 : k + 1 < ys.length) : 0 < dfL p xs ys c l0 (k + 1) := by
  have hp := (primeB_lo hP).1
  have h1 := dqB_at h k hk
  have h2 := dfD_rng hp xs ys c l0 k
  have h3 := posB_at hy (k + 1) hk2
  have h4 := invM_pos hP (x := dfD p xs ys c l0 k) (by omega) h2.2
  have h5 := invM_rng (dfD p xs ys c l0 k) hp
  have h6 := prime_mul hP (a := ys.getD (k + 1) 0) (b := invM p (dfD p xs ys c l0 k)) (by omega) h3.2 h4 h5.2
  rw [dfL_succ]
  have := modb (x := ys.getD (k + 1) 0 * invM p (dfD p xs ys c l0 k)) hp
  omega
/-- Data with a number taken off each Alpha go on alike. -/
theorem dfL_less (p : Int) (xs ys : List Int) (c l0 : Int) (n : Nat) (hx : xs.length = n) : ∀ k, k ≤ n → dfL p (tab n (afA p 1 (opp p c) xs n)) ys 0 l0 k = dfL p xs ys c l0 k := by
  intro k
  induction k with
  | zero => intro _; rfl
  | succ k ih =>
    intro hk
    have e := ih (by omega)
    show ys.getD (k + 1) 0 * invM p (((tab n (afA p 1 (opp p c) xs n)).getD k 0 - 0 - dfL p (tab n (afA p 1 (opp p c) xs n)) ys 0 l0 k) % p) % p = _
    rw [e, tab_at _ _ _ (by omega)]
    unfold afA
    rw [if_pos (by omega)]
    show _ = ys.getD (k + 1) 0 * invM p ((xs.getD k 0 - c - dfL p xs ys c l0 k) % p) % p
    congr 3
    unfold opp
    rw [Int.sub_zero, Int.one_mul, Int.emod_sub_emod]
    rw [show xs.getD k 0 - c - dfL p xs ys c l0 k = xs.getD k 0 + (-c) - dfL p xs ys c l0 k by omega]
    rw [show xs.getD k 0 + ((p - c) % p) - dfL p xs ys c l0 k = ((p - c) % p) + (xs.getD k 0 - dfL p xs ys c l0 k) by omega, Int.emod_add_emod]
    rw [show p - c + (xs.getD k 0 - dfL p xs ys c l0 k) = xs.getD k 0 + (-c) - dfL p xs ys c l0 k + p by omega, Int.add_emod_right]
theorem dfD_less (p : Int) (xs ys : List Int) (c l0 : Int) (n : Nat) (hx : xs.length = n) (k : Nat) (hk : k < n) : dfD p (tab n (afA p 1 (opp p c) xs n)) ys 0 l0 k = dfD p xs ys c l0 k := by
  unfold dfD
  rw [dfL_less p xs ys c l0 n hx k (by omega), tab_at _ _ _ hk]
  unfold afA
  rw [if_pos hk]
  unfold opp
  rw [Int.sub_zero, Int.one_mul, Int.emod_sub_emod]
  rw [show xs.getD k 0 - c - dfL p xs ys c l0 k = xs.getD k 0 + (-c) - dfL p xs ys c l0 k by omega]
  rw [show xs.getD k 0 + ((p - c) % p) - dfL p xs ys c l0 k = ((p - c) % p) + (xs.getD k 0 - dfL p xs ys c l0 k) by omega, Int.emod_add_emod]
  rw [show p - c + (xs.getD k 0 - dfL p xs ys c l0 k) = xs.getD k 0 + (-c) - dfL p xs ys c l0 k + p by omega, Int.add_emod_right]
theorem dqV_less (p : Int) (xs ys : List Int) (c l0 : Int) (n : Nat) (hx : xs.length = n) : ∀ k, k ≤ n → dqV p (tab n (afA p 1 (opp p c) xs n)) ys 0 l0 k = dqV p xs ys c l0 k := by
  intro k
  induction k with
  | zero => intro _; rfl
  | succ k ih =>
    intro hk
    simp only [dqV]
    rw [ih (by omega), dfD_less p xs ys c l0 n hx k (by omega), dfL_less p xs ys c l0 n hx (k + 1) hk]
theorem dqB_less (p : Int) (xs ys : List Int) (c l0 : Int) (n : Nat) (hx : xs.length = n) (k : Nat) (hk : k ≤ n) : dqB p (tab n (afA p 1 (opp p c) xs n)) ys 0 l0 k = dqB p xs ys c l0 k := by
  cases h : dqB p xs ys c l0 k
  · have : ∃ i, i < k ∧ dfD p xs ys c l0 i = 0 := by
      by_cases hh : ∃ i, i < k ∧ dfD p xs ys c l0 i = 0
      · exact hh
      · rw [dqB_t (fun i hi e => hh ⟨i, hi, e⟩)] at h; cases h
    obtain ⟨i, hi, e⟩ := this
    exact dqB_f i hi (by rw [dfD_less p xs ys c l0 n hx i (by omega)]; exact e)
  · exact dqB_t fun i hi => by rw [dfD_less p xs ys c l0 n hx i (by omega)]; exact dqB_at h i hi
theorem afB_id {p : Int} (hp : 2 ≤ p) {ys : List Int} (hy : areB p ys = true) (n : Nat) (hn : ys.length = n) : tab n (afB p 1 ys n) = ys := by
  conv => rhs; rw [tab_of ys n hn]
  apply tab_congr
  intro j hj
  have r := getD_rng hy hp j
  unfold afB
  by_cases h : 0 < j ∧ j < n
  · rw [if_pos h, show (1 : Int) * 1 = 1 by omega, Int.emod_eq_of_lt (by omega) (show (1 : Int) < p by omega), Int.one_mul, Int.emod_eq_of_lt r.1 r.2]
  · rw [if_neg h]
end Go.Proofs.Ytpoabedlcljibaa

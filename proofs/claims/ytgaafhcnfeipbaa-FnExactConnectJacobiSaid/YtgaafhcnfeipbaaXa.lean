/- Mathematics: sums over paths of a length, a step at a time (rowP, sumP); where weights are 0 or 1 nothing is reduced. -/
import Derived.Test.YtgaafhcnfeipbaaSl
namespace Go.Proofs.Ytgaafhcnfeipbaa
open Go.RowKit
set_option linter.unusedVariables false
set_option linter.unusedSimpArgs false

/-- a number more at one height -/
def addAt (p : Int) (row : List Int) (t : Nat) (x : Int) : List Int := row.set t ((row.getD t 0 + x) % p)
theorem addAt_len (p : Int) (row : List Int) (t : Nat) (x : Int) : (addAt p row t x).length = row.length := by simp [addAt]
theorem getD_setI (row : List Int) (t j : Nat) (v : Int) : (row.set t v).getD j 0 = if j = t ∧ t < row.length then v else row.getD j 0 := by
  simp only [List.getD_eq_getElem?_getD, List.getElem?_set]
  by_cases h : t = j
  · subst h
    by_cases h2 : t < row.length
    · simp [h2]
    · simp [h2]
  · have : ¬ j = t := fun e => h e.symm
    simp [h, this]
theorem addAt_comm (p : Int) (row : List Int) (s t : Nat) (x y : Int) (h : s ≠ t) : addAt p (addAt p row s x) t y = addAt p (addAt p row t y) s x := by
  unfold addAt
  have e1 : (row.set s ((row.getD s 0 + x) % p)).getD t 0 = row.getD t 0 := by rw [getD_setI, if_neg (fun e => h e.1.symm)]
  have e2 : (row.set t ((row.getD t 0 + y) % p)).getD s 0 = row.getD s 0 := by rw [getD_setI, if_neg (fun e => h e.1)]
  rw [e1, e2, List.set_comm _ _ h]
/-- all numbers of a row are in 0..p - 1 -/
def rngL (p : Int) (row : List Int) : Prop := ∀ j, 0 ≤ row.getD j 0 ∧ row.getD j 0 < p
theorem rngL_add {p : Int} (hp : 2 ≤ p) {row : List Int} (h : rngL p row) (t : Nat) (x : Int) : rngL p (addAt p row t x) := by
  intro j
  unfold addAt
  rw [getD_setI]
  have := Int.emod_nonneg (row.getD t 0 + x) (show p ≠ 0 by omega)
  have := Int.emod_lt_of_pos (row.getD t 0 + x) (show 0 < p by omega)
  split
  · omega
  · exact h j
theorem rngL_zero {p : Int} (hp : 2 ≤ p) (m : Nat) : rngL p (List.replicate m 0) := by
  intro j
  have : (List.replicate m (0 : Int)).getD j 0 = 0 := by
    rw [List.getD_eq_getElem?_getD, List.getElem?_replicate]
    split <;> rfl
  omega
/-- the first two steps from a height, and all three -/
def rndD (p : Int) (B v row : List Int) (h : Nat) : List Int := if h = 0 then row else addAt p row (h - 1) (B.getD h 0 * v.getD h 0)
def rndP (p : Int) (A B v row : List Int) (h : Nat) : List Int := addAt p (addAt p (rndD p B v row h) h (A.getD h 0 * v.getD h 0)) (h + 1) (v.getD h 0)
def rndsP (p : Int) (A B v : List Int) : Nat → List Int
  | 0 => List.replicate v.length 0
  | h + 1 => rndP p A B v (rndsP p A B v h) h
/-- one more step from all heights -/
def sprP (p : Int) (A B v : List Int) : List Int := rndsP p A B v v.length
/-- the sums of the weights of the paths of the length n from i to each height less than m -/
def rowP (p : Int) (A B : List Int) (m i : Nat) : Nat → List Int
  | 0 => (List.replicate m 0).set i 1
  | n + 1 => sprP p A B (rowP p A B m i n)
def sumP (p : Int) (A B : List Int) (m i n k : Nat) : Int := (rowP p A B m i n).getD k 0
theorem rndD_len (p : Int) (B v row : List Int) (h : Nat) : (rndD p B v row h).length = row.length := by
  unfold rndD; split <;> simp [addAt_len]
theorem rndP_len (p : Int) (A B v row : List Int) (h : Nat) : (rndP p A B v row h).length = row.length := by
  unfold rndP; rw [addAt_len, addAt_len, rndD_len]
theorem rndsP_len (p : Int) (A B v : List Int) : ∀ h, (rndsP p A B v h).length = v.length
  | 0 => by simp [rndsP]
  | h + 1 => by rw [rndsP, rndP_len, rndsP_len p A B v h]
theorem rowP_len (p : Int) (A B : List Int) (m i : Nat) : ∀ n, (rowP p A B m i n).length = m
  | 0 => by simp [rowP]
  | n + 1 => by rw [rowP, sprP, rndsP_len, rowP_len p A B m i n]
theorem rndD_rng {p : Int} (hp : 2 ≤ p) {row : List Int} (B v : List Int) (hr : rngL p row) (h : Nat) : rngL p (rndD p B v row h) := by
  unfold rndD; split
  · exact hr
  · exact rngL_add hp hr _ _
theorem rndP_rng {p : Int} (hp : 2 ≤ p) {row : List Int} (A B v : List Int) (hr : rngL p row) (h : Nat) : rngL p (rndP p A B v row h) :=
  rngL_add hp (rngL_add hp (rndD_rng hp B v hr h) _ _) _ _
theorem rndsP_rng {p : Int} (hp : 2 ≤ p) (A B v : List Int) : ∀ h, rngL p (rndsP p A B v h)
  | 0 => rngL_zero hp _
  | h + 1 => rndP_rng hp A B v (rndsP_rng hp A B v h) h
theorem rowP_rng {p : Int} (hp : 2 ≤ p) (A B : List Int) (m i : Nat) : ∀ n, rngL p (rowP p A B m i n)
  | 0 => by
    intro j
    rw [rowP, getD_setI]
    split
    · omega
    · exact rngL_zero hp m j
  | n + 1 => rndsP_rng hp _ _ _ _
/-- the same steps in another order -/
theorem rndP_LUD (p : Int) (A B v row : List Int) (h : Nat) : rndP p A B v row h = rndD p B v (addAt p (addAt p row h (v.getD h 0 * A.getD h 0)) (h + 1) (v.getD h 0)) h := by
  unfold rndP rndD
  split
  · rw [Int.mul_comm]
  · rename_i h0
    rw [addAt_comm p row (h - 1) h _ _ (by omega), addAt_comm p _ (h - 1) (h + 1) _ _ (by omega), Int.mul_comm (A.getD h 0)]
theorem rndP_LDU (p : Int) (A B v row : List Int) (h : Nat) : rndP p A B v row h = addAt p (rndD p B v (addAt p row h (A.getD h 0 * v.getD h 0)) h) (h + 1) (v.getD h 0) := by
  unfold rndP rndD
  split
  · rfl
  · rw [addAt_comm p row (h - 1) h _ _ (by omega)]
theorem addAt_out (p : Int) (row : List Int) (t : Nat) (x : Int) (h : row.length ≤ t) : addAt p row t x = row := by
  unfold addAt; exact List.set_eq_of_length_le h
/-- only the numbers at heights less than m matter -/
theorem rndsP_congr (p : Int) (A A' B B' v : List Int) (m : Nat) (hA : ∀ j, j < m → A.getD j 0 = A'.getD j 0) (hB : ∀ j, j < m → B.getD j 0 = B'.getD j 0) : ∀ h, h ≤ m → rndsP p A B v h = rndsP p A' B' v h
  | 0, _ => rfl
  | h + 1, hh => by
    rw [rndsP, rndsP, rndsP_congr p A A' B B' v m hA hB h (by omega)]
    unfold rndP rndD
    rw [hA h (by omega), hB h (by omega)]
theorem rowP_congr (p : Int) (A A' B B' : List Int) (m i : Nat) (hA : ∀ j, j < m → A.getD j 0 = A'.getD j 0) (hB : ∀ j, j < m → B.getD j 0 = B'.getD j 0) : ∀ n, rowP p A B m i n = rowP p A' B' m i n
  | 0 => rfl
  | n + 1 => by
    rw [rowP, rowP, rowP_congr p A A' B B' m i hA hB n]
    exact rndsP_congr p A A' B B' _ m hA hB _ (by rw [rowP_len]; exact Nat.le_refl _)
/-- no paths from outside -/
theorem addAt_zero (p : Int) (m t : Nat) (x : Int) (hx : x = 0) : addAt p (List.replicate m 0) t x = List.replicate m 0 := by
  have : (List.replicate m (0 : Int)).getD t 0 = 0 := by
    rw [List.getD_eq_getElem?_getD, List.getElem?_replicate]
    split <;> rfl
  unfold addAt
  rw [this, hx]
  simp
theorem zeroD (m j : Nat) : (List.replicate m (0 : Int)).getD j 0 = 0 := by
  rw [List.getD_eq_getElem?_getD, List.getElem?_replicate]
  split <;> rfl
theorem rnds_zero (p : Int) (A B : List Int) (m : Nat) : ∀ h, rndsP p A B (List.replicate m 0) h = List.replicate m 0
  | 0 => by simp [rndsP]
  | h + 1 => by
    rw [rndsP, rnds_zero p A B m h]
    unfold rndP rndD
    rw [zeroD, Int.mul_zero, Int.mul_zero]
    split
    · rw [addAt_zero _ _ _ _ rfl, addAt_zero _ _ _ _ rfl]
    · rw [addAt_zero _ _ _ _ rfl, addAt_zero _ _ _ _ rfl, addAt_zero _ _ _ _ rfl]
theorem rowP_zero (p : Int) (A B : List Int) (m i : Nat) (h : m ≤ i) : ∀ n, rowP p A B m i n = List.replicate m 0
  | 0 => by rw [rowP]; exact List.set_eq_of_length_le (by simpa using h)
  | n + 1 => by rw [rowP, rowP_zero p A B m i h n, sprP, rnds_zero]
theorem sumP_out (p : Int) (A B : List Int) (m i n k : Nat) (h : m ≤ i ∨ m ≤ k) : sumP p A B m i n k = 0 := by
  unfold sumP
  rcases h with h | h
  · rw [rowP_zero p A B m i h, zeroD]
  · rw [List.getD_eq_getElem?_getD, List.getElem?_eq_none (by rw [rowP_len]; exact h)]; rfl
/-- counts: the sum of a row -/
def totL (row : List Int) : Int := row.foldr (· + ·) 0
def nnL (row : List Int) : Prop := ∀ j, 0 ≤ row.getD j 0
theorem totL_nn : ∀ (row : List Int), nnL row → 0 ≤ totL row
  | [], _ => by simp [totL]
  | x :: r, h => by
    have h0 := h 0
    have := totL_nn r (fun j => by have := h (j + 1); simpa using this)
    simp [totL] at *
    omega
theorem totL_at : ∀ (row : List Int) (t : Nat), nnL row → row.getD t 0 ≤ totL row
  | [], t, _ => by simp [totL]
  | x :: r, 0, h => by
    have := totL_nn r (fun j => by have := h (j + 1); simpa using this)
    simp [totL] at *
    omega
  | x :: r, t + 1, h => by
    have h0 := h 0
    have := totL_at r t (fun j => by have := h (j + 1); simpa using this)
    simp [totL] at *
    omega
theorem totL_set : ∀ (row : List Int) (t : Nat) (x : Int), 0 ≤ x → totL (row.set t (row.getD t 0 + x)) ≤ totL row + x
  | [], t, x, h => by simp [totL]; exact h
  | y :: r, 0, x, h => by simp [totL]; omega
  | y :: r, t + 1, x, h => by
    have := totL_set r t x h
    simp [totL] at *
    omega
theorem nnL_set {row : List Int} (h : nnL row) (t : Nat) {x : Int} (hx : 0 ≤ x) : nnL (row.set t x) := by
  intro j
  rw [getD_setI]
  split
  · exact hx
  · exact h j
/-- where the total is less than p, nothing is reduced -/
theorem addAt_small {p : Int} {row : List Int} (hn : nnL row) (t : Nat) {x : Int} (hx : 0 ≤ x) (hb : totL row + x < p) : addAt p row t x = row.set t (row.getD t 0 + x) ∧ nnL (addAt p row t x) ∧ totL (addAt p row t x) ≤ totL row + x ∧ row.getD t 0 + x < p := by
  have h1 := totL_at row t hn
  have h2 := hn t
  have e : addAt p row t x = row.set t (row.getD t 0 + x) := by
    unfold addAt
    rw [Int.emod_eq_of_lt (by omega) (by omega)]
  refine ⟨e, ?_, ?_, by omega⟩
  · rw [e]; exact nnL_set hn t (by omega)
  · rw [e]; exact totL_set row t x hx
/-- weights that are 0 or 1 -/
def bitL (A : List Int) : Prop := ∀ j, A.getD j 0 = 0 ∨ A.getD j 0 = 1
theorem rndP_small {p : Int} {A B v row : List Int} (hA : bitL A) (hB : bitL B) (hv : nnL v) (hn : nnL row) (h : Nat) (hb : totL row + 3 * v.getD h 0 < p) :
    nnL (rndP p A B v row h) ∧ totL (rndP p A B v row h) ≤ totL row + 3 * v.getD h 0 := by
  have hv0 := hv h
  have b1 : 0 ≤ B.getD h 0 * v.getD h 0 ∧ B.getD h 0 * v.getD h 0 ≤ v.getD h 0 := by rcases hB h with e | e <;> rw [e] <;> omega
  have a1 : 0 ≤ A.getD h 0 * v.getD h 0 ∧ A.getD h 0 * v.getD h 0 ≤ v.getD h 0 := by rcases hA h with e | e <;> rw [e] <;> omega
  have d : nnL (rndD p B v row h) ∧ totL (rndD p B v row h) ≤ totL row + v.getD h 0 := by
    unfold rndD
    split
    · exact ⟨hn, by omega⟩
    · obtain ⟨_, x1, x2, _⟩ := addAt_small (p := p) hn (h - 1) b1.1 (by omega)
      exact ⟨x1, by omega⟩
  obtain ⟨_, y1, y2, _⟩ := addAt_small (p := p) d.1 h a1.1 (by omega)
  obtain ⟨_, z1, z2, _⟩ := addAt_small (p := p) y1 (h + 1) hv0 (by omega)
  exact ⟨z1, by unfold rndP; omega⟩
/-- the sum of the first numbers -/
def totN (v : List Int) : Nat → Int
  | 0 => 0
  | h + 1 => totN v h + v.getD h 0
theorem totN_cons (x : Int) (r : List Int) : ∀ h, totN (x :: r) (h + 1) = x + totN r h
  | 0 => by simp [totN]
  | h + 1 => by rw [totN, totN_cons x r h, totN]; simp; omega
theorem totN_all : ∀ v : List Int, totN v v.length = totL v
  | [] => rfl
  | x :: r => by rw [List.length_cons, totN_cons, totN_all r]; simp [totL]
theorem totN_le {v : List Int} (hv : nnL v) : ∀ h k, h ≤ k → totN v h ≤ totN v k
  | h, 0, hk => by have : h = 0 := by omega
                   rw [this]; exact Int.le_refl _
  | h, k + 1, hk => by
    by_cases e : h = k + 1
    · rw [e]; exact Int.le_refl _
    · have := totN_le hv h k (by omega)
      have := hv k
      rw [totN]; omega
theorem totL_zero (m : Nat) : totL (List.replicate m 0) = 0 := by
  induction m with
  | zero => rfl
  | succ m ih => simp [List.replicate_succ, totL] at *; exact ih
theorem rnds_small {p : Int} {A B v : List Int} (hA : bitL A) (hB : bitL B) (hv : nnL v) (hb : 3 * totL v < p) : ∀ h, h ≤ v.length → nnL (rndsP p A B v h) ∧ totL (rndsP p A B v h) ≤ 3 * totN v h
  | 0, _ => by
    refine ⟨fun j => by rw [rndsP, zeroD]; exact Int.le_refl _, ?_⟩
    rw [rndsP, totL_zero, totN]
    omega
  | h + 1, hh => by
    obtain ⟨i1, i2⟩ := rnds_small hA hB hv hb h (by omega)
    have hle := totN_le hv (h + 1) v.length hh
    rw [totN_all, totN] at hle
    obtain ⟨j1, j2⟩ := rndP_small (p := p) hA hB hv i1 h (by omega)
    exact ⟨j1, by rw [rndsP, totN]; omega⟩
theorem row_small {p : Int} {A B : List Int} (hA : bitL A) (hB : bitL B) (m i : Nat) (hp : 1000000000000 ≤ p) : ∀ n, n ≤ 24 → nnL (rowP p A B m i n) ∧ totL (rowP p A B m i n) ≤ 3 ^ n
  | 0, _ => by
    have e : (List.replicate m (0 : Int)).set i 1 = (List.replicate m 0).set i ((List.replicate m (0 : Int)).getD i 0 + 1) := by rw [zeroD]; rfl
    refine ⟨?_, ?_⟩
    · rw [rowP]
      exact nnL_set (fun j => by rw [zeroD]; exact Int.le_refl _) i (by omega)
    · rw [rowP, e]
      have := totL_set (List.replicate m 0) i 1 (by omega)
      rw [totL_zero] at this
      simpa using this
  | n + 1, hn => by
    obtain ⟨i1, i2⟩ := row_small hA hB m i hp n (by omega)
    have h3 : (3 : Int) ^ n ≤ 3 ^ 23 := by
      have : (3 : Nat) ^ n ≤ 3 ^ 23 := Nat.pow_le_pow_right (by omega) (by omega)
      exact_mod_cast this
    have h4 : (3 : Int) ^ 23 = 94143178827 := by decide
    obtain ⟨j1, j2⟩ := rnds_small (p := p) hA hB i1 (by omega) (rowP p A B m i n).length (Nat.le_refl _)
    rw [totN_all] at j2
    refine ⟨j1, ?_⟩
    rw [rowP, sprP, Int.pow_succ]
    omega
end Go.Proofs.Ytgaafhcnfeipbaa

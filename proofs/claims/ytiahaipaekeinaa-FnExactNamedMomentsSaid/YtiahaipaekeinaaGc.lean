/- Contracts: GcdPolys (program and model). -/
import Derived.Test.YtiahaipaekeinaaDp
namespace Go.Proofs.Ytiahaipaekeinaa
open Go.RowKit
set_option linter.unusedVariables false
set_option linter.unusedSimpArgs false

theorem divR_low {p inv : Int} {f g : List Int} {D : Nat} (hp : primeB p = true) (hf : areB p f = true) (hg : g.length ≠ 0) (hinv : g.getD (g.length - 1) 0 * inv % p = 1) (hD : f.length = D + g.length) :
    ∀ i, i ≤ D + 1 → ∀ j, D + g.length ≤ j + i → divR p inv f g D i j = 0 := by
  intro i
  induction i with
  | zero => intro _ j hj; exact divR_far hD j (by omega)
  | succ i ih =>
    intro hi j hj
    by_cases e : j = D - i + g.length - 1
    · rw [e]; exact divR_top hp hf hg hinv
    · rw [divR]
      unfold divS
      rw [if_neg (by omega)]
      exact ih (by omega) j (by omega)
theorem trimL_at (xs : List Int) (j : Nat) (h : j < (trimL xs).length) : (trimL xs).getD j 0 = xs.getD j 0 := by
  rw [trimL_len] at h
  unfold trimL
  exact getD_take _ _ _ h
theorem areB_mk {p : Int} {xs : List Int} (h : ∀ j, j < xs.length → 0 ≤ xs.getD j 0 ∧ xs.getD j 0 < p) : areB p xs = true := by
  unfold areB
  rw [List.all_eq_true]
  intro x hx
  obtain ⟨j, hj, rfl⟩ := List.getElem_of_mem hx
  have := h j hj
  simp [hj] at this
  simp [okN, this]
theorem polyB_mk {p : Int} {xs : List Int} (h1 : xs.length ≤ 25) (h2 : areB p xs = true) (h3 : xs.length = 0 ∨ xs.getD (xs.length - 1) 0 ≠ 0) : polyB p xs = true := by
  unfold polyB lastZ
  rw [h2]
  rcases h3 with h | h
  · have : xs = [] := List.eq_nil_of_length_eq_zero h
    subst this; simp
  · simp only [decide_eq_true h1, Bool.true_and]
    have : (xs.getD (xs.length - 1) 0 == 0) = false := by simpa using h
    rw [this]; simp
theorem trimL_last (xs : List Int) : (trimL xs).length = 0 ∨ (trimL xs).getD ((trimL xs).length - 1) 0 ≠ 0 := by
  by_cases h : (trimL xs).length = 0
  · exact .inl h
  · refine .inr ?_
    rw [trimL_at _ _ (by omega), trimL_len]
    rw [trimL_len] at h
    exact trimN_last xs xs.length h
theorem polyB_trim {p : Int} {xs : List Int} (h1 : xs.length ≤ 25) (h2 : ∀ j, j < xs.length → 0 ≤ xs.getD j 0 ∧ xs.getD j 0 < p) : polyB p (trimL xs) = true :=
  polyB_mk (Nat.le_trans (trimL_le _) h1) (areB_mk fun j hj => by
    rw [trimL_at _ _ hj]
    exact h2 j (Nat.lt_of_lt_of_le hj (trimL_le _))) (trimL_last xs)
theorem remM_poly {p : Int} {f g : List Int} (hp : primeB p = true) (hf : polyB p f = true) (hg : polyB p g = true) : polyB p (remM p f g) = true := by
  have hl := primeB_lo hp
  unfold remM
  split
  · exact hf
  · refine polyB_trim (by rw [tab_len]; exact (polyB_rng hf).1) fun j hj => ?_
    rw [tab_len] at hj
    rw [tab_at _ _ _ hj]
    exact divR_rng hl.1 (polyB_rng hf).2.1 _ j
theorem quoM_poly {p : Int} {f g : List Int} (hp : primeB p = true) (hf : polyB p f = true) (hg : polyB p g = true) (hg0 : g.length ≠ 0) : polyB p (quoM p f g) = true := by
  have hl := primeB_lo hp
  unfold quoM
  split
  · rfl
  · refine polyB_trim (by rw [tab_len]; have := (polyB_rng hf).1; omega) fun j hj => ?_
    rw [tab_len] at hj
    rw [tab_at _ _ _ hj]
    unfold divQ
    split
    · exact divN_rng hl.1
    · omega
theorem remM_lt {p : Int} {f g : List Int} (hp : primeB p = true) (hf : polyB p f = true) (hg : polyB p g = true) (h0 : g.length ≠ 0) : (remM p f g).length < g.length := by
  have hl := primeB_lo hp
  unfold remM
  split
  · assumption
  · have hgl := poly_last hg rfl (show 0 < g.length by omega)
    have hr := areB_at (polyB_rng hg).2.1 (g.length - 1) (by omega)
    have hi : g.getD (g.length - 1) 0 * invM p (g.getD (g.length - 1) 0) % p = 1 := invM_mul hp (by omega) hr.2
    have hz := divR_low (inv := invM p (g.getD (g.length - 1) 0)) (D := f.length - g.length) hp (polyB_rng hf).2.1 h0 hi (by omega) (f.length - g.length + 1) (by omega)
    rw [trimL_len, tab_len]
    have hm : trimN (tab f.length (divR p (invM p (g.getD (g.length - 1) 0)) f g (f.length - g.length) (f.length - g.length + 1))) f.length = trimN (tab f.length (divR p (invM p (g.getD (g.length - 1) 0)) f g (f.length - g.length) (f.length - g.length + 1))) (g.length - 1) :=
      trimN_mono _ _ _ (by omega) (fun j h1 h2 => by rw [tab_at _ _ _ h2]; exact hz j (by omega))
    rw [hm]
    have := trimN_le (tab f.length (divR p (invM p (g.getD (g.length - 1) 0)) f g (f.length - g.length) (f.length - g.length + 1))) (g.length - 1)
    omega
def gcdL (p : Int) : Nat → List Int → List Int → List Int
  | 0, f, _ => f
  | k + 1, f, g => if g.isEmpty then f else gcdL p k g (remM p f g)
def gcdM (p : Int) (f g : List Int) : List Int := monM p (gcdL p (g.length + 1) f g)
def gcdC (p : Int) (f g : List Int) : Int := chk2 p f g
def gcdV (p : Int) (f g : List Int) : List Int := if gcdC p f g = 0 then gcdM p f g else []
theorem gcdL_poly {p : Int} (hp : primeB p = true) : ∀ (k : Nat) (f g : List Int), polyB p f = true → polyB p g = true → polyB p (gcdL p k f g) = true := by
  intro k
  induction k with
  | zero => intro f g h1 _; exact h1
  | succ k ih =>
    intro f g h1 h2
    unfold gcdL
    split
    · exact h1
    · exact ih _ _ h2 (remM_poly hp h1 h2)
theorem gcdM_len {p : Int} {f g : List Int} (hp : primeB p = true) (hf : polyB p f = true) (hg : polyB p g = true) : (gcdM p f g).length ≤ 1000 :=
  monM_len (by have := poly_len (gcdL_poly hp (g.length + 1) f g hf hg); omega)
end Go.Proofs.Ytiahaipaekeinaa

/- Merged texts. -/
import Derived.Test.YtdjifjlgllohmaaDoorYDS9
/- Contracts: DividePolys (program and model). -/
namespace Go.Proofs.YtdjifjlgllohmaaDoor
open Go.RowKit
set_option linter.unusedVariables false
set_option linter.unusedSimpArgs false

/-- The three results of a call: two lists in zones of their own and a code. -/
def Res2 (w : World) (v u : List Int) (c : Int) (e : Ending) (w' : World) : Prop :=
  ∃ a1 c1 a2 c2, e = .returned (.tuple #[.slice a1 v.length c1, .slice a2 u.length c2, .int .i64 c]) ∧ ∃ lo hi lo2 hi2, (w.heap.size ≤ lo ∧ hi ≤ w'.heap.size ∧ w.heap.size ≤ lo2 ∧ hi2 ≤ w'.heap.size ∧ hi ≤ lo2) ∧
    OZ lo hi w' a1 v.length c1 v ∧ OZ lo2 hi2 w' a2 u.length c2 u ∧ v.length ≤ 100000 ∧ u.length ≤ 100000 ∧ Below w.heap.size w w'
theorem Res2.nil {w w' : World} {v u : List Int} {c c' : Int} (hv : v = []) (hu : u = []) (hc : c = c') (hb : Below w.heap.size w w') : Res2 w v u c (.returned (.tuple #[.slice none 0 0, .slice none 0 0, .int .i64 c'])) w' := by
  subst hv; subst hu; subst hc
  exact ⟨none, 0, none, 0, rfl, w.heap.size, w.heap.size, w.heap.size, w.heap.size, ⟨Nat.le_refl _, hb.size, Nat.le_refl _, hb.size, Nat.le_refl _⟩, ⟨SL.nil _, .inl rfl⟩, ⟨SL.nil _, .inl rfl⟩, by simp, by simp, hb⟩
theorem Res2.mk {w w1 w' : World} {v u q r : List Int} {c c' : Int} {a1 a2 : Option Addr} {n1 n2 c1 c2 M : Nat} (hv : v = q) (hu : u = r) (hc : c = c') (h1 : n1 = q.length) (h2 : n2 = r.length) (o1 : OZ w1.heap.size M w' a1 n1 c1 q) (o2 : OZ M w'.heap.size w' a2 n2 c2 r)
    (hw : w.heap.size ≤ w1.heap.size) (hM : w1.heap.size ≤ M) (hM' : M ≤ w'.heap.size) (hlq : q.length ≤ 100000) (hlr : r.length ≤ 100000) (hb : Below w.heap.size w w') : Res2 w v u c (.returned (.tuple #[.slice a1 n1 c1, .slice a2 n2 c2, .int .i64 c'])) w' := by
  subst hv; subst hu; subst hc; subst h1; subst h2
  exact ⟨a1, c1, a2, c2, rfl, w1.heap.size, M, M, w'.heap.size, ⟨hw, hM', by omega, Nat.le_refl _, Nat.le_refl _⟩, o1, o2, hlq, hlr, hb⟩
def divC (p : Int) (f g : List Int) : Int := if chk2 p f g = 0 then (if g.isEmpty then 5 else 0) else chk2 p f g
def divV (p : Int) (f g : List Int) : List Int := if divC p f g = 0 then quoM p f g else []
def divU (p : Int) (f g : List Int) : List Int := if divC p f g = 0 then remM p f g else []
theorem trimL_le (xs : List Int) : (trimL xs).length ≤ xs.length := by rw [trimL_len]; exact trimN_le _ _
theorem quoM_len (p : Int) (f g : List Int) : (quoM p f g).length ≤ f.length + 1 := by
  unfold quoM
  split
  · simp
  · refine Nat.le_trans (trimL_le _) ?_
    rw [tab_len]; omega
theorem remM_len (p : Int) (f g : List Int) : (remM p f g).length ≤ f.length := by
  unfold remM
  split
  · exact Nat.le_refl _
  · refine Nat.le_trans (trimL_le _) ?_
    rw [tab_len]
    exact Nat.le_refl _
theorem poly_last {p : Int} {f : List Int} {n : Nat} (h : polyB p f = true) (hl : f.length = n) (hn : 0 < n) : f.getD (n - 1) 0 ≠ 0 := by
  rcases (polyB_rng h).2.2 with h | h
  · subst h; simp at hl; omega
  · rwa [hl] at h
end Go.Proofs.YtdjifjlgllohmaaDoor
/- Contracts: GcdPolys (program and model). -/
namespace Go.Proofs.YtdjifjlgllohmaaDoor
open Go.RowKit
set_option linter.unusedVariables false
set_option linter.unusedSimpArgs false

theorem divR_low {p inv : Int} {f g : List Int} {D : Nat} (hp : primeB p = true) (hf : areB p f = true) (hg : g.length ≠ 0) (hinv : g.getD (g.length - 1) 0 * inv % p = 1) (hD : f.length = D + g.length) :
    ∀ i, i ≤ D + 1 → ∀ j, D + g.length ≤ j + i → divR p inv f g D i j = 0 := by
  intro i
  induction i with
  | zero => intro _ j hj; exact divR_far hD j (by omega)
  | succ i ih =>
    intro hi j hj
    by_cases e : j = D - i + g.length - 1
    · rw [e]; exact divR_top hp hf hg hinv
    · rw [divR]
      unfold divS
      rw [if_neg (by omega)]
      exact ih (by omega) j (by omega)
theorem trimL_at (xs : List Int) (j : Nat) (h : j < (trimL xs).length) : (trimL xs).getD j 0 = xs.getD j 0 := by
  rw [trimL_len] at h
  unfold trimL
  exact getD_take _ _ _ h
theorem areB_mk {p : Int} {xs : List Int} (h : ∀ j, j < xs.length → 0 ≤ xs.getD j 0 ∧ xs.getD j 0 < p) : areB p xs = true := by
  unfold areB
  rw [List.all_eq_true]
  intro x hx
  obtain ⟨j, hj, rfl⟩ := List.getElem_of_mem hx
  have := h j hj
  simp [hj] at this
  simp [okN, this]
theorem polyB_mk {p : Int} {xs : List Int} (h1 : xs.length ≤ 25) (h2 : areB p xs = true) (h3 : xs.length = 0 ∨ xs.getD (xs.length - 1) 0 ≠ 0) : polyB p xs = true := by
  unfold polyB lastZ
  rw [h2]
  rcases h3 with h | h
  · have : xs = [] := List.eq_nil_of_length_eq_zero h
    subst this; simp
  · simp only [decide_eq_true h1, Bool.true_and]
    have : (xs.getD (xs.length - 1) 0 == 0) = false := by simpa using h
    rw [this]; simp
theorem trimL_last (xs : List Int) : (trimL xs).length = 0 ∨ (trimL xs).getD ((trimL xs).length - 1) 0 ≠ 0 := by
  by_cases h : (trimL xs).length = 0
  · exact .inl h
  · refine .inr ?_
    rw [trimL_at _ _ (by omega), trimL_len]
    rw [trimL_len] at h
    exact trimN_last xs xs.length h
theorem polyB_trim {p : Int} {xs : List Int} (h1 : xs.length ≤ 25) (h2 : ∀ j, j < xs.length → 0 ≤ xs.getD j 0 ∧ xs.getD j 0 < p) : polyB p (trimL xs) = true :=
  polyB_mk (Nat.le_trans (trimL_le _) h1) (areB_mk fun j hj => by
    rw [trimL_at _ _ hj]
    exact h2 j (Nat.lt_of_lt_of_le hj (trimL_le _))) (trimL_last xs)
theorem remM_poly {p : Int} {f g : List Int} (hp : primeB p = true) (hf : polyB p f = true) (hg : polyB p g = true) : polyB p (remM p f g) = true := by
  have hl := primeB_lo hp
  unfold remM
  split
  · exact hf
  · refine polyB_trim (by rw [tab_len]; exact (polyB_rng hf).1) fun j hj => ?_
    rw [tab_len] at hj
    rw [tab_at _ _ _ hj]
    exact divR_rng hl.1 (polyB_rng hf).2.1 _ j
theorem quoM_poly {p : Int} {f g : List Int} (hp : primeB p = true) (hf : polyB p f = true) (hg : polyB p g = true) (hg0 : g.length ≠ 0) : polyB p (quoM p f g) = true := by
  have hl := primeB_lo hp
  unfold quoM
  split
  · rfl
  · refine polyB_trim (by rw [tab_len]; have := (polyB_rng hf).1; omega) fun j hj => ?_
    rw [tab_len] at hj
    rw [tab_at _ _ _ hj]
    unfold divQ
    split
    · exact divN_rng hl.1
    · omega
theorem remM_lt {p : Int} {f g : List Int} (hp : primeB p = true) (hf : polyB p f = true) (hg : polyB p g = true) (h0 : g.length ≠ 0) : (remM p f g).length < g.length := by
  have hl := primeB_lo hp
  unfold remM
  split
  · assumption
  · have hgl := poly_last hg rfl (show 0 < g.length by omega)
    have hr := areB_at (polyB_rng hg).2.1 (g.length - 1) (by omega)
    have hi : g.getD (g.length - 1) 0 * invM p (g.getD (g.length - 1) 0) % p = 1 := invM_mul hp (by omega) hr.2
    have hz := divR_low (inv := invM p (g.getD (g.length - 1) 0)) (D := f.length - g.length) hp (polyB_rng hf).2.1 h0 hi (by omega) (f.length - g.length + 1) (by omega)
    rw [trimL_len, tab_len]
    have hm : trimN (tab f.length (divR p (invM p (g.getD (g.length - 1) 0)) f g (f.length - g.length) (f.length - g.length + 1))) f.length = trimN (tab f.length (divR p (invM p (g.getD (g.length - 1) 0)) f g (f.length - g.length) (f.length - g.length + 1))) (g.length - 1) :=
      trimN_mono _ _ _ (by omega) (fun j h1 h2 => by rw [tab_at _ _ _ h2]; exact hz j (by omega))
    rw [hm]
    have := trimN_le (tab f.length (divR p (invM p (g.getD (g.length - 1) 0)) f g (f.length - g.length) (f.length - g.length + 1))) (g.length - 1)
    omega
def gcdL (p : Int) : Nat → List Int → List Int → List Int
  | 0, f, _ => f
  | k + 1, f, g => if g.isEmpty then f else gcdL p k g (remM p f g)
def gcdM (p : Int) (f g : List Int) : List Int := monM p (gcdL p (g.length + 1) f g)
def gcdC (p : Int) (f g : List Int) : Int := chk2 p f g
def gcdV (p : Int) (f g : List Int) : List Int := if gcdC p f g = 0 then gcdM p f g else []
theorem gcdL_poly {p : Int} (hp : primeB p = true) : ∀ (k : Nat) (f g : List Int), polyB p f = true → polyB p g = true → polyB p (gcdL p k f g) = true := by
  intro k
  induction k with
  | zero => intro f g h1 _; exact h1
  | succ k ih =>
    intro f g h1 h2
    unfold gcdL
    split
    · exact h1
    · exact ih _ _ h2 (remM_poly hp h1 h2)
theorem gcdM_len {p : Int} {f g : List Int} (hp : primeB p = true) (hf : polyB p f = true) (hg : polyB p g = true) : (gcdM p f g).length ≤ 1000 :=
  monM_len (by have := poly_len (gcdL_poly hp (g.length + 1) f g hf hg); omega)
end Go.Proofs.YtdjifjlgllohmaaDoor

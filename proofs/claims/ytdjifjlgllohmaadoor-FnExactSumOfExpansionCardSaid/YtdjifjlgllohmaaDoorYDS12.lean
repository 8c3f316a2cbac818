/- Merged texts. -/
import Derived.Test.YtdjifjlgllohmaaDoorYDS11
import Derived.Test.YtdjifjlgllohmaaDoorYDS8
import Derived.Test.YtdjifjlgllohmaaDoorYDS10
import Derived.Test.YtdjifjlgllohmaaDoorYDS3
/- Values of polynomials at polynomials: the closures of polysModulo, evaluate, composition (program and model). -/
namespace Go.Proofs.YtdjifjlgllohmaaDoor
open Go.RowKit
set_option linter.unusedVariables false
set_option linter.unusedSimpArgs false

/-- Horner's rule at a polynomial, k numbers taken in from the last one on. -/
def horP (p : Int) (f g : List Int) : Nat → List Int
  | 0 => []
  | k + 1 => addM p (mulM p (horP p f g k) g) (trimL [f.getD (f.length - 1 - k) 0]) 1
def comM (p : Int) (f g : List Int) : List Int := horP p f g f.length
theorem mulM_rng {p : Int} {f g : List Int} (hp : 2 ≤ p) (j : Nat) : 0 ≤ (mulM p f g).getD j 0 ∧ (mulM p f g).getD j 0 < p := by
  by_cases h : f.length = 0 ∨ g.length = 0
  · rw [mulM_nil (h.imp List.eq_nil_of_length_eq_zero List.eq_nil_of_length_eq_zero)]
    simp; omega
  · have h1 : f.length ≠ 0 := fun e => h (.inl e)
    have h2 : g.length ≠ 0 := fun e => h (.inr e)
    rw [mulM_tab h1 h2]
    by_cases hj : j < f.length + g.length - 1
    · rw [tab_at _ _ _ hj]
      exact mulH_rng hp _ _ _ _
    · have : (tab (f.length + g.length - 1) (mulH p f g f.length)).getD j 0 = 0 := by
        rw [List.getD_eq_getElem?_getD, List.getElem?_eq_none (by rw [tab_len]; omega)]; rfl
      rw [this]; omega
theorem mulM_are {p : Int} {f g : List Int} (hp : 2 ≤ p) : areB p (mulM p f g) = true := areB_mk fun j _ => mulM_rng hp j
theorem mulM_up {f g : List Int} {p : Int} : (mulM p f g).length = 0 ∨ (f.length ≠ 0 ∧ g.length ≠ 0 ∧ (mulM p f g).length = f.length + g.length - 1) := by
  by_cases h : f.length = 0 ∨ g.length = 0
  · exact .inl (by rw [mulM_nil (h.imp List.eq_nil_of_length_eq_zero List.eq_nil_of_length_eq_zero)]; rfl)
  · have h1 : f.length ≠ 0 := fun e => h (.inl e)
    have h2 : g.length ≠ 0 := fun e => h (.inr e)
    exact .inr ⟨h1, h2, by rw [mulM_tab h1 h2, tab_len]⟩
theorem addM_poly {p : Int} {f g : List Int} {k : Int} (hp : 2 ≤ p) (h1 : f.length ≤ 25) (h2 : g.length ≤ 25) (hf : areB p f = true) : polyB p (addM p f g k) = true := by
  unfold addM
  refine polyB_trim (by rw [tab_len]; omega) fun j hj => ?_
  rw [tab_len] at hj
  rw [tab_at _ _ _ hj]
  unfold sumH
  split
  · exact modb hp
  · exact getD_rng hf hp j
theorem addM_up {p : Int} {f g : List Int} {k : Int} : (addM p f g k).length ≤ max f.length g.length := by
  unfold addM
  exact Nat.le_trans (trimL_le _) (by rw [tab_len]; omega)
theorem one_up (x : Int) : (trimL [x]).length ≤ 1 := trimL_le [x]
theorem one_are {p x : Int} (h0 : 0 ≤ x) (h1 : x < p) : areB p (trimL [x]) = true := areB_mk fun j hj => by
  have := one_up x
  rw [trimL_at _ _ hj]
  have : j = 0 := by omega
  subst this
  exact ⟨h0, h1⟩
theorem horP_poly {p : Int} {f g : List Int} (hp : primeB p = true) (hf : polyB p f = true) (hg : polyB p g = true) (hd : (f.length - 1) * (g.length - 1) ≤ 24) :
    ∀ k, k ≤ f.length → polyB p (horP p f g k) = true ∧ (horP p f g k).length ≤ 1 + (k - 1) * (g.length - 1) ∧ (k = 0 → horP p f g k = []) := by
  have hpl := primeB_lo hp
  intro k
  induction k with
  | zero => exact fun _ => ⟨by simp [horP, polyB, areB], by simp [horP], fun _ => rfl⟩
  | succ k ih =>
    intro hk
    obtain ⟨i1, i2, i3⟩ := ih (by omega)
    have hle : k * (g.length - 1) ≤ (f.length - 1) * (g.length - 1) := Nat.mul_le_mul_right _ (by omega)
    have hm : (mulM p (horP p f g k) g).length ≤ 1 + k * (g.length - 1) := by
      rcases mulM_up (f := horP p f g k) (g := g) (p := p) with h | ⟨h1, h2, h⟩
      · omega
      · cases k with
        | zero => exact absurd (by rw [i3 rfl]; rfl) h1
        | succ k =>
          have : (k + 1) * (g.length - 1) = k * (g.length - 1) + (g.length - 1) := Nat.succ_mul _ _
          simp at i2
          omega
    have ho := one_up (f.getD (f.length - 1 - k) 0)
    refine ⟨addM_poly hpl.1 (by omega) (by omega) (mulM_are hpl.1), ?_, fun h => absurd h (by omega)⟩
    have := addM_up (p := p) (f := mulM p (horP p f g k) g) (g := trimL [f.getD (f.length - 1 - k) 0]) (k := 1)
    rw [horP, Nat.add_sub_cancel]
    omega
end Go.Proofs.YtdjifjlgllohmaaDoor
/- Plain mathematics: products of polynomials as convolutions: they do not depend on order or brackets; powers. No program. -/
namespace Go.Proofs.YtdjifjlgllohmaaDoor
open Go.RowKit
set_option linter.unusedVariables false
set_option linter.unusedSimpArgs false
theorem sm_ext (f : Nat → Int) (n : Nat) : ∀ m, n ≤ m → (∀ k, n ≤ k → k < m → f k = 0) → sm m f = sm n f := by
  intro m
  induction m with
  | zero => intro h _; rw [show n = 0 by omega]
  | succ m ih =>
    intro h hz
    by_cases e : n = m + 1
    · rw [e]
    · rw [sm, ih (by omega) (fun k h1 h2 => hz k h1 (by omega)), hz m (by omega) (by omega), Int.add_zero]
theorem sm_emod {p : Int} {n : Nat} {f g : Nat → Int} (h : ∀ k, k < n → f k % p = g k % p) : sm n f % p = sm n g % p := by
  induction n with
  | zero => rfl
  | succ n ih => rw [sm, sm, Int.add_emod, ih (fun k hk => h k (by omega)), h n (by omega), ← Int.add_emod]
theorem sm_rev : ∀ (n : Nat) (f : Nat → Int), sm (n + 1) f = sm (n + 1) (fun i => f (n - i)) := by
  intro n
  induction n with
  | zero => intro f; simp [sm]
  | succ n ih =>
    intro f
    rw [sm, sm_head (n + 1), ih, Int.add_comm, Nat.sub_zero]
    congr 1
    apply sm_congr
    intro k hk
    rw [show n + 1 - (k + 1) = n - k by omega]
theorem sm_tri (T : Nat → Nat → Int) : ∀ n, sm (n + 1) (fun i => sm (i + 1) (fun a => T a (i - a))) = sm (n + 1) (fun a => sm (n - a + 1) (fun b => T a b)) := by
  intro n
  induction n with
  | zero => simp [sm]
  | succ n ih =>
    have e0 : sm (n + 1 + 1) (fun i => sm (i + 1) (fun a => T a (i - a))) = sm (n + 1) (fun i => sm (i + 1) (fun a => T a (i - a))) + sm (n + 1 + 1) (fun a => T a (n + 1 - a)) := rfl
    have e1 : sm (n + 1) (fun a => sm (n + 1 - a + 1) (fun b => T a b)) = sm (n + 1) (fun a => sm (n - a + 1) (fun b => T a b)) + sm (n + 1) (fun a => T a (n + 1 - a)) := by
      rw [← sm_add]
      apply sm_congr
      intro a ha
      rw [show n + 1 - a + 1 = (n - a + 1) + 1 by omega, sm, show n - a + 1 = n + 1 - a by omega]
    have e2 : sm (n + 1 + 1) (fun a => sm (n + 1 - a + 1) (fun b => T a b)) = sm (n + 1) (fun a => sm (n + 1 - a + 1) (fun b => T a b)) + sm (n + 1 - (n + 1) + 1) (fun b => T (n + 1) b) := rfl
    have e3 : sm (n + 1 + 1) (fun a => T a (n + 1 - a)) = sm (n + 1) (fun a => T a (n + 1 - a)) + T (n + 1) (n + 1 - (n + 1)) := rfl
    rw [e0, ih, e2, e1, e3]
    simp only [Nat.sub_self, sm, Int.zero_add, Nat.zero_add]
    omega
/-- The coefficient j of a product. -/
def cv (F G : Nat → Int) (j : Nat) : Int := sm (j + 1) (fun i => F i * G (j - i))
theorem cv_comm (F G : Nat → Int) (j : Nat) : cv F G j = cv G F j := by
  unfold cv
  rw [sm_rev]
  apply sm_congr
  intro k hk
  rw [show j - (j - k) = k by omega, Int.mul_comm]
theorem cv_assoc (F G H : Nat → Int) (j : Nat) : cv (cv F G) H j = cv F (cv G H) j := by
  unfold cv
  have e1 : sm (j + 1) (fun i => sm (i + 1) (fun a => F a * G (i - a)) * H (j - i)) = sm (j + 1) (fun i => sm (i + 1) (fun a => (fun a b => F a * G b * H (j - a - b)) a (i - a))) := by
    apply sm_congr
    intro i hi
    rw [Int.mul_comm, ← sm_mul]
    apply sm_congr
    intro a ha
    simp only
    rw [show j - a - (i - a) = j - i by omega, Int.mul_comm]
  rw [e1, sm_tri (fun a b => F a * G b * H (j - a - b))]
  apply sm_congr
  intro a ha
  rw [← sm_mul]
  apply sm_congr
  intro b hb
  rw [Int.mul_assoc]
theorem cv_mod {p : Int} {F G F' G' : Nat → Int} (j : Nat) (h1 : ∀ i, F i % p = F' i % p) (h2 : ∀ i, G i % p = G' i % p) : cv F G j % p = cv F' G' j % p := by
  unfold cv
  apply sm_emod
  intro k _
  rw [Int.mul_emod, h1, h2, ← Int.mul_emod]
/-- The numbers of a list as a function. -/
def cf (f : List Int) : Nat → Int := fun j => f.getD j 0
theorem cf_far {f : List Int} {j : Nat} (h : f.length ≤ j) : cf f j = 0 := by
  unfold cf
  rw [List.getD_eq_getElem?_getD, List.getElem?_eq_none h]; rfl
theorem mulH_sm (p : Int) (f g : List Int) (i j : Nat) : mulH p f g i j % p = sm i (fun a => if a ≤ j then cf f a * cf g (j - a) else 0) % p := by
  induction i with
  | zero => simp [mulH, sm]
  | succ i ih =>
    unfold mulH mulIn
    rw [sm, Int.add_emod (sm i _), ← ih]
    by_cases h : i ≤ j ∧ j < i + g.length
    · rw [if_pos h, if_pos h.1, Int.emod_emod, ← Int.add_emod]
      rfl
    · rw [if_neg h]
      have e : (if i ≤ j then cf f i * cf g (j - i) else 0) = 0 := by
        split
        · rw [cf_far (f := g) (j := j - i) (by omega), Int.mul_zero]
        · rfl
      rw [e]
      simp
theorem mulH_cv {p : Int} (hp : 2 ≤ p) (f g : List Int) (j : Nat) : mulH p f g f.length j = cv (cf f) (cf g) j % p := by
  have h := mulH_sm p f g f.length j
  rw [Int.emod_eq_of_lt (mulH_rng hp f g _ j).1 (mulH_rng hp f g _ j).2] at h
  rw [h]
  congr 1
  have e1 := sm_ext (fun a => if a ≤ j then cf f a * cf g (j - a) else 0) f.length (max f.length (j + 1)) (by omega) (fun k h1 h2 => by
    show (if k ≤ j then cf f k * cf g (j - k) else 0) = 0
    split
    · rw [cf_far h1, Int.zero_mul]
    · rfl)
  have e2 := sm_ext (fun a => if a ≤ j then cf f a * cf g (j - a) else 0) (j + 1) (max f.length (j + 1)) (by omega) (fun k h1 h2 => if_neg (by omega))
  rw [← e1, e2]
  unfold cv
  apply sm_congr
  intro k hk
  rw [if_pos (by omega)]
theorem cv_far {f g : List Int} {j : Nat} (h : f.length + g.length ≤ j + 1) : cv (cf f) (cf g) j = 0 := by
  unfold cv
  rw [show (0 : Int) = sm 0 (fun i => cf f i * cf g (j - i)) from rfl]
  apply sm_ext _ 0 _ (by omega)
  intro k _ hk
  by_cases e : f.length ≤ k
  · rw [cf_far e, Int.zero_mul]
  · rw [cf_far (f := g) (by omega), Int.mul_zero]
theorem mulM_cf {p : Int} (hp : 2 ≤ p) (f g : List Int) (j : Nat) : cf (mulM p f g) j = cv (cf f) (cf g) j % p := by
  by_cases h : f.length = 0 ∨ g.length = 0
  · rw [mulM_nil (h.imp List.eq_nil_of_length_eq_zero List.eq_nil_of_length_eq_zero)]
    have e : cv (cf f) (cf g) j = 0 := by
      unfold cv
      rw [show (0 : Int) = sm 0 (fun i => cf f i * cf g (j - i)) from rfl]
      apply sm_ext _ 0 _ (by omega)
      intro k _ _
      rcases h with h | h
      · rw [cf_far (by omega), Int.zero_mul]
      · rw [cf_far (f := g) (by omega), Int.mul_zero]
    rw [e]; rfl
  · have h1 : f.length ≠ 0 := fun e => h (.inl e)
    have h2 : g.length ≠ 0 := fun e => h (.inr e)
    rw [mulM_tab h1 h2]
    by_cases hj : j < f.length + g.length - 1
    · unfold cf
      rw [tab_at _ _ _ hj]
      exact mulH_cv hp f g j
    · rw [cf_far (by rw [tab_len]; omega), cv_far (by omega)]; rfl
/-- The length of a product. -/
def mlen (a b : Nat) : Nat := if a = 0 ∨ b = 0 then 0 else a + b - 1
theorem mulM_mlen (p : Int) (f g : List Int) : (mulM p f g).length = mlen f.length g.length := by
  unfold mlen
  by_cases h : f.length = 0 ∨ g.length = 0
  · rw [mulM_nil (h.imp List.eq_nil_of_length_eq_zero List.eq_nil_of_length_eq_zero), if_pos h]; rfl
  · rw [if_neg h, mulM_tab (fun e => h (.inl e)) (fun e => h (.inr e)), tab_len]
theorem ext_cf {xs ys : List Int} (hl : xs.length = ys.length) (h : ∀ j, cf xs j = cf ys j) : xs = ys := ext_tab hl (fun j _ => h j)
theorem mulM_comm {p : Int} (hp : 2 ≤ p) (f g : List Int) : mulM p f g = mulM p g f := by
  apply ext_cf
  · rw [mulM_mlen, mulM_mlen]; unfold mlen; split <;> split <;> omega
  · intro j
    rw [mulM_cf hp, mulM_cf hp, cv_comm]
theorem mulM_assoc {p : Int} (hp : 2 ≤ p) (f g h : List Int) : mulM p (mulM p f g) h = mulM p f (mulM p g h) := by
  apply ext_cf
  · simp only [mulM_mlen, mlen]
    by_cases a : f.length = 0
    · simp [a]
    by_cases b : g.length = 0
    · simp [b]
    by_cases c : h.length = 0
    · simp [c]
    rw [if_neg (show ¬ (f.length = 0 ∨ g.length = 0) by omega), if_neg (show ¬ (g.length = 0 ∨ h.length = 0) by omega), if_neg (by omega), if_neg (by omega)]
    omega
  · intro j
    rw [mulM_cf hp, mulM_cf hp, cv_mod (F' := cv (cf f) (cf g)) (G' := cf h) j (fun i => by rw [mulM_cf hp, Int.emod_emod]) (fun i => rfl), cv_assoc,
      cv_mod (F := cf f) (G := cf (mulM p g h)) (F' := cf f) (G' := cv (cf g) (cf h)) j (fun i => rfl) (fun i => by rw [mulM_cf hp, Int.emod_emod])]
theorem cf_rng {p : Int} (hp : 2 ≤ p) {f : List Int} (h : areB p f = true) (j : Nat) : 0 ≤ cf f j ∧ cf f j < p := getD_rng h hp j
theorem mulM_one {p : Int} (hp : 2 ≤ p) {f : List Int} (hf : areB p f = true) : mulM p [1] f = f := by
  apply ext_cf
  · rw [mulM_mlen]; unfold mlen; show (if 1 = 0 ∨ f.length = 0 then 0 else 1 + f.length - 1) = f.length; split <;> omega
  · intro j
    rw [mulM_cf hp]
    have e : cv (cf [1]) (cf f) j = cf f j := by
      unfold cv
      rw [sm_head, Nat.sub_zero]
      have : sm j (fun k => cf [1] (k + 1) * cf f (j - (k + 1))) = 0 := by
        rw [show (0 : Int) = sm 0 (fun k => cf [1] (k + 1) * cf f (j - (k + 1))) from rfl]
        apply sm_ext _ 0 _ (by omega)
        intro k _ _
        rw [cf_far (f := [1]) (by simp), Int.zero_mul]
      rw [this]
      simp [cf]
    rw [e]
    exact Int.emod_eq_of_lt (cf_rng hp hf j).1 (cf_rng hp hf j).2
theorem mulM_areB {p : Int} (hp : 2 ≤ p) (f g : List Int) : areB p (mulM p f g) = true := areB_mk fun j _ => by
  have := mulM_cf hp f g j
  unfold cf at this
  rw [this]
  exact modb hp
/-- Powers of a polynomial. -/
def pwL (p : Int) (f : List Int) : Nat → List Int
  | 0 => [1]
  | k + 1 => mulM p (pwL p f k) f
theorem pwL_areB {p : Int} (hp : 2 ≤ p) (f : List Int) (k : Nat) : areB p (pwL p f k) = true := by
  cases k with
  | zero => simp [pwL, areB, okN]; omega
  | succ k => exact mulM_areB hp _ _
theorem pwL_len (p : Int) (f : List Int) (k : Nat) : (pwL p f k).length ≤ 1 + k * (f.length - 1) := by
  induction k with
  | zero => simp [pwL]
  | succ k ih =>
    rw [pwL, mulM_mlen]
    unfold mlen
    rw [Nat.succ_mul]
    split <;> omega
theorem pwL_sq {p : Int} (hp : 2 ≤ p) (f : List Int) (k : Nat) : pwL p (mulM p f f) k = pwL p f (2 * k) := by
  induction k with
  | zero => rfl
  | succ k ih => rw [pwL, ih, show 2 * (k + 1) = 2 * k + 1 + 1 by omega, pwL, pwL, mulM_assoc hp]
theorem pwL_left {p : Int} (hp : 2 ≤ p) (f : List Int) (k : Nat) : mulM p f (pwL p f k) = pwL p f (k + 1) := by
  rw [pwL, mulM_comm hp]
/-- A step of the squaring loop. -/
theorem pwL_odd {p : Int} (hp : 2 ≤ p) (r f : List Int) (k : Nat) : mulM p (mulM p r f) (pwL p (mulM p f f) k) = mulM p r (pwL p f (2 * k + 1)) := by
  rw [pwL_sq hp, mulM_assoc hp, pwL_left hp]
theorem pwL_even {p : Int} (hp : 2 ≤ p) (r f : List Int) (k : Nat) : mulM p r (pwL p (mulM p f f) k) = mulM p r (pwL p f (2 * k)) := by
  rw [pwL_sq hp]
end Go.Proofs.YtdjifjlgllohmaaDoor

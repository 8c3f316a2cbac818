/- Merged texts. -/
import Derived.Test.YtpoabedlcljibaaYW15
import Derived.Test.YtpoabedlcljibaaYW19
import Derived.Test.YtpoabedlcljibaaYW112
/- Plain mathematics: products of polynomials as convolutions: they do not depend on order or brackets; powers. No program. -/
namespace Go.Proofs.Ytpoabedlcljibaa
open Go.RowKit
set_option linter.unusedVariables false
set_option linter.unusedSimpArgs false
theorem sm_ext (f : Nat → Int) (n : Nat) : ∀ m, n ≤ m → (∀ k, n ≤ k → k < m → f k = 0) → sm m f = sm n f := by
  intro m
  induction m with
  | zero => intro h _; rw [show n = 0 by omega]
  | succ m ih =>
    intro h hz
    by_cases e : n = m + 1
    · rw [e]
    · rw [sm, ih (by omega) (fun k h1 h2 => hz k h1 (by omega)), hz m (by omega) (by omega), Int.add_zero]
theorem sm_emod {p : Int} {n : Nat} {f g : Nat → Int} (h : ∀ k, k < n → f k % p = g k % p) : sm n f % p = sm n g % p := by
  induction n with
  | zero => rfl
  | succ n ih => rw [sm, sm, Int.add_emod, ih (fun k hk => h k (by omega)), h n (by omega), ← Int.add_emod]
theorem sm_rev : ∀ (n : Nat) (f : Nat → Int), sm (n + 1) f = sm (n + 1) (fun i => f (n - i)) := by
  intro n
  induction n with
  | zero => intro f; simp [sm]
  | succ n ih =>
    intro f
    rw [sm, sm_head (n + 1), ih, Int.add_comm, Nat.sub_zero]
    congr 1
    apply sm_congr
    intro k hk
    rw [show n + 1 - (k + 1) = n - k by omega]
theorem sm_tri (T : Nat → Nat → Int) : ∀ n, sm (n + 1) (fun i => sm (i + 1) (fun a => T a (i - a))) = sm (n + 1) (fun a => sm (n - a + 1) (fun b => T a b)) := by
  intro n
  induction n with
  | zero => simp [sm]
  | succ n ih =>
    have e0 : sm (n + 1 + 1) (fun i => sm (i + 1) (fun a => T a (i - a))) = sm (n + 1) (fun i => sm (i + 1) (fun a => T a (i - a))) + sm (n + 1 + 1) (fun a => T a (n + 1 - a)) := rfl
    have e1 : sm (n + 1) (fun a => sm (n + 1 - a + 1) (fun b => T a b)) = sm (n + 1) (fun a => sm (n - a + 1) (fun b => T a b)) + sm (n + 1) (fun a => T a (n + 1 - a)) := by
      rw [← sm_add]
      apply sm_congr
      intro a ha
      rw [show n + 1 - a + 1 = (n - a + 1) + 1 by omega, sm, show n - a + 1 = n + 1 - a by omega]
    have e2 : sm (n + 1 + 1) (fun a => sm (n + 1 - a + 1) (fun b => T a b)) = sm (n + 1) (fun a => sm (n + 1 - a + 1) (fun b => T a b)) + sm (n + 1 - (n + 1) + 1) (fun b => T (n + 1) b) := rfl
    have e3 : sm (n + 1 + 1) (fun a => T a (n + 1 - a)) = sm (n + 1) (fun a => T a (n + 1 - a)) + T (n + 1) (n + 1 - (n + 1)) := rfl
    rw [e0, ih, e2, e1, e3]
    simp only [Nat.sub_self, sm, Int.zero_add, Nat.zero_add]
    omega
/-- The coefficient j of a product. -/
def cv (F G : Nat → Int) (j : Nat) : Int := sm (j + 1) (fun i => F i * G (j - i))
theorem cv_comm (F G : Nat → Int) (j : Nat) : cv F G j = cv G F j := by
  unfold cv
  rw [sm_rev]
  apply sm_congr
  intro k hk
  rw [show j - (j - k) = k by omega, Int.mul_comm]
theorem cv_assoc (F G H : Nat → Int) (j : Nat) : cv (cv F G) H j = cv F (cv G H) j := by
  unfold cv
  have e1 : sm (j + 1) (fun i => sm (i + 1) (fun a => F a * G (i - a)) * H (j - i)) = sm (j + 1) (fun i => sm (i + 1) (fun a => (fun a b => F a * G b * H (j - a - b)) a (i - a))) := by
    apply sm_congr
    intro i hi
    rw [Int.mul_comm, ← sm_mul]
    apply sm_congr
    intro a ha
    simp only
    rw [show j - a - (i - a) = j - i by omega, Int.mul_comm]
  rw [e1, sm_tri (fun a b => F a * G b * H (j - a - b))]
  apply sm_congr
  intro a ha
  rw [← sm_mul]
  apply sm_congr
  intro b hb
  rw [Int.mul_assoc]
theorem cv_mod {p : Int} {F G F' G' : Nat → Int} (j : Nat) (h1 : ∀ i, F i % p = F' i % p) (h2 : ∀ i, G i % p = G' i % p) : cv F G j % p = cv F' G' j % p := by
  unfold cv
  apply sm_emod
  intro k _
  rw [Int.mul_emod, h1, h2, ← Int.mul_emod]
/-- The numbers of a list as a function. -/
def cf (f : List Int) : Nat → Int := fun j => f.getD j 0
theorem cf_far {f : List Int} {j : Nat} (h : f.length ≤ j) : cf f j = 0 := by
  unfold cf
  rw [List.getD_eq_getElem?_getD, List.getElem?_eq_none h]; rfl
theorem mulH_sm (p : Int) (f g : List Int) (i j : Nat) : mulH p f g i j % p = sm i (fun a => if a ≤ j then cf f a * cf g (j - a) else 0) % p := by
  induction i with
  | zero => simp [mulH, sm]
  | succ i ih =>
    unfold mulH mulIn
    rw [sm, Int.add_emod (sm i _), ← ih]
    by_cases h : i ≤ j ∧ j < i + g.length
    · rw [if_pos h, if_pos h.1, Int.emod_emod, ← Int.add_emod]
      rfl
    · rw [if_neg h]
      have e : (if i ≤ j then cf f i * cf g (j - i) else 0) = 0 := by
        split
        · rw [cf_far (f := g) (j := j - i) (by omega), Int.mul_zero]
        · rfl
      rw [e]
      simp
theorem mulH_cv {p : Int} (hp : 2 ≤ p) (f g : List Int) (j : Nat) : mulH p f g f.length j = cv (cf f) (cf g) j % p := by
  have h := mulH_sm p f g f.length j
  rw [Int.emod_eq_of_lt (mulH_rng hp f g _ j).1 (mulH_rng hp f g _ j).2] at h
  rw [h]
  congr 1
  have e1 := sm_ext (fun a => if a ≤ j then cf f a * cf g (j - a) else 0) f.length (max f.length (j + 1)) (by omega) (fun k h1 h2 => by
    show (if k ≤ j then cf f k * cf g (j - k) else 0) = 0
    split
    · rw [cf_far h1, Int.zero_mul]
    · rfl)
  have e2 := sm_ext (fun a => if a ≤ j then cf f a * cf g (j - a) else 0) (j + 1) (max f.length (j + 1)) (by omega) (fun k h1 h2 => if_neg (by omega))
  rw [← e1, e2]
  unfold cv
  apply sm_congr
  intro k hk
  rw [if_pos (by omega)]
theorem cv_far {f g : List Int} {j : Nat} (h : f.length + g.length ≤ j + 1) : cv (cf f) (cf g) j = 0 := by
  unfold cv
  rw [show (0 : Int) = sm 0 (fun i => cf f i * cf g (j - i)) from rfl]
  apply sm_ext _ 0 _ (by omega)
  intro k _ hk
  by_cases e : f.length ≤ k
  · rw [cf_far e, Int.zero_mul]
  · rw [cf_far (f := g) (by omega), Int.mul_zero]
theorem mulM_cf {p : Int} (hp : 2 ≤ p) (f g : List Int) (j : Nat) : cf (mulM p f g) j = cv (cf f) (cf g) j % p := by
  by_cases h : f.length = 0 ∨ g.length = 0
  · rw [mulM_nil (h.imp List.eq_nil_of_length_eq_zero List.eq_nil_of_length_eq_zero)]
    have e : cv (cf f) (cf g) j = 0 := by
      unfold cv
      rw [show (0 : Int) = sm 0 (fun i => cf f i * cf g (j - i)) from rfl]
      apply sm_ext _ 0 _ (by omega)
      intro k _ _
      rcases h with h | h
      · rw [cf_far (by omega), Int.zero_mul]
      · rw [cf_far (f := g) (by omega), Int.mul_zero]
    rw [e]; rfl
  · have h1 : f.length ≠ 0 := fun e => h (.inl e)
    have h2 : g.length ≠ 0 := fun e => h (.inr e)
    rw [mulM_tab h1 h2]
    by_cases hj : j < f.length + g.length - 1
    · unfold cf
      rw [tab_at _ _ _ hj]
      exact mulH_cv hp f g j
    · rw [cf_far (by rw [tab_len]; omega), cv_far (by omega)]; rfl
/-- The length of a product. -/
def mlen (a b : Nat) : Nat := if a = 0 ∨ b = 0 then 0 else a + b - 1
theorem mulM_mlen (p : Int) (f g : List Int) : (mulM p f g).length = mlen f.length g.length := by
  unfold mlen
  by_cases h : f.length = 0 ∨ g.length = 0
  · rw [mulM_nil (h.imp List.eq_nil_of_length_eq_zero List.eq_nil_of_length_eq_zero), if_pos h]; rfl
  · rw [if_neg h, mulM_tab (fun e => h (.inl e)) (fun e => h (.inr e)), tab_len]
theorem ext_cf {xs ys : List Int} (hl : xs.length = ys.length) (h : ∀ j, cf xs j = cf ys j) : xs = ys := ext_tab hl (fun j _ => h j)
theorem mulM_comm {p : Int} (hp : 2 ≤ p) (f g : List Int) : mulM p f g = mulM p g f := by
  apply ext_cf
  · rw [mulM_mlen, mulM_mlen]; unfold mlen; split <;> split <;> omega
  · intro j
    rw [mulM_cf hp, mulM_cf hp, cv_comm]
theorem mulM_assoc {p : Int} (hp : 2 ≤ p) (f g h : List Int) : mulM p (mulM p f g) h = mulM p f (mulM p g h) := by
  apply ext_cf
  · simp only [mulM_mlen, mlen]
    by_cases a : f.length = 0
    · simp [a]
    by_cases b : g.length = 0
    · simp [b]
    by_cases c : h.length = 0
    · simp [c]
    rw [if_neg (show ¬ (f.length = 0 ∨ g.length = 0) by omega), if_neg (show ¬ (g.length = 0 ∨ h.length = 0) by omega), if_neg (by omega), if_neg (by omega)]
    omega
  · intro j
    rw [mulM_cf hp, mulM_cf hp, cv_mod (F' := cv (cf f) (cf g)) (G' := cf h) j (fun i => by rw [mulM_cf hp, Int.emod_emod]) (fun i => rfl), cv_assoc,
      cv_mod (F := cf f) (G := cf (mulM p g h)) (F' := cf f) (G' := cv (cf g) (cf h)) j (fun i => rfl) (fun i => by rw [mulM_cf hp, Int.emod_emod])]
theorem cf_rng {p : Int} (hp : 2 ≤ p) {f : List Int} (h : areB p f = true) (j : Nat) : 0 ≤ cf f j ∧ cf f j < p := getD_rng h hp j
theorem mulM_one {p : Int} (hp : 2 ≤ p) {f : List Int} (hf : areB p f = true) : mulM p [1] f = f := by
  apply ext_cf
  · rw [mulM_mlen]; unfold mlen; show (if 1 = 0 ∨ f.length = 0 then 0 else 1 + f.length - 1) = f.length; split <;> omega
  · intro j
    rw [mulM_cf hp]
    have e : cv (cf [1]) (cf f) j = cf f j := by
      unfold cv
      rw [sm_head, Nat.sub_zero]
      have : sm j (fun k => cf [1] (k + 1) * cf f (j - (k + 1))) = 0 := by
        rw [show (0 : Int) = sm 0 (fun k => cf [1] (k + 1) * cf f (j - (k + 1))) from rfl]
        apply sm_ext _ 0 _ (by omega)
        intro k _ _
        rw [cf_far (f := [1]) (by simp), Int.zero_mul]
      rw [this]
      simp [cf]
    rw [e]
    exact Int.emod_eq_of_lt (cf_rng hp hf j).1 (cf_rng hp hf j).2
theorem mulM_areB {p : Int} (hp : 2 ≤ p) (f g : List Int) : areB p (mulM p f g) = true := areB_mk fun j _ => by
  have := mulM_cf hp f g j
  unfold cf at this
  rw [this]
  exact modb hp
/-- Powers of a polynomial. -/
def pwL (p : Int) (f : List Int) : Nat → List Int
  | 0 => [1]
  | k + 1 => mulM p (pwL p f k) f
theorem pwL_areB {p : Int} (hp : 2 ≤ p) (f : List Int) (k : Nat) : areB p (pwL p f k) = true := by
  cases k with
  | zero => simp [pwL, areB, okN]; omega
  | succ k => exact mulM_areB hp _ _
theorem pwL_len (p : Int) (f : List Int) (k : Nat) : (pwL p f k).length ≤ 1 + k * (f.length - 1) := by
  induction k with
  | zero => simp [pwL]
  | succ k ih =>
    rw [pwL, mulM_mlen]
    unfold mlen
    rw [Nat.succ_mul]
    split <;> omega
theorem pwL_sq {p : Int} (hp : 2 ≤ p) (f : List Int) (k : Nat) : pwL p (mulM p f f) k = pwL p f (2 * k) := by
  induction k with
  | zero => rfl
  | succ k ih => rw [pwL, ih, show 2 * (k + 1) = 2 * k + 1 + 1 by omega, pwL, pwL, mulM_assoc hp]
theorem pwL_left {p : Int} (hp : 2 ≤ p) (f : List Int) (k : Nat) : mulM p f (pwL p f k) = pwL p f (k + 1) := by
  rw [pwL, mulM_comm hp]
/-- A step of the squaring loop. -/
theorem pwL_odd {p : Int} (hp : 2 ≤ p) (r f : List Int) (k : Nat) : mulM p (mulM p r f) (pwL p (mulM p f f) k) = mulM p r (pwL p f (2 * k + 1)) := by
  rw [pwL_sq hp, mulM_assoc hp, pwL_left hp]
theorem pwL_even {p : Int} (hp : 2 ≤ p) (r f : List Int) (k : Nat) : mulM p r (pwL p (mulM p f f) k) = mulM p r (pwL p f (2 * k)) := by
  rw [pwL_sq hp]
end Go.Proofs.Ytpoabedlcljibaa
/- Plain mathematics of chapter 5: series of quotients, number by number. No program. -/
namespace Go.Proofs.Ytpoabedlcljibaa
open Go.RowKit
set_option linter.unusedVariables false
set_option linter.unusedSimpArgs false

/-- The number k of f less the first i products of numbers of g, from x^1 on, and of S that are told ahead of it. -/
def serT (p : Int) (f g : List Int) (S : Nat → Int) (k : Nat) : Nat → Int
  | 0 => f.getD k 0
  | i + 1 => (serT p f g S k i - g.getD (i + 1) 0 * S (k - (i + 1))) % p
/-- The first n numbers of the series of f and g. -/
def serL (p : Int) (f g : List Int) : Nat → List Int
  | 0 => []
  | k + 1 => serL p f g k ++ [serT p f g (fun j => (serL p f g k).getD j 0) k k * invM p (g.getD 0 0) % p]
def serS (p : Int) (f g : List Int) (k : Nat) : Int := (serL p f g (k + 1)).getD k 0
theorem serL_len (p : Int) (f g : List Int) (n : Nat) : (serL p f g n).length = n := by
  induction n with
  | zero => rfl
  | succ n ih => simp [serL, ih]
theorem serL_tab (p : Int) (f g : List Int) (n : Nat) : serL p f g n = tab n (serS p f g) := by
  induction n with
  | zero => rfl
  | succ n ih =>
    have e : serL p f g (n + 1) = tab n (serS p f g) ++ [serS p f g n] := by
      have h : serS p f g n = serT p f g (fun j => (serL p f g n).getD j 0) n n * invM p (g.getD 0 0) % p := by
        unfold serS
        rw [serL]
        simp [List.getElem?_append_right (show (serL p f g n).length ≤ n by rw [serL_len]; exact Nat.le_refl _), serL_len]
      rw [h, ← ih, serL]
    rw [e]
    unfold tab
    rw [List.range_succ, List.map_append]
    rfl
theorem serT_congr (p : Int) (f g : List Int) (S S' : Nat → Int) (k : Nat) (h : ∀ j, j < k → S j = S' j) : ∀ i, i ≤ k → serT p f g S k i = serT p f g S' k i := by
  intro i
  induction i with
  | zero => intro _; rfl
  | succ i ih => intro hi; rw [serT, serT, ih (by omega), h (k - (i + 1)) (by omega)]
theorem serS_eq (p : Int) (f g : List Int) (k : Nat) : serS p f g k = serT p f g (serS p f g) k k * invM p (g.getD 0 0) % p := by
  have h : serS p f g k = serT p f g (fun j => (serL p f g k).getD j 0) k k * invM p (g.getD 0 0) % p := by
    unfold serS
    rw [serL]
    simp [List.getElem?_append_right (show (serL p f g k).length ≤ k by rw [serL_len]; exact Nat.le_refl _), serL_len]
  rw [h, serT_congr p f g _ (serS p f g) k (fun j hj => by rw [serL_tab, tab_at _ _ _ hj]) k (Nat.le_refl _)]
theorem serS_rng {p : Int} (hp : 2 ≤ p) (f g : List Int) (k : Nat) : 0 ≤ serS p f g k ∧ serS p f g k < p := by
  rw [serS_eq]; exact modb hp
theorem serL_are {p : Int} (hp : 2 ≤ p) (f g : List Int) (n : Nat) : areB p (serL p f g n) = true := areB_mk fun j hj => by
  rw [serL_len] at hj
  rw [serL_tab, tab_at _ _ _ hj]
  exact serS_rng hp f g j
theorem serT_rng {p : Int} (hp : 2 ≤ p) {f : List Int} (hf : areB p f = true) (g : List Int) (S : Nat → Int) (k i : Nat) : 0 ≤ serT p f g S k i ∧ serT p f g S k i < p := by
  cases i with
  | zero => exact getD_rng hf hp k
  | succ i => exact modb hp
theorem getD_far {g : List Int} {j : Nat} (h : g.length ≤ j) : g.getD j 0 = 0 := by
  rw [List.getD_eq_getElem?_getD, List.getElem?_eq_none h]; rfl
/-- Behind the numbers of g nothing changes any more. -/
theorem serT_far {p : Int} (hp : 2 ≤ p) {f : List Int} (hf : areB p f = true) (g : List Int) (S : Nat → Int) (k m : Nat) (hm : g.length ≤ m + 1) : ∀ i, m ≤ i → serT p f g S k i = serT p f g S k m := by
  intro i
  induction i with
  | zero => intro h; rw [show m = 0 by omega]
  | succ i ih =>
    intro h
    by_cases e : m = i + 1
    · rw [e]
    · have r := serT_rng hp hf g S k i
      rw [serT, getD_far (g := g) (j := i + 1) (by omega), Int.zero_mul, Int.sub_zero, Int.emod_eq_of_lt r.1 r.2]
      exact ih (by omega)
/-- The numbers behind k, when what those ahead of the place i add to them is taken off. -/
def serP (p : Int) (f g : List Int) (S : Nat → Int) : Nat → Nat → Int
  | 0, j => f.getD j 0
  | i + 1, j => if i < j then (serP p f g S i j + (p - S i) * g.getD (j - i) 0) % p else serP p f g S i j
theorem serP_rng {p : Int} (hp : 2 ≤ p) {f : List Int} (hf : areB p f = true) (g : List Int) (S : Nat → Int) (i j : Nat) : 0 ≤ serP p f g S i j ∧ serP p f g S i j < p := by
  induction i with
  | zero => exact getD_rng hf hp j
  | succ i ih =>
    unfold serP
    split
    · exact modb hp
    · exact ih
theorem serP_sm (p : Int) (f g : List Int) (S : Nat → Int) (j : Nat) : ∀ i, i ≤ j → serP p f g S i j % p = (f.getD j 0 - sm i (fun a => S a * g.getD (j - a) 0)) % p := by
  intro i
  induction i with
  | zero => intro _; simp [serP, sm]
  | succ i ih =>
    intro hi
    rw [serP, if_pos (by omega), Int.emod_emod, Int.add_emod, ih (by omega), ← Int.add_emod, sm]
    have e : f.getD j 0 - sm i (fun a => S a * g.getD (j - a) 0) + (p - S i) * g.getD (j - i) 0 = f.getD j 0 - (sm i (fun a => S a * g.getD (j - a) 0) + S i * g.getD (j - i) 0) + p * g.getD (j - i) 0 := by
      rw [Int.sub_mul]; omega
    rw [e, Int.add_mul_emod_self_left]
theorem serT_sm (p : Int) (f g : List Int) (S : Nat → Int) (k : Nat) : ∀ i, serT p f g S k i % p = (f.getD k 0 - sm i (fun a => g.getD (a + 1) 0 * S (k - (a + 1)))) % p := by
  intro i
  induction i with
  | zero => simp [serT, sm]
  | succ i ih =>
    rw [serT, Int.emod_emod, Int.sub_emod, ih, ← Int.sub_emod, sm]
    congr 1
    omega
theorem serP_T {p : Int} (hp : 2 ≤ p) {f : List Int} (hf : areB p f = true) (g : List Int) (S : Nat → Int) (k : Nat) : serP p f g S k k = serT p f g S k k := by
  have r1 := serP_rng hp hf g S k k
  have r2 := serT_rng hp hf g S k k
  rw [← Int.emod_eq_of_lt r1.1 r1.2, ← Int.emod_eq_of_lt r2.1 r2.2, serP_sm p f g S k k (Nat.le_refl _), serT_sm]
  congr 2
  cases k with
  | zero => rfl
  | succ n =>
    rw [sm_rev]
    apply sm_congr
    intro a ha
    rw [show n + 1 - (n - a) = a + 1 by omega, show n + 1 - (a + 1) = n - a by omega, Int.mul_comm]
/-- The row when the first k numbers are done. -/
def serR (p : Int) (f g : List Int) (k : Nat) : Nat → Int := fun j => if j < k then serS p f g j else serP p f g (serS p f g) k j
/-- The row while the number k takes itself off those behind it, up to k + i. -/
def serI (p : Int) (f g : List Int) (k i : Nat) : Nat → Int := fun j => if j < k + 1 then serS p f g j else if j < k + i then serP p f g (serS p f g) (k + 1) j else serP p f g (serS p f g) k j
theorem serR_done (p : Int) (f g : List Int) (n : Nat) : tab n (serR p f g n) = serL p f g n := by
  rw [serL_tab]
  exact tab_congr fun j hj => if_pos hj
theorem serR_at {p : Int} (hp : 2 ≤ p) {f : List Int} (hf : areB p f = true) (g : List Int) (k : Nat) : serR p f g k k * invM p (g.getD 0 0) % p = serS p f g k := by
  unfold serR
  rw [if_neg (by omega), serP_T hp hf, ← serS_eq]
theorem serR_rng {p : Int} (hp : 2 ≤ p) {f : List Int} (hf : areB p f = true) (g : List Int) (k j : Nat) : 0 ≤ serR p f g k j ∧ serR p f g k j < p := by
  unfold serR
  split
  · exact serS_rng hp f g j
  · exact serP_rng hp hf g _ k j
theorem serR_set (p : Int) (f g : List Int) (n k : Nat) : (tab n (serR p f g k)).set k (serS p f g k) = tab n (serI p f g k 1) := by
  rw [tab_set]
  apply tab_congr
  intro j _
  unfold serR serI
  by_cases e : j = k
  · subst e; rw [if_pos rfl, if_pos (by omega)]
  · rw [if_neg e]
    by_cases h : j < k
    · rw [if_pos h, if_pos (by omega)]
    · rw [if_neg h, if_neg (by omega), if_neg (by omega)]
theorem serI_set (p : Int) (f g : List Int) (n k i : Nat) (hi : 1 ≤ i) : (tab n (serI p f g k i)).set (k + i) ((serP p f g (serS p f g) k (k + i) + (p - serS p f g k) * g.getD i 0) % p) = tab n (serI p f g k (i + 1)) := by
  rw [tab_set]
  apply tab_congr
  intro j _
  unfold serI
  by_cases e : j = k + i
  · subst e
    rw [if_pos rfl, if_neg (by omega), if_pos (by omega), serP, if_pos (by omega), show k + i - k = i by omega]
  · rw [if_neg e]
    by_cases h : j < k + 1
    · rw [if_pos h, if_pos h]
    · rw [if_neg h, if_neg h]
      by_cases h2 : j < k + i
      · rw [if_pos h2, if_pos (by omega)]
      · rw [if_neg h2, if_neg (by omega)]
theorem serI_at (p : Int) (f g : List Int) (k i : Nat) (hi : 1 ≤ i) : serI p f g k i (k + i) = serP p f g (serS p f g) k (k + i) ∧ serI p f g k i k = serS p f g k := by
  unfold serI
  exact ⟨by rw [if_neg (by omega), if_neg (by omega)], by rw [if_pos (by omega)]⟩
theorem serI_end {p : Int} (hp : 2 ≤ p) {f : List Int} (hf : areB p f = true) (g : List Int) (n k i : Nat) (hi : g.length ≤ i ∨ n ≤ k + i) : tab n (serI p f g k i) = tab n (serR p f g (k + 1)) := by
  apply tab_congr
  intro j hj
  unfold serI serR
  by_cases h : j < k + 1
  · rw [if_pos h, if_pos h]
  · rw [if_neg h, if_neg h]
    by_cases h2 : j < k + i
    · rw [if_pos h2]
    · have r := serP_rng hp hf g (serS p f g) k j
      rw [if_neg h2, serP, if_pos (by omega), getD_far (g := g) (j := j - k) (by omega), Int.mul_zero, Int.add_zero, Int.emod_eq_of_lt r.1 r.2]
theorem serR_zero (p : Int) (f g : List Int) (n : Nat) : tab n (fun j => f.getD j 0) = tab n (serR p f g 0) := tab_congr fun j _ => by
  unfold serR
  rw [if_neg (by omega)]; rfl
end Go.Proofs.Ytpoabedlcljibaa

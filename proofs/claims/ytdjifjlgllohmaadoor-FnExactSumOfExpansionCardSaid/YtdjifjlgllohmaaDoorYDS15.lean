/- Merged texts. -/
import Derived.Test.YtdjifjlgllohmaaDoorYDS12
import Derived.Test.YtdjifjlgllohmaaDoorYDS14
import Derived.Test.YtdjifjlgllohmaaDoorYDS8
/- Mathematics of recurrences: one step, the polynomials P(k) and Q(k). No program. -/
namespace Go.Proofs.YtdjifjlgllohmaaDoor
open Go.RowKit
set_option linter.unusedVariables false
set_option linter.unusedSimpArgs false

def opp (p x : Int) : Int := (p - x) % p
def linM (p a : Int) : List Int := [opp p a, 1]
/-- (x - a) f - b g. -/
def stp (p a b : Int) (f g : List Int) : List Int := addM p (mulM p (linM p a) f) g (opp p b)
/-- The last two polynomials of the recurrence, begun with c, d and the numbers at s. -/
def rcP (p : Int) (xs ys : List Int) (s : Nat) (c d : List Int) : Nat → List Int × List Int
  | 0 => (c, d)
  | i + 1 => ((rcP p xs ys s c d i).2, stp p (xs.getD (s + i) 0) (ys.getD (s + i) 0) (rcP p xs ys s c d i).2 (rcP p xs ys s c d i).1)
def polJ (p : Int) (xs ys : List Int) (k : Nat) : List Int := (rcP p xs ys 0 [] [1] k).2
def secJ (p : Int) (xs ys : List Int) (k : Nat) : List Int := (rcP p xs ys 1 [] [1] k).1

theorem opp_rng {p x : Int} (hp : 2 ≤ p) : 0 ≤ opp p x ∧ opp p x < p := modb hp
theorem opp_neg (p x : Int) : (-x) % p = opp p x := by
  unfold opp
  rw [show p - x = -x + p * 1 by omega, Int.add_mul_emod_self_left]
theorem linM_poly {p a : Int} (hp : 2 ≤ p) : polyB p (linM p a) = true := by
  have := opp_rng (x := a) hp
  simp [polyB, areB, okN, lastZ, linM]
  omega
/-- A polynomial of a small degree. -/
def Small (p : Int) (m : Nat) (f : List Int) : Prop := polyB p f = true ∧ f.length ≤ m
theorem Small.are {p : Int} {m : Nat} {f : List Int} (h : Small p m f) : areB p f = true := (polyB_rng h.1).2.1
theorem Small.nil (p : Int) (m : Nat) : Small p m [] := ⟨by simp [polyB, areB], by simp⟩
theorem Small.one {p : Int} (hp : 2 ≤ p) {m : Nat} (hm : 1 ≤ m) : Small p m [1] := ⟨by simp [polyB, areB, okN, lastZ]; omega, by simpa using hm⟩
theorem lin_len (p a : Int) (f : List Int) : (mulM p (linM p a) f).length ≤ f.length + 1 := by
  by_cases h : f = []
  · rw [mulM_nil (.inr h)]; simp
  · rw [mulM_len (by simp [linM]) h]; simp [linM]; omega
theorem stp_small {p : Int} (hp : 2 ≤ p) {m : Nat} (hm : m ≤ 24) {f g : List Int} (a b : Int) (hf : Small p m f) (hg : Small p m g) : Small p (m + 1) (stp p a b f g) := by
  have h1 := lin_len p a f
  have h2 := hf.2
  have h3 := hg.2
  refine ⟨addM_poly hp (by omega) (by omega) (mulM_are hp), ?_⟩
  have := addM_up (p := p) (f := mulM p (linM p a) f) (g := g) (k := opp p b)
  unfold stp
  omega
theorem stp_trim {p : Int} (hp : primeB p = true) {m : Nat} {f : List Int} (a : Int) (hf : Small p m f) : trimL (mulM p (linM p a) f) = mulM p (linM p a) f :=
  mulM_trim hp (linM_poly (primeB_lo hp).1) hf.1
theorem rcP_small {p : Int} (hp : 2 ≤ p) (xs ys : List Int) (s m : Nat) {c d : List Int} (hc : Small p m c) (hd : Small p m d) : ∀ i, m + i ≤ 25 → Small p (m + i) (rcP p xs ys s c d i).1 ∧ Small p (m + i) (rcP p xs ys s c d i).2 := by
  intro i
  induction i with
  | zero => intro _; exact ⟨hc, hd⟩
  | succ i ih =>
    intro hi
    obtain ⟨h1, h2⟩ := ih (by omega)
    exact ⟨⟨h2.1, Nat.le_trans h2.2 (by omega)⟩, stp_small hp (show m + i ≤ 24 by omega) _ _ h2 h1⟩
theorem polJ_small {p : Int} (hp : 2 ≤ p) (xs ys : List Int) (k : Nat) (hk : k ≤ 24) : Small p (k + 1) (polJ p xs ys k) := by
  have := (rcP_small hp xs ys 0 1 (Small.nil p 1) (Small.one hp (Nat.le_refl _)) k (by omega)).2
  rwa [Nat.add_comm] at this
theorem secJ_small {p : Int} (hp : 2 ≤ p) (xs ys : List Int) (k : Nat) (hk : k ≤ 24) : Small p (k + 1) (secJ p xs ys k) := by
  have := (rcP_small hp xs ys 1 1 (Small.nil p 1) (Small.one hp (Nat.le_refl _)) k (by omega)).1
  rwa [Nat.add_comm] at this
theorem addM_nil {p k : Int} {f : List Int} (h : trimL f = f) : addM p f [] k = f := by
  unfold addM
  have : tab (max f.length ([] : List Int).length) (sumH p k f [] ([] : List Int).length) = f := by
    rw [show max f.length ([] : List Int).length = f.length by simp]
    conv => rhs; rw [tab_of f _ rfl]
    apply tab_congr
    intro j _
    simp [sumH]
  rw [this, h]
theorem stp_one {p : Int} (hp : 2 ≤ p) (a b : Int) : stp p a b [1] [] = linM p a := by
  unfold stp
  rw [mulM_comm hp, mulM_one hp (polyB_rng (linM_poly hp)).2.1]
  exact addM_nil (trimL_self (by simp [linM]))
theorem polJ_zero (p : Int) (xs ys : List Int) : polJ p xs ys 0 = [1] := rfl
theorem polJ_one {p : Int} (hp : 2 ≤ p) (xs ys : List Int) : polJ p xs ys 1 = linM p (xs.getD 0 0) := stp_one hp _ _
theorem rcP_one (p : Int) (xs ys : List Int) (s : Nat) (c d : List Int) (i : Nat) : (rcP p xs ys s c d (i + 1)).1 = (rcP p xs ys s c d i).2 := rfl
theorem rcP_succ (p : Int) (xs ys : List Int) (s : Nat) (c d : List Int) (i : Nat) : rcP p xs ys s c d (i + 1) = ((rcP p xs ys s c d i).2, stp p (xs.getD (s + i) 0) (ys.getD (s + i) 0) (rcP p xs ys s c d i).2 (rcP p xs ys s c d i).1) := rfl
theorem polJ_step (p : Int) (xs ys : List Int) (i : Nat) : polJ p xs ys (i + 2) = stp p (xs.getD (i + 1) 0) (ys.getD (i + 1) 0) (polJ p xs ys (i + 1)) (polJ p xs ys i) := by
  have e := rcP_succ p xs ys 0 [] [1] (i + 1)
  have e1 := rcP_succ p xs ys 0 [] [1] i
  unfold polJ
  rw [e, e1]
  simp only [Nat.zero_add]
theorem secJ_zero (p : Int) (xs ys : List Int) : secJ p xs ys 0 = [] := rfl
theorem secJ_one (p : Int) (xs ys : List Int) : secJ p xs ys 1 = [1] := rfl
theorem secJ_step (p : Int) (xs ys : List Int) (i : Nat) : secJ p xs ys (i + 2) = stp p (xs.getD (i + 1) 0) (ys.getD (i + 1) 0) (secJ p xs ys (i + 1)) (secJ p xs ys i) := by
  have e := rcP_succ p xs ys 1 [] [1] (i + 1)
  have e1 := rcP_succ p xs ys 1 [] [1] i
  unfold secJ
  rw [e, e1, Nat.add_comm 1 i]
end Go.Proofs.YtdjifjlgllohmaaDoor
/- Plain mathematics: quotient times divisor and rest together are the dividend; the greatest common divisor divides both. No program. -/
namespace Go.Proofs.YtdjifjlgllohmaaDoor
open Go.RowKit
set_option linter.unusedVariables false
set_option linter.unusedSimpArgs false
theorem tab_are' {p : Int} {n : Nat} {h : Nat → Int} (e : ∀ j, j < n → 0 ≤ h j ∧ h j < p) : areB p (tab n h) = true := areB_mk fun j hj => by
  rw [tab_len] at hj
  rw [tab_at _ _ _ hj]
  exact e j hj
theorem cf_tab (n : Nat) (h : Nat → Int) (j : Nat) : cf (tab n h) j = if j < n then h j else 0 := by
  by_cases e : j < n
  · rw [if_pos e]; exact tab_at _ _ _ e
  · rw [if_neg e]; exact cf_far (by rw [tab_len]; omega)
theorem cf_trim (xs : List Int) (j : Nat) : cf (trimL xs) j = cf xs j := by
  by_cases h : j < (trimL xs).length
  · exact trimL_at xs j h
  · rw [cf_far (by omega)]
    rw [trimL_len] at h
    by_cases e : j < xs.length
    · exact (trimN_zero_from xs xs.length j (by omega) e).symm
    · rw [cf_far (by omega)]
theorem cf_add {p : Int} (hp : 2 ≤ p) {f : List Int} (hf : areB p f = true) (g : List Int) (k : Int) (j : Nat) : cf (addM p f g k) j = (cf f j + k * cf g j) % p := by
  unfold addM
  rw [cf_trim, cf_tab]
  have hr := cf_rng hp hf j
  by_cases e : j < max f.length g.length
  · rw [if_pos e]
    unfold sumH
    split
    · rfl
    · rw [cf_far (f := g) (by omega), Int.mul_zero, Int.add_zero, Int.emod_eq_of_lt hr.1 hr.2]; rfl
  · rw [if_neg e, cf_far (by omega), cf_far (f := g) (by omega)]; simp
/-- No 0 at the end. -/
def Can (xs : List Int) : Prop := xs.length = 0 ∨ cf xs (xs.length - 1) ≠ 0
theorem can_trim (xs : List Int) : Can (trimL xs) := trimL_last xs
theorem can_poly {p : Int} {f : List Int} (h : polyB p f = true) : Can f := by
  rcases (polyB_rng h).2.2 with h | h
  · exact .inl (by rw [h]; rfl)
  · exact .inr h
theorem can_ext {xs ys : List Int} (h1 : Can xs) (h2 : Can ys) (h : ∀ j, cf xs j = cf ys j) : xs = ys := by
  have hl : ∀ {xs ys : List Int}, Can xs → (∀ j, cf xs j = cf ys j) → xs.length ≤ ys.length := fun {xs ys} h1 h => by
    rcases h1 with h1 | h1
    · omega
    · by_cases e : xs.length ≤ ys.length
      · exact e
      · exfalso
        apply h1
        rw [h, cf_far (by omega)]
  exact ext_cf (Nat.le_antisymm (hl h1 h) (hl h2 (fun j => (h j).symm))) h
theorem can_nil {xs : List Int} (h1 : Can xs) (h : ∀ j, cf xs j = 0) : xs = [] := can_ext h1 (.inl rfl) (fun j => by rw [h]; rfl)
theorem cv_add (F F' G : Nat → Int) (j : Nat) : cv (fun i => F i + F' i) G j = cv F G j + cv F' G j := by
  unfold cv
  rw [← sm_add]
  apply sm_congr
  intro k _
  rw [Int.add_mul]
theorem cv_scale (a : Int) (F G : Nat → Int) (j : Nat) : cv (fun i => a * F i) G j = a * cv F G j := by
  unfold cv
  rw [← sm_mul]
  apply sm_congr
  intro k _
  rw [Int.mul_assoc]
theorem cv_scale_r (a : Int) (F G : Nat → Int) (j : Nat) : cv F (fun i => a * G i) j = a * cv F G j := by rw [cv_comm, cv_scale, cv_comm]
theorem cv_zero (G : Nat → Int) (j : Nat) : cv (fun _ => 0) G j = 0 :=
  sm_ext (fun i => (0 : Int) * G (j - i)) 0 (j + 1) (by omega) (fun k _ _ => by simp)
theorem sm_one (f : Nat → Int) (a n : Nat) (h : ∀ k, k ≠ a → f k = 0) : sm n f = if a < n then f a else 0 := by
  induction n with
  | zero => rfl
  | succ n ih =>
    rw [sm, ih]
    by_cases e : a = n
    · subst e; rw [if_neg (by omega), if_pos (by omega), Int.zero_add]
    · rw [h n (fun x => e x.symm), Int.add_zero]
      by_cases e2 : a < n
      · rw [if_pos e2, if_pos (by omega)]
      · rw [if_neg e2, if_neg (by omega)]
theorem cv_delta (q : Int) (a : Nat) (G : Nat → Int) (j : Nat) : cv (fun i => if i = a then q else 0) G j = if a ≤ j then q * G (j - a) else 0 := by
  unfold cv
  rw [sm_one _ a _ (fun k hk => by
    show (if k = a then q else 0) * G (j - k) = 0
    rw [if_neg hk, Int.zero_mul])]
  show (if a < j + 1 then (if a = a then q else 0) * G (j - a) else 0) = _
  rw [if_pos (rfl : a = a)]
  by_cases e : a ≤ j
  · rw [if_pos e, if_pos (by omega)]
  · rw [if_neg e, if_neg (by omega)]
theorem cv_congr {F F' G G' : Nat → Int} (j : Nat) (h : ∀ i, i ≤ j → F i = F' i) (h2 : ∀ i, i ≤ j → G i = G' i) : cv F G j = cv F' G' j := by
  unfold cv
  apply sm_congr
  intro k hk
  rw [h k (by omega), h2 _ (by omega)]
/-- The quotient so far as numbers. -/
def dq (p inv : Int) (f g : List Int) (D i : Nat) : Nat → Int := fun j => if j ≤ D then divQ p inv f g D i j else 0
theorem dq_step (p inv : Int) (f g : List Int) (D i : Nat) (hi : i ≤ D) : dq p inv f g D (i + 1) = fun j => dq p inv f g D i j + if j = D - i then divN p inv f g D i else 0 := by
  funext j
  unfold dq divQ
  by_cases e : j = D - i
  · subst e
    rw [if_pos (by omega), if_pos (by omega), if_pos (by omega), if_neg (by omega), if_pos rfl, show D - (D - i) = i by omega, Int.zero_add]
  · rw [if_neg e, Int.add_zero]
    by_cases h : j ≤ D
    · rw [if_pos h, if_pos h]
      by_cases h2 : D < j + i
      · rw [if_pos h2, if_pos (by omega)]
      · rw [if_neg h2, if_neg (by omega)]
    · rw [if_neg h, if_neg h]
theorem div_inv {p inv : Int} {f g : List Int} {D : Nat} (hp : 2 ≤ p) (hf : areB p f = true) : ∀ i, i ≤ D + 1 → ∀ j, cf f j % p = (cv (dq p inv f g D i) (cf g) j + divR p inv f g D i j) % p := by
  intro i
  induction i with
  | zero =>
    intro _ j
    have e : cv (dq p inv f g D 0) (cf g) j = 0 := by
      rw [← cv_zero (cf g) j]
      apply cv_congr j _ (fun _ _ => rfl)
      intro i _
      unfold dq divQ
      split
      · rw [if_neg (by omega)]
      · rfl
    rw [e, Int.zero_add]; rfl
  | succ i ih =>
    intro hi j
    rw [ih (by omega) j, dq_step _ _ _ _ _ _ (by omega), cv_add, cv_delta]
    have e : divR p inv f g D (i + 1) j % p = (divR p inv f g D i j - if D - i ≤ j then divN p inv f g D i * cf g (j - (D - i)) else 0) % p := by
      rw [divR]
      unfold divS
      by_cases h : D - i ≤ j ∧ j < D - i + g.length
      · rw [if_pos h, if_pos h.1, Int.emod_emod]; rfl
      · rw [if_neg h]
        by_cases h2 : D - i ≤ j
        · rw [if_pos h2, cf_far (f := g) (by omega), Int.mul_zero, Int.sub_zero]
        · rw [if_neg h2, Int.sub_zero]
    rw [Int.add_emod _ (divR p inv f g D (i + 1) j), e, ← Int.add_emod]
    congr 1
    omega
theorem div_back {p : Int} {f g : List Int} (hp : primeB p = true) (hf : polyB p f = true) (hg : polyB p g = true) (h0 : g.length ≠ 0) (j : Nat) : cf f j = (cv (cf (quoM p f g)) (cf g) j + cf (remM p f g) j) % p := by
  have hl := primeB_lo hp
  have hfa := (polyB_rng hf).2.1
  have hr := cf_rng hl.1 hfa j
  have hfj : cf f j = cf f j % p := (Int.emod_eq_of_lt hr.1 hr.2).symm
  by_cases h : f.length < g.length
  · unfold quoM remM
    rw [if_pos h, if_pos h]
    have e : cv (cf []) (cf g) j = 0 := cv_zero (cf g) j
    rw [e, Int.zero_add]; exact hfj
  · rw [hfj, div_inv (inv := invM p (g.getD (g.length - 1) 0)) (g := g) (D := f.length - g.length) hl.1 hfa (f.length - g.length + 1) (by omega) j]
    unfold quoM remM
    rw [if_neg h, if_neg h]
    congr 2
    · apply cv_congr j _ (fun _ _ => rfl)
      intro i _
      rw [cf_trim, cf_tab]
      unfold dq
      by_cases e : i ≤ f.length - g.length
      · rw [if_pos e, if_pos (by omega)]
      · rw [if_neg e, if_neg (by omega)]
    · rw [cf_trim, cf_tab]
      by_cases e : j < f.length
      · rw [if_pos e]
      · rw [if_neg e]; exact divR_far (by omega) j (by omega)
theorem div_sum {p : Int} {f g : List Int} (hp : primeB p = true) (hf : polyB p f = true) (hg : polyB p g = true) (h0 : g.length ≠ 0) : addM p (mulM p (quoM p f g) g) (remM p f g) 1 = f := by
  have hl := primeB_lo hp
  refine can_ext (can_trim _) (can_poly hf) fun j => ?_
  rw [cf_add hl.1 (mulM_areB hl.1 _ _), mulM_cf hl.1, Int.one_mul, Int.add_emod, Int.emod_emod, ← Int.add_emod]
  exact (div_back hp hf hg h0 j).symm
/-- c divides f. -/
def DvdL (p : Int) (c f : List Int) : Prop := ∃ h : List Int, areB p h = true ∧ ∀ j, cf f j % p = cv (cf h) (cf c) j % p
theorem cv_top (d c : List Int) (h1 : d.length ≠ 0) (h2 : c.length ≠ 0) : cv (cf d) (cf c) (d.length - 1 + (c.length - 1)) = cf d (d.length - 1) * cf c (c.length - 1) := by
  unfold cv
  rw [sm_one _ (d.length - 1) _ (fun k hk => by
    by_cases e : k < d.length
    · rw [cf_far (f := c) (by omega), Int.mul_zero]
    · rw [cf_far (by omega), Int.zero_mul]), if_pos (by omega), show d.length - 1 + (c.length - 1) - (d.length - 1) = c.length - 1 by omega]
theorem addM_areB {p : Int} (hp : 2 ≤ p) {f : List Int} (hf : areB p f = true) (g : List Int) (k : Int) : areB p (addM p f g k) = true := areB_mk fun j _ => by
  have := cf_add hp hf g k j
  unfold cf at this
  rw [this]
  exact modb hp
theorem rem_zero {p : Int} {f c : List Int} (hp : primeB p = true) (hf : polyB p f = true) (hc : polyB p c = true) (h0 : c.length ≠ 0) (hd : DvdL p c f) : remM p f c = [] := by
  have hl := primeB_lo hp
  obtain ⟨h, hh, hd⟩ := hd
  have hrm := remM_poly hp hf hc
  have hlt := remM_lt hp hf hc h0
  have hda : areB p (addM p h (quoM p f c) (p - 1)) = true := addM_areB hl.1 hh _ _
  have key : ∀ j, cf (remM p f c) j = cv (cf (addM p h (quoM p f c) (p - 1))) (cf c) j % p := fun j => by
    have hr := cf_rng hl.1 (polyB_rng hrm).2.1 j
    have e1 : cv (cf (addM p h (quoM p f c) (p - 1))) (cf c) j % p = (cv (cf h) (cf c) j + (p - 1) * cv (cf (quoM p f c)) (cf c) j) % p := by
      rw [← cv_scale, ← cv_add]
      exact cv_mod j (fun i => by rw [cf_add hl.1 hh, Int.emod_emod]) (fun _ => rfl)
    have hb := div_back hp hf hc h0 j
    have hdj := hd j
    have hfr := cf_rng hl.1 (polyB_rng hf).2.1 j
    rw [Int.emod_eq_of_lt hfr.1 hfr.2] at hdj
    rw [e1]
    rw [← Int.emod_eq_of_lt hr.1 hr.2]
    generalize cv (cf h) (cf c) j = A at *
    generalize cv (cf (quoM p f c)) (cf c) j = B at *
    generalize cf (remM p f c) j = R at *
    have e2 : A + (p - 1) * B = A - B + p * B := by rw [Int.sub_mul, Int.one_mul]; omega
    rw [e2, Int.add_mul_emod_self_left]
    have e3 : A % p = (B + R) % p := by rw [← hdj, hb]
    rw [Int.sub_emod, e3, ← Int.sub_emod]
    congr 1
    omega
  rcases can_trim (tab (max h.length (quoM p f c).length) (sumH p (p - 1) h (quoM p f c) (quoM p f c).length)) with hz | hz
  · refine can_nil (can_poly hrm) fun j => ?_
    rw [key j]
    have e : addM p h (quoM p f c) (p - 1) = [] := List.eq_nil_of_length_eq_zero hz
    rw [e]
    have : cv (cf []) (cf c) j = 0 := cv_zero (cf c) j
    rw [this]; rfl
  · by_cases hz0 : (addM p h (quoM p f c) (p - 1)).length = 0
    · exact absurd (cf_far (by have : (trimL (tab (max h.length (quoM p f c).length) (sumH p (p - 1) h (quoM p f c) (quoM p f c).length))).length = 0 := hz0
                               omega)) hz
    · exfalso
      have hz' : cf (addM p h (quoM p f c) (p - 1)) ((addM p h (quoM p f c) (p - 1)).length - 1) ≠ 0 := hz
      generalize addM p h (quoM p f c) (p - 1) = d at *
      have k1 := key (d.length - 1 + (c.length - 1))
      rw [cv_top d c hz0 h0, cf_far (by omega)] at k1
      have r1 := cf_rng hl.1 hda (d.length - 1)
      have r2 := cf_rng hl.1 (polyB_rng hc).2.1 (c.length - 1)
      have hc0 : cf c (c.length - 1) ≠ 0 := by
        rcases can_poly hc with h | h
        · exact absurd h h0
        · exact h
      exact prime_mul hp (by omega) r1.2 (by omega) r2.2 k1.symm
theorem dvd_self {p : Int} (hp : 2 ≤ p) (c : List Int) : DvdL p c c := ⟨[1], by simp [areB, okN]; omega, fun j => by
  have e : cv (cf [1]) (cf c) j = cf c j := by
    have : cf [1] = fun i => if i = 0 then 1 else 0 := by
      funext i
      cases i with
      | zero => rfl
      | succ i => exact cf_far (by simp)
    rw [this, cv_delta, if_pos (Nat.zero_le _), Int.one_mul, Nat.sub_zero]
  rw [e]⟩
theorem dvd_nil (p : Int) (c : List Int) : DvdL p c [] := ⟨[], rfl, fun j => by
  have : cv (cf []) (cf c) j = 0 := cv_zero (cf c) j
  rw [this]; rfl⟩
theorem gcd_dvd {p : Int} (hp : primeB p = true) : ∀ (k : Nat) (f g : List Int), g.length < k → polyB p f = true → polyB p g = true → DvdL p (gcdL p k f g) f ∧ DvdL p (gcdL p k f g) g := by
  have hl := primeB_lo hp
  intro k
  induction k with
  | zero => intro f g h; omega
  | succ k ih =>
    intro f g hk hf hg
    unfold gcdL
    by_cases hz : g.isEmpty
    · rw [if_pos hz]
      have : g = [] := by simpa using hz
      subst this
      exact ⟨dvd_self hl.1 f, dvd_nil p f⟩
    · rw [if_neg hz]
      have h0 : g.length ≠ 0 := fun e => hz (by rw [List.eq_nil_of_length_eq_zero e]; rfl)
      have hlt := remM_lt hp hf hg h0
      obtain ⟨⟨u, hu, h1⟩, ⟨v, hv, h2⟩⟩ := ih g (remM p f g) (by omega) hg (remM_poly hp hf hg)
      refine ⟨⟨addM p (mulM p (quoM p f g) u) v 1, addM_areB hl.1 (mulM_areB hl.1 _ _) _ _, fun j => ?_⟩, ⟨u, hu, h1⟩⟩
      generalize gcdL p k g (remM p f g) = c at *
      have e1 : cv (cf (addM p (mulM p (quoM p f g) u) v 1)) (cf c) j % p = (cv (cv (cf (quoM p f g)) (cf u)) (cf c) j + cv (cf v) (cf c) j) % p := by
        rw [← cv_add]
        exact cv_mod j (fun i => by rw [cf_add hl.1 (mulM_areB hl.1 _ _), mulM_cf hl.1, Int.one_mul, Int.emod_emod, Int.add_emod, Int.emod_emod, ← Int.add_emod]) (fun _ => rfl)
      rw [e1, cv_assoc, div_back hp hf hg h0 j, Int.emod_emod, Int.add_emod, Int.add_emod (cv _ (cv _ _) _), h2 j]
      congr 2
      exact cv_mod j (fun _ => rfl) h1
theorem monM_cf {p : Int} (hp : 2 ≤ p) {c : List Int} (h0 : c.length ≠ 0) (j : Nat) : cf (monM p c) j = invM p (c.getD (c.length - 1) 0) * cf c j % p := by
  have e : c.isEmpty = false := by cases c with | nil => exact absurd rfl h0 | cons a l => rfl
  unfold monM
  rw [e]
  show cf (addM p [] c _) j = _
  rw [cf_add hp rfl]
  show (cf [] j + _) % p = _
  rw [cf_far (f := []) (by simp), Int.zero_add]
theorem monM_top {p : Int} (hp : primeB p = true) {c : List Int} (hc : polyB p c = true) (h0 : c.length ≠ 0) : (monM p c).length = c.length ∧ cf (monM p c) (c.length - 1) = 1 := by
  have hl := primeB_lo hp
  have hc0 : cf c (c.length - 1) ≠ 0 := by
    rcases can_poly hc with h | h
    · exact absurd h h0
    · exact h
  have hr := cf_rng hl.1 (polyB_rng hc).2.1 (c.length - 1)
  have h1 : cf (monM p c) (c.length - 1) = 1 := by
    rw [monM_cf hl.1 h0, Int.mul_comm]
    exact invM_mul hp (show 0 < cf c (c.length - 1) by omega) hr.2
  refine ⟨?_, h1⟩
  have hle : (monM p c).length ≤ c.length := by
    unfold monM
    split
    · simp
    · unfold addM
      exact Nat.le_trans (trimL_le _) (by rw [tab_len]; simp)
  by_cases e : (monM p c).length = c.length
  · exact e
  · rw [cf_far (by omega)] at h1; cases h1
theorem dvd_mon {p : Int} (hp : primeB p = true) {c f : List Int} (hc : polyB p c = true) (h0 : c.length ≠ 0) (h : DvdL p c f) : DvdL p (monM p c) f := by
  have hl := primeB_lo hp
  obtain ⟨u, hu, h1⟩ := h
  have hc0 : cf c (c.length - 1) ≠ 0 := by
    rcases can_poly hc with h | h
    · exact absurd h h0
    · exact h
  have hr := cf_rng hl.1 (polyB_rng hc).2.1 (c.length - 1)
  have hi : cf c (c.length - 1) * invM p (cf c (c.length - 1)) % p = 1 := invM_mul hp (by omega) hr.2
  refine ⟨tab u.length (fun j => cf c (c.length - 1) * cf u j % p), tab_are' fun _ _ => modb hl.1, fun j => ?_⟩
  have e1 : cv (cf (tab u.length (fun j => cf c (c.length - 1) * cf u j % p))) (cf (monM p c)) j % p = (cf c (c.length - 1) * (invM p (cf c (c.length - 1)) * cv (cf u) (cf c) j)) % p := by
    rw [← cv_scale_r, ← cv_scale]
    refine cv_mod j (fun i => ?_) (fun i => ?_)
    · rw [cf_tab]
      by_cases e : i < u.length
      · rw [if_pos e, Int.emod_emod]
      · rw [if_neg e, cf_far (f := u) (by omega), Int.mul_zero]
    · rw [monM_cf hl.1 h0, Int.emod_emod]; rfl
  rw [e1, ← Int.mul_assoc, Int.mul_emod, hi, Int.one_mul, Int.emod_emod]
  exact h1 j
end Go.Proofs.YtdjifjlgllohmaaDoor

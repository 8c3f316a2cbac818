/- Merged texts. -/
import Derived.Test.YtpoabedlcljibaaYW113
import Derived.Test.YtpoabedlcljibaaYW110
import Derived.Test.YtpoabedlcljibaaYW11
import Derived.Maps.AppendAt
import Derived.Deep.AppendLies
/- Plain mathematics: quotient times divisor and rest together are the dividend; the greatest common divisor divides both. No program. -/
namespace Go.Proofs.Ytpoabedlcljibaa
open Go.RowKit
set_option linter.unusedVariables false
set_option linter.unusedSimpArgs false
theorem tab_are' {p : Int} {n : Nat} {h : Nat → Int} (e : ∀ j, j < n → 0 ≤ h j ∧ h j < p) : areB p (tab n h) = true := areB_mk fun j hj => by
  rw [tab_len] at hj
  rw [tab_at _ _ _ hj]
  exact e j hj
theorem cf_tab (n : Nat) (h : Nat → Int) (j : Nat) : cf (tab n h) j = if j < n then h j else 0 := by
  by_cases e : j < n
  · rw [if_pos e]; exact tab_at _ _ _ e
  · rw [if_neg e]; exact cf_far (by rw [tab_len]; omega)
theorem cf_trim (xs : List Int) (j : Nat) : cf (trimL xs) j = cf xs j := by
  by_cases h : j < (trimL xs).length
  · exact trimL_at xs j h
  · rw [cf_far (by omega)]
    rw [trimL_len] at h
    by_cases e : j < xs.length
    · exact (trimN_zero_from xs xs.length j (by omega) e).symm
    · rw [cf_far (by omega)]
theorem cf_add {p : Int} (hp : 2 ≤ p) {f : List Int} (hf : areB p f = true) (g : List Int) (k : Int) (j : Nat) : cf (addM p f g k) j = (cf f j + k * cf g j) % p := by
  unfold addM
  rw [cf_trim, cf_tab]
  have hr := cf_rng hp hf j
  by_cases e : j < max f.length g.length
  · rw [if_pos e]
    unfold sumH
    split
    · rfl
    · rw [cf_far (f := g) (by omega), Int.mul_zero, Int.add_zero, Int.emod_eq_of_lt hr.1 hr.2]; rfl
  · rw [if_neg e, cf_far (by omega), cf_far (f := g) (by omega)]; simp
/-- No 0 at the end. -/
def Can (xs : List Int) : Prop := xs.length = 0 ∨ cf xs (xs.length - 1) ≠ 0
theorem can_trim (xs : List Int) : Can (trimL xs) := trimL_last xs
theorem can_poly {p : Int} {f : List Int} (h : polyB p f = true) : Can f := by
  rcases (polyB_rng h).2.2 with h | h
  · exact .inl (by rw [h]; rfl)
  · exact .inr h
theorem can_ext {xs ys : List Int} (h1 : Can xs) (h2 : Can ys) (h : ∀ j, cf xs j = cf ys j) : xs = ys := by
  have hl : ∀ {xs ys : List Int}, Can xs → (∀ j, cf xs j = cf ys j) → xs.length ≤ ys.length := fun {xs ys} h1 h => by
    rcases h1 with h1 | h1
    · omega
    · by_cases e : xs.length ≤ ys.length
      · exact e
      · exfalso
        apply h1
        rw [h, cf_far (by omega)]
  exact ext_cf (Nat.le_antisymm (hl h1 h) (hl h2 (fun j => (h j).symm))) h
theorem can_nil {xs : List Int} (h1 : Can xs) (h : ∀ j, cf xs j = 0) : xs = [] := can_ext h1 (.inl rfl) (fun j => by rw [h]; rfl)
theorem cv_add (F F' G : Nat → Int) (j : Nat) : cv (fun i => F i + F' i) G j = cv F G j + cv F' G j := by
  unfold cv
  rw [← sm_add]
  apply sm_congr
  intro k _
  rw [Int.add_mul]
theorem cv_scale (a : Int) (F G : Nat → Int) (j : Nat) : cv (fun i => a * F i) G j = a * cv F G j := by
  unfold cv
  rw [← sm_mul]
  apply sm_congr
  intro k _
  rw [Int.mul_assoc]
theorem cv_scale_r (a : Int) (F G : Nat → Int) (j : Nat) : cv F (fun i => a * G i) j = a * cv F G j := by rw [cv_comm, cv_scale, cv_comm]
theorem cv_zero (G : Nat → Int) (j : Nat) : cv (fun _ => 0) G j = 0 :=
  sm_ext (fun i => (0 : Int) * G (j - i)) 0 (j + 1) (by omega) (fun k _ _ => by simp)
theorem sm_one (f : Nat → Int) (a n : Nat) (h : ∀ k, k ≠ a → f k = 0) : sm n f = if a < n then f a else 0 := by
  induction n with
  | zero => rfl
  | succ n ih =>
    rw [sm, ih]
    by_cases e : a = n
    · subst e; rw [if_neg (by omega), if_pos (by omega), Int.zero_add]
    · rw [h n (fun x => e x.symm), Int.add_zero]
      by_cases e2 : a < n
      · rw [if_pos e2, if_pos (by omega)]
      · rw [if_neg e2, if_neg (by omega)]
theorem cv_delta (q : Int) (a : Nat) (G : Nat → Int) (j : Nat) : cv (fun i => if i = a then q else 0) G j = if a ≤ j then q * G (j - a) else 0 := by
  unfold cv
  rw [sm_one _ a _ (fun k hk => by
    show (if k = a then q else 0) * G (j - k) = 0
    rw [if_neg hk, Int.zero_mul])]
  show (if a < j + 1 then (if a = a then q else 0) * G (j - a) else 0) = _
  rw [if_pos (rfl : a = a)]
  by_cases e : a ≤ j
  · rw [if_pos e, if_pos (by omega)]
  · rw [if_neg e, if_neg (by omega)]
theorem cv_congr {F F' G G' : Nat → Int} (j : Nat) (h : ∀ i, i ≤ j → F i = F' i) (h2 : ∀ i, i ≤ j → G i = G' i) : cv F G j = cv F' G' j := by
  unfold cv
  apply sm_congr
  intro k hk
  rw [h k (by omega), h2 _ (by omega)]
/-- The quotient so far as numbers. -/
def dq (p inv : Int) (f g : List Int) (D i : Nat) : Nat → Int := fun j => if j ≤ D then divQ p inv f g D i j else 0
theorem dq_step (p inv : Int) (f g : List Int) (D i : Nat) (hi : i ≤ D) : dq p inv f g D (i + 1) = fun j => dq p inv f g D i j + if j = D - i then divN p inv f g D i else 0 := by
  funext j
  unfold dq divQ
  by_cases e : j = D - i
  · subst e
    rw [if_pos (by omega), if_pos (by omega), if_pos (by omega), if_neg (by omega), if_pos rfl, show D - (D - i) = i by omega, Int.zero_add]
  · rw [if_neg e, Int.add_zero]
    by_cases h : j ≤ D
    · rw [if_pos h, if_pos h]
      by_cases h2 : D < j + i
      · rw [if_pos h2, if_pos (by omega)]
      · rw [if_neg h2, if_neg (by omega)]
    · rw [if_neg h, if_neg h]
theorem div_inv {p inv : Int} {f g : List Int} {D : Nat} (hp : 2 ≤ p) (hf : areB p f = true) : ∀ i, i ≤ D + 1 → ∀ j, cf f j % p = (cv (dq p inv f g D i) (cf g) j + divR p inv f g D i j) % p := by
  intro i
  induction i with
  | zero =>
    intro _ j
    have e : cv (dq p inv f g D 0) (cf g) j = 0 := by
      rw [← cv_zero (cf g) j]
      apply cv_congr j _ (fun _ _ => rfl)
      intro i _
      unfold dq divQ
      split
      · rw [if_neg (by omega)]
      · rfl
    rw [e, Int.zero_add]; rfl
  | succ i ih =>
    intro hi j
    rw [ih (by omega) j, dq_step _ _ _ _ _ _ (by omega), cv_add, cv_delta]
    have e : divR p inv f g D (i + 1) j % p = (divR p inv f g D i j - if D - i ≤ j then divN p inv f g D i * cf g (j - (D - i)) else 0) % p := by
      rw [divR]
      unfold divS
      by_cases h : D - i ≤ j ∧ j < D - i + g.length
      · rw [if_pos h, if_pos h.1, Int.emod_emod]; rfl
      · rw [if_neg h]
        by_cases h2 : D - i ≤ j
        · rw [if_pos h2, cf_far (f := g) (by omega), Int.mul_zero, Int.sub_zero]
        · rw [if_neg h2, Int.sub_zero]
    rw [Int.add_emod _ (divR p inv f g D (i + 1) j), e, ← Int.add_emod]
    congr 1
    omega
theorem div_back {p : Int} {f g : List Int} (hp : primeB p = true) (hf : polyB p f = true) (hg : polyB p g = true) (h0 : g.length ≠ 0) (j : Nat) : cf f j = (cv (cf (quoM p f g)) (cf g) j + cf (remM p f g) j) % p := by
  have hl := primeB_lo hp
  have hfa := (polyB_rng hf).2.1
  have hr := cf_rng hl.1 hfa j
  have hfj : cf f j = cf f j % p := (Int.emod_eq_of_lt hr.1 hr.2).symm
  by_cases h : f.length < g.length
  · unfold quoM remM
    rw [if_pos h, if_pos h]
    have e : cv (cf []) (cf g) j = 0 := cv_zero (cf g) j
    rw [e, Int.zero_add]; exact hfj
  · rw [hfj, div_inv (inv := invM p (g.getD (g.length - 1) 0)) (g := g) (D := f.length - g.length) hl.1 hfa (f.length - g.length + 1) (by omega) j]
    unfold quoM remM
    rw [if_neg h, if_neg h]
    congr 2
    · apply cv_congr j _ (fun _ _ => rfl)
      intro i _
      rw [cf_trim, cf_tab]
      unfold dq
      by_cases e : i ≤ f.length - g.length
      · rw [if_pos e, if_pos (by omega)]
      · rw [if_neg e, if_neg (by omega)]
    · rw [cf_trim, cf_tab]
      by_cases e : j < f.length
      · rw [if_pos e]
      · rw [if_neg e]; exact divR_far (by omega) j (by omega)
theorem div_sum {p : Int} {f g : List Int} (hp : primeB p = true) (hf : polyB p f = true) (hg : polyB p g = true) (h0 : g.length ≠ 0) : addM p (mulM p (quoM p f g) g) (remM p f g) 1 = f := by
  have hl := primeB_lo hp
  refine can_ext (can_trim _) (can_poly hf) fun j => ?_
  rw [cf_add hl.1 (mulM_areB hl.1 _ _), mulM_cf hl.1, Int.one_mul, Int.add_emod, Int.emod_emod, ← Int.add_emod]
  exact (div_back hp hf hg h0 j).symm
/-- c divides f. -/
def DvdL (p : Int) (c f : List Int) : Prop := ∃ h : List Int, areB p h = true ∧ ∀ j, cf f j % p = cv (cf h) (cf c) j % p
theorem cv_top (d c : List Int) (h1 : d.length ≠ 0) (h2 : c.length ≠ 0) : cv (cf d) (cf c) (d.length - 1 + (c.length - 1)) = cf d (d.length - 1) * cf c (c.length - 1) := by
  unfold cv
  rw [sm_one _ (d.length - 1) _ (fun k hk => by
    by_cases e : k < d.length
    · rw [cf_far (f := c) (by omega), Int.mul_zero]
    · rw [cf_far (by omega), Int.zero_mul]), if_pos (by omega), show d.length - 1 + (c.length - 1) - (d.length - 1) = c.length - 1 by omega]
theorem addM_areB {p : Int} (hp : 2 ≤ p) {f : List Int} (hf : areB p f = true) (g : List Int) (k : Int) : areB p (addM p f g k) = true := areB_mk fun j _ => by
  have := cf_add hp hf g k j
  unfold cf at this
  rw [this]
  exact modb hp
theorem rem_zero {p : Int} {f c : List Int} (hp : primeB p = true) (hf : polyB p f = true) (hc : polyB p c = true) (h0 : c.length ≠ 0) (hd : DvdL p c f) : remM p f c = [] := by
  have hl := primeB_lo hp
  obtain ⟨h, hh, hd⟩ := hd
  have hrm := remM_poly hp hf hc
  have hlt := remM_lt hp hf hc h0
  have hda : areB p (addM p h (quoM p f c) (p - 1)) = true := addM_areB hl.1 hh _ _
  have key : ∀ j, cf (remM p f c) j = cv (cf (addM p h (quoM p f c) (p - 1))) (cf c) j % p := fun j => by
    have hr := cf_rng hl.1 (polyB_rng hrm).2.1 j
    have e1 : cv (cf (addM p h (quoM p f c) (p - 1))) (cf c) j % p = (cv (cf h) (cf c) j + (p - 1) * cv (cf (quoM p f c)) (cf c) j) % p := by
      rw [← cv_scale, ← cv_add]
      exact cv_mod j (fun i => by rw [cf_add hl.1 hh, Int.emod_emod]) (fun _ => rfl)
    have hb := div_back hp hf hc h0 j
    have hdj := hd j
    have hfr := cf_rng hl.1 (polyB_rng hf).2.1 j
    rw [Int.emod_eq_of_lt hfr.1 hfr.2] at hdj
    rw [e1]
    rw [← Int.emod_eq_of_lt hr.1 hr.2]
    generalize cv (cf h) (cf c) j = A at *
    generalize cv (cf (quoM p f c)) (cf c) j = B at *
    generalize cf (remM p f c) j = R at *
    have e2 : A + (p - 1) * B = A - B + p * B := by rw [Int.sub_mul, Int.one_mul]; omega
    rw [e2, Int.add_mul_emod_self_left]
    have e3 : A % p = (B + R) % p := by rw [← hdj, hb]
    rw [Int.sub_emod, e3, ← Int.sub_emod]
    congr 1
    omega
  rcases can_trim (tab (max h.length (quoM p f c).length) (sumH p (p - 1) h (quoM p f c) (quoM p f c).length)) with hz | hz
  · refine can_nil (can_poly hrm) fun j => ?_
    rw [key j]
    have e : addM p h (quoM p f c) (p - 1) = [] := List.eq_nil_of_length_eq_zero hz
    rw [e]
    have : cv (cf []) (cf c) j = 0 := cv_zero (cf c) j
    rw [this]; rfl
  · by_cases hz0 : (addM p h (quoM p f c) (p - 1)).length = 0
    · exact absurd (cf_far (by have : (trimL (tab (max h.length (quoM p f c).length) (sumH p (p - 1) h (quoM p f c) (quoM p f c).length))).length = 0 := hz0
                               omega)) hz
    · exfalso
      have hz' : cf (addM p h (quoM p f c) (p - 1)) ((addM p h (quoM p f c) (p - 1)).length - 1) ≠ 0 := hz
      generalize addM p h (quoM p f c) (p - 1) = d at *
      have k1 := key (d.length - 1 + (c.length - 1))
      rw [cv_top d c hz0 h0, cf_far (by omega)] at k1
      have r1 := cf_rng hl.1 hda (d.length - 1)
      have r2 := cf_rng hl.1 (polyB_rng hc).2.1 (c.length - 1)
      have hc0 : cf c (c.length - 1) ≠ 0 := by
        rcases can_poly hc with h | h
        · exact absurd h h0
        · exact h
      exact prime_mul hp (by omega) r1.2 (by omega) r2.2 k1.symm
theorem dvd_self {p : Int} (hp : 2 ≤ p) (c : List Int) : DvdL p c c := ⟨[1], by simp [areB, okN]; omega, fun j => by
  have e : cv (cf [1]) (cf c) j = cf c j := by
    have : cf [1] = fun i => if i = 0 then 1 else 0 := by
      funext i
      cases i with
      | zero => rfl
      | succ i => exact cf_far (by simp)
    rw [this, cv_delta, if_pos (Nat.zero_le _), Int.one_mul, Nat.sub_zero]
  rw [e]⟩
theorem dvd_nil (p : Int) (c : List Int) : DvdL p c [] := ⟨[], rfl, fun j => by
  have : cv (cf []) (cf c) j = 0 := cv_zero (cf c) j
  rw [this]; rfl⟩
theorem gcd_dvd {p : Int} (hp : primeB p = true) : ∀ (k : Nat) (f g : List Int), g.length < k → polyB p f = true → polyB p g = true → DvdL p (gcdL p k f g) f ∧ DvdL p (gcdL p k f g) g := by
  have hl := primeB_lo hp
  intro k
  induction k with
  | zero => intro f g h; omega
  | succ k ih =>
    intro f g hk hf hg
    unfold gcdL
    by_cases hz : g.isEmpty
    · rw [if_pos hz]
      have : g = [] := by simpa using hz
      subst this
      exact ⟨dvd_self hl.1 f, dvd_nil p f⟩
    · rw [if_neg hz]
      have h0 : g.length ≠ 0 := fun e => hz (by rw [List.eq_nil_of_length_eq_zero e]; rfl)
      have hlt := remM_lt hp hf hg h0
      obtain ⟨⟨u, hu, h1⟩, ⟨v, hv, h2⟩⟩ := ih g (remM p f g) (by omega) hg (remM_poly hp hf hg)
      refine ⟨⟨addM p (mulM p (quoM p f g) u) v 1, addM_areB hl.1 (mulM_areB hl.1 _ _) _ _, fun j => ?_⟩, ⟨u, hu, h1⟩⟩
      generalize gcdL p k g (remM p f g) = c at *
      have e1 : cv (cf (addM p (mulM p (quoM p f g) u) v 1)) (cf c) j % p = (cv (cv (cf (quoM p f g)) (cf u)) (cf c) j + cv (cf v) (cf c) j) % p := by
        rw [← cv_add]
        exact cv_mod j (fun i => by rw [cf_add hl.1 (mulM_areB hl.1 _ _), mulM_cf hl.1, Int.one_mul, Int.emod_emod, Int.add_emod, Int.emod_emod, ← Int.add_emod]) (fun _ => rfl)
      rw [e1, cv_assoc, div_back hp hf hg h0 j, Int.emod_emod, Int.add_emod, Int.add_emod (cv _ (cv _ _) _), h2 j]
      congr 2
      exact cv_mod j (fun _ => rfl) h1
theorem monM_cf {p : Int} (hp : 2 ≤ p) {c : List Int} (h0 : c.length ≠ 0) (j : Nat) : cf (monM p c) j = invM p (c.getD (c.length - 1) 0) * cf c j % p := by
  have e : c.isEmpty = false := by cases c with | nil => exact absurd rfl h0 | cons a l => rfl
  unfold monM
  rw [e]
  show cf (addM p [] c _) j = _
  rw [cf_add hp rfl]
  show (cf [] j + _) % p = _
  rw [cf_far (f := []) (by simp), Int.zero_add]
theorem monM_top {p : Int} (hp : primeB p = true) {c : List Int} (hc : polyB p c = true) (h0 : c.length ≠ 0) : (monM p c).length = c.length ∧ cf (monM p c) (c.length - 1) = 1 := by
  have hl := primeB_lo hp
  have hc0 : cf c (c.length - 1) ≠ 0 := by
    rcases can_poly hc with h | h
    · exact absurd h h0
    · exact h
  have hr := cf_rng hl.1 (polyB_rng hc).2.1 (c.length - 1)
  have h1 : cf (monM p c) (c.length - 1) = 1 := by
    rw [monM_cf hl.1 h0, Int.mul_comm]
    exact invM_mul hp (show 0 < cf c (c.length - 1) by omega) hr.2
  refine ⟨?_, h1⟩
  have hle : (monM p c).length ≤ c.length := by
    unfold monM
    split
    · simp
    · unfold addM
      exact Nat.le_trans (trimL_le _) (by rw [tab_len]; simp)
  by_cases e : (monM p c).length = c.length
  · exact e
  · rw [cf_far (by omega)] at h1; cases h1
theorem dvd_mon {p : Int} (hp : primeB p = true) {c f : List Int} (hc : polyB p c = true) (h0 : c.length ≠ 0) (h : DvdL p c f) : DvdL p (monM p c) f := by
  have hl := primeB_lo hp
  obtain ⟨u, hu, h1⟩ := h
  have hc0 : cf c (c.length - 1) ≠ 0 := by
    rcases can_poly hc with h | h
    · exact absurd h h0
    · exact h
  have hr := cf_rng hl.1 (polyB_rng hc).2.1 (c.length - 1)
  have hi : cf c (c.length - 1) * invM p (cf c (c.length - 1)) % p = 1 := invM_mul hp (by omega) hr.2
  refine ⟨tab u.length (fun j => cf c (c.length - 1) * cf u j % p), tab_are' fun _ _ => modb hl.1, fun j => ?_⟩
  have e1 : cv (cf (tab u.length (fun j => cf c (c.length - 1) * cf u j % p))) (cf (monM p c)) j % p = (cf c (c.length - 1) * (invM p (cf c (c.length - 1)) * cv (cf u) (cf c) j)) % p := by
    rw [← cv_scale_r, ← cv_scale]
    refine cv_mod j (fun i => ?_) (fun i => ?_)
    · rw [cf_tab]
      by_cases e : i < u.length
      · rw [if_pos e, Int.emod_emod]
      · rw [if_neg e, cf_far (f := u) (by omega), Int.mul_zero]
    · rw [monM_cf hl.1 h0, Int.emod_emod]; rfl
  rw [e1, ← Int.mul_assoc, Int.mul_emod, hi, Int.one_mul, Int.emod_emod]
  exact h1 j
end Go.Proofs.Ytpoabedlcljibaa
/- An append of one number by laws that say where the new row lies (in a plain region, at an operation, at a step of a region that draws). -/
namespace Go.Proofs.Ytpoabedlcljibaa
open Go.RowKit
set_option linter.unusedVariables false
set_option linter.unusedSimpArgs false
set_option maxRecDepth 100000 in
/-- An append of one number onto an owned row of numbers: only that row and new blocks turn. -/
theorem op_app1 {w : World} {o : Oper} {a : Act} {K : Act → World → Prop} {Q : Exit → Act → World → Prop}
    (s x : Operand) (ho : o.op = .call { callee := .builtin .append, args := #[s, x], argTypes := #[22, 22] })
    (B : Nat) (ad : Option Addr) (n cap : Nat) (ys : List Int) (hs : a.eval s = .slice ad n cap) (hn : n = ys.length) (hown : Own B w ad cap ys)
    (ax : Addr) (c : Nat) (z : Int) (hx : a.eval x = .slice (some ax) 1 c) (hz : w.cell? ax = some (.int .i64 z)) (hmax : n + 1 ≤ 4000000) (hB : B ≤ w.heap.size)
    (hK : ∀ ad' cap' w', Own B w' ad' cap' (ys ++ [z]) → w.grownBy w' (blk ad) → (blk ad' = blk ad ∨ blk ad' = some w.heap.size) → K (a.put o.dst (.slice ad' (ys ++ [z]).length cap')) w') :
    o.wp Try.prog a w K Q := by
  subst hn
  obtain ⟨i0, hi, hz0, hz1, hz2⟩ := info_parts infoI
  have hnews : ∀ j u, [Value.int .i64 z][j]? = some u → w.cell? (ax.add j) = some u := by
    intro j u hj
    cases j with
    | zero =>
      simp at hj
      subst hj
      have : ax.add 0 = ax := by cases ax; simp [Addr.add]
      rw [this]; exact hz
    | succ j => simp at hj
  have h1 : ∀ u ∈ [Value.int .i64 z], u.oneCell' = true := by
    intro u hu
    simp at hu
    subst hu
    rfl
  obtain ⟨v', w1, hr, hown', hgrow, _, hloc⟩ := run_append_own_at (P := Try.prog) w B 22 o.type 2 i0 (.int .i64 0) 1 8 Try.underlying22 hi hz0 hz1 hz2 rfl (by decide) _ _ _ hown ax 1 c [.int .i64 z] rfl hnews h1 (by unfold maxLen; omega) (by omega) hB
  have hb1 : ∀ (ad : Option Addr) (n c : Nat), (Value.slice ad n c).ownBlock = blk ad := fun ad n c => by cases ad <;> rfl
  rw [hb1] at hgrow hloc
  have hv : ∃ ad' cap', v' = .slice ad' (ys ++ [z]).length cap' := by
    rcases hown'.2 with ⟨h1, h2⟩ | ⟨g, c', cur, h1, h2⟩
    · exact ⟨none, 0, by rw [h1]; congr 1; simp; omega⟩
    · exact ⟨_, c', by rw [h1]; congr 1; simp⟩
  obtain ⟨ad', cap', rfl⟩ := hv
  rw [hb1] at hloc
  unfold Oper.wp execOp
  simp only [ho, resolve, invoke, builtin, Sem.run_bind, Sem.run_pure, Result.andThen_ok, List.map_toArray, List.map_cons, List.map_nil, hs, hx, hr]
  refine hK ad' cap' w1 ?_ hgrow hloc
  unfold Own
  have e : (ys ++ [z]).length = ys.length + 1 := by simp
  rw [List.map_append]
  rw [e] at hown' ⊢
  exact hown'
theorem wp_app1 {w : World} {ops : Array Oper} {rest : List Oper} {o : Oper} {a : Act} {Q : Exit → Act → World → Prop}
    (hgd : o.guard = none) (s x : Operand) (ho : o.op = .call { callee := .builtin .append, args := #[s, x], argTypes := #[22, 22] })
    (B : Nat) (ad : Option Addr) (n cap : Nat) (ys : List Int) (hs : a.eval s = .slice ad n cap) (hn : n = ys.length) (hown : Own B w ad cap ys)
    (ax : Addr) (c : Nat) (z : Int) (hx : a.eval x = .slice (some ax) 1 c) (hz : w.cell? ax = some (.int .i64 z)) (hmax : n + 1 ≤ 4000000) (hB : B ≤ w.heap.size)
    (hK : ∀ ad' cap' w', Own B w' ad' cap' (ys ++ [z]) → w.grownBy w' (blk ad) → (blk ad' = blk ad ∨ blk ad' = some w.heap.size) → wpList Try.prog ops Q rest (a.put o.dst (.slice ad' (ys ++ [z]).length cap')) w') :
    wpList Try.prog ops Q (o :: rest) a w :=
  wpList_plain hgd fun K hK' => op_app1 s x ho B ad n cap ys hs hn hown ax c z hx hz hmax hB fun ad' cap' w' h1 h2 h3 => hK' _ _ (hK ad' cap' w' h1 h2 h3)
theorem step_app1 {w : World} {ops : Array Oper} {o : Oper} {a : Act} {K : Act → World → Prop} {Q : Exit → Act → World → Prop} {E : Prop}
    (hgd : o.guard = none) (s x : Operand) (ho : o.op = .call { callee := .builtin .append, args := #[s, x], argTypes := #[22, 22] })
    (B : Nat) (ad : Option Addr) (n cap : Nat) (ys : List Int) (hs : a.eval s = .slice ad n cap) (hn : n = ys.length) (hown : Own B w ad cap ys)
    (ax : Addr) (c : Nat) (z : Int) (hx : a.eval x = .slice (some ax) 1 c) (hz : w.cell? ax = some (.int .i64 z)) (hmax : n + 1 ≤ 4000000) (hB : B ≤ w.heap.size)
    (hK : ∀ ad' cap' w', Own B w' ad' cap' (ys ++ [z]) → w.grownBy w' (blk ad) → (blk ad' = blk ad ∨ blk ad' = some w.heap.size) → K (a.put o.dst (.slice ad' (ys ++ [z]).length cap')) w') :
    if Region.wanted o (yielded ops a.tmps) = true then Oper.wp Try.prog o a w K Q else E := by
  have hw : Region.wanted o (yielded ops a.tmps) = true := by simp [Region.wanted, hgd]
  rw [if_pos hw]
  exact op_app1 s x ho B ad n cap ys hs hn hown ax c z hx hz hmax hB hK
theorem own_blk_ge {B : Nat} {w : World} {a : Option Addr} {c : Nat} {ys : List Int} (h : Own B w a c ys) : ∀ g, blk a = some g → B ≤ g := fun g hg => by
  rcases h.shape with ⟨rfl, _, _⟩ | ⟨g', cur, rfl, hB, _⟩
  · cases hg
  · cases hg; exact hB
theorem grown_row {w w1 w2 : World} {g : Nat} {row : Option Nat} (h : w.grownBy w1 (some g)) (k : w1.grownBy w2 row) (hr : ∀ b, row = some b → w.heap.size ≤ b) : w.grownBy w2 (some g) :=
  ⟨k.os.trans h.os, k.tape.trans h.tape, k.output.trans h.output, Nat.le_trans h.size k.size, fun i hi hne => (k.block i (Nat.lt_of_lt_of_le hi h.size) (fun e => by have := hr i e.symm; omega)).trans (h.block i hi hne)⟩
theorem Own.gk {B : Nat} {w w' : World} {a : Option Addr} {c g : Nat} {ys : List Int} (h : Own B w a c ys) (hg : w.grownBy w' (some g)) (hB : g < B) : Own B w' a c ys :=
  h.keep hg (fun b hb e => by have := own_blk_ge h b hb; cases e; omega)
end Go.Proofs.Ytpoabedlcljibaa

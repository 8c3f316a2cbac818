/- Merged texts. -/
import Derived.Test.YtdjifjlgllohmaaDoorYDS15
import Derived.Test.YtdjifjlgllohmaaDoorYDS11
/- Mathematics: expansions by Jacobi data. Horner's list is the only one whose sum is the polynomial, and subtracting the leading polynomials one by one finds it. No program. -/
namespace Go.Proofs.YtdjifjlgllohmaaDoor
open Go.RowKit
set_option linter.unusedVariables false
set_option linter.unusedSimpArgs false

theorem xv_self (p a : Int) : p ∣ a - a := by rw [Int.sub_self]; exact Int.dvd_zero p
theorem xv_of {p a b : Int} (h : a % p = b % p) : p ∣ a - b := Int.dvd_of_emod_eq_zero (Int.emod_eq_emod_iff_emod_sub_eq_zero.1 h)
theorem xv_to {p a b : Int} (h : p ∣ a - b) : a % p = b % p := Int.emod_eq_emod_iff_emod_sub_eq_zero.2 (Int.emod_eq_zero_of_dvd h)
theorem xv_mod (p a : Int) : p ∣ a % p - a := xv_of (Int.emod_emod _ _)
theorem xv_trans {p a b c : Int} (h : p ∣ a - b) (k : p ∣ b - c) : p ∣ a - c := by
  obtain ⟨x, hx⟩ := h
  obtain ⟨y, hy⟩ := k
  exact ⟨x + y, by grind⟩
theorem xv_symm {p a b : Int} (h : p ∣ a - b) : p ∣ b - a := by
  obtain ⟨x, hx⟩ := h
  exact ⟨-x, by grind⟩
theorem xv_add {p a b c d : Int} (h : p ∣ a - b) (k : p ∣ c - d) : p ∣ (a + c) - (b + d) := by
  obtain ⟨x, hx⟩ := h
  obtain ⟨y, hy⟩ := k
  exact ⟨x + y, by grind⟩
theorem xv_mul {p a b c d : Int} (h : p ∣ a - b) (k : p ∣ c - d) : p ∣ a * c - b * d := by
  obtain ⟨x, hx⟩ := h
  obtain ⟨y, hy⟩ := k
  exact ⟨x * c + b * y, by grind⟩
theorem xv_sm {p : Int} {n : Nat} {f g : Nat → Int} (h : ∀ k, k < n → p ∣ f k - g k) : p ∣ sm n f - sm n g := by
  induction n with
  | zero => exact xv_self p 0
  | succ n ih => exact xv_add (ih fun k hk => h k (by omega)) (h n (by omega))
theorem xv_eq {p a b : Int} (h : p ∣ a - b) (a0 : 0 ≤ a) (a1 : a < p) (b0 : 0 ≤ b) (b1 : b < p) : a = b := by
  have := xv_to h
  rwa [Int.emod_eq_of_lt a0 a1, Int.emod_eq_of_lt b0 b1] at this
theorem sm_nul (f : Nat → Int) : ∀ n, (∀ k, k < n → f k = 0) → sm n f = 0 := by
  intro n
  induction n with
  | zero => intro _; rfl
  | succ n ih => intro h; rw [sm, ih (fun k hk => h k (by omega)), h n (by omega)]; rfl
/-- Times x, coefficient by coefficient. -/
def shF (F : Nat → Int) (j : Nat) : Int := if j = 0 then 0 else F (j - 1)
/-- The polynomials P(k - 1) and P(k) over all whole numbers. -/
def qJ (A B : Nat → Int) : Nat → (Nat → Int) × (Nat → Int)
  | 0 => (fun _ => 0, fun j => if j = 0 then 1 else 0)
  | k + 1 => ((qJ A B k).2, fun j => shF (qJ A B k).2 j - A k * (qJ A B k).2 j - B k * (qJ A B k).1 j)
theorem qJ_top (A B : Nat → Int) : ∀ k, (qJ A B k).2 k = 1 ∧ (∀ j, k < j → (qJ A B k).2 j = 0) ∧ (∀ j, k ≤ j → (qJ A B k).1 j = 0) := by
  intro k
  induction k with
  | zero => exact ⟨rfl, fun j hj => if_neg (by omega), fun _ _ => rfl⟩
  | succ k ih =>
    obtain ⟨h1, h2, h3⟩ := ih
    refine ⟨?_, fun j hj => ?_, fun j hj => h2 j (by omega)⟩
    · show shF (qJ A B k).2 (k + 1) - A k * (qJ A B k).2 (k + 1) - B k * (qJ A B k).1 (k + 1) = 1
      rw [h2 _ (by omega), h3 _ (by omega)]
      unfold shF
      rw [if_neg (by omega), Nat.add_sub_cancel, h1]
      simp
    · show shF (qJ A B k).2 j - A k * (qJ A B k).2 j - B k * (qJ A B k).1 j = 0
      rw [h2 _ (by omega), h3 _ (by omega)]
      unfold shF
      rw [if_neg (by omega), h2 _ (by omega)]
      simp
/-- The numbers of polynomials of data are those of qJ, modulo p. -/
theorem stp_q {p : Int} (hp : 2 ≤ p) (a b : Int) {f g : List Int} {F G : Nat → Int} (hf : ∀ j, p ∣ cf f j - F j) (hg : ∀ j, p ∣ cf g j - G j) (j : Nat) : p ∣ cf (stp p a b f g) j - (shF F j - a * F j - b * G j) := by
  have hb : p ∣ opp p b - (-b) := xv_of (by rw [← opp_neg, Int.emod_emod])
  have ha : p ∣ opp p a - (-a) := xv_of (by rw [← opp_neg, Int.emod_emod])
  unfold stp
  rw [cf_add hp (mulM_areB hp _ _)]
  refine xv_trans (xv_mod p _) ?_
  have hl : p ∣ cf (mulM p (linM p a) f) j - (shF F j - a * F j) := by
    rw [mulM_cf hp]
    refine xv_trans (xv_mod p _) ?_
    cases j with
    | zero =>
      show p ∣ sm 1 (fun i => cf (linM p a) i * cf f (0 - i)) - (0 - a * F 0)
      simp only [sm, Nat.sub_zero]
      rw [Int.zero_add]
      have h := xv_mul ha (hf 0)
      rw [show (0 : Int) - a * F 0 = -a * F 0 by grind]
      exact h
    | succ j =>
      show p ∣ sm (j + 1 + 1) (fun i => cf (linM p a) i * cf f (j + 1 - i)) - (F j - a * F (j + 1))
      rw [sm_head, sm_head, sm_nul _ j (fun k _ => by
        have : cf (linM p a) (k + 1 + 1) = 0 := cf_far (by simp [linM])
        rw [this, Int.zero_mul])]
      have e1 : cf (linM p a) 0 = opp p a := rfl
      have e2 : cf (linM p a) (0 + 1) = 1 := rfl
      rw [e1, e2]
      simp only [Nat.sub_zero, Nat.zero_add, Nat.add_sub_cancel]
      have h1 := xv_mul ha (hf (j + 1))
      have h2 := hf j
      obtain ⟨x, hx⟩ := h1
      obtain ⟨y, hy⟩ := h2
      exact ⟨x + y, by grind⟩
  have h2 := xv_mul hb (hg j)
  obtain ⟨x, hx⟩ := hl
  obtain ⟨y, hy⟩ := h2
  exact ⟨x + y, by grind⟩
theorem rcP_q {p : Int} (hp : 2 ≤ p) (xs ys : List Int) : ∀ k j, p ∣ cf (rcP p xs ys 0 [] [1] k).1 j - (qJ (cf xs) (cf ys) k).1 j ∧ p ∣ cf (rcP p xs ys 0 [] [1] k).2 j - (qJ (cf xs) (cf ys) k).2 j := by
  intro k
  induction k with
  | zero =>
    intro j
    refine ⟨xv_self p 0, ?_⟩
    have : cf [1] j = if j = 0 then 1 else 0 := by
      cases j with
      | zero => rfl
      | succ j => rw [if_neg (by omega)]; exact cf_far (by simp)
    show p ∣ cf [1] j - (if j = 0 then 1 else 0)
    rw [this]
    exact xv_self p _
  | succ k ih =>
    intro j
    refine ⟨(ih j).2, ?_⟩
    have := stp_q hp (xs.getD (0 + k) 0) (ys.getD (0 + k) 0) (fun j => (ih j).2) (fun j => (ih j).1) j
    rw [Nat.zero_add] at this
    rw [rcP_succ, Nat.zero_add]
    exact this
theorem polJ_q {p : Int} (hp : 2 ≤ p) (xs ys : List Int) (k j : Nat) : p ∣ cf (polJ p xs ys k) j - (qJ (cf xs) (cf ys) k).2 j := (rcP_q hp xs ys k j).2
/-- The sum of the first n numbers times P(0), P(1), .. -/
def ES (A B : Nat → Int) (c : Nat → Int) (n j : Nat) : Int := sm n (fun k => c k * (qJ A B k).2 j)
theorem ES_far (A B c : Nat → Int) (n j : Nat) (h : n ≤ j) : ES A B c n j = 0 := sm_nul _ n (fun k hk => by rw [(qJ_top A B k).2.1 j (by omega), Int.mul_zero])
theorem ES_top (A B c : Nat → Int) (k : Nat) : ES A B c (k + 1) k = c k := by
  show ES A B c k k + c k * (qJ A B k).2 k = c k
  rw [ES_far _ _ _ _ _ (Nat.le_refl _), (qJ_top A B k).1]
  omega
theorem ES_mod {p : Int} (A B : Nat → Int) {c d : Nat → Int} {n : Nat} (h : ∀ i, i < n → p ∣ c i - d i) (j : Nat) : p ∣ ES A B c n j - ES A B d n j :=
  xv_sm fun k hk => xv_mul (h k hk) (xv_self p _)
/-- The product by x of a list. -/
def tmx (A B c : Nat → Int) (i : Nat) : Int := shF c i + A i * c i + B (i + 1) * c (i + 1)
theorem ES_tmx (A B c : Nat → Int) (n : Nat) (hc : ∀ i, n ≤ i → c i = 0) (j : Nat) : ES A B (tmx A B c) (n + 1) j = shF (ES A B c n) j := by
  have e1 : sm (n + 1) (fun k => shF c k * (qJ A B k).2 j) = sm n (fun k => c k * (qJ A B (k + 1)).2 j) := by
    rw [sm_head]
    have : shF c 0 * (qJ A B 0).2 j = 0 := by unfold shF; simp
    rw [this, Int.zero_add]
    apply sm_congr
    intro k _
    unfold shF
    rw [if_neg (by omega), Nat.add_sub_cancel]
  have e2 : sm (n + 1) (fun k => A k * c k * (qJ A B k).2 j) = sm n (fun k => A k * c k * (qJ A B k).2 j) := by
    rw [sm, hc n (Nat.le_refl _)]
    simp
  have e3 : sm (n + 1) (fun k => B (k + 1) * c (k + 1) * (qJ A B k).2 j) = sm n (fun k => B k * c k * (qJ A B k).1 j) := by
    have h : sm (n + 2) (fun k => B k * c k * (qJ A B k).1 j) = sm n (fun k => B k * c k * (qJ A B k).1 j) :=
      sm_ext _ n (n + 2) (by omega) (fun k h1 _ => by rw [hc k h1]; simp)
    have this : B 0 * c 0 * (qJ A B 0).1 j = 0 := by show B 0 * c 0 * 0 = 0; simp
    rw [← h, sm_head (n + 1) (fun k => B k * c k * (qJ A B k).1 j), this, Int.zero_add]
    rfl
  have e0 : ES A B (tmx A B c) (n + 1) j = sm (n + 1) (fun k => shF c k * (qJ A B k).2 j) + sm (n + 1) (fun k => A k * c k * (qJ A B k).2 j) + sm (n + 1) (fun k => B (k + 1) * c (k + 1) * (qJ A B k).2 j) := by
    unfold ES
    rw [← sm_add, ← sm_add]
    apply sm_congr
    intro k _
    unfold tmx
    grind
  rw [e0, e1, e2, e3, ← sm_add, ← sm_add]
  have e4 : sm n (fun k => c k * (qJ A B (k + 1)).2 j + A k * c k * (qJ A B k).2 j + B k * c k * (qJ A B k).1 j) = sm n (fun k => c k * shF (qJ A B k).2 j) := by
    apply sm_congr
    intro k _
    have : (qJ A B (k + 1)).2 j = shF (qJ A B k).2 j - A k * (qJ A B k).2 j - B k * (qJ A B k).1 j := rfl
    rw [this]
    grind
  rw [e4]
  unfold shF ES
  split
  · simp [sm_nul]
  · rfl
/-- Numbers behind the degree are 0. -/
theorem ES_low {p : Int} (A B c : Nat → Int) (hc : ∀ i, 0 ≤ c i ∧ c i < p) (F : Nat → Int) (t : Nat) (hF : ∀ j, t ≤ j → F j = 0) : ∀ k, t ≤ k → (∀ j, p ∣ ES A B c k j - F j) → (∀ i, t ≤ i → i < k → c i = 0) ∧ (∀ j, p ∣ ES A B c t j - F j) := by
  intro k
  induction k with
  | zero => intro h1 h2; exact ⟨fun i _ hi => absurd hi (by omega), by rw [show t = 0 by omega]; exact h2⟩
  | succ k ih =>
    intro h1 h2
    by_cases h : t = k + 1
    · subst h
      exact ⟨fun i q1 q2 => absurd q1 (by omega), h2⟩
    · have h3 := h2 k
      rw [ES_top, hF k (by omega)] at h3
      have hp := hc k
      have h4 : c k = 0 := xv_eq h3 hp.1 hp.2 (Int.le_refl _) (by omega)
      obtain ⟨q1, q2⟩ := ih (by omega) (fun j => by
        have := h2 j
        rwa [show ES A B c (k + 1) j = ES A B c k j + c k * (qJ A B k).2 j from rfl, h4, Int.zero_mul, Int.add_zero] at this)
      refine ⟨fun i a b => ?_, q2⟩
      by_cases e : i = k
      · rw [e, h4]
      · exact q1 i a (by omega)
/-- The product by x of a list of numbers, with one number more. -/
def tmxL (p : Int) (xs ys c : List Int) : List Int := tab (c.length + 1) (fun i => tmx (cf xs) (cf ys) (cf c) i % p)
theorem tmxL_len (p : Int) (xs ys c : List Int) : (tmxL p xs ys c).length = c.length + 1 := tab_len _ _
theorem tmxL_are {p : Int} (hp : 2 ≤ p) (xs ys c : List Int) : areB p (tmxL p xs ys c) = true := areB_mk fun j hj => by
  rw [tmxL_len] at hj
  unfold tmxL
  rw [tab_at _ _ _ hj]
  exact modb hp
/-- Horner's list behind the greatest k numbers of f. -/
def addZ (p : Int) (l : List Int) (v : Int) : List Int := l.set 0 ((l.getD 0 0 + v) % p)
def hexL (p : Int) (xs ys f : List Int) : Nat → List Int
  | 0 => []
  | k + 1 => addZ p (tmxL p xs ys (hexL p xs ys f k)) (f.getD (f.length - 1 - k) 0)
def expL (p : Int) (xs ys f : List Int) : List Int := hexL p xs ys f f.length
theorem hexL_len (p : Int) (xs ys f : List Int) (k : Nat) : (hexL p xs ys f k).length = k := by
  induction k with
  | zero => rfl
  | succ k ih => show (addZ p _ _).length = k + 1; unfold addZ; rw [List.length_set, tmxL_len, ih]
theorem addZ_cf (p : Int) (l : List Int) (v : Int) (j : Nat) (h : 0 < l.length) : cf (addZ p l v) j = if j = 0 then (cf l 0 + v) % p else cf l j := by
  unfold addZ cf
  simp only [List.getD_eq_getElem?_getD, List.getElem?_set]
  by_cases e : j = 0
  · subst e; simp [h]
  · rw [if_neg (fun h => e h.symm), if_neg e]
theorem areB_cf {p : Int} {f : List Int} (hp : 2 ≤ p) (h : ∀ j, 0 ≤ cf f j ∧ cf f j < p) : areB p f = true := areB_mk fun j _ => h j
theorem hexL_are {p : Int} (hp : 2 ≤ p) (xs ys f : List Int) (k : Nat) : areB p (hexL p xs ys f k) = true := by
  cases k with
  | zero => rfl
  | succ k =>
    refine areB_cf hp fun j => ?_
    show 0 ≤ cf (addZ p (tmxL p xs ys (hexL p xs ys f k)) (f.getD (f.length - 1 - k) 0)) j ∧ _
    rw [show cf (hexL p xs ys f (k + 1)) j = cf (addZ p (tmxL p xs ys (hexL p xs ys f k)) (f.getD (f.length - 1 - k) 0)) j from rfl, addZ_cf _ _ _ _ (by rw [tmxL_len]; omega)]
    split
    · exact modb hp
    · exact cf_rng hp (tmxL_are hp _ _ _) j
theorem hexL_sum {p : Int} (hp : 2 ≤ p) (xs ys f : List Int) : ∀ k, k ≤ f.length → ∀ j, p ∣ ES (cf xs) (cf ys) (cf (hexL p xs ys f k)) k j - cf f (f.length - k + j) := by
  intro k
  induction k with
  | zero => intro _ j; rw [cf_far (f := f) (by omega)]; exact xv_self p 0
  | succ k ih =>
    intro hk j
    have hl := hexL_len p xs ys f k
    have hA := cf_rng hp (hexL_are hp xs ys f k)
    have e1 : p ∣ ES (cf xs) (cf ys) (cf (hexL p xs ys f (k + 1))) (k + 1) j - (ES (cf xs) (cf ys) (tmx (cf xs) (cf ys) (cf (hexL p xs ys f k))) (k + 1) j + cf f (f.length - 1 - k) * (qJ (cf xs) (cf ys) 0).2 j) := by
      have e2 : ES (cf xs) (cf ys) (tmx (cf xs) (cf ys) (cf (hexL p xs ys f k))) (k + 1) j + cf f (f.length - 1 - k) * (qJ (cf xs) (cf ys) 0).2 j = ES (cf xs) (cf ys) (fun i => tmx (cf xs) (cf ys) (cf (hexL p xs ys f k)) i + if i = 0 then cf f (f.length - 1 - k) else 0) (k + 1) j := by
        unfold ES
        rw [sm_head, sm_head k (fun i => (tmx (cf xs) (cf ys) (cf (hexL p xs ys f k)) i + if i = 0 then cf f (f.length - 1 - k) else 0) * (qJ (cf xs) (cf ys) i).2 j)]
        have e3 : sm k (fun i => (tmx (cf xs) (cf ys) (cf (hexL p xs ys f k)) (i + 1) + if i + 1 = 0 then cf f (f.length - 1 - k) else 0) * (qJ (cf xs) (cf ys) (i + 1)).2 j) = sm k (fun i => tmx (cf xs) (cf ys) (cf (hexL p xs ys f k)) (i + 1) * (qJ (cf xs) (cf ys) (i + 1)).2 j) := by
          apply sm_congr
          intro i _
          rw [if_neg (by omega), Int.add_zero]
        rw [e3, if_pos rfl]
        grind
      rw [e2]
      refine ES_mod _ _ (fun i hi => ?_) j
      rw [show cf (hexL p xs ys f (k + 1)) i = cf (addZ p (tmxL p xs ys (hexL p xs ys f k)) (f.getD (f.length - 1 - k) 0)) i from rfl, addZ_cf _ _ _ _ (by rw [tmxL_len]; omega)]
      have e4 : ∀ i, i < k + 1 → cf (tmxL p xs ys (hexL p xs ys f k)) i = tmx (cf xs) (cf ys) (cf (hexL p xs ys f k)) i % p := fun i hi => by
        unfold tmxL
        show (tab _ _).getD i 0 = _
        rw [tab_at _ _ _ (by rw [hl]; exact hi)]
      by_cases e : i = 0
      · rw [if_pos e, if_pos e, e, e4 0 (by omega)]
        refine xv_trans (xv_mod p _) ?_
        exact xv_add (xv_mod p _) (xv_self p _)
      · rw [if_neg e, if_neg e, e4 i hi, Int.add_zero]
        exact xv_mod p _
    rw [ES_tmx _ _ _ k (fun i hi => cf_far (by omega))] at e1
    refine xv_trans e1 ?_
    cases j with
    | zero =>
      show p ∣ 0 + cf f (f.length - 1 - k) * 1 - cf f (f.length - (k + 1) + 0)
      rw [show f.length - (k + 1) + 0 = f.length - 1 - k by omega, Int.mul_one, Int.zero_add]
      exact xv_self p _
    | succ j =>
      show p ∣ ES (cf xs) (cf ys) (cf (hexL p xs ys f k)) k (j + 1 - 1) + cf f (f.length - 1 - k) * (if j + 1 = 0 then 1 else 0) - cf f (f.length - (k + 1) + (j + 1))
      rw [if_neg (by omega), Int.mul_zero, Int.add_zero, Nat.add_sub_cancel, show f.length - (k + 1) + (j + 1) = f.length - k + j by omega]
      exact ih (by omega) j
theorem expL_len (p : Int) (xs ys f : List Int) : (expL p xs ys f).length = f.length := hexL_len _ _ _ _ _
theorem expL_are {p : Int} (hp : 2 ≤ p) (xs ys f : List Int) : areB p (expL p xs ys f) = true := hexL_are hp _ _ _ _
theorem expL_sum {p : Int} (hp : 2 ≤ p) (xs ys f : List Int) (j : Nat) : p ∣ ES (cf xs) (cf ys) (cf (expL p xs ys f)) f.length j - cf f j := by
  have := hexL_sum hp xs ys f f.length (Nat.le_refl _) j
  rwa [Nat.sub_self, Nat.zero_add] at this
/-- What stands where the leading polynomials down from that of t are taken off: g, the expansion being C. -/
structure ExM (p : Int) (xs ys : List Int) (C g : List Int) : Prop where
  ok : polyB p g = true
  le : g.length ≤ C.length
  sm : ∀ j, p ∣ ES (cf xs) (cf ys) (cf C) g.length j - cf g j
def exT (C : List Int) (t : Nat) : List Int := tab C.length (fun i => if i < t then 0 else C.getD i 0)
theorem ExM.start {p : Int} (hp : 2 ≤ p) (xs ys f : List Int) (hf : polyB p f = true) : ExM p xs ys (expL p xs ys f) f :=
  ⟨hf, by rw [expL_len]; exact Nat.le_refl _, expL_sum hp xs ys f⟩
theorem exT_all (C : List Int) : exT C 0 = C := by
  unfold exT
  conv => rhs; rw [tab_of C _ rfl]
  exact tab_congr fun i _ => if_neg (by omega)
theorem exT_none (C : List Int) : exT C C.length = List.replicate C.length 0 := by
  apply ext_tab
  · unfold exT; rw [tab_len, List.length_replicate]
  · intro j hj
    unfold exT at hj ⊢
    rw [tab_len] at hj
    rw [tab_at _ _ _ hj, if_pos hj, List.getD_eq_getElem?_getD, List.getElem?_replicate, if_pos hj]
    rfl
theorem ExM.step {p : Int} (hp : 2 ≤ p) {xs ys C g : List Int} (hC : areB p C = true) (h : ExM p xs ys C g) {k : Nat} (hk : g.length = k + 1) (h24 : k ≤ 23) :
    ExM p xs ys C (addM p g (polJ p xs ys k) ((-(g.getD k 0)) % p)) ∧ (addM p g (polJ p xs ys k) ((-(g.getD k 0)) % p)).length ≤ k ∧ (exT C (k + 1)).set k (g.getD k 0) = exT C (addM p g (polJ p xs ys k) ((-(g.getD k 0)) % p)).length := by
  obtain ⟨ok, le, hs⟩ := h
  have hA := (polyB_rng ok).2.1
  have hP := polJ_small hp xs ys k (by omega)
  have rC := cf_rng hp hC
  have rg := cf_rng hp hA
  have top : g.getD k 0 = C.getD k 0 := by
    have h1 := hs k
    rw [hk, ES_top] at h1
    exact (xv_eq h1 (rC k).1 (rC k).2 (rg k).1 (rg k).2).symm
  obtain ⟨g', hg'⟩ : ∃ g', addM p g (polJ p xs ys k) ((-(g.getD k 0)) % p) = g' := ⟨_, rfl⟩
  have e : ∀ j, p ∣ cf g' j - (cf g j - cf g k * (qJ (cf xs) (cf ys) k).2 j) := fun j => by
    rw [← hg', cf_add hp hA]
    refine xv_trans (xv_mod p _) ?_
    have h1 := xv_mul (xv_mod p (-(g.getD k 0))) (polJ_q hp xs ys k j)
    obtain ⟨x, hx⟩ := h1
    refine ⟨x, ?_⟩
    unfold cf at hx ⊢
    grind
  have ok' : polyB p g' = true := by rw [← hg']; exact addM_poly hp (by omega) (by have := hP.2; omega) hA
  have up : g'.length ≤ max g.length (polJ p xs ys k).length := by rw [← hg']; exact addM_up
  have r' := cf_rng hp (polyB_rng ok').2.1
  have l' : g'.length ≤ k := by
    have h2 := hP.2
    by_cases q : g'.length ≤ k
    · exact q
    · exfalso
      have q2 : g'.length = k + 1 := by omega
      have h3 := e k
      rw [(qJ_top _ _ k).1, Int.mul_one, Int.sub_self] at h3
      have h4 := xv_eq h3 (r' k).1 (r' k).2 (Int.le_refl _) (by omega)
      rcases (polyB_rng ok').2.2 with h5 | h5
      · rw [h5] at q2; simp at q2
      · rw [q2, Nat.add_sub_cancel] at h5; exact h5 h4
  have s' : ∀ j, p ∣ ES (cf xs) (cf ys) (cf C) k j - cf g' j := fun j => by
    have h1 := hs j
    rw [hk, show ES (cf xs) (cf ys) (cf C) (k + 1) j = ES (cf xs) (cf ys) (cf C) k j + cf C k * (qJ (cf xs) (cf ys) k).2 j from rfl] at h1
    have h2 := e j
    rw [show cf g k = cf C k from top] at h2
    obtain ⟨x, hx⟩ := h1
    obtain ⟨y, hy⟩ := h2
    exact ⟨x - y, by grind⟩
  obtain ⟨z1, z2⟩ := ES_low (cf xs) (cf ys) (cf C) rC (cf g') g'.length (fun j hj => cf_far hj) k l' s'
  rw [hg']
  refine ⟨⟨ok', by omega, z2⟩, l', ?_⟩
  apply ext_tab
  · unfold exT; rw [List.length_set, tab_len, tab_len]
  · intro j hj
    unfold exT at hj ⊢
    rw [List.length_set, tab_len] at hj
    rw [tab_at _ _ _ hj]
    simp only [List.getD_eq_getElem?_getD, List.getElem?_set]
    by_cases q : k = j
    · subst q
      rw [if_pos rfl, tab_len, if_pos hj, if_neg (by omega)]
      have := top
      simp only [List.getD_eq_getElem?_getD] at this
      simpa using this
    · rw [if_neg q, ← List.getD_eq_getElem?_getD, tab_at _ _ _ hj]
      by_cases q2 : j < k + 1
      · rw [if_pos q2]
        by_cases q3 : j < g'.length
        · rw [if_pos q3]
        · rw [if_neg q3]
          exact (z1 j (by omega) (by omega)).symm
      · rw [if_neg q2, if_neg (by omega)]
end Go.Proofs.YtdjifjlgllohmaaDoor
/- Mathematics: a determinant found by elimination is 0 exactly if the matrix sends a vector other than 0 to 0. -/
namespace Go.Proofs.YtdjifjlgllohmaaDoor
set_option linter.unusedVariables false
set_option linter.unusedSimpArgs false

theorem dvO {p a b : Int} (h : p ∣ a - b) : ∃ k, a = b + p * k := by
  obtain ⟨k, hk⟩ := h
  exact ⟨k, by omega⟩
theorem prime_dvO {p a b : Int} (hP : primeB p = true) (h : p ∣ a * b) : p ∣ a ∨ p ∣ b := by
  have hp := (primeB_lo hP).1
  by_cases ha : a % p = 0
  · exact .inl (Int.dvd_of_emod_eq_zero ha)
  · right
    have h1 := modb (p := p) (x := a) hp
    have h2 : a % p * b % p = 0 := by rw [Int.mul_emod, Int.emod_emod, ← Int.mul_emod]; exact Int.emod_eq_zero_of_dvd h
    exact Int.dvd_of_emod_eq_zero (cancel hP (by omega) h1.2 h2)
/-- Row i of a matrix times a vector. -/
def rwS (X : Nat → List Int) (n : Nat) (v : Nat → Int) (i : Nat) : Int := sm n (fun j => (X i).getD j 0 * v j)
def KerV (p : Int) (n : Nat) (X : Nat → List Int) (v : Nat → Int) : Prop := ∀ i, i < n → p ∣ rwS X n v i
def HasKer (p : Int) (n : Nat) (X : Nat → List Int) : Prop := ∃ v, KerV p n X v ∧ ∃ j, j < n ∧ ¬ p ∣ v j
def InR (p : Int) (n : Nat) (X : Nat → List Int) : Prop := ∀ i, i < n → ∀ j, 0 ≤ (X i).getD j 0 ∧ (X i).getD j 0 < p
/-- The first k columns are done: 0 below the diagonal, other numbers on it. -/
def Ech (n k : Nat) (X : Nat → List Int) : Prop := (∀ i, i < n → ∀ j, j < k → j < i → (X i).getD j 0 = 0) ∧ ∀ i, i < k → (X i).getD i 0 ≠ 0

theorem swapR_at (X : Nat → List Int) (a b i : Nat) : swapR X a b i = X (if i = a then b else if i = b then a else i) := by
  unfold swapR; split
  · rfl
  · split <;> rfl
theorem ker_swap {p : Int} {n a b : Nat} {X : Nat → List Int} {v : Nat → Int} (ha : a < n) (hb : b < n) : KerV p n (swapR X a b) v ↔ KerV p n X v := by
  have e : ∀ i, rwS (swapR X a b) n v i = rwS X n v (if i = a then b else if i = b then a else i) := fun i => by
    unfold rwS; rw [swapR_at]
  constructor
  · intro h i hi
    have := h (if i = a then b else if i = b then a else i) (by split; omega; split <;> omega)
    rw [e] at this
    have e2 : (if (if i = a then b else if i = b then a else i) = a then b else if (if i = a then b else if i = b then a else i) = b then a else (if i = a then b else if i = b then a else i)) = i := by
      by_cases h1 : i = a
      · subst h1; simp
      · by_cases h2 : i = b
        · subst h2; simp [h1]
        · simp [h1, h2]
    rwa [e2] at this
  · intro h i hi
    rw [e]
    exact h _ (by split; omega; split <;> omega)
theorem elim_at (p : Int) (own row : List Int) (k n j : Nat) (hj : j < n) : (elimR p own row k n).getD j 0 = (row.getD j 0 - row.getD k 0 * invM p (own.getD k 0) % p * own.getD j 0) % p := by
  unfold elimR; rw [tab_at _ _ _ hj]
theorem elim_far (p : Int) (own row : List Int) (k n j : Nat) (hj : n ≤ j) : (elimR p own row k n).getD j 0 = 0 := by
  have : (elimR p own row k n).length ≤ j := by unfold elimR; rw [tab_len]; exact hj
  simp [this]
theorem ker_step {p : Int} {n k : Nat} {X : Nat → List Int} {v : Nat → Int} (hk : k < n) : KerV p n (stepR p n k n X) v ↔ KerV p n X v := by
  have e : ∀ i, k < i → i < n → p ∣ rwS (stepR p n k n X) n v i - (rwS X n v i - (X i).getD k 0 * invM p ((X k).getD k 0) % p * rwS X n v k) := fun i h1 h2 => by
    have e1 : rwS X n v i - (X i).getD k 0 * invM p ((X k).getD k 0) % p * rwS X n v k = sm n (fun j => ((X i).getD j 0 - (X i).getD k 0 * invM p ((X k).getD k 0) % p * (X k).getD j 0) * v j) := by
      unfold rwS
      have : ∀ j, ((X i).getD j 0 - (X i).getD k 0 * invM p ((X k).getD k 0) % p * (X k).getD j 0) * v j = (X i).getD j 0 * v j + -1 * ((X i).getD k 0 * invM p ((X k).getD k 0) % p * ((X k).getD j 0 * v j)) := fun j => by grind
      rw [sm_congr (fun j _ => this j), sm_add, sm_mul n (-1), sm_mul, Int.neg_mul, Int.one_mul, Int.sub_eq_add_neg]
    rw [e1]
    unfold rwS
    refine xv_sm fun j hj => ?_
    have e2 : stepR p n k n X i = elimR p (X k) (X i) k n := if_pos ⟨h1, h2⟩
    rw [e2, elim_at _ _ _ _ _ _ hj]
    exact xv_mul (xv_mod _ _) (xv_self _ _)
  have e0 : ∀ i, ¬ k < i → rwS (stepR p n k n X) n v i = rwS X n v i := fun i h => by
    unfold rwS
    have : stepR p n k n X i = X i := if_neg (fun h' => h h'.1)
    rw [this]
  constructor
  · intro h i hi
    by_cases hki : k < i
    · have hk0 : p ∣ rwS X n v k := by have := h k hk; rwa [e0 k (by omega)] at this
      have h1 := e i hki hi
      have h2 := h i hi
      have h3 : p ∣ (X i).getD k 0 * invM p ((X k).getD k 0) % p * rwS X n v k := Int.dvd_mul_of_dvd_right hk0
      have h4 := (Int.dvd_add (Int.dvd_sub h2 h1) h3)
      have h5 : rwS (stepR p n k n X) n v i - (rwS (stepR p n k n X) n v i - (rwS X n v i - (X i).getD k 0 * invM p ((X k).getD k 0) % p * rwS X n v k)) + (X i).getD k 0 * invM p ((X k).getD k 0) % p * rwS X n v k = rwS X n v i := by omega
      rwa [h5] at h4
    · have := h i hi
      rwa [e0 i hki] at this
  · intro h i hi
    by_cases hki : k < i
    · have h1 := e i hki hi
      have h3 : p ∣ (X i).getD k 0 * invM p ((X k).getD k 0) % p * rwS X n v k := Int.dvd_mul_of_dvd_right (h k hk)
      have h4 := Int.dvd_add h1 (Int.dvd_sub (h i hi) h3)
      have h5 : rwS (stepR p n k n X) n v i - (rwS X n v i - (X i).getD k 0 * invM p ((X k).getD k 0) % p * rwS X n v k) + (rwS X n v i - (X i).getD k 0 * invM p ((X k).getD k 0) % p * rwS X n v k) = rwS (stepR p n k n X) n v i := by omega
      rwa [h5] at h4
    · rw [e0 i hki]
      exact h i hi
/-- A row of which all numbers ahead of k are 0, and all numbers of the vector behind k: what is left is the number at k. -/
theorem sm_pick (f : Nat → Int) (n k : Nat) (hk : k < n) (h : ∀ j, j < n → j ≠ k → f j = 0) : sm n f = f k := by
  have : sm n f = sm n (fun j => if j = k then f j else 0) := sm_congr fun j hj => by
    by_cases e : j = k
    · rw [if_pos e]
    · rw [if_neg e, h j hj e]
  rw [this, sm_one _ k n (fun j hj => if_neg hj), if_pos hk, if_pos rfl]
theorem inr_swap {p : Int} {n a b : Nat} {X : Nat → List Int} (h : InR p n X) (ha : a < n) (hb : b < n) : InR p n (swapR X a b) := fun i hi j => by
  rw [swapR_at]
  exact h _ (by split; omega; split <;> omega) j
theorem inr_step {p : Int} (hp : 2 ≤ p) {n k : Nat} {X : Nat → List Int} (h : InR p n X) : InR p n (stepR p n k n X) := fun i hi j => by
  unfold stepR
  split
  · by_cases hj : j < n
    · rw [elim_at _ _ _ _ _ _ hj]; exact modb hp
    · rw [elim_far _ _ _ _ _ _ (by omega)]; omega
  · exact h i hi j
theorem nz_dvd {p a : Int} (h0 : 0 ≤ a) (h1 : a < p) : p ∣ a ↔ a = 0 := by
  constructor
  · intro h
    have := Int.emod_eq_zero_of_dvd h
    rwa [Int.emod_eq_of_lt h0 h1] at this
  · intro h; rw [h]; exact Int.dvd_zero p
/-- An upper system can be solved from below. -/
theorem up_solve {p : Int} (hp : primeB p = true) {n k : Nat} {X : Nat → List Int} (hR : InR p n X) (hE : Ech n k X) (hk : k ≤ n) (u : Nat → Int) :
    ∀ t, t ≤ k → ∃ v, (∀ j, k ≤ j → v j = u j) ∧ ∀ i, k - t ≤ i → i < k → p ∣ rwS X n v i := by
  intro t
  induction t with
  | zero => intro _; exact ⟨u, fun _ _ => rfl, fun i h1 h2 => by omega⟩
  | succ t ih =>
    intro ht
    obtain ⟨v, h1, h2⟩ := ih (by omega)
    have hi : k - (t + 1) < k := by omega
    obtain ⟨r, hr⟩ : ∃ r, k - (t + 1) = r := ⟨_, rfl⟩
    rw [hr] at hi
    have hd := hE.2 r hi
    have hrng := hR r (by omega) r
    have hinv := invM_mul hp (x := (X r).getD r 0) (by omega) hrng.2
    -- the number at r is turned so that row r is 0
    obtain ⟨D, hD⟩ : ∃ D, rwS X n v r = D := ⟨_, rfl⟩
    have upd : ∀ (c : Int) (i : Nat), rwS X n (fun j => v j + if j = r then c else 0) i = rwS X n v i + (X i).getD r 0 * c := fun c i => by
      unfold rwS
      have : ∀ j, (X i).getD j 0 * (v j + if j = r then c else 0) = (X i).getD j 0 * v j + (if j = r then (X i).getD r 0 * c else 0) := fun j => by
        by_cases e : j = r
        · subst e; simp; grind
        · simp [e]
      rw [sm_congr (fun j _ => this j), sm_add, sm_one _ r n (fun j hj => if_neg hj), if_pos (by omega), if_pos rfl]
    refine ⟨fun j => v j + if j = r then -(D * invM p ((X r).getD r 0)) else 0, fun j hj => ?_, fun i h3 h4 => ?_⟩
    · have : j ≠ r := by omega
      simp [this, h1 j hj]
    · rw [upd]
      by_cases e : i = r
      · subst e
        rw [hD]
        obtain ⟨q, hq⟩ : ∃ q, (X i).getD i 0 * invM p ((X i).getD i 0) = 1 + p * q := dvO (xv_of (by rw [hinv, Int.emod_eq_of_lt (by omega) (by have := (primeB_lo hp).1; omega)]))
        refine ⟨-(D * q), ?_⟩
        have : (X i).getD i 0 * -(D * invM p ((X i).getD i 0)) = -(D * ((X i).getD i 0 * invM p ((X i).getD i 0))) := by grind
        rw [this, hq]
        grind
      · have hz := hE.1 i (by omega) r (by omega) (by omega)
        rw [hz, Int.zero_mul, Int.add_zero]
        exact h2 i (by omega) h4
theorem up_zero {p : Int} (hp : primeB p = true) {n : Nat} {X : Nat → List Int} (hR : InR p n X) (hE : Ech n n X) {v : Nat → Int} (hK : KerV p n X v) : ∀ t, t ≤ n → ∀ j, n - t ≤ j → j < n → p ∣ v j := by
  intro t
  induction t with
  | zero => intro _ j h1 h2; omega
  | succ t ih =>
    intro ht j h1 h2
    by_cases e : n - t ≤ j
    · exact ih (by omega) j e h2
    have hj := hK j h2
    unfold rwS at hj
    have h3 : p ∣ sm n (fun i => (X j).getD i 0 * v i) - sm n (fun i => if i = j then (X j).getD j 0 * v j else 0) := xv_sm fun i hi => by
      by_cases e2 : i = j
      · subst e2; simp
      · rw [if_neg e2, Int.sub_zero]
        by_cases e3 : i < j
        · rw [hE.1 j h2 i (by omega) e3, Int.zero_mul]; exact Int.dvd_zero p
        · exact Int.dvd_mul_of_dvd_right (ih (by omega) i (by omega) hi)
    rw [sm_one _ j n (fun i hi => if_neg hi), if_pos h2, if_pos rfl] at h3
    have h4 : p ∣ (X j).getD j 0 * v j := by
      have := Int.dvd_sub hj h3
      have e5 : ∀ a b : Int, a - (a - b) = b := fun a b => by omega
      rwa [e5] at this
    rcases prime_dvO hp h4 with h | h
    · have hr := hR j h2 j
      exact absurd ((nz_dvd hr.1 hr.2).1 h) (hE.2 j h2)
    · exact h
theorem ech_next {p : Int} (hp : primeB p = true) {n k b : Nat} {X : Nat → List Int} (hR : InR p n X) (hE : Ech n k X) (hk : k < n) (hb : k ≤ b) (hb2 : b < n) (hnz : (X b).getD k 0 ≠ 0) : Ech n (k + 1) (stepR p n k n (swapR X k b)) := by
  have hR2 := inr_swap hR hk hb2
  have sk : swapR X k b k = X b := by rw [swapR_at, if_pos rfl]
  constructor
  · intro i hi j hj hji
    by_cases hki : k < i
    · have e : stepR p n k n (swapR X k b) i = elimR p (swapR X k b k) (swapR X k b i) k n := if_pos ⟨hki, hi⟩
      rw [e, elim_at _ _ _ _ _ _ (by omega), sk]
      by_cases hjk : j = k
      · subst hjk
        obtain ⟨a, ha⟩ : ∃ a, (swapR X j b i).getD j 0 = a := ⟨_, rfl⟩
        have hr := hR b hb2 j
        have hinv := invM_mul hp (x := (X b).getD j 0) (by omega) hr.2
        rw [ha]
        obtain ⟨q, hq⟩ := dvO (xv_of (b := 1) (by rw [hinv, Int.emod_eq_of_lt (by omega) (by have := (primeB_lo hp).1; omega)]) : p ∣ (X b).getD j 0 * invM p ((X b).getD j 0) - 1)
        obtain ⟨q2, hq2⟩ := dvO (xv_mod p (a * invM p ((X b).getD j 0)))
        refine Int.emod_eq_zero_of_dvd ⟨-(a * q) - q2 * (X b).getD j 0, ?_⟩
        rw [hq2]
        have : a - (a * invM p ((X b).getD j 0) + p * q2) * (X b).getD j 0 = a - a * ((X b).getD j 0 * invM p ((X b).getD j 0)) - p * (q2 * (X b).getD j 0) := by grind
        rw [this, hq]; grind
      · have z1 : (X b).getD j 0 = 0 := hE.1 b hb2 j (by omega) (by omega)
        have z2 : (swapR X k b i).getD j 0 = 0 := by
          rw [swapR_at]
          split
          · exact hE.1 b hb2 j (by omega) (by omega)
          · split
            · exact hE.1 k hk j (by omega) (by omega)
            · exact hE.1 i hi j (by omega) (by omega)
        rw [z1, z2]; simp
    · have e : stepR p n k n (swapR X k b) i = swapR X k b i := if_neg (fun h => hki h.1)
      rw [e, swapR_at]
      split
      · exact hE.1 b hb2 j (by omega) (by omega)
      · split
        · exact hE.1 k hk j (by omega) (by omega)
        · exact hE.1 i hi j (by omega) (by omega)
  · intro i hi
    have e : stepR p n k n (swapR X k b) i = swapR X k b i := if_neg (fun h => by omega)
    rw [e]
    by_cases hik : i = k
    · subst hik; rw [sk]; exact hnz
    · rw [swapR_at, if_neg hik, if_neg (by omega)]
      exact hE.2 i (by omega)
theorem detL_ker {p : Int} (hp : primeB p = true) {n : Nat} : ∀ f k (X : Nat → List Int) (r : Int), k + f = n → InR p n X → Ech n k X → 0 < r → r < p → (detL p n f k X r = 0 ↔ HasKer p n X) := by
  have hp2 := (primeB_lo hp).1
  intro f
  induction f with
  | zero =>
    intro k X r hk hR hE h0 h1
    have : k = n := by omega
    subst this
    constructor
    · intro h; unfold detL at h; omega
    · rintro ⟨v, hK, j, hj, hnz⟩
      exact absurd (up_zero hp hR hE hK k (Nat.le_refl _) j (by omega) hj) hnz
  | succ f ih =>
    intro k X r hk hR hE h0 h1
    have hpr := pivF_rng X k (n - k) k
    obtain ⟨b, hb⟩ : ∃ b, pivF X k (n - k) k = b := ⟨_, rfl⟩
    rw [hb] at hpr
    unfold detL
    rw [hb]
    by_cases hbn : b = n
    · rw [if_pos hbn]
      refine ⟨fun _ => ?_, fun _ => rfl⟩
      have hz : ∀ i, k ≤ i → i < n → (X i).getD k 0 = 0 := by
        -- no row from k on has another number at k
        intro i hi hin
        by_cases e : (X i).getD k 0 = 0
        · exact e
        · exfalso
          have : ∀ d, ∀ i, i = k + d → i < n → (∀ j, k ≤ j → j < i → (X j).getD k 0 = 0) → (X i).getD k 0 ≠ 0 → False := fun d i hid hin hj hnz => by
            have := pivF_stop X k (n - k) k d (by omega) (fun j h1 h2 => hj j h1 (by omega)) (by rw [← hid]; exact hnz)
            omega
          -- the first such row
          have key : ∀ d, (∃ i, i = k + d ∧ i < n ∧ (X i).getD k 0 ≠ 0) → False := by
            intro d
            induction d using Nat.strongRecOn with
            | ind d ih2 =>
              rintro ⟨i, hid, hin, hnz⟩
              refine this d i hid hin (fun j h1 h2 => ?_) hnz
              by_cases e : (X j).getD k 0 = 0
              · exact e
              · exact (ih2 (j - k) (by omega) ⟨j, by omega, by omega, e⟩).elim
          exact key (i - k) ⟨i, by omega, hin, e⟩
      obtain ⟨v, hv, hrow⟩ := up_solve hp hR hE (by omega) (fun j => if j = k then 1 else 0) k (Nat.le_refl _)
      refine ⟨v, fun i hi => ?_, k, by omega, ?_⟩
      · by_cases hik : i < k
        · exact hrow i (by omega) hik
        · have : rwS X n v i = 0 := sm_nul _ n fun j hj => by
            by_cases hjk : j < k
            · rw [hE.1 i hi j hjk (by omega), Int.zero_mul]
            · by_cases e : j = k
              · subst e; rw [hz i (by omega) hi, Int.zero_mul]
              · rw [hv j (by omega), if_neg e, Int.mul_zero]
          rw [this]; exact Int.dvd_zero p
      · rw [hv k (Nat.le_refl _), if_pos rfl]
        intro h
        have := Int.le_of_dvd (by omega) h
        omega
    · rw [if_neg hbn]
      have hb2 : b < n := by omega
      have hnz : (X b).getD k 0 ≠ 0 := by
        have := pivF_at X k (n - k) k (by omega)
        rwa [hb] at this
      have sk : swapR X k b k = X b := by rw [swapR_at, if_pos rfl]
      have hrb := hR b hb2 k
      have hs : 0 < sgn p r b k ∧ sgn p r b k < p := by
        unfold sgn
        split
        · exact ⟨h0, h1⟩
        · have := modb (p := p) (x := -r) hp2
          refine ⟨?_, this.2⟩
          by_cases e : (-r) % p = 0
          · have := (nz_dvd (by omega) h1).1 (by have := Int.dvd_of_emod_eq_zero e; exact (Int.dvd_neg).1 this)
            omega
          · omega
      have hpr2 : 0 < sgn p r b k * (swapR X k b k).getD k 0 % p ∧ sgn p r b k * (swapR X k b k).getD k 0 % p < p := by
        have := modb (p := p) (x := sgn p r b k * (swapR X k b k).getD k 0) hp2
        refine ⟨?_, this.2⟩
        by_cases e : sgn p r b k * (swapR X k b k).getD k 0 % p = 0
        · rcases prime_dvO hp (Int.dvd_of_emod_eq_zero e) with h | h
          · have := (nz_dvd (by omega) hs.2).1 h; omega
          · rw [sk] at h
            exact absurd ((nz_dvd hrb.1 hrb.2).1 h) hnz
        · omega
      rw [ih (k + 1) _ _ (by omega) (inr_step hp2 (inr_swap hR (by omega) hb2)) (ech_next hp hR hE (by omega) (by omega) hb2 hnz) hpr2.1 hpr2.2]
      constructor
      · rintro ⟨v, hK, hj⟩; exact ⟨v, (ker_swap (by omega) hb2).1 ((ker_step (by omega)).1 hK), hj⟩
      · rintro ⟨v, hK, hj⟩; exact ⟨v, (ker_step (by omega)).2 ((ker_swap (by omega) hb2).2 hK), hj⟩
/-- The determinant is 0 exactly if the matrix has a kernel. -/
theorem detM_ker {p : Int} (hp : primeB p = true) {n : Nat} {X : Nat → List Int} (hR : InR p n X) : detM p n X = 0 ↔ HasKer p n X :=
  detL_ker hp n 0 X 1 (by omega) hR ⟨fun i _ j hj => by omega, fun i hi => by omega⟩ (by omega) (by have := (primeB_lo hp).1; omega)
end Go.Proofs.YtdjifjlgllohmaaDoor

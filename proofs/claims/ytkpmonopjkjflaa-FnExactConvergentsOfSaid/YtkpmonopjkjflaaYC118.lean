/- Merged texts. -/
import Derived.Test.YtkpmonopjkjflaaYC19
import Derived.Test.YtkpmonopjkjflaaYC111
import Derived.Test.YtkpmonopjkjflaaYC114
import Derived.Test.YtkpmonopjkjflaaYC16
import Derived.Test.YtkpmonopjkjflaaYC12
import Derived.Deep.QuietTactic
import Derived.BigQuiet
/- Plain mathematics: products of polynomials as convolutions: they do not depend on order or brackets; powers. No program. -/
namespace Go.Proofs.Ytkpmonopjkjflaa
open Go.RowKit
set_option linter.unusedVariables false
set_option linter.unusedSimpArgs false
theorem sm_ext (f : Nat → Int) (n : Nat) : ∀ m, n ≤ m → (∀ k, n ≤ k → k < m → f k = 0) → sm m f = sm n f := by
  intro m
  induction m with
  | zero => intro h _; rw [show n = 0 by omega]
  | succ m ih =>
    intro h hz
    by_cases e : n = m + 1
    · rw [e]
    · rw [sm, ih (by omega) (fun k h1 h2 => hz k h1 (by omega)), hz m (by omega) (by omega), Int.add_zero]
theorem sm_emod {p : Int} {n : Nat} {f g : Nat → Int} (h : ∀ k, k < n → f k % p = g k % p) : sm n f % p = sm n g % p := by
  induction n with
  | zero => rfl
  | succ n ih => rw [sm, sm, Int.add_emod, ih (fun k hk => h k (by omega)), h n (by omega), ← Int.add_emod]
theorem sm_rev : ∀ (n : Nat) (f : Nat → Int), sm (n + 1) f = sm (n + 1) (fun i => f (n - i)) := by
  intro n
  induction n with
  | zero => intro f; simp [sm]
  | succ n ih =>
    intro f
    rw [sm, sm_head (n + 1), ih, Int.add_comm, Nat.sub_zero]
    congr 1
    apply sm_congr
    intro k hk
    rw [show n + 1 - (k + 1) = n - k by omega]
theorem sm_tri (T : Nat → Nat → Int) : ∀ n, sm (n + 1) (fun i => sm (i + 1) (fun a => T a (i - a))) = sm (n + 1) (fun a => sm (n - a + 1) (fun b => T a b)) := by
  intro n
  induction n with
  | zero => simp [sm]
  | succ n ih =>
    have e0 : sm (n + 1 + 1) (fun i => sm (i + 1) (fun a => T a (i - a))) = sm (n + 1) (fun i => sm (i + 1) (fun a => T a (i - a))) + sm (n + 1 + 1) (fun a => T a (n + 1 - a)) := rfl
    have e1 : sm (n + 1) (fun a => sm (n + 1 - a + 1) (fun b => T a b)) = sm (n + 1) (fun a => sm (n - a + 1) (fun b => T a b)) + sm (n + 1) (fun a => T a (n + 1 - a)) := by
      rw [← sm_add]
      apply sm_congr
      intro a ha
      rw [show n + 1 - a + 1 = (n - a + 1) + 1 by omega, sm, show n - a + 1 = n + 1 - a by omega]
    have e2 : sm (n + 1 + 1) (fun a => sm (n + 1 - a + 1) (fun b => T a b)) = sm (n + 1) (fun a => sm (n + 1 - a + 1) (fun b => T a b)) + sm (n + 1 - (n + 1) + 1) (fun b => T (n + 1) b) := rfl
    have e3 : sm (n + 1 + 1) (fun a => T a (n + 1 - a)) = sm (n + 1) (fun a => T a (n + 1 - a)) + T (n + 1) (n + 1 - (n + 1)) := rfl
    rw [e0, ih, e2, e1, e3]
    simp only [Nat.sub_self, sm, Int.zero_add, Nat.zero_add]
    omega
/-- The coefficient j of a product. -/
def cv (F G : Nat → Int) (j : Nat) : Int := sm (j + 1) (fun i => F i * G (j - i))
theorem cv_comm (F G : Nat → Int) (j : Nat) : cv F G j = cv G F j := by
  unfold cv
  rw [sm_rev]
  apply sm_congr
  intro k hk
  rw [show j - (j - k) = k by omega, Int.mul_comm]
theorem cv_assoc (F G H : Nat → Int) (j : Nat) : cv (cv F G) H j = cv F (cv G H) j := by
  unfold cv
  have e1 : sm (j + 1) (fun i => sm (i + 1) (fun a => F a * G (i - a)) * H (j - i)) = sm (j + 1) (fun i => sm (i + 1) (fun a => (fun a b => F a * G b * H (j - a - b)) a (i - a))) := by
    apply sm_congr
    intro i hi
    rw [Int.mul_comm, ← sm_mul]
    apply sm_congr
    intro a ha
    simp only
    rw [show j - a - (i - a) = j - i by omega, Int.mul_comm]
  rw [e1, sm_tri (fun a b => F a * G b * H (j - a - b))]
  apply sm_congr
  intro a ha
  rw [← sm_mul]
  apply sm_congr
  intro b hb
  rw [Int.mul_assoc]
theorem cv_mod {p : Int} {F G F' G' : Nat → Int} (j : Nat) (h1 : ∀ i, F i % p = F' i % p) (h2 : ∀ i, G i % p = G' i % p) : cv F G j % p = cv F' G' j % p := by
  unfold cv
  apply sm_emod
  intro k _
  rw [Int.mul_emod, h1, h2, ← Int.mul_emod]
/-- The numbers of a list as a function. -/
def cf (f : List Int) : Nat → Int := fun j => f.getD j 0
theorem cf_far {f : List Int} {j : Nat} (h : f.length ≤ j) : cf f j = 0 := by
  unfold cf
  rw [List.getD_eq_getElem?_getD, List.getElem?_eq_none h]; rfl
theorem mulH_sm (p : Int) (f g : List Int) (i j : Nat) : mulH p f g i j % p = sm i (fun a => if a ≤ j then cf f a * cf g (j - a) else 0) % p := by
  induction i with
  | zero => simp [mulH, sm]
  | succ i ih =>
    unfold mulH mulIn
    rw [sm, Int.add_emod (sm i _), ← ih]
    by_cases h : i ≤ j ∧ j < i + g.length
    · rw [if_pos h, if_pos h.1, Int.emod_emod, ← Int.add_emod]
      rfl
    · rw [if_neg h]
      have e : (if i ≤ j then cf f i * cf g (j - i) else 0) = 0 := by
        split
        · rw [cf_far (f := g) (j := j - i) (by omega), Int.mul_zero]
        · rfl
      rw [e]
      simp
theorem mulH_cv {p : Int} (hp : 2 ≤ p) (f g : List Int) (j : Nat) : mulH p f g f.length j = cv (cf f) (cf g) j % p := by
  have h := mulH_sm p f g f.length j
  rw [Int.emod_eq_of_lt (mulH_rng hp f g _ j).1 (mulH_rng hp f g _ j).2] at h
  rw [h]
  congr 1
  have e1 := sm_ext (fun a => if a ≤ j then cf f a * cf g (j - a) else 0) f.length (max f.length (j + 1)) (by omega) (fun k h1 h2 => by
    show (if k ≤ j then cf f k * cf g (j - k) else 0) = 0
    split
    · rw [cf_far h1, Int.zero_mul]
    · rfl)
  have e2 := sm_ext (fun a => if a ≤ j then cf f a * cf g (j - a) else 0) (j + 1) (max f.length (j + 1)) (by omega) (fun k h1 h2 => if_neg (by omega))
  rw [← e1, e2]
  unfold cv
  apply sm_congr
  intro k hk
  rw [if_pos (by omega)]
theorem cv_far {f g : List Int} {j : Nat} (h : f.length + g.length ≤ j + 1) : cv (cf f) (cf g) j = 0 := by
  unfold cv
  rw [show (0 : Int) = sm 0 (fun i => cf f i * cf g (j - i)) from rfl]
  apply sm_ext _ 0 _ (by omega)
  intro k _ hk
  by_cases e : f.length ≤ k
  · rw [cf_far e, Int.zero_mul]
  · rw [cf_far (f := g) (by omega), Int.mul_zero]
theorem mulM_cf {p : Int} (hp : 2 ≤ p) (f g : List Int) (j : Nat) : cf (mulM p f g) j = cv (cf f) (cf g) j % p := by
  by_cases h : f.length = 0 ∨ g.length = 0
  · rw [mulM_nil (h.imp List.eq_nil_of_length_eq_zero List.eq_nil_of_length_eq_zero)]
    have e : cv (cf f) (cf g) j = 0 := by
      unfold cv
      rw [show (0 : Int) = sm 0 (fun i => cf f i * cf g (j - i)) from rfl]
      apply sm_ext _ 0 _ (by omega)
      intro k _ _
      rcases h with h | h
      · rw [cf_far (by omega), Int.zero_mul]
      · rw [cf_far (f := g) (by omega), Int.mul_zero]
    rw [e]; rfl
  · have h1 : f.length ≠ 0 := fun e => h (.inl e)
    have h2 : g.length ≠ 0 := fun e => h (.inr e)
    rw [mulM_tab h1 h2]
    by_cases hj : j < f.length + g.length - 1
    · unfold cf
      rw [tab_at _ _ _ hj]
      exact mulH_cv hp f g j
    · rw [cf_far (by rw [tab_len]; omega), cv_far (by omega)]; rfl
/-- The length of a product. -/
def mlen (a b : Nat) : Nat := if a = 0 ∨ b = 0 then 0 else a + b - 1
theorem mulM_mlen (p : Int) (f g : List Int) : (mulM p f g).length = mlen f.length g.length := by
  unfold mlen
  by_cases h : f.length = 0 ∨ g.length = 0
  · rw [mulM_nil (h.imp List.eq_nil_of_length_eq_zero List.eq_nil_of_length_eq_zero), if_pos h]; rfl
  · rw [if_neg h, mulM_tab (fun e => h (.inl e)) (fun e => h (.inr e)), tab_len]
theorem ext_cf {xs ys : List Int} (hl : xs.length = ys.length) (h : ∀ j, cf xs j = cf ys j) : xs = ys := ext_tab hl (fun j _ => h j)
theorem mulM_comm {p : Int} (hp : 2 ≤ p) (f g : List Int) : mulM p f g = mulM p g f := by
  apply ext_cf
  · rw [mulM_mlen, mulM_mlen]; unfold mlen; split <;> split <;> omega
  · intro j
    rw [mulM_cf hp, mulM_cf hp, cv_comm]
theorem mulM_assoc {p : Int} (hp : 2 ≤ p) (f g h : List Int) : mulM p (mulM p f g) h = mulM p f (mulM p g h) := by
  apply ext_cf
  · simp only [mulM_mlen, mlen]
    by_cases a : f.length = 0
    · simp [a]
    by_cases b : g.length = 0
    · simp [b]
    by_cases c : h.length = 0
    · simp [c]
    rw [if_neg (show ¬ (f.length = 0 ∨ g.length = 0) by omega), if_neg (show ¬ (g.length = 0 ∨ h.length = 0) by omega), if_neg (by omega), if_neg (by omega)]
    omega
  · intro j
    rw [mulM_cf hp, mulM_cf hp, cv_mod (F' := cv (cf f) (cf g)) (G' := cf h) j (fun i => by rw [mulM_cf hp, Int.emod_emod]) (fun i => rfl), cv_assoc,
      cv_mod (F := cf f) (G := cf (mulM p g h)) (F' := cf f) (G' := cv (cf g) (cf h)) j (fun i => rfl) (fun i => by rw [mulM_cf hp, Int.emod_emod])]
theorem cf_rng {p : Int} (hp : 2 ≤ p) {f : List Int} (h : areB p f = true) (j : Nat) : 0 ≤ cf f j ∧ cf f j < p := getD_rng h hp j
theorem mulM_one {p : Int} (hp : 2 ≤ p) {f : List Int} (hf : areB p f = true) : mulM p [1] f = f := by
  apply ext_cf
  · rw [mulM_mlen]; unfold mlen; show (if 1 = 0 ∨ f.length = 0 then 0 else 1 + f.length - 1) = f.length; split <;> omega
  · intro j
    rw [mulM_cf hp]
    have e : cv (cf [1]) (cf f) j = cf f j := by
      unfold cv
      rw [sm_head, Nat.sub_zero]
      have : sm j (fun k => cf [1] (k + 1) * cf f (j - (k + 1))) = 0 := by
        rw [show (0 : Int) = sm 0 (fun k => cf [1] (k + 1) * cf f (j - (k + 1))) from rfl]
        apply sm_ext _ 0 _ (by omega)
        intro k _ _
        rw [cf_far (f := [1]) (by simp), Int.zero_mul]
      rw [this]
      simp [cf]
    rw [e]
    exact Int.emod_eq_of_lt (cf_rng hp hf j).1 (cf_rng hp hf j).2
theorem mulM_areB {p : Int} (hp : 2 ≤ p) (f g : List Int) : areB p (mulM p f g) = true := areB_mk fun j _ => by
  have := mulM_cf hp f g j
  unfold cf at this
  rw [this]
  exact modb hp
/-- Powers of a polynomial. -/
def pwL (p : Int) (f : List Int) : Nat → List Int
  | 0 => [1]
  | k + 1 => mulM p (pwL p f k) f
theorem pwL_areB {p : Int} (hp : 2 ≤ p) (f : List Int) (k : Nat) : areB p (pwL p f k) = true := by
  cases k with
  | zero => simp [pwL, areB, okN]; omega
  | succ k => exact mulM_areB hp _ _
theorem pwL_len (p : Int) (f : List Int) (k : Nat) : (pwL p f k).length ≤ 1 + k * (f.length - 1) := by
  induction k with
  | zero => simp [pwL]
  | succ k ih =>
    rw [pwL, mulM_mlen]
    unfold mlen
    rw [Nat.succ_mul]
    split <;> omega
theorem pwL_sq {p : Int} (hp : 2 ≤ p) (f : List Int) (k : Nat) : pwL p (mulM p f f) k = pwL p f (2 * k) := by
  induction k with
  | zero => rfl
  | succ k ih => rw [pwL, ih, show 2 * (k + 1) = 2 * k + 1 + 1 by omega, pwL, pwL, mulM_assoc hp]
theorem pwL_left {p : Int} (hp : 2 ≤ p) (f : List Int) (k : Nat) : mulM p f (pwL p f k) = pwL p f (k + 1) := by
  rw [pwL, mulM_comm hp]
/-- A step of the squaring loop. -/
theorem pwL_odd {p : Int} (hp : 2 ≤ p) (r f : List Int) (k : Nat) : mulM p (mulM p r f) (pwL p (mulM p f f) k) = mulM p r (pwL p f (2 * k + 1)) := by
  rw [pwL_sq hp, mulM_assoc hp, pwL_left hp]
theorem pwL_even {p : Int} (hp : 2 ≤ p) (r f : List Int) (k : Nat) : mulM p r (pwL p (mulM p f f) k) = mulM p r (pwL p f (2 * k)) := by
  rw [pwL_sq hp]
end Go.Proofs.Ytkpmonopjkjflaa
/- Contracts: slices.Index, slices.Contains; l03Is, IsJacobi (program and model), l03Code, checkJacobi. -/
namespace Go.Proofs.Ytkpmonopjkjflaa
open Go.RowKit
set_option linter.unusedVariables false
set_option linter.unusedSimpArgs false

def okP (p x : Int) : Bool := decide (1 ≤ x ∧ x < p)
def posB (p : Int) (xs : List Int) : Bool := xs.all (okP p)
def hasB (v : Int) (xs : List Int) : Bool := xs.any (v == ·)
theorem posB_snoc (p : Int) (xs : List Int) (k : Nat) (h : k < xs.length) : posB p (xs.take (k + 1)) = (posB p (xs.take k) && okP p (xs.getD k 0)) := by
  rw [take_snocI xs k h]
  simp [posB]
theorem posB_false (p : Int) (xs : List Int) (k : Nat) (h : k < xs.length) (hx : okP p (xs.getD k 0) = false) : posB p xs = false := by
  unfold posB
  rw [Bool.eq_false_iff]
  intro hall
  rw [List.all_eq_true] at hall
  have := hall (xs.getD k 0) (by simp [h])
  rw [hx] at this
  cases this
theorem posB_at {p : Int} {xs : List Int} (h : posB p xs = true) (k : Nat) (hk : k < xs.length) : 1 ≤ xs.getD k 0 ∧ xs.getD k 0 < p := by
  unfold posB at h
  rw [List.all_eq_true] at h
  have := h (xs.getD k 0) (by simp [hk])
  simpa [okP] using this
theorem posB_eq (p : Int) (xs : List Int) : posB p xs = (areB p xs && !hasB 0 xs) := by
  induction xs with
  | nil => rfl
  | cons x l ih =>
    have e : posB p (x :: l) = (okP p x && posB p l) := rfl
    have e2 : areB p (x :: l) = (okN p x && areB p l) := rfl
    have e3 : hasB 0 (x :: l) = ((0 == x) || hasB 0 l) := rfl
    rw [e, e2, e3, ih]
    by_cases h0 : x = 0
    · subst h0; simp [okP]
    · have : okP p x = okN p x := by unfold okP okN; congr 1; apply propext; omega
      rw [this]
      have h1 : ((0 : Int) == x) = false := by simpa using fun h => h0 h.symm
      rw [h1]
      cases okN p x <;> cases areB p l <;> cases hasB 0 l <;> rfl
theorem hasB_snoc (v : Int) (xs : List Int) (k : Nat) (h : k < xs.length) : hasB v (xs.take (k + 1)) = (hasB v (xs.take k) || v == xs.getD k 0) := by
  rw [take_snocI xs k h]
  simp [hasB]
theorem hasB_true (v : Int) (xs : List Int) (k : Nat) (h : k < xs.length) (hx : v = xs.getD k 0) : hasB v xs = true := by
  unfold hasB
  rw [List.any_eq_true]
  exact ⟨xs.getD k 0, by simp [h], by simpa using hx⟩
def jacB (p : Int) (xs ys : List Int) : Bool := primeB p && decide (1 ≤ xs.length) && decide (xs.length ≤ 12) && decide (ys.length = xs.length) && areB p xs && posB p ys
theorem jacB_rng {p : Int} {xs ys : List Int} (h : jacB p xs ys = true) : primeB p = true ∧ 1 ≤ xs.length ∧ xs.length ≤ 12 ∧ ys.length = xs.length ∧ areB p xs = true ∧ posB p ys = true := by
  unfold jacB at h
  simp only [Bool.and_eq_true, decide_eq_true_eq] at h
  exact ⟨h.1.1.1.1.1, h.1.1.1.1.2, h.1.1.1.2, h.1.1.2, h.1.2, h.2⟩
theorem posB_are {p : Int} {xs : List Int} (h : posB p xs = true) : areB p xs = true := by
  rw [posB_eq] at h
  simp only [Bool.and_eq_true] at h
  exact h.1
set_option maxRecDepth 100000 in
set_option maxHeartbeats 800000 in
theorem index_any (a : Option Addr) (n c : Nat) (xs : List Int) (v : Int) (w : World) (hs : SL w a n c xs) (hn : n ≤ 4000000) :
    Calls Try.prog 151 #[.slice a n c, .int .i64 v] w fun e w' => (∃ r : Int, e = .returned (.int .i64 r) ∧ (decide (0 ≤ r) = hasB v xs)) ∧ w = w' := by
  have hl := hide hs.len
  by_cases h0 : n = 0
  · subst h0
    obtain rfl := hs.empty
    go_enter Try.func151, Try.ntmps151
    go_wp2
    refine wp_loop_rounds 1 ?_
    rw [rounds_succ]
    go_wp2
    go_ret
    exact ⟨⟨_, rfl, by simp [hasB]⟩, rfl⟩
  obtain ⟨b, off, rfl, hbw, hcell⟩ := hs.at (by omega)
  clear hs
  go_enter Try.func151, Try.ntmps151
  go_wp2
  go_loop [8] (fun i => ∃ k : Nat, k ≤ n ∧ i = .int .i64 k ∧ Hid (hasB v (xs.take k) = false)) (fun i => n - (intOf i).toNat)
  case atStart => exact ⟨0, by omega, rfl, by simp [Hid, hasB]⟩
  case round =>
    obtain ⟨k, hk, rfl, hR⟩ := hrel
    by_cases hlt : k < n
    · have e1 := hcell k hlt
      have hsn := Lib.hid (hasB_snoc v xs k (by rw [hl.out]; exact hlt))
      have hT := fun h => Lib.hid (hasB_true v xs k (by rw [hl.out]; exact hlt) h)
      obtain ⟨x, hx⟩ : ∃ x, x = xs.getD k 0 := ⟨_, rfl⟩
      rw [← hx] at e1
      have Hx := Lib.hid hx
      clear hx hcell
      by_cases hok : v = x
      · have hF := hT (by rw [hok, Hx.out])
        have ob : (v == x) = true := by simpa using hok
        clear hT hok
        go_wp2
        go_ret
        exact ⟨⟨_, rfl, by rw [hF.out]; simp⟩, rfl⟩
      · have ob : (v == x) = false := by simpa using hok
        have hF : Hid (hasB v (xs.take (k + 1)) = false) := hide (by rw [hsn.out, hR.out, ← Hx.out, ob]; rfl)
        clear hT hok hsn
        go_wp2
        go_round
        case rel => exact ⟨k + 1, by omega, by go_num, hF⟩
        case measure => simp [intOf]; omega
    · obtain rfl : k = n := by omega
      have hF : Hid (hasB v xs = false) := hide (by have := hR.out; rwa [List.take_of_length_le (by rw [hl.out]; omega)] at this)
      go_wp2
      go_ret
      exact ⟨⟨_, rfl, by rw [hF.out]; simp⟩, rfl⟩
set_option maxHeartbeats 800000 in
theorem contains_any (a : Option Addr) (n c : Nat) (xs : List Int) (v : Int) (w : World) (hs : SL w a n c xs) (hn : n ≤ 4000000) :
    Calls Try.prog 137 #[.slice a n c, .int .i64 v] w fun e w' => e = .returned (.bool (hasB v xs)) ∧ w = w' := by
  go_enter Try.func137, Try.ntmps137
  go_wp2_with fail
  refine (index_any _ _ _ _ _ _ hs hn).mono ?_
  rintro e w1 ⟨⟨r, rfl, hr⟩, rfl⟩
  have Hr := hide hr
  clear hr
  go_wp2
  go_ret
  exact ⟨ret_bool (by rw [← Hr.out]), rfl⟩
set_option maxRecDepth 100000 in
set_option maxHeartbeats 1600000 in
theorem l03Is_any (p : Int) (a : Option Addr) (n c : Nat) (xs : List Int) (b : Option Addr) (m d : Nat) (ys : List Int) (w : World) (hs : SL w a n c xs) (ht : SL w b m d ys) (hn : n ≤ 4000000) (hm : m ≤ 4000000) :
    Calls Try.prog 99 #[jac p a n c b m d] w fun e w' => e = .returned (.bool (jacB p xs ys)) ∧ Below w.heap.size w w' := by
  have hl := hide hs.len
  have ht2 := hide ht.len
  have hb0 := bl1 w (.cells #[.int .i64 p, .slice a n c, .slice b m d] 63)
  have g1 := hs.below hb0
  have g2 := ht.below hb0
  cases hp : primeB p
  · have H : Hid (jacB p xs ys = false) := hide (by simp [jacB, hp])
    have Hp := hide hp
    clear hp
    go_enter Try.func99, Try.ntmps99
    go_wp2_with fail
    refine (l01Prime_any _ _).mono ?_
    rintro e w1 ⟨rfl, rfl⟩
    rw [Hp.out]
    go_wp2
    go_ret
    exact ⟨ret_bool H.out.symm, hb0⟩
  have Hp := hide hp
  obtain ⟨hp1, hp2⟩ := primeB_lo hp
  clear hp
  by_cases hbad : (n : Int) < 1 ∨ 12 < (n : Int) ∨ (m : Int) ≠ (n : Int)
  · have H : Hid (jacB p xs ys = false) := hide (by
      cases hj : jacB p xs ys
      · rfl
      · have := jacB_rng hj
        rw [hl.out, ht2.out] at this
        omega)
    by_cases h1 : (n : Int) < 1
    · go_enter Try.func99, Try.ntmps99
      go_wp2_with fail
      refine (l01Prime_any _ _).mono ?_
      rintro e w1 ⟨rfl, rfl⟩
      rw [Hp.out]
      go_wp2
      go_ret
      exact ⟨ret_bool H.out.symm, hb0⟩
    · by_cases h2 : 12 < (n : Int)
      · go_enter Try.func99, Try.ntmps99
        go_wp2_with fail
        refine (l01Prime_any _ _).mono ?_
        rintro e w1 ⟨rfl, rfl⟩
        rw [Hp.out]
        go_wp2
        go_ret
        exact ⟨ret_bool H.out.symm, hb0⟩
      · have ob : ((m : Int) != (n : Int)) = true := by simp; omega
        go_enter Try.func99, Try.ntmps99
        go_wp2_with fail
        refine (l01Prime_any _ _).mono ?_
        rintro e w1 ⟨rfl, rfl⟩
        rw [Hp.out]
        go_wp2
        go_ret
        exact ⟨ret_bool H.out.symm, hb0⟩
  · obtain ⟨h1, h2, h3⟩ : ¬ (n : Int) < 1 ∧ ¬ 12 < (n : Int) ∧ m = n := by omega
    clear hbad
    subst h3
    have H : Hid (jacB p xs ys = (areB p xs && posB p ys)) := hide (by
      unfold jacB
      rw [Hp.out, hl.out, ht2.out]
      simp [show 1 ≤ m by omega, show m ≤ 12 by omega])
    obtain ⟨b1, o1, rfl, hbw1, hc1⟩ := g1.at (by omega)
    obtain ⟨b2, o2, rfl, hbw2, hc2⟩ := g2.at (by omega)
    clear hs ht g1 g2
    go_enter Try.func99, Try.ntmps99
    go_wp2_with fail
    refine (l01Prime_any _ _).mono ?_
    rintro e w1 ⟨rfl, rfl⟩
    rw [Hp.out]
    go_wp2
    go_loopw [3] (fun i wr => ∃ k : Nat, k ≤ m ∧ i = .int .i64 k ∧ Hid (areB p (xs.take k) = true) ∧ Hid (posB p (ys.take k) = true) ∧ Below (w.heap.size + 1) (w.alloc (.cells #[.int .i64 p, .slice (some ⟨b1, o1, none⟩) m c, .slice (some ⟨b2, o2, none⟩) m d] 63)) wr) (fun i _ => m - (intOf i).toNat)
    case atStart => exact ⟨0, by omega, rfl, by simp [Hid, areB], by simp [Hid, posB], Below.refl _ _⟩
    case round =>
      obtain ⟨k, hk, rfl, hR, hS, hbr⟩ := hrel
      have f0 : wr.cell? ⟨w.heap.size, 0, none⟩ = some (.int .i64 p) := (hbr.cell (by simp)).trans (by simp [go_sem])
      have f1 : wr.cell? ⟨w.heap.size, 1, none⟩ = some (.slice (some ⟨b1, o1, none⟩) m c) := (hbr.cell (by simp)).trans (by simp [go_sem])
      have f2 : wr.cell? ⟨w.heap.size, 2, none⟩ = some (.slice (some ⟨b2, o2, none⟩) m d) := (hbr.cell (by simp)).trans (by simp [go_sem])
      have hB := hb0.trans (hbr.mono (Nat.le_succ _))
      by_cases hlt : k < m
      · have e1 : wr.cell? ⟨b1, o1 + k, none⟩ = some (.int .i64 (xs.getD k 0)) := (hbr.cell (by simpa using hbw1)).trans (hc1 k hlt)
        have e2 : wr.cell? ⟨b2, o2 + k, none⟩ = some (.int .i64 (ys.getD k 0)) := (hbr.cell (by simpa using hbw2)).trans (hc2 k hlt)
        have s1 := Lib.hid (areB_snoc p xs k (by rw [hl.out]; exact hlt))
        have s2 := Lib.hid (posB_snoc p ys k (by rw [ht2.out]; exact hlt))
        have x1 := fun h => Lib.hid (areB_false p xs k (by rw [hl.out]; exact hlt) h)
        have x2 := fun h => Lib.hid (posB_false p ys k (by rw [ht2.out]; exact hlt) h)
        obtain ⟨x, hx⟩ : ∃ x, xs.getD k 0 = x := ⟨_, rfl⟩
        obtain ⟨y, hy⟩ : ∃ y, ys.getD k 0 = y := ⟨_, rfl⟩
        rw [hx] at e1 s1 x1
        rw [hy] at e2 s2 x2
        clear hx hy hc1 hc2
        have hlt' : (k : Int) < (m : Int) := by omega
        by_cases hx : 0 ≤ x ∧ x ≤ p - 1
        · by_cases hy : 1 ≤ y ∧ y ≤ p - 1
          · have n1 : Hid (areB p (xs.take (k + 1)) = true) := hide (by rw [s1.out, hR.out]; simp [okN]; omega)
            have n2 : Hid (posB p (ys.take (k + 1)) = true) := hide (by rw [s2.out, hS.out]; simp [okP]; omega)
            have hbx := hide hx
            have hby := hide hy
            clear x1 x2 hx hy
            go_wp2
            go_quiet (first
              | (go_at_call 65; refine Calls.quiet_of_same (still_of (l01In_yes _ _ _ _ hbx.out.1 hbx.out.2)))
              | (go_at_call 65; refine Calls.quiet_of_same (still_of (l01In_yes _ _ _ _ hby.out.1 hby.out.2))))
            go_wp2
            go_roundw
            case rel => exact ⟨k + 1, by omega, by go_num, n1, n2, below_drewN hbr _⟩
            case measure => simp [intOf]; omega
          · have hF : Hid (jacB p xs ys = false) := hide (by rw [H.out, (x2 (by simp [okP]; omega)).out]; simp)
            have hbx := hide hx
            have hby := hide hy
            clear x1 x2 hx hy
            go_wp2
            go_quiet (first
              | (go_at_call 65; refine Calls.quiet_of_same (still_of (l01In_yes _ _ _ _ hbx.out.1 hbx.out.2)))
              | (go_at_call 65; refine Calls.quiet_of_same (still_of (l01In_no _ _ _ _ hby.out))))
            go_wp2
            go_ret
            exact ⟨ret_bool hF.out.symm, below_drewN hB _⟩
        · have hF : Hid (jacB p xs ys = false) := hide (by rw [H.out, (x1 (by simp [okN]; omega)).out]; simp)
          have hbx := hide hx
          clear x1 x2 hx
          go_wp2
          go_quiet (first
            | (go_at_call 65; refine Calls.quiet_of_same (still_of (l01In_no _ _ _ _ hbx.out))))
          go_wp2
          go_ret
          exact ⟨ret_bool hF.out.symm, below_drewN hB _⟩
      · obtain rfl : k = m := by omega
        have hF : Hid (jacB p xs ys = true) := hide (by
          have h1 := hR.out
          have h2 := hS.out
          rw [List.take_of_length_le (by rw [hl.out]; omega)] at h1
          rw [List.take_of_length_le (by rw [ht2.out]; omega)] at h2
          rw [H.out, h1, h2]; rfl)
        go_wp2
        go_ret
        exact ⟨ret_bool hF.out.symm, hB⟩
set_option maxRecDepth 100000 in
set_option maxHeartbeats 1600000 in
theorem implIsJacobi (p : Int) (a : Option Addr) (n c : Nat) (xs : List Int) (b : Option Addr) (m d : Nat) (ys : List Int) (w : World) (hs : SL w a n c xs) (ht : SL w b m d ys) (hn : n ≤ 4000000) (hm : m ≤ 4000000) :
    Calls Try.prog 103 #[jac p a n c b m d] w fun e w' => e = .returned (.bool (jacB p xs ys)) ∧ Below w.heap.size w w' := by
  have hl := hide hs.len
  have ht2 := hide ht.len
  have hb0 := bl1 w (.cells #[.int .i64 p, .slice a n c, .slice b m d] 63)
  have g1 := hs.below hb0
  have g2 := ht.below hb0
  cases hp : primeB p
  · have H : Hid (jacB p xs ys = false) := hide (by simp [jacB, hp])
    have Hp := hide hp
    clear hp
    go_enter Try.func103, Try.ntmps103
    go_wp2_with fail
    refine (isPrime_any _ _).mono ?_
    rintro e w1 ⟨rfl, rfl⟩
    rw [Hp.out]
    go_wp2
    go_ret
    exact ⟨ret_bool H.out.symm, hb0⟩
  have Hp := hide hp
  obtain ⟨hp1, hp2⟩ := primeB_lo hp
  clear hp
  by_cases hbad : (n : Int) < 1 ∨ 12 < (n : Int) ∨ (m : Int) ≠ (n : Int)
  · have H : Hid (jacB p xs ys = false) := hide (by
      cases hj : jacB p xs ys
      · rfl
      · have := jacB_rng hj
        rw [hl.out, ht2.out] at this
        omega)
    by_cases h1 : (n : Int) < 1
    · go_enter Try.func103, Try.ntmps103
      go_wp2_with fail
      refine (isPrime_any _ _).mono ?_
      rintro e w1 ⟨rfl, rfl⟩
      rw [Hp.out]
      go_wp2
      go_ret
      exact ⟨ret_bool H.out.symm, hb0⟩
    · by_cases h2 : 12 < (n : Int)
      · go_enter Try.func103, Try.ntmps103
        go_wp2_with fail
        refine (isPrime_any _ _).mono ?_
        rintro e w1 ⟨rfl, rfl⟩
        rw [Hp.out]
        go_wp2
        go_ret
        exact ⟨ret_bool H.out.symm, hb0⟩
      · have ob : ((m : Int) != (n : Int)) = true := by simp; omega
        go_enter Try.func103, Try.ntmps103
        go_wp2_with fail
        refine (isPrime_any _ _).mono ?_
        rintro e w1 ⟨rfl, rfl⟩
        rw [Hp.out]
        go_wp2
        go_ret
        exact ⟨ret_bool H.out.symm, hb0⟩
  · obtain ⟨h1, h2, h3⟩ : ¬ (n : Int) < 1 ∧ ¬ 12 < (n : Int) ∧ m = n := by omega
    clear hbad
    subst h3
    have H : Hid (jacB p xs ys = (areB p xs && areB p ys && !hasB 0 ys)) := hide (by
      unfold jacB
      rw [Hp.out, hl.out, ht2.out, posB_eq]
      simp [show 1 ≤ m by omega, show m ≤ 12 by omega, Bool.and_assoc])
    cases hx : areB p xs
    · have F := hide (show jacB p xs ys = false by rw [H.out, hx]; rfl)
      have Hx := hide hx
      clear hx
      go_enter Try.func103, Try.ntmps103
      go_wp2_with fail
      refine (isPrime_any _ _).mono ?_
      rintro e w1 ⟨rfl, rfl⟩
      rw [Hp.out]
      go_wp2_with fail
      refine (areNumbers_any _ _ _ _ _ _ g1 hn).mono ?_
      rintro e w1 ⟨rfl, rfl⟩
      rw [Hx.out]
      go_wp2
      go_ret
      exact ⟨ret_bool F.out.symm, hb0⟩
    cases hy : areB p ys
    · have F := hide (show jacB p xs ys = false by rw [H.out, hx, hy]; rfl)
      have Hx := hide hx
      have Hy := hide hy
      clear hx hy
      go_enter Try.func103, Try.ntmps103
      go_wp2_with fail
      refine (isPrime_any _ _).mono ?_
      rintro e w1 ⟨rfl, rfl⟩
      rw [Hp.out]
      go_wp2_with fail
      refine (areNumbers_any _ _ _ _ _ _ g1 hn).mono ?_
      rintro e w1 ⟨rfl, rfl⟩
      rw [Hx.out]
      go_wp2_with fail
      refine (areNumbers_any _ _ _ _ _ _ g2 hn).mono ?_
      rintro e w1 ⟨rfl, rfl⟩
      rw [Hy.out]
      go_wp2
      go_ret
      exact ⟨ret_bool F.out.symm, hb0⟩
    · have F := hide (show jacB p xs ys = !hasB 0 ys by rw [H.out, hx, hy]; rfl)
      have Hx := hide hx
      have Hy := hide hy
      clear hx hy
      go_enter Try.func103, Try.ntmps103
      go_wp2_with fail
      refine (isPrime_any _ _).mono ?_
      rintro e w1 ⟨rfl, rfl⟩
      rw [Hp.out]
      go_wp2_with fail
      refine (areNumbers_any _ _ _ _ _ _ g1 hn).mono ?_
      rintro e w1 ⟨rfl, rfl⟩
      rw [Hx.out]
      go_wp2_with fail
      refine (areNumbers_any _ _ _ _ _ _ g2 hn).mono ?_
      rintro e w1 ⟨rfl, rfl⟩
      rw [Hy.out]
      go_wp2_with fail
      refine (contains_any _ _ _ _ _ _ g2 hn).mono ?_
      rintro e w1 ⟨rfl, rfl⟩
      go_wp2
      go_ret
      exact ⟨ret_bool F.out.symm, hb0⟩
/-- The code for data and a number in lo..hi. -/
def jcd (p : Int) (xs ys : List Int) (k lo hi : Int) : Int := if jacB p xs ys then (if lo ≤ k ∧ k ≤ hi then 0 else 2) else 1
theorem jcd_cases (p : Int) (xs ys : List Int) (k lo hi : Int) : jcd p xs ys k lo hi = 1 ∨ jcd p xs ys k lo hi = 2 ∨ (jcd p xs ys k lo hi = 0 ∧ jacB p xs ys = true ∧ lo ≤ k ∧ k ≤ hi) := by
  unfold jcd
  cases jacB p xs ys
  · exact .inl rfl
  · by_cases h : lo ≤ k ∧ k ≤ hi
    · exact .inr (.inr ⟨by simp [h], rfl, h⟩)
    · exact .inr (.inl (by simp only [if_true]; rw [if_neg h]))
theorem sizeOf_any (p : Int) (a : Option Addr) (n c : Nat) (b : Option Addr) (m d : Nat) (w : World) (hn : n ≤ 4000000) :
    Calls Try.prog 106 #[jac p a n c b m d] w fun e w' => e = .returned (.int .i64 n) ∧ Below w.heap.size w w' := by
  go_enter Try.func106, Try.ntmps106
  go_wp2
  go_ret
  exact ⟨rfl, bl1 _ _⟩
end Go.Proofs.Ytkpmonopjkjflaa

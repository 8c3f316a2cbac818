/- Merged texts. -/
import Derived.Test.YtcadiepghhnbeaaYW14
import Derived.Test.YtcadiepghhnbeaaYW112
import Derived.Test.YtcadiepghhnbeaaYW118
import Derived.Test.YtcadiepghhnbeaaYW124
/- Plain mathematics of chapter 2: sums of products modulo p, sums of lists, eliminations. No program. -/
namespace Go.Proofs.Ytcadiepghhnbeaa
open Go.RowKit
set_option linter.unusedVariables false
set_option linter.unusedSimpArgs false
/-- The sum of the first i products of numbers of f and of xs from k on. -/
def dotK (p : Int) (f xs : List Int) (k : Nat) : Nat → Int
  | 0 => 0
  | i + 1 => (dotK p f xs k i + f.getD i 0 * xs.getD (i + k) 0) % p
theorem dotK_rng {p : Int} (hp : 2 ≤ p) (f xs : List Int) (k i : Nat) : 0 ≤ dotK p f xs k i ∧ dotK p f xs k i < p := by
  cases i with
  | zero => simp [dotK]; omega
  | succ i => exact modb hp
/-- The numbers of xs and k times those of ys together. -/
def addlM (p k : Int) (xs ys : List Int) : List Int := tab xs.length (fun j => (xs.getD j 0 + k * ys.getD j 0) % p)
theorem addlM_len (p k : Int) (xs ys : List Int) : (addlM p k xs ys).length = xs.length := tab_len _ _
theorem tab_are {p : Int} {n : Nat} {h : Nat → Int} (e : ∀ j, j < n → 0 ≤ h j ∧ h j < p) : areB p (tab n h) = true := areB_mk fun j hj => by
  rw [tab_len] at hj
  rw [tab_at _ _ _ hj]
  exact e j hj
theorem addlM_are {p : Int} (hp : 2 ≤ p) (k : Int) (xs ys : List Int) : areB p (addlM p k xs ys) = true := tab_are fun _ _ => modb hp
/-- The products of moments by f: n of them. -/
def prodM (p : Int) (f xs : List Int) (n : Nat) : List Int := tab n (fun j => dotK p f xs j f.length)
theorem addlM_dot (p : Int) (f xs : List Int) (n i : Nat) (h : i + n ≤ xs.length) : addlM p (f.getD i 0) (tab n (fun j => dotK p f xs j i)) ((xs.drop i).take n) = tab n (fun j => dotK p f xs j (i + 1)) := by
  unfold addlM
  rw [tab_len]
  apply tab_congr
  intro j hj
  rw [tab_at _ _ _ hj, dotK]
  congr 3
  simp [List.getElem?_take, hj]

/-- A row less a multiple of the row of the pivot. -/
def elimR (p : Int) (own row : List Int) (k n : Nat) : List Int := tab n (fun j => (row.getD j 0 - row.getD k 0 * invM p (own.getD k 0) % p * own.getD j 0) % p)
theorem elim_eq (p R rk inv o : Int) : (R + (p - inv) * rk % p * o) % p = (R - rk * inv % p * o) % p := by
  have e1 : ((p - inv) * rk % p * o) % p = ((p - inv) * rk * o) % p := by rw [Int.mul_emod, Int.emod_emod, ← Int.mul_emod]
  have e2 : (rk * inv % p * o) % p = (rk * inv * o) % p := by rw [Int.mul_emod, Int.emod_emod, ← Int.mul_emod]
  rw [Int.add_emod, e1, ← Int.add_emod, Int.sub_emod, e2, ← Int.sub_emod]
  have e3 : R + (p - inv) * rk * o = R - rk * inv * o + p * (rk * o) := by
    rw [Int.sub_mul, Int.sub_mul, Int.mul_comm inv rk, Int.mul_assoc p]; omega
  rw [e3, Int.add_mul_emod_self_left]
theorem neg_eq (p r x : Int) : (p - r) * x % p = (-r) % p * x % p := by
  rw [Int.mul_emod (-r % p), Int.emod_emod, ← Int.mul_emod, Int.sub_mul, Int.neg_mul]
  have : p * x - r * x = - (r * x) + p * x := by omega
  rw [this, Int.add_mul_emod_self_left]
/-- The first row from b on, of so many, with another number than 0 at c. -/
def pivF (X : Nat → List Int) (c : Nat) : Nat → Nat → Nat
  | 0, b => b
  | f + 1, b => if (X b).getD c 0 = 0 then pivF X c f (b + 1) else b
theorem pivF_rng (X : Nat → List Int) (c : Nat) : ∀ f b, b ≤ pivF X c f b ∧ pivF X c f b ≤ b + f := by
  intro f
  induction f with
  | zero => intro b; simp [pivF]
  | succ f ih =>
    intro b
    unfold pivF
    split
    · have := ih (b + 1); omega
    · omega
theorem pivF_at (X : Nat → List Int) (c : Nat) : ∀ f b, pivF X c f b < b + f → (X (pivF X c f b)).getD c 0 ≠ 0 := by
  intro f
  induction f with
  | zero => intro b h; simp [pivF] at h
  | succ f ih =>
    intro b h
    unfold pivF at h ⊢
    split
    · rename_i hz
      rw [if_pos hz] at h
      exact ih (b + 1) (by omega)
    · rename_i hz; exact hz
theorem pivF_skip (X : Nat → List Int) (c : Nat) : ∀ f b, (∀ i, b ≤ i → i < b + f → (X i).getD c 0 = 0) → pivF X c f b = b + f := by
  intro f
  induction f with
  | zero => intro b _; rfl
  | succ f ih =>
    intro b h
    unfold pivF
    rw [if_pos (h b (by omega) (by omega)), ih (b + 1) (fun i h1 h2 => h i (by omega) (by omega))]
    omega
theorem pivF_stop (X : Nat → List Int) (c : Nat) : ∀ f b j, j < f → (∀ i, b ≤ i → i < b + j → (X i).getD c 0 = 0) → (X (b + j)).getD c 0 ≠ 0 → pivF X c f b = b + j := by
  intro f
  induction f with
  | zero => intro b j h; omega
  | succ f ih =>
    intro b j hj h h2
    unfold pivF
    cases j with
    | zero => rw [Nat.add_zero] at h2; rw [if_neg h2]; rfl
    | succ j =>
      rw [if_pos (h b (by omega) (by omega)), ih (b + 1) j (by omega) (fun i h1 h3 => h i (by omega) (by omega)) (by rw [show b + 1 + j = b + (j + 1) by omega]; exact h2)]
      omega
def swapR (X : Nat → List Int) (a b : Nat) : Nat → List Int := fun i => if i = a then X b else if i = b then X a else X i
/-- The rows behind k up to m have 0 at k. -/
def stepR (p : Int) (n k m : Nat) (X : Nat → List Int) : Nat → List Int := fun i => if k < i ∧ i < m then elimR p (X k) (X i) k n else X i
def sgn (p r : Int) (b k : Nat) : Int := if b = k then r else (-r) % p
def detL (p : Int) (n : Nat) : Nat → Nat → (Nat → List Int) → Int → Int
  | 0, _, _, r => r
  | f + 1, k, X, r => if pivF X k (n - k) k = n then 0 else
      detL p n f (k + 1) (stepR p n k n (swapR X k (pivF X k (n - k) k))) (sgn p r (pivF X k (n - k) k) k * (swapR X k (pivF X k (n - k) k) k).getD k 0 % p)
def detM (p : Int) (n : Nat) (X : Nat → List Int) : Int := detL p n n 0 X 1
theorem pivF_congr {X Y : Nat → List Int} (c : Nat) : ∀ f b, (∀ i, b ≤ i → i < b + f → X i = Y i) → pivF X c f b = pivF Y c f b := by
  intro f
  induction f with
  | zero => intro b _; rfl
  | succ f ih =>
    intro b h
    unfold pivF
    rw [h b (by omega) (by omega), ih (b + 1) (fun i h1 h2 => h i (by omega) (by omega))]
theorem detL_congr {p : Int} {n : Nat} : ∀ f k (X Y : Nat → List Int) r, k + f = n → (∀ i, i < n → X i = Y i) → detL p n f k X r = detL p n f k Y r := by
  intro f
  induction f with
  | zero => intro k X Y r _ _; rfl
  | succ f ih =>
    intro k X Y r hk h
    have hp := pivF_congr k (n - k) k (fun i h1 h2 => h i (by omega))
    have hr := pivF_rng Y k (n - k) k
    unfold detL
    rw [hp]
    by_cases e : pivF Y k (n - k) k = n
    · rw [if_pos e, if_pos e]
    · have hs : ∀ i, i < n → swapR X k (pivF Y k (n - k) k) i = swapR Y k (pivF Y k (n - k) k) i := fun i hi => by
        unfold swapR
        rw [h i hi, h k (by omega), h (pivF Y k (n - k) k) (by omega)]
      rw [if_neg e, if_neg e, hs k (by omega)]
      refine ih (k + 1) _ _ _ (by omega) fun i hi => ?_
      unfold stepR
      rw [hs i hi, hs k (by omega)]
theorem detL_rng {p : Int} (hp : 2 ≤ p) {n : Nat} : ∀ f k (X : Nat → List Int) r, 0 ≤ r → r < p → 0 ≤ detL p n f k X r ∧ detL p n f k X r < p := by
  intro f
  induction f with
  | zero => intro k X r h1 h2; exact ⟨h1, h2⟩
  | succ f ih =>
    intro k X r h1 h2
    unfold detL
    split
    · omega
    · exact ih _ _ _ (modb hp).1 (modb hp).2
end Go.Proofs.Ytcadiepghhnbeaa
/- Mathematics: the polynomial of interpolation that is 1 at one node and 0 at the others is the product of the others' x - a, divided by its value (used by WeightsFor). -/
namespace Go.Proofs.Ytcadiepghhnbeaa
open Go.RowKit
set_option linter.unusedVariables false
set_option linter.unusedSimpArgs false

theorem dv_self (p a : Int) : p ∣ a - a := by rw [Int.sub_self]; exact Int.dvd_zero p
theorem dv_of {p a b : Int} (h : a % p = b % p) : p ∣ a - b := Int.dvd_of_emod_eq_zero (Int.emod_eq_emod_iff_emod_sub_eq_zero.1 h)
theorem dv_to {p a b : Int} (h : p ∣ a - b) : a % p = b % p := Int.emod_eq_emod_iff_emod_sub_eq_zero.2 (Int.emod_eq_zero_of_dvd h)
theorem dv_mod (p a : Int) : p ∣ a % p - a := dv_of (Int.emod_emod _ _)
theorem dv_mod' (p a : Int) : p ∣ a - a % p := dv_of (Int.emod_emod _ _).symm
theorem dv_trans {p a b c : Int} (h : p ∣ a - b) (k : p ∣ b - c) : p ∣ a - c := by
  obtain ⟨x, hx⟩ := h
  obtain ⟨y, hy⟩ := k
  exact ⟨x + y, by grind⟩
theorem dv_symm {p a b : Int} (h : p ∣ a - b) : p ∣ b - a := by
  obtain ⟨x, hx⟩ := h
  exact ⟨-x, by grind⟩
theorem dv_add {p a b c d : Int} (h : p ∣ a - b) (k : p ∣ c - d) : p ∣ (a + c) - (b + d) := by
  obtain ⟨x, hx⟩ := h
  obtain ⟨y, hy⟩ := k
  exact ⟨x + y, by grind⟩
theorem dv_mul {p a b c d : Int} (h : p ∣ a - b) (k : p ∣ c - d) : p ∣ a * c - b * d := by
  obtain ⟨x, hx⟩ := h
  obtain ⟨y, hy⟩ := k
  exact ⟨x * c + b * y, by grind⟩
theorem dv_sm {p : Int} {n : Nat} {f g : Nat → Int} (h : ∀ k, k < n → p ∣ f k - g k) : p ∣ sm n f - sm n g := by
  induction n with
  | zero => exact dv_self p 0
  | succ n ih => exact dv_add (ih fun k hk => h k (by omega)) (h n (by omega))
/-- The value of the first n coefficients at x. -/
def EV (F : Nat → Int) (n : Nat) (x : Int) : Int := sm n (fun i => F i * x ^ i)
theorem EV_add (F G : Nat → Int) (n : Nat) (x : Int) : EV (fun i => F i + G i) n x = EV F n x + EV G n x := by
  unfold EV
  rw [← sm_add]
  apply sm_congr
  intro k _
  grind
theorem EV_mul (a : Int) (F : Nat → Int) (n : Nat) (x : Int) : EV (fun i => a * F i) n x = a * EV F n x := by
  unfold EV
  rw [← sm_mul]
  apply sm_congr
  intro k _
  grind
theorem EV_mod {p : Int} {F G : Nat → Int} {n : Nat} (x : Int) (h : ∀ i, i < n → p ∣ F i - G i) : p ∣ EV F n x - EV G n x :=
  dv_sm fun k hk => dv_mul (h k hk) (dv_self p _)
theorem EV_far (F : Nat → Int) (n m : Nat) (x : Int) (hm : n ≤ m) (h : ∀ k, n ≤ k → F k = 0) : EV F m x = EV F n x :=
  sm_ext _ n m hm (fun k h1 _ => by rw [h k h1, Int.zero_mul])
theorem hor_EV (p : Int) (f : List Int) (x : Int) : ∀ k, k ≤ f.length → p ∣ hor p f x k - EV (fun i => cf f (f.length - k + i)) k x := by
  intro k
  induction k with
  | zero => intro _; exact dv_self p 0
  | succ k ih =>
    intro hk
    have h := ih (by omega)
    have e : EV (fun i => cf f (f.length - (k + 1) + i)) (k + 1) x = EV (fun i => cf f (f.length - k + i)) k x * x + f.getD (f.length - 1 - k) 0 := by
      unfold EV
      rw [sm_head]
      have e2 : sm k (fun i => cf f (f.length - (k + 1) + (i + 1)) * x ^ (i + 1)) = x * sm k (fun i => cf f (f.length - k + i) * x ^ i) := by
        rw [← sm_mul]
        apply sm_congr
        intro i _
        rw [show f.length - (k + 1) + (i + 1) = f.length - k + i by omega]
        grind
      rw [e2, Nat.add_zero, show f.length - (k + 1) = f.length - 1 - k by omega]
      show f.getD (f.length - 1 - k) 0 * x ^ 0 + _ = _
      grind
    rw [e]
    refine dv_trans (dv_mod p _) ?_
    exact dv_add (dv_mul h (dv_self p x)) (dv_self p _)
theorem evM_EV (p : Int) (f : List Int) (x : Int) (N : Nat) (hN : f.length ≤ N) : p ∣ evM p f x - EV (cf f) N x := by
  have h := hor_EV p f x f.length (Nat.le_refl _)
  have e : (fun i => cf f (f.length - f.length + i)) = cf f := by funext i; rw [Nat.sub_self, Nat.zero_add]
  rw [e] at h
  rw [EV_far (cf f) f.length N x hN (fun k hk => cf_far hk)]
  exact h
theorem sm_null (f : Nat → Int) : ∀ n, (∀ k, k < n → f k = 0) → sm n f = 0 := by
  intro n
  induction n with
  | zero => intro _; rfl
  | succ n ih => intro h; rw [sm, ih (fun k hk => h k (by omega)), h n (by omega)]; rfl
/-- Times x - a, coefficient by coefficient. -/
def lnF (a : Int) (F : Nat → Int) : Nat → Int
  | 0 => -a * F 0
  | j + 1 => F j - a * F (j + 1)
theorem lin_cf {p : Int} (hp : 2 ≤ p) (f : List Int) (a : Int) (j : Nat) : p ∣ cf (mulM p f (linM p a)) j - lnF a (cf f) j := by
  have h0 : p ∣ opp p a - (-a) := dv_of (by rw [← opp_neg, Int.emod_emod])
  rw [mulM_cf hp]
  refine dv_trans (dv_mod p _) ?_
  rw [cv_comm]
  cases j with
  | zero =>
    show p ∣ sm 1 (fun i => cf (linM p a) i * cf f (0 - i)) - -a * cf f 0
    simp only [sm, Nat.sub_zero]
    rw [Int.zero_add]
    exact dv_mul h0 (dv_self p _)
  | succ j =>
    show p ∣ sm (j + 1 + 1) (fun i => cf (linM p a) i * cf f (j + 1 - i)) - (cf f j - a * cf f (j + 1))
    rw [sm_head, sm_head, sm_null _ j (fun k _ => by
      have : cf (linM p a) (k + 1 + 1) = 0 := cf_far (by simp [linM])
      rw [this, Int.zero_mul])]
    have e1 : cf (linM p a) 0 = opp p a := rfl
    have e2 : cf (linM p a) (0 + 1) = 1 := rfl
    rw [e1, e2]
    obtain ⟨x, hx⟩ := h0
    refine ⟨x * cf f (j + 1), ?_⟩
    simp only [Nat.sub_zero, Nat.zero_add, Nat.add_sub_cancel]
    grind
theorem lnF_mod {p : Int} {F G : Nat → Int} (a : Int) (h : ∀ i, p ∣ F i - G i) (j : Nat) : p ∣ lnF a F j - lnF a G j := by
  cases j with
  | zero => exact dv_mul (dv_self p _) (h 0)
  | succ j =>
    obtain ⟨x, hx⟩ := h j
    obtain ⟨y, hy⟩ := h (j + 1)
    exact ⟨x - a * y, by show (F j - a * F (j + 1)) - (G j - a * G (j + 1)) = _; grind⟩
theorem EV_lin (a : Int) (F : Nat → Int) (x : Int) : ∀ n, EV (lnF a F) (n + 1) x = (x - a) * EV F n x - a * (F n * x ^ n) := by
  intro n
  induction n with
  | zero => show (0 : Int) + -a * F 0 * x ^ 0 = (x - a) * 0 - a * (F 0 * x ^ 0); grind
  | succ n ih =>
    have e : EV (lnF a F) (n + 1 + 1) x = EV (lnF a F) (n + 1) x + (F n - a * F (n + 1)) * x ^ (n + 1) := rfl
    have e2 : EV F (n + 1) x = EV F n x + F n * x ^ n := rfl
    rw [e, ih, e2]
    grind
theorem evM_lin {p : Int} (hp : 2 ≤ p) (f : List Int) (a x : Int) (N : Nat) (hN : f.length < N) : p ∣ EV (cf (mulM p f (linM p a))) N x - (x - a) * EV (cf f) N x := by
  obtain ⟨M, rfl⟩ : ∃ M, N = M + 1 := ⟨N - 1, by omega⟩
  refine dv_trans (EV_mod x (fun i _ => lin_cf hp f a i)) ?_
  rw [EV_lin, EV_far (cf f) f.length (M + 1) x (by omega) (fun k hk => cf_far hk), EV_far (cf f) f.length M x (by omega) (fun k hk => cf_far hk), cf_far (f := f) (j := M) (by omega)]
  rw [Int.zero_mul, Int.mul_zero, Int.sub_zero]
  exact dv_self p _
/-- The product of x - a for the first j nodes but the i-th. -/
def othM (p : Int) (xs : List Int) (i : Nat) : Nat → List Int
  | 0 => [1]
  | j + 1 => if j = i then othM p xs i j else mulM p (othM p xs i j) (linM p (xs.getD j 0))
theorem othM_len (p : Int) (xs : List Int) (i : Nat) : ∀ j, (othM p xs i j).length = (if j ≤ i then j + 1 else j) := by
  intro j
  induction j with
  | zero => simp [othM]
  | succ j ih =>
    unfold othM
    by_cases h : j = i
    · rw [if_pos h, ih, if_pos (by omega), if_neg (by omega)]
    · rw [if_neg h, mulM_mlen, ih]
      unfold mlen linM
      by_cases h2 : j ≤ i
      · rw [if_pos h2, if_neg (by simp), if_pos (by omega)]; simp
      · rw [if_neg h2, if_neg (by simp; omega), if_neg (by omega)]; simp
theorem itp_two {p : Int} (hp : 2 ≤ p) (xs ys : List Int) (i : Nat) : ∀ j, (itpF p xs ys j).2 = if j ≤ i then othM p xs i j else mulM p (othM p xs i j) (linM p (xs.getD i 0)) := by
  intro j
  induction j with
  | zero => simp [itpF, othM]
  | succ j ih =>
    have e : (itpF p xs ys (j + 1)).2 = mulM p (itpF p xs ys j).2 (linM p (xs.getD j 0)) := rfl
    have e3 : othM p xs i (j + 1) = if j = i then othM p xs i j else mulM p (othM p xs i j) (linM p (xs.getD j 0)) := rfl
    rw [e, ih, e3]
    by_cases h : j = i
    · subst h
      rw [if_pos (Nat.le_refl _), if_neg (by omega), if_pos rfl]
    · rw [if_neg h]
      by_cases h2 : j ≤ i
      · rw [if_pos h2, if_pos (by omega)]
      · rw [if_neg h2, if_neg (by omega), mulM_assoc hp, mulM_comm hp (linM p (xs.getD i 0)), mulM_assoc hp]
theorem prime_dvd {p a b : Int} (hP : primeB p = true) (h : p ∣ a * b) : p ∣ a ∨ p ∣ b := by
  obtain ⟨hp, _⟩ := primeB_lo hP
  by_cases h1 : a % p = 0
  · exact .inl (Int.dvd_of_emod_eq_zero h1)
  by_cases h2 : b % p = 0
  · exact .inr (Int.dvd_of_emod_eq_zero h2)
  have r1 := modb (x := a) hp
  have r2 := modb (x := b) hp
  exact absurd (by rw [← Int.mul_emod]; exact Int.emod_eq_zero_of_dvd h) (prime_mul hP (show 0 < a % p by omega) r1.2 (show 0 < b % p by omega) r2.2)
theorem othM_nz {p : Int} (hP : primeB p = true) (xs : List Int) (i N : Nat) (x : Int) : ∀ j, j + 1 < N → (∀ l, l < j → l ≠ i → ¬ p ∣ x - xs.getD l 0) → ¬ p ∣ EV (cf (othM p xs i j)) N x := by
  obtain ⟨hp, _⟩ := primeB_lo hP
  intro j
  induction j with
  | zero =>
    intro hN _ h
    have e : EV (cf (othM p xs i 0)) N x = 1 := by
      show EV (cf [1]) N x = 1
      rw [EV_far (cf [1]) 1 N x (by omega) (fun k hk => cf_far (by simpa using hk))]
      show (0 : Int) + 1 * x ^ 0 = 1
      grind
    rw [e] at h
    have := Int.le_of_dvd (by omega) h
    omega
  | succ j ih =>
    intro hN hx h
    have e3 : othM p xs i (j + 1) = if j = i then othM p xs i j else mulM p (othM p xs i j) (linM p (xs.getD j 0)) := rfl
    rw [e3] at h
    by_cases hji : j = i
    · rw [if_pos hji] at h
      exact ih (by omega) (fun l hl => hx l (by omega)) h
    · rw [if_neg hji] at h
      have hl := othM_len p xs i j
      have h2 := evM_lin hp (othM p xs i j) (xs.getD j 0) x N (by rw [hl]; split <;> omega)
      have h3 : p ∣ (x - xs.getD j 0) * EV (cf (othM p xs i j)) N x := by
        obtain ⟨k, hk⟩ := h
        obtain ⟨m, hm⟩ := h2
        exact ⟨k - m, by grind⟩
      rcases prime_dvd hP h3 with h4 | h4
      · exact hx j (by omega) hji h4
      · exact ih (by omega) (fun l hl => hx l (by omega)) h4
theorem evM_nil (p x : Int) : evM p [] x = 0 := rfl
theorem addM_null {p : Int} (hp : 2 ≤ p) (q : List Int) : addM p [] q 0 = [] := by
  refine can_nil (can_trim _) (fun j => ?_)
  have := cf_add hp (f := []) (by simp [areB]) q 0 j
  rw [this]
  simp [cf]
theorem itp_low {p : Int} (hp : 2 ≤ p) (xs ys : List Int) (i : Nat) (hy : ∀ j, ys.getD j 0 = if j = i then 1 else 0) : ∀ j, j ≤ i → (itpF p xs ys j).1 = [] := by
  intro j
  induction j with
  | zero => intro _; rfl
  | succ j ih =>
    intro h
    have e : (itpF p xs ys (j + 1)).1 = addM p (itpF p xs ys j).1 (itpF p xs ys j).2 ((ys.getD j 0 - evM p (itpF p xs ys j).1 (xs.getD j 0)) % p * invM p (evM p (itpF p xs ys j).2 (xs.getD j 0)) % p) := rfl
    rw [e, ih (by omega), evM_nil, hy, if_neg (by omega)]
    rw [show ((0 : Int) - 0) % p * invM p (evM p (itpF p xs ys j).2 (xs.getD j 0)) % p = 0 by simp]
    exact addM_null hp _
theorem lnF_eq (a : Int) (F : Nat → Int) (t : Nat) : lnF a F t = (if t = 0 then 0 else F (t - 1)) - a * F t := by
  cases t with
  | zero => show -a * F 0 = 0 - a * F 0; grind
  | succ t => rfl
theorem step_ring {p F' c A inv V r Q V' F R q s xi xj R' k1 k2 k3 k4 k5 k6 k7 k8 k9 : Int} (h1 : F' = F + c * q + p * k1) (h2 : c = (0 - A) * inv + p * k2) (h3 : A * V = r + p * k3) (h4 : Q = (xj - xi) * r + p * k4)
    (h5 : Q * inv = 1 + p * k5) (h6 : V' = (xi - xj) * V + p * k6) (h7 : F * V = R + p * k7) (h8 : q = s - xi * R + p * k8) (h9 : R' = s - xj * R + p * k9) : p ∣ F' * V' - R' := by
  obtain rfl : r = A * V - p * k3 := by omega
  obtain rfl : R = F * V - p * k7 := by omega
  refine ⟨k1 * (-(xj - xi) * V + p * k6) + k6 * (F + c * q) - (xj - xi) * k7 - (xj - xi) * V * q * k2 + (xj - xi) * q * inv * k3 - q * inv * k4 + q * k5 + k8 - k9, ?_⟩
  subst h1 h6 h9
  grind
theorem base_ring {p F' c R V E inv k1 k2 k3 k4 : Int} (h1 : F' = 0 + c * R + p * k1) (h2 : c = (1 - 0) * inv + p * k2) (h3 : E * inv = 1 + p * k3) (h4 : E = V + p * k4) : p ∣ F' * V - R := by
  obtain rfl : V = E - p * k4 := by omega
  refine ⟨k2 * R * (E - p * k4) + k1 * (E - p * k4) + R * k3 - inv * R * k4, ?_⟩
  subst h1 h2
  grind
theorem last_ring {p DF DR SF SR V E inv k1 k2 k3 k4 k5 : Int} (h1 : DF = SF + p * k1) (h2 : DR = SR + p * k2) (h3 : SF * V = SR + p * k3) (h4 : E = V + p * k4) (h5 : E * inv = 1 + p * k5) : p ∣ DF - DR * inv := by
  obtain rfl : V = E - p * k4 := by omega
  obtain rfl : SR = SF * (E - p * k4) - p * k3 := by omega
  refine ⟨k1 - SF * k5 + SF * k4 * inv + k3 * inv - k2 * inv, ?_⟩
  subst h1 h2
  grind
theorem dvk {p a b : Int} (h : p ∣ a - b) : ∃ k, a = b + p * k := by
  obtain ⟨k, hk⟩ := h
  exact ⟨k, by omega⟩
/-- The polynomial of interpolation of a row that is 1 at i alone, times the value of the others' product there, is this product. -/
theorem itp_unit {p : Int} (hP : primeB p = true) (xs ys : List Int) (i N : Nat) (hy : ∀ j, ys.getD j 0 = if j = i then 1 else 0) (hd : ∀ l m, l < N - 2 → m < N - 2 → l ≠ m → ¬ p ∣ xs.getD l 0 - xs.getD m 0) (hi : i + 2 < N) :
    ∀ j, i < j → j + 2 ≤ N → j ≤ 25 → ∀ t, p ∣ cf (itpF p xs ys j).1 t * EV (cf (othM p xs i j)) N (xs.getD i 0) - cf (othM p xs i j) t := by
  obtain ⟨hp, _⟩ := primeB_lo hP
  intro j
  induction j with
  | zero => intro h; omega
  | succ j ih =>
    intro hij hN h25 t
    have hq := (itp_q hP xs ys j).2.1
    have hf := itp_f hP xs ys j (by omega)
    have e : (itpF p xs ys (j + 1)).1 = addM p (itpF p xs ys j).1 (itpF p xs ys j).2 ((ys.getD j 0 - evM p (itpF p xs ys j).1 (xs.getD j 0)) % p * invM p (evM p (itpF p xs ys j).2 (xs.getD j 0)) % p) := rfl
    have e2 := itp_two hp xs ys i j
    have e3 : othM p xs i (j + 1) = if j = i then othM p xs i j else mulM p (othM p xs i j) (linM p (xs.getD j 0)) := rfl
    have hol := othM_len p xs i j
    have hQ0 := evM_rng hp (itpF p xs ys j).2 (xs.getD j 0)
    have hQE := evM_EV p (itpF p xs ys j).2 (xs.getD j 0) N (by omega)
    rw [e, cf_add hp hf.1]
    by_cases hji : j = i
    · rw [e3, if_pos hji]
      rw [if_pos (by omega)] at e2
      have e4 := itp_low hp xs ys i hy j (by omega)
      rw [e4, evM_nil, hy, if_pos hji]
      rw [e2] at hQ0 hQE ⊢
      have hnz := othM_nz hP xs i N (xs.getD j 0) j (by omega) (fun l hl hli => hd j l (by omega) (by omega) (by omega))
      have hE0 : evM p (othM p xs i j) (xs.getD j 0) ≠ 0 := fun h0 => hnz (by
        obtain ⟨k, hk⟩ := hQE
        rw [h0] at hk
        exact ⟨-k, by grind⟩)
      have hinv := invM_mul hP (show 0 < evM p (othM p xs i j) (xs.getD j 0) by omega) hQ0.2
      obtain ⟨k1, h1⟩ := dvk (dv_mod p (cf [] t + ((1 : Int) - 0) % p * invM p (evM p (othM p xs i j) (xs.getD j 0)) % p * cf (othM p xs i j) t))
      obtain ⟨k2, h2⟩ := dvk (dv_trans (dv_mod p (((1 : Int) - 0) % p * invM p (evM p (othM p xs i j) (xs.getD j 0)))) (dv_mul (dv_mod p (1 - 0)) (dv_self p (invM p (evM p (othM p xs i j) (xs.getD j 0))))))
      obtain ⟨k3, h3⟩ := dvk (dv_of (p := p) (a := evM p (othM p xs i j) (xs.getD j 0) * invM p (evM p (othM p xs i j) (xs.getD j 0))) (b := 1) (by rw [hinv, Int.emod_eq_of_lt (by omega) (by omega)]))
      obtain ⟨k4, h4⟩ := dvk hQE
      rw [show xs.getD i 0 = xs.getD j 0 by rw [hji]]
      exact base_ring h1 h2 h3 h4
    · rw [e3, if_neg hji]
      rw [if_neg (by omega)] at e2
      have hI := ih (by omega) (by omega) (by omega)
      rw [hy, if_neg hji]
      rw [e2] at hQ0 hQE ⊢
      have hRl : (othM p xs i j).length < N := by rw [hol]; split <;> omega
      have hql := evM_lin hp (othM p xs i j) (xs.getD i 0) (xs.getD j 0) N hRl
      have hr := othM_nz hP xs i N (xs.getD j 0) j (by omega) (fun l hl hli => hd j l (by omega) (by omega) (by omega))
      have hQd := dv_trans hQE hql
      have hQn : evM p (mulM p (othM p xs i j) (linM p (xs.getD i 0))) (xs.getD j 0) ≠ 0 := fun h0 => by
        rw [h0] at hQd
        have h5 : p ∣ (xs.getD j 0 - xs.getD i 0) * EV (cf (othM p xs i j)) N (xs.getD j 0) := by
          obtain ⟨k, hk⟩ := hQd
          exact ⟨-k, by grind⟩
        rcases prime_dvd hP h5 with h6 | h6
        · exact hd j i (by omega) (by omega) hji h6
        · exact hr h6
      have hinv := invM_mul hP (show 0 < evM p (mulM p (othM p xs i j) (linM p (xs.getD i 0))) (xs.getD j 0) by omega) hQ0.2
      have hA := evM_EV p (itpF p xs ys j).1 (xs.getD j 0) N (by omega)
      have hAV : p ∣ evM p (itpF p xs ys j).1 (xs.getD j 0) * EV (cf (othM p xs i j)) N (xs.getD i 0) - EV (cf (othM p xs i j)) N (xs.getD j 0) := by
        refine dv_trans (dv_mul hA (dv_self p _)) ?_
        rw [Int.mul_comm, ← EV_mul]
        exact EV_mod _ (fun m _ => by rw [Int.mul_comm]; exact hI m)
      have hV' := evM_lin hp (othM p xs i j) (xs.getD j 0) (xs.getD i 0) N hRl
      have hq8 := lin_cf hp (othM p xs i j) (xs.getD i 0) t
      have hq9 := lin_cf hp (othM p xs i j) (xs.getD j 0) t
      rw [lnF_eq] at hq8 hq9
      obtain ⟨k1, h1⟩ := dvk (dv_mod p (cf (itpF p xs ys j).1 t + ((0 : Int) - evM p (itpF p xs ys j).1 (xs.getD j 0)) % p * invM p (evM p (mulM p (othM p xs i j) (linM p (xs.getD i 0))) (xs.getD j 0)) % p * cf (mulM p (othM p xs i j) (linM p (xs.getD i 0))) t))
      obtain ⟨k2, h2⟩ := dvk (dv_trans (dv_mod p (((0 : Int) - evM p (itpF p xs ys j).1 (xs.getD j 0)) % p * invM p (evM p (mulM p (othM p xs i j) (linM p (xs.getD i 0))) (xs.getD j 0)))) (dv_mul (dv_mod p (0 - evM p (itpF p xs ys j).1 (xs.getD j 0))) (dv_self p (invM p (evM p (mulM p (othM p xs i j) (linM p (xs.getD i 0))) (xs.getD j 0))))))
      obtain ⟨k3, h3⟩ := dvk hAV
      obtain ⟨k4, h4⟩ := dvk hQd
      obtain ⟨k5, h5⟩ := dvk (dv_of (p := p) (a := evM p (mulM p (othM p xs i j) (linM p (xs.getD i 0))) (xs.getD j 0) * invM p (evM p (mulM p (othM p xs i j) (linM p (xs.getD i 0))) (xs.getD j 0))) (b := 1) (by rw [hinv, Int.emod_eq_of_lt (by omega) (by omega)]))
      obtain ⟨k6, h6⟩ := dvk hV'
      obtain ⟨k7, h7⟩ := dvk (hI t)
      obtain ⟨k8, h8⟩ := dvk hq8
      obtain ⟨k9, h9⟩ := dvk hq9
      exact step_ring h1 h2 h3 h4 h5 h6 h7 h8 h9
theorem dotK_sm (p : Int) (f ms : List Int) (k : Nat) : ∀ n, p ∣ dotK p f ms k n - sm n (fun j => cf f j * cf ms (j + k)) := by
  intro n
  induction n with
  | zero => exact dv_self p 0
  | succ n ih =>
    show p ∣ (dotK p f ms k n + f.getD n 0 * ms.getD (n + k) 0) % p - (sm n (fun j => cf f j * cf ms (j + k)) + cf f n * cf ms (n + k))
    exact dv_trans (dv_mod p _) (dv_add ih (dv_self p _))
theorem dotK_far (p : Int) (f ms : List Int) (N : Nat) (h : f.length ≤ N) : p ∣ dotK p f ms 0 f.length - sm N (fun j => cf f j * cf ms j) := by
  rw [sm_ext (fun j => cf f j * cf ms j) f.length N h (fun k h1 _ => by rw [cf_far h1, Int.zero_mul])]
  exact dotK_sm p f ms 0 f.length
theorem others_at (xs : List Int) (i l : Nat) (hi : i < xs.length) : (xs.take i ++ xs.drop (i + 1)).getD l 0 = if l < i then xs.getD l 0 else xs.getD (l + 1) 0 := by
  have hm : min i xs.length = i := by omega
  by_cases h : l < i
  · rw [if_pos h, List.getD_eq_getElem?_getD, List.getD_eq_getElem?_getD, List.getElem?_append_left (by rw [List.length_take, hm]; exact h), List.getElem?_take_of_lt h]
  · rw [if_neg h, List.getD_eq_getElem?_getD, List.getD_eq_getElem?_getD, List.getElem?_append_right (by rw [List.length_take, hm]; omega), List.length_take, hm, List.getElem?_drop]
    rw [show i + 1 + (l - i) = l + 1 by omega]
theorem othM_por (p : Int) (xs : List Int) (i : Nat) (hi : i < xs.length) : ∀ j, othM p xs i j = porM p (xs.take i ++ xs.drop (i + 1)) (if j ≤ i then j else j - 1) := by
  intro j
  induction j with
  | zero => rfl
  | succ j ih =>
    have e3 : othM p xs i (j + 1) = if j = i then othM p xs i j else mulM p (othM p xs i j) (linM p (xs.getD j 0)) := rfl
    rw [e3, ih]
    by_cases h : j = i
    · rw [if_pos h, if_pos (by omega), if_neg (by omega)]
      rfl
    · rw [if_neg h]
      by_cases h2 : j ≤ i
      · rw [if_pos h2, if_pos (by omega)]
        show _ = mulM p (porM p (xs.take i ++ xs.drop (i + 1)) j) (linM p ((xs.take i ++ xs.drop (i + 1)).getD j 0))
        rw [others_at xs i j hi, if_pos (by omega)]
      · rw [if_neg h2, if_neg (by omega)]
        obtain ⟨m, rfl⟩ : ∃ m, j = m + 1 := ⟨j - 1, by omega⟩
        show mulM p (porM p (xs.take i ++ xs.drop (i + 1)) m) _ = mulM p (porM p (xs.take i ++ xs.drop (i + 1)) m) (linM p ((xs.take i ++ xs.drop (i + 1)).getD m 0))
        rw [others_at xs i m hi, if_neg (by omega)]
theorem far_nd {p a b : Int} (ha : 0 ≤ a) (ha2 : a < p) (hb : 0 ≤ b) (hb2 : b < p) (h : a ≠ b) : ¬ p ∣ a - b := fun ⟨k, hk⟩ => by
  rcases Int.lt_trichotomy k 0 with h1 | h1 | h1
  · have : p * k ≤ p * (-1) := Int.mul_le_mul_of_nonneg_left (by omega) (by omega)
    omega
  · subst h1
    omega
  · have : p * 1 ≤ p * k := Int.mul_le_mul_of_nonneg_left (by omega) (by omega)
    omega
/-- The weight at node i: what the functional makes of the polynomial of interpolation is what it makes of the others' product, divided by this one's value at the node. -/
theorem weight_at {p : Int} (hP : primeB p = true) (xs ys ms : List Int) (i : Nat) (hx : areB p xs = true) (h25 : xs.length ≤ 25) (hi : i < xs.length) (hne : ∀ l m, l < xs.length → m < xs.length → l ≠ m → xs.getD l 0 ≠ xs.getD m 0)
    (hy : ∀ j, ys.getD j 0 = if j = i then 1 else 0) :
    dotK p (itpF p xs ys xs.length).1 ms 0 (itpF p xs ys xs.length).1.length =
      dotK p (porM p (xs.take i ++ xs.drop (i + 1)) (xs.length - 1)) ms 0 (porM p (xs.take i ++ xs.drop (i + 1)) (xs.length - 1)).length * invM p (evM p (porM p (xs.take i ++ xs.drop (i + 1)) (xs.length - 1)) (xs.getD i 0)) % p := by
  obtain ⟨hp, _⟩ := primeB_lo hP
  have hR := othM_por p xs i hi xs.length
  rw [if_neg (by omega)] at hR
  rw [← hR]
  have hd : ∀ l m, l < xs.length + 2 - 2 → m < xs.length + 2 - 2 → l ≠ m → ¬ p ∣ xs.getD l 0 - xs.getD m 0 := fun l m h1 h2 h3 => by
    have r1 := getD_rng hx hp l
    have r2 := getD_rng hx hp m
    exact far_nd r1.1 r1.2 r2.1 r2.2 (hne l m (by omega) (by omega) h3)
  have hU := itp_unit hP xs ys i (xs.length + 2) hy hd (by omega) xs.length hi (Nat.le_refl _) h25
  have hf := itp_f hP xs ys xs.length h25
  have hl := othM_len p xs i xs.length
  rw [if_neg (by omega)] at hl
  have hE := evM_EV p (othM p xs i xs.length) (xs.getD i 0) (xs.length + 2) (by omega)
  have hE0 := evM_rng hp (othM p xs i xs.length) (xs.getD i 0)
  have hnz := othM_nz hP xs i (xs.length + 2) (xs.getD i 0) xs.length (by omega) (fun l h1 h2 => hd i l (by omega) (by omega) (by omega))
  have hEn : evM p (othM p xs i xs.length) (xs.getD i 0) ≠ 0 := fun h0 => hnz (by
    obtain ⟨k, hk⟩ := hE
    rw [h0] at hk
    exact ⟨-k, by grind⟩)
  have hinv := invM_mul hP (show 0 < evM p (othM p xs i xs.length) (xs.getD i 0) by omega) hE0.2
  have hF := dotK_far p (itpF p xs ys xs.length).1 ms (xs.length + 2) (by omega)
  have hG := dotK_far p (othM p xs i xs.length) ms (xs.length + 2) (by omega)
  have hS : p ∣ sm (xs.length + 2) (fun j => cf (itpF p xs ys xs.length).1 j * cf ms j) * EV (cf (othM p xs i xs.length)) (xs.length + 2) (xs.getD i 0) - sm (xs.length + 2) (fun j => cf (othM p xs i xs.length) j * cf ms j) := by
    rw [Int.mul_comm, ← sm_mul]
    refine dv_sm (fun k _ => ?_)
    obtain ⟨m, hm⟩ := hU k
    exact ⟨m * cf ms k, by grind⟩
  have r := dotK_rng hp (itpF p xs ys xs.length).1 ms 0 (itpF p xs ys xs.length).1.length
  obtain ⟨k1, h1⟩ := dvk hF
  obtain ⟨k2, h2⟩ := dvk hG
  obtain ⟨k3, h3⟩ := dvk hS
  obtain ⟨k4, h4⟩ := dvk hE
  obtain ⟨k5, h5⟩ := dvk (dv_of (p := p) (a := evM p (othM p xs i xs.length) (xs.getD i 0) * invM p (evM p (othM p xs i xs.length) (xs.getD i 0))) (b := 1) (by rw [hinv, Int.emod_eq_of_lt (by omega) (by omega)]))
  have hfin : p ∣ dotK p (itpF p xs ys xs.length).1 ms 0 (itpF p xs ys xs.length).1.length - dotK p (othM p xs i xs.length) ms 0 (othM p xs i xs.length).length * invM p (evM p (othM p xs i xs.length) (xs.getD i 0)) :=
    last_ring h1 h2 h3 h4 h5
  have := dv_to hfin
  rw [Int.emod_eq_of_lt r.1 r.2] at this
  exact this
end Go.Proofs.Ytcadiepghhnbeaa

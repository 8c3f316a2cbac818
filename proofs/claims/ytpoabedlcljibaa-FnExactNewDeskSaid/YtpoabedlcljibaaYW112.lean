/- Merged texts. -/
import Derived.Test.YtpoabedlcljibaaYW111
import Derived.Test.YtpoabedlcljibaaYW15
/- Contracts: GcdPolys (program and model). -/
namespace Go.Proofs.Ytpoabedlcljibaa
open Go.RowKit
set_option linter.unusedVariables false
set_option linter.unusedSimpArgs false

theorem divR_low {p inv : Int} {f g : List Int} {D : Nat} (hp : primeB p = true) (hf : areB p f = true) (hg : g.length ≠ 0) (hinv : g.getD (g.length - 1) 0 * inv % p = 1) (hD : f.length = D + g.length) :
    ∀ i, i ≤ D + 1 → ∀ j, D + g.length ≤ j + i → divR p inv f g D i j = 0 := by
  intro i
  induction i with
  | zero => intro _ j hj; exact divR_far hD j (by omega)
  | succ i ih =>
    intro hi j hj
    by_cases e : j = D - i + g.length - 1
    · rw [e]; exact divR_top hp hf hg hinv
    · rw [divR]
      unfold divS
      rw [if_neg (by omega)]
      exact ih (by omega) j (by omega)
theorem trimL_at (xs : List Int) (j : Nat) (h : j < (trimL xs).length) : (trimL xs).getD j 0 = xs.getD j 0 := by
  rw [trimL_len] at h
  unfold trimL
  exact getD_take _ _ _ h
theorem areB_mk {p : Int} {xs : List Int} (h : ∀ j, j < xs.length → 0 ≤ xs.getD j 0 ∧ xs.getD j 0 < p) : areB p xs = true := by
  unfold areB
  rw [List.all_eq_true]
  intro x hx
  obtain ⟨j, hj, rfl⟩ := List.getElem_of_mem hx
  have := h j hj
  simp [hj] at this
  simp [okN, this]
theorem polyB_mk {p : Int} {xs : List Int} (h1 : xs.length ≤ 25) (h2 : areB p xs = true) (h3 : xs.length = 0 ∨ xs.getD (xs.length - 1) 0 ≠ 0) : polyB p xs = true := by
  unfold polyB lastZ
  rw [h2]
  rcases h3 with h | h
  · have : xs = [] := List.eq_nil_of_length_eq_zero h
    subst this; simp
  · simp only [decide_eq_true h1, Bool.true_and]
    have : (xs.getD (xs.length - 1) 0 == 0) = false := by simpa using h
    rw [this]; simp
theorem trimL_last (xs : List Int) : (trimL xs).length = 0 ∨ (trimL xs).getD ((trimL xs).length - 1) 0 ≠ 0 := by
  by_cases h : (trimL xs).length = 0
  · exact .inl h
  · refine .inr ?_
    rw [trimL_at _ _ (by omega), trimL_len]
    rw [trimL_len] at h
    exact trimN_last xs xs.length h
theorem polyB_trim {p : Int} {xs : List Int} (h1 : xs.length ≤ 25) (h2 : ∀ j, j < xs.length → 0 ≤ xs.getD j 0 ∧ xs.getD j 0 < p) : polyB p (trimL xs) = true :=
  polyB_mk (Nat.le_trans (trimL_le _) h1) (areB_mk fun j hj => by
    rw [trimL_at _ _ hj]
    exact h2 j (Nat.lt_of_lt_of_le hj (trimL_le _))) (trimL_last xs)
theorem remM_poly {p : Int} {f g : List Int} (hp : primeB p = true) (hf : polyB p f = true) (hg : polyB p g = true) : polyB p (remM p f g) = true := by
  have hl := primeB_lo hp
  unfold remM
  split
  · exact hf
  · refine polyB_trim (by rw [tab_len]; exact (polyB_rng hf).1) fun j hj => ?_
    rw [tab_len] at hj
    rw [tab_at _ _ _ hj]
    exact divR_rng hl.1 (polyB_rng hf).2.1 _ j
theorem quoM_poly {p : Int} {f g : List Int} (hp : primeB p = true) (hf : polyB p f = true) (hg : polyB p g = true) (hg0 : g.length ≠ 0) : polyB p (quoM p f g) = true := by
  have hl := primeB_lo hp
  unfold quoM
  split
  · rfl
  · refine polyB_trim (by rw [tab_len]; have := (polyB_rng hf).1; omega) fun j hj => ?_
    rw [tab_len] at hj
    rw [tab_at _ _ _ hj]
    unfold divQ
    split
    · exact divN_rng hl.1
    · omega
theorem remM_lt {p : Int} {f g : List Int} (hp : primeB p = true) (hf : polyB p f = true) (hg : polyB p g = true) (h0 : g.length ≠ 0) : (remM p f g).length < g.length := by
  have hl := primeB_lo hp
  unfold remM
  split
  · assumption
  · have hgl := poly_last hg rfl (show 0 < g.length by omega)
    have hr := areB_at (polyB_rng hg).2.1 (g.length - 1) (by omega)
    have hi : g.getD (g.length - 1) 0 * invM p (g.getD (g.length - 1) 0) % p = 1 := invM_mul hp (by omega) hr.2
    have hz := divR_low (inv := invM p (g.getD (g.length - 1) 0)) (D := f.length - g.length) hp (polyB_rng hf).2.1 h0 hi (by omega) (f.length - g.length + 1) (by omega)
    rw [trimL_len, tab_len]
    have hm : trimN (tab f.length (divR p (invM p (g.getD (g.length - 1) 0)) f g (f.length - g.length) (f.length - g.length + 1))) f.length = trimN (tab f.length (divR p (invM p (g.getD (g.length - 1) 0)) f g (f.length - g.length) (f.length - g.length + 1))) (g.length - 1) :=
      trimN_mono _ _ _ (by omega) (fun j h1 h2 => by rw [tab_at _ _ _ h2]; exact hz j (by omega))
    rw [hm]
    have := trimN_le (tab f.length (divR p (invM p (g.getD (g.length - 1) 0)) f g (f.length - g.length) (f.length - g.length + 1))) (g.length - 1)
    omega
def gcdL (p : Int) : Nat → List Int → List Int → List Int
  | 0, f, _ => f
  | k + 1, f, g => if g.isEmpty then f else gcdL p k g (remM p f g)
def gcdM (p : Int) (f g : List Int) : List Int := monM p (gcdL p (g.length + 1) f g)
def gcdC (p : Int) (f g : List Int) : Int := chk2 p f g
def gcdV (p : Int) (f g : List Int) : List Int := if gcdC p f g = 0 then gcdM p f g else []
theorem gcdL_poly {p : Int} (hp : primeB p = true) : ∀ (k : Nat) (f g : List Int), polyB p f = true → polyB p g = true → polyB p (gcdL p k f g) = true := by
  intro k
  induction k with
  | zero => intro f g h1 _; exact h1
  | succ k ih =>
    intro f g h1 h2
    unfold gcdL
    split
    · exact h1
    · exact ih _ _ h2 (remM_poly hp h1 h2)
theorem gcdM_len {p : Int} {f g : List Int} (hp : primeB p = true) (hf : polyB p f = true) (hg : polyB p g = true) : (gcdM p f g).length ≤ 1000 :=
  monM_len (by have := poly_len (gcdL_poly hp (g.length + 1) f g hf hg); omega)
end Go.Proofs.Ytpoabedlcljibaa
/- Plain mathematics of chapter 2: sums of products modulo p, sums of lists, eliminations. No program. -/
namespace Go.Proofs.Ytpoabedlcljibaa
open Go.RowKit
set_option linter.unusedVariables false
set_option linter.unusedSimpArgs false
/-- The sum of the first i products of numbers of f and of xs from k on. -/
def dotK (p : Int) (f xs : List Int) (k : Nat) : Nat → Int
  | 0 => 0
  | i + 1 => (dotK p f xs k i + f.getD i 0 * xs.getD (i + k) 0) % p
theorem dotK_rng {p : Int} (hp : 2 ≤ p) (f xs : List Int) (k i : Nat) : 0 ≤ dotK p f xs k i ∧ dotK p f xs k i < p := by
  cases i with
  | zero => simp [dotK]; omega
  | succ i => exact modb hp
/-- The numbers of xs and k times those of ys together. -/
def addlM (p k : Int) (xs ys : List Int) : List Int := tab xs.length (fun j => (xs.getD j 0 + k * ys.getD j 0) % p)
theorem addlM_len (p k : Int) (xs ys : List Int) : (addlM p k xs ys).length = xs.length := tab_len _ _
theorem tab_are {p : Int} {n : Nat} {h : Nat → Int} (e : ∀ j, j < n → 0 ≤ h j ∧ h j < p) : areB p (tab n h) = true := areB_mk fun j hj => by
  rw [tab_len] at hj
  rw [tab_at _ _ _ hj]
  exact e j hj
theorem addlM_are {p : Int} (hp : 2 ≤ p) (k : Int) (xs ys : List Int) : areB p (addlM p k xs ys) = true := tab_are fun _ _ => modb hp
/-- The products of moments by f: n of them. -/
def prodM (p : Int) (f xs : List Int) (n : Nat) : List Int := tab n (fun j => dotK p f xs j f.length)
theorem addlM_dot (p : Int) (f xs : List Int) (n i : Nat) (h : i + n ≤ xs.length) : addlM p (f.getD i 0) (tab n (fun j => dotK p f xs j i)) ((xs.drop i).take n) = tab n (fun j => dotK p f xs j (i + 1)) := by
  unfold addlM
  rw [tab_len]
  apply tab_congr
  intro j hj
  rw [tab_at _ _ _ hj, dotK]
  congr 3
  simp [List.getElem?_take, hj]

/-- A row less a multiple of the row of the pivot. -/
def elimR (p : Int) (own row : List Int) (k n : Nat) : List Int := tab n (fun j => (row.getD j 0 - row.getD k 0 * invM p (own.getD k 0) % p * own.getD j 0) % p)
theorem elim_eq (p R rk inv o : Int) : (R + (p - inv) * rk % p * o) % p = (R - rk * inv % p * o) % p := by
  have e1 : ((p - inv) * rk % p * o) % p = ((p - inv) * rk * o) % p := by rw [Int.mul_emod, Int.emod_emod, ← Int.mul_emod]
  have e2 : (rk * inv % p * o) % p = (rk * inv * o) % p := by rw [Int.mul_emod, Int.emod_emod, ← Int.mul_emod]
  rw [Int.add_emod, e1, ← Int.add_emod, Int.sub_emod, e2, ← Int.sub_emod]
  have e3 : R + (p - inv) * rk * o = R - rk * inv * o + p * (rk * o) := by
    rw [Int.sub_mul, Int.sub_mul, Int.mul_comm inv rk, Int.mul_assoc p]; omega
  rw [e3, Int.add_mul_emod_self_left]
theorem neg_eq (p r x : Int) : (p - r) * x % p = (-r) % p * x % p := by
  rw [Int.mul_emod (-r % p), Int.emod_emod, ← Int.mul_emod, Int.sub_mul, Int.neg_mul]
  have : p * x - r * x = - (r * x) + p * x := by omega
  rw [this, Int.add_mul_emod_self_left]
/-- The first row from b on, of so many, with another number than 0 at c. -/
def pivF (X : Nat → List Int) (c : Nat) : Nat → Nat → Nat
  | 0, b => b
  | f + 1, b => if (X b).getD c 0 = 0 then pivF X c f (b + 1) else b
theorem pivF_rng (X : Nat → List Int) (c : Nat) : ∀ f b, b ≤ pivF X c f b ∧ pivF X c f b ≤ b + f := by
  intro f
  induction f with
  | zero => intro b; simp [pivF]
  | succ f ih =>
    intro b
    unfold pivF
    split
    · have := ih (b + 1); omega
    · omega
theorem pivF_at (X : Nat → List Int) (c : Nat) : ∀ f b, pivF X c f b < b + f → (X (pivF X c f b)).getD c 0 ≠ 0 := by
  intro f
  induction f with
  | zero => intro b h; simp [pivF] at h
  | succ f ih =>
    intro b h
    unfold pivF at h ⊢
    split
    · rename_i hz
      rw [if_pos hz] at h
      exact ih (b + 1) (by omega)
    · rename_i hz; exact hz
theorem pivF_skip (X : Nat → List Int) (c : Nat) : ∀ f b, (∀ i, b ≤ i → i < b + f → (X i).getD c 0 = 0) → pivF X c f b = b + f := by
  intro f
  induction f with
  | zero => intro b _; rfl
  | succ f ih =>
    intro b h
    unfold pivF
    rw [if_pos (h b (by omega) (by omega)), ih (b + 1) (fun i h1 h2 => h i (by omega) (by omega))]
    omega
theorem pivF_stop (X : Nat → List Int) (c : Nat) : ∀ f b j, j < f → (∀ i, b ≤ i → i < b + j → (X i).getD c 0 = 0) → (X (b + j)).getD c 0 ≠ 0 → pivF X c f b = b + j := by
  intro f
  induction f with
  | zero => intro b j h; omega
  | succ f ih =>
    intro b j hj h h2
    unfold pivF
    cases j with
    | zero => rw [Nat.add_zero] at h2; rw [if_neg h2]; rfl
    | succ j =>
      rw [if_pos (h b (by omega) (by omega)), ih (b + 1) j (by omega) (fun i h1 h3 => h i (by omega) (by omega)) (by rw [show b + 1 + j = b + (j + 1) by omega]; exact h2)]
      omega
def swapR (X : Nat → List Int) (a b : Nat) : Nat → List Int := fun i => if i = a then X b else if i = b then X a else X i
/-- The rows behind k up to m have 0 at k. -/
def stepR (p : Int) (n k m : Nat) (X : Nat → List Int) : Nat → List Int := fun i => if k < i ∧ i < m then elimR p (X k) (X i) k n else X i
def sgn (p r : Int) (b k : Nat) : Int := if b = k then r else (-r) % p
def detL (p : Int) (n : Nat) : Nat → Nat → (Nat → List Int) → Int → Int
  | 0, _, _, r => r
  | f + 1, k, X, r => if pivF X k (n - k) k = n then 0 else
      detL p n f (k + 1) (stepR p n k n (swapR X k (pivF X k (n - k) k))) (sgn p r (pivF X k (n - k) k) k * (swapR X k (pivF X k (n - k) k) k).getD k 0 % p)
def detM (p : Int) (n : Nat) (X : Nat → List Int) : Int := detL p n n 0 X 1
theorem pivF_congr {X Y : Nat → List Int} (c : Nat) : ∀ f b, (∀ i, b ≤ i → i < b + f → X i = Y i) → pivF X c f b = pivF Y c f b := by
  intro f
  induction f with
  | zero => intro b _; rfl
  | succ f ih =>
    intro b h
    unfold pivF
    rw [h b (by omega) (by omega), ih (b + 1) (fun i h1 h2 => h i (by omega) (by omega))]
theorem detL_congr {p : Int} {n : Nat} : ∀ f k (X Y : Nat → List Int) r, k + f = n → (∀ i, i < n → X i = Y i) → detL p n f k X r = detL p n f k Y r := by
  intro f
  induction f with
  | zero => intro k X Y r _ _; rfl
  | succ f ih =>
    intro k X Y r hk h
    have hp := pivF_congr k (n - k) k (fun i h1 h2 => h i (by omega))
    have hr := pivF_rng Y k (n - k) k
    unfold detL
    rw [hp]
    by_cases e : pivF Y k (n - k) k = n
    · rw [if_pos e, if_pos e]
    · have hs : ∀ i, i < n → swapR X k (pivF Y k (n - k) k) i = swapR Y k (pivF Y k (n - k) k) i := fun i hi => by
        unfold swapR
        rw [h i hi, h k (by omega), h (pivF Y k (n - k) k) (by omega)]
      rw [if_neg e, if_neg e, hs k (by omega)]
      refine ih (k + 1) _ _ _ (by omega) fun i hi => ?_
      unfold stepR
      rw [hs i hi, hs k (by omega)]
theorem detL_rng {p : Int} (hp : 2 ≤ p) {n : Nat} : ∀ f k (X : Nat → List Int) r, 0 ≤ r → r < p → 0 ≤ detL p n f k X r ∧ detL p n f k X r < p := by
  intro f
  induction f with
  | zero => intro k X r h1 h2; exact ⟨h1, h2⟩
  | succ f ih =>
    intro k X r h1 h2
    unfold detL
    split
    · omega
    · exact ih _ _ _ (modb hp).1 (modb hp).2
end Go.Proofs.Ytpoabedlcljibaa

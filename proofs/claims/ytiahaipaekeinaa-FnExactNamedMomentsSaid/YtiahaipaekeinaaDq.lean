/- Plain mathematics of chapter 2: sums of products modulo p, sums of lists, eliminations. No program. -/
import Derived.Test.YtiahaipaekeinaaFe
import Derived.Test.YtiahaipaekeinaaGc
namespace Go.Proofs.Ytiahaipaekeinaa
open Go.RowKit
set_option linter.unusedVariables false
set_option linter.unusedSimpArgs false
/-- The sum of the first i products of numbers of f and of xs from k on. -/
def dotK (p : Int) (f xs : List Int) (k : Nat) : Nat → Int
  | 0 => 0
  | i + 1 => (dotK p f xs k i + f.getD i 0 * xs.getD (i + k) 0) % p
theorem dotK_rng {p : Int} (hp : 2 ≤ p) (f xs : List Int) (k i : Nat) : 0 ≤ dotK p f xs k i ∧ dotK p f xs k i < p := by
  cases i with
  | zero => simp [dotK]; omega
  | succ i => exact modb hp
/-- The numbers of xs and k times those of ys together. -/
def addlM (p k : Int) (xs ys : List Int) : List Int := tab xs.length (fun j => (xs.getD j 0 + k * ys.getD j 0) % p)
theorem addlM_len (p k : Int) (xs ys : List Int) : (addlM p k xs ys).length = xs.length := tab_len _ _
theorem tab_are {p : Int} {n : Nat} {h : Nat → Int} (e : ∀ j, j < n → 0 ≤ h j ∧ h j < p) : areB p (tab n h) = true := areB_mk fun j hj => by
  rw [tab_len] at hj
  rw [tab_at _ _ _ hj]
  exact e j hj
theorem addlM_are {p : Int} (hp : 2 ≤ p) (k : Int) (xs ys : List Int) : areB p (addlM p k xs ys) = true := tab_are fun _ _ => modb hp
/-- The products of moments by f: n of them. -/
def prodM (p : Int) (f xs : List Int) (n : Nat) : List Int := tab n (fun j => dotK p f xs j f.length)
theorem addlM_dot (p : Int) (f xs : List Int) (n i : Nat) (h : i + n ≤ xs.length) : addlM p (f.getD i 0) (tab n (fun j => dotK p f xs j i)) ((xs.drop i).take n) = tab n (fun j => dotK p f xs j (i + 1)) := by
  unfold addlM
  rw [tab_len]
  apply tab_congr
  intro j hj
  rw [tab_at _ _ _ hj, dotK]
  congr 3
  simp [List.getElem?_take, hj]

/-- A row less a multiple of the row of the pivot. -/
def elimR (p : Int) (own row : List Int) (k n : Nat) : List Int := tab n (fun j => (row.getD j 0 - row.getD k 0 * invM p (own.getD k 0) % p * own.getD j 0) % p)
theorem elim_eq (p R rk inv o : Int) : (R + (p - inv) * rk % p * o) % p = (R - rk * inv % p * o) % p := by
  have e1 : ((p - inv) * rk % p * o) % p = ((p - inv) * rk * o) % p := by rw [Int.mul_emod, Int.emod_emod, ← Int.mul_emod]
  have e2 : (rk * inv % p * o) % p = (rk * inv * o) % p := by rw [Int.mul_emod, Int.emod_emod, ← Int.mul_emod]
  rw [Int.add_emod, e1, ← Int.add_emod, Int.sub_emod, e2, ← Int.sub_emod]
  have e3 : R + (p - inv) * rk * o = R - rk * inv * o + p * (rk * o) := by
    rw [Int.sub_mul, Int.sub_mul, Int.mul_comm inv rk, Int.mul_assoc p]; omega
  rw [e3, Int.add_mul_emod_self_left]
theorem neg_eq (p r x : Int) : (p - r) * x % p = (-r) % p * x % p := by
  rw [Int.mul_emod (-r % p), Int.emod_emod, ← Int.mul_emod, Int.sub_mul, Int.neg_mul]
  have : p * x - r * x = - (r * x) + p * x := by omega
  rw [this, Int.add_mul_emod_self_left]
/-- The first row from b on, of so many, with another number than 0 at c. -/
def pivF (X : Nat → List Int) (c : Nat) : Nat → Nat → Nat
  | 0, b => b
  | f + 1, b => if (X b).getD c 0 = 0 then pivF X c f (b + 1) else b
theorem pivF_rng (X : Nat → List Int) (c : Nat) : ∀ f b, b ≤ pivF X c f b ∧ pivF X c f b ≤ b + f := by
  intro f
  induction f with
  | zero => intro b; simp [pivF]
  | succ f ih =>
    intro b
    unfold pivF
    split
    · have := ih (b + 1); omega
    · omega
theorem pivF_at (X : Nat → List Int) (c : Nat) : ∀ f b, pivF X c f b < b + f → (X (pivF X c f b)).getD c 0 ≠ 0 := by
  intro f
  induction f with
  | zero => intro b h; simp [pivF] at h
  | succ f ih =>
    intro b h
    unfold pivF at h ⊢
    split
    · rename_i hz
      rw [if_pos hz] at h
      exact ih (b + 1) (by omega)
    · rename_i hz; exact hz
theorem pivF_skip (X : Nat → List Int) (c : Nat) : ∀ f b, (∀ i, b ≤ i → i < b + f → (X i).getD c 0 = 0) → pivF X c f b = b + f := by
  intro f
  induction f with
  | zero => intro b _; rfl
  | succ f ih =>
    intro b h
    unfold pivF
    rw [if_pos (h b (by omega) (by omega)), ih (b + 1) (fun i h1 h2 => h i (by omega) (by omega))]
    omega
theorem pivF_stop (X : Nat → List Int) (c : Nat) : ∀ f b j, j < f → (∀ i, b ≤ i → i < b + j → (X i).getD c 0 = 0) → (X (b + j)).getD c 0 ≠ 0 → pivF X c f b = b + j := by
  intro f
  induction f with
  | zero => intro b j h; omega
  | succ f ih =>
    intro b j hj h h2
    unfold pivF
    cases j with
    | zero => rw [Nat.add_zero] at h2; rw [if_neg h2]; rfl
    | succ j =>
      rw [if_pos (h b (by omega) (by omega)), ih (b + 1) j (by omega) (fun i h1 h3 => h i (by omega) (by omega)) (by rw [show b + 1 + j = b + (j + 1) by omega]; exact h2)]
      omega
def swapR (X : Nat → List Int) (a b : Nat) : Nat → List Int := fun i => if i = a then X b else if i = b then X a else X i
/-- The rows behind k up to m have 0 at k. -/
def stepR (p : Int) (n k m : Nat) (X : Nat → List Int) : Nat → List Int := fun i => if k < i ∧ i < m then elimR p (X k) (X i) k n else X i
def sgn (p r : Int) (b k : Nat) : Int := if b = k then r else (-r) % p
def detL (p : Int) (n : Nat) : Nat → Nat → (Nat → List Int) → Int → Int
  | 0, _, _, r => r
  | f + 1, k, X, r => if pivF X k (n - k) k = n then 0 else
      detL p n f (k + 1) (stepR p n k n (swapR X k (pivF X k (n - k) k))) (sgn p r (pivF X k (n - k) k) k * (swapR X k (pivF X k (n - k) k) k).getD k 0 % p)
def detM (p : Int) (n : Nat) (X : Nat → List Int) : Int := detL p n n 0 X 1
theorem pivF_congr {X Y : Nat → List Int} (c : Nat) : ∀ f b, (∀ i, b ≤ i → i < b + f → X i = Y i) → pivF X c f b = pivF Y c f b := by
  intro f
  induction f with
  | zero => intro b _; rfl
  | succ f ih =>
    intro b h
    unfold pivF
    rw [h b (by omega) (by omega), ih (b + 1) (fun i h1 h2 => h i (by omega) (by omega))]
theorem detL_congr {p : Int} {n : Nat} : ∀ f k (X Y : Nat → List Int) r, k + f = n → (∀ i, i < n → X i = Y i) → detL p n f k X r = detL p n f k Y r := by
  intro f
  induction f with
  | zero => intro k X Y r _ _; rfl
  | succ f ih =>
    intro k X Y r hk h
    have hp := pivF_congr k (n - k) k (fun i h1 h2 => h i (by omega))
    have hr := pivF_rng Y k (n - k) k
    unfold detL
    rw [hp]
    by_cases e : pivF Y k (n - k) k = n
    · rw [if_pos e, if_pos e]
    · have hs : ∀ i, i < n → swapR X k (pivF Y k (n - k) k) i = swapR Y k (pivF Y k (n - k) k) i := fun i hi => by
        unfold swapR
        rw [h i hi, h k (by omega), h (pivF Y k (n - k) k) (by omega)]
      rw [if_neg e, if_neg e, hs k (by omega)]
      refine ih (k + 1) _ _ _ (by omega) fun i hi => ?_
      unfold stepR
      rw [hs i hi, hs k (by omega)]
theorem detL_rng {p : Int} (hp : 2 ≤ p) {n : Nat} : ∀ f k (X : Nat → List Int) r, 0 ≤ r → r < p → 0 ≤ detL p n f k X r ∧ detL p n f k X r < p := by
  intro f
  induction f with
  | zero => intro k X r h1 h2; exact ⟨h1, h2⟩
  | succ f ih =>
    intro k X r h1 h2
    unfold detL
    split
    · omega
    · exact ih _ _ _ (modb hp).1 (modb hp).2
end Go.Proofs.Ytiahaipaekeinaa

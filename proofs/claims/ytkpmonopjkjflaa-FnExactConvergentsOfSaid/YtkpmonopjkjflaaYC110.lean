/- Merged texts. -/
import Derived.Test.YtkpmonopjkjflaaYC19
import Derived.Test.YtkpmonopjkjflaaYC12
/- Plain mathematics: division of lists of numbers modulo a prime, as both loops compute it. No program. -/
namespace Go.Proofs.Ytkpmonopjkjflaa
open Go.RowKit
set_option linter.unusedVariables false
set_option linter.unusedSimpArgs false

/-- The rest with the first i numbers of q times g taken off from the place 'at' on. -/
def divS (p q : Int) (g : List Int) (R : Nat → Int) (at' i : Nat) : Nat → Int := fun j => if at' ≤ j ∧ j < at' + i then (R j - q * g.getD (j - at') 0) % p else R j
/-- The rest behind i steps; D: how much longer f is. -/
def divR (p inv : Int) (f g : List Int) (D : Nat) : Nat → Nat → Int
  | 0 => fun j => f.getD j 0
  | i + 1 => divS p (divR p inv f g D i (D - i + g.length - 1) * inv % p) g (divR p inv f g D i) (D - i) g.length
def divN (p inv : Int) (f g : List Int) (D i : Nat) : Int := divR p inv f g D i (D - i + g.length - 1) * inv % p
/-- The quotient behind i steps. -/
def divQ (p inv : Int) (f g : List Int) (D i : Nat) : Nat → Int := fun j => if D < j + i then divN p inv f g D (D - j) else 0
def quoM (p : Int) (f g : List Int) : List Int :=
  if f.length < g.length then [] else trimL (tab (f.length - g.length + 1) (divQ p (invM p (g.getD (g.length - 1) 0)) f g (f.length - g.length) (f.length - g.length + 1)))
def remM (p : Int) (f g : List Int) : List Int :=
  if f.length < g.length then f else trimL (tab f.length (divR p (invM p (g.getD (g.length - 1) 0)) f g (f.length - g.length) (f.length - g.length + 1)))
theorem divS_step (p q : Int) (g : List Int) (R : Nat → Int) (N a i : Nat) : (tab N (divS p q g R a i)).set (a + i) ((R (a + i) - q * g.getD i 0) % p) = tab N (divS p q g R a (i + 1)) := by
  rw [tab_set]
  apply tab_congr
  intro j _
  unfold divS
  by_cases e : j = a + i
  · subst e
    rw [if_pos rfl, if_pos (by omega), show a + i - a = i by omega]
  · rw [if_neg e]
    by_cases h : a ≤ j ∧ j < a + i
    · rw [if_pos h, if_pos (by omega)]
    · rw [if_neg h, if_neg (by omega)]
theorem divS_zero (p q : Int) (g : List Int) (R : Nat → Int) (a : Nat) : divS p q g R a 0 = R := by
  funext j
  unfold divS
  rw [if_neg (by omega)]
theorem divS_at (p q : Int) (g : List Int) (R : Nat → Int) (a i : Nat) : divS p q g R a i (a + i) = R (a + i) := by
  unfold divS
  rw [if_neg (by omega)]
theorem divR_rng {p inv : Int} {f g : List Int} {D : Nat} (hp : 2 ≤ p) (hf : areB p f = true) (i : Nat) : ∀ j, 0 ≤ divR p inv f g D i j ∧ divR p inv f g D i j < p := by
  induction i with
  | zero => intro j; exact getD_rng hf hp j
  | succ i ih =>
    intro j
    unfold divR divS
    split
    · exact modb hp
    · exact ih j
theorem divN_rng {p inv : Int} {f g : List Int} {D i : Nat} (hp : 2 ≤ p) : 0 ≤ divN p inv f g D i ∧ divN p inv f g D i < p := modb hp
theorem divQ_step (p inv : Int) (f g : List Int) (D i : Nat) (hi : i ≤ D) : (tab (D + 1) (divQ p inv f g D i)).set (D - i) (divN p inv f g D i) = tab (D + 1) (divQ p inv f g D (i + 1)) := by
  rw [tab_set]
  apply tab_congr
  intro j hj
  unfold divQ
  by_cases e : j = D - i
  · subst e
    rw [if_pos rfl, if_pos (by omega), show D - (D - i) = i by omega]
  · rw [if_neg e]
    by_cases h : D < j + i
    · rw [if_pos h, if_pos (by omega)]
    · rw [if_neg h, if_neg (by omega)]
theorem divQ_zero (p inv : Int) (f g : List Int) (D : Nat) : tab (D + 1) (divQ p inv f g D 0) = tab (D + 1) (fun _ => 0) := by
  apply tab_congr
  intro j hj
  unfold divQ
  rw [if_neg (by omega)]
/-- Where the number at the top is 0 a step changes nothing. -/
theorem divR_same {p inv : Int} {f g : List Int} {D i : Nat} (hp : 2 ≤ p) (hf : areB p f = true) (h : divR p inv f g D i (D - i + g.length - 1) = 0) : divN p inv f g D i = 0 ∧ divR p inv f g D (i + 1) = divR p inv f g D i := by
  have hn : divN p inv f g D i = 0 := by unfold divN; rw [h]; simp
  refine ⟨hn, ?_⟩
  funext j
  rw [divR]
  have e : divR p inv f g D i (D - i + g.length - 1) * inv % p = 0 := hn
  rw [e]
  unfold divS
  split
  · have := divR_rng (inv := inv) (g := g) (D := D) hp hf i j
    rw [Int.zero_mul, Int.sub_zero, Int.emod_eq_of_lt this.1 this.2]
  · rfl
theorem divR_skip {p inv : Int} {f g : List Int} {D i L : Nat} (hp : 2 ≤ p) (hf : areB p f = true) (hg : g.length ≠ 0) (hz : ∀ j, L ≤ j → divR p inv f g D i j = 0) (k : Nat) (hk : i + k ≤ D + 1) (hL : L + i + k ≤ D + g.length) :
    divR p inv f g D (i + k) = divR p inv f g D i ∧ (∀ j, j ≤ D → divQ p inv f g D (i + k) j = divQ p inv f g D i j) := by
  induction k with
  | zero => exact ⟨rfl, fun _ _ => rfl⟩
  | succ k ih =>
    obtain ⟨h1, h2⟩ := ih (by omega) (by omega)
    have h3 := divR_same (inv := inv) (g := g) (D := D) (i := i + k) hp hf (by rw [h1]; exact hz _ (by omega))
    refine ⟨by rw [← Nat.add_assoc, h3.2, h1], fun j hj => ?_⟩
    rw [← h2 j hj]
    unfold divQ
    by_cases e : D < j + (i + k)
    · rw [if_pos e, if_pos (by omega)]
    · rw [if_neg e]
      by_cases e2 : D < j + (i + (k + 1))
      · rw [if_pos e2, show D - j = i + k by omega, h3.1]
      · rw [if_neg e2]
/-- A step makes the number at the top 0. -/
theorem divR_top {p inv : Int} {f g : List Int} {D i : Nat} (hp : primeB p = true) (hf : areB p f = true) (hg : g.length ≠ 0) (hinv : g.getD (g.length - 1) 0 * inv % p = 1) :
    divR p inv f g D (i + 1) (D - i + g.length - 1) = 0 := by
  have hl := primeB_lo hp
  rw [divR]
  unfold divS
  rw [if_pos (by omega), show D - i + g.length - 1 - (D - i) = g.length - 1 by omega]
  generalize divR p inv f g D i (D - i + g.length - 1) = R
  generalize g.getD (g.length - 1) 0 = b at hinv ⊢
  rw [Int.sub_emod, Int.mul_emod, Int.emod_emod, ← Int.mul_emod, ← Int.sub_emod]
  have e : R - R * inv * b = R * (1 - b * inv) := by
    rw [Int.mul_sub, Int.mul_one, Int.mul_assoc, Int.mul_comm inv b]
  rw [e, Int.mul_emod, Int.sub_emod, hinv]
  have h1 : (1 : Int) % p = 1 := Int.emod_eq_of_lt (by omega) (by omega)
  rw [h1]
  simp
theorem divR_far {p inv : Int} {f g : List Int} {D i : Nat} (hD : f.length = D + g.length) : ∀ j, f.length ≤ j → divR p inv f g D i j = 0 := by
  induction i with
  | zero => intro j hj; simp [divR, show f[j]? = none from List.getElem?_eq_none hj]
  | succ i ih =>
    intro j hj
    unfold divR divS
    rw [if_neg (by omega)]
    exact ih j hj
/-- What the program adds in the place of taking off. -/
theorem minus_eq (p R q b : Int) : (R + (p - q) * b) % p = (R - q * b) % p := by
  have : R + (p - q) * b = R - q * b + p * b := by rw [Int.sub_mul]; omega
  rw [this, Int.add_mul_emod_self_left]
theorem trimN_zero_from (xs : List Int) (k : Nat) : ∀ j, trimN xs k ≤ j → j < k → xs.getD j 0 = 0 := by
  induction k with
  | zero => intro j _ h; omega
  | succ k ih =>
    intro j h1 h2
    unfold trimN at h1
    split at h1
    · rename_i hz
      by_cases e : j = k
      · subst e; exact hz
      · exact ih j h1 (by omega)
    · omega
theorem trimN_last (xs : List Int) (k : Nat) (h : trimN xs k ≠ 0) : xs.getD (trimN xs k - 1) 0 ≠ 0 := by
  induction k with
  | zero => exact absurd rfl h
  | succ k ih =>
    unfold trimN at h ⊢
    split
    · rename_i hz
      rw [if_pos hz] at h
      exact ih h
    · rename_i hz
      simpa using hz
/-- From a place on where all is 0 the cut is the same. -/
theorem trimN_mono (xs : List Int) (k m : Nat) (hm : m ≤ k) (hz : ∀ j, m ≤ j → j < k → xs.getD j 0 = 0) : trimN xs k = trimN xs m := by
  induction k with
  | zero => rw [show m = 0 by omega]
  | succ k ih =>
    by_cases e : m = k + 1
    · rw [e]
    · rw [trimN, if_pos (hz k (by omega) (by omega))]
      exact ih (by omega) (fun j h1 h2 => hz j h1 (by omega))
end Go.Proofs.Ytkpmonopjkjflaa
/- Contracts: the codes of one and of two polynomials, as the callers meet them (a fresh list of the arguments). -/
namespace Go.Proofs.Ytkpmonopjkjflaa
open Go.RowKit
set_option linter.unusedVariables false
set_option linter.unusedSimpArgs false

def chk1 (p : Int) (f : List Int) : Int := if polyB p f then (if primeB p then 0 else 2) else 1
def chk2 (p : Int) (f g : List Int) : Int := if polyB p f && polyB p g then (if primeB p then 0 else 2) else 1
theorem chk1_cases (p : Int) (f : List Int) : chk1 p f = 1 ∨ chk1 p f = 2 ∨ (chk1 p f = 0 ∧ polyB p f = true ∧ primeB p = true) := by
  unfold chk1
  cases polyB p f <;> cases primeB p <;> simp
theorem chk2_cases (p : Int) (f g : List Int) : chk2 p f g = 1 ∨ chk2 p f g = 2 ∨ (chk2 p f g = 0 ∧ polyB p f = true ∧ polyB p g = true ∧ primeB p = true) := by
  unfold chk2
  cases polyB p f <;> cases polyB p g <;> cases primeB p <;> simp
theorem lists1 {w : World} {a1 : Option Addr} {n1 c1 : Nat} {f : List Int} (h1 : SL w a1 n1 c1 f) (b1 : n1 ≤ 4000000) :
    Lists (w.alloc (.cells #[.slice a1 n1 c1] 22)) w.heap.size 1 (fun _ => a1) (fun _ => n1) (fun _ => c1) (fun _ => f) := by
  intro j hj
  obtain rfl : j = 0 := by omega
  exact ⟨by simp [go_sem], h1.below (bl1 _ _), b1⟩
theorem lists2 {w : World} {a1 a2 : Option Addr} {n1 c1 n2 c2 : Nat} {f g : List Int} (h1 : SL w a1 n1 c1 f) (h2 : SL w a2 n2 c2 g) (b1 : n1 ≤ 4000000) (b2 : n2 ≤ 4000000) :
    Lists (w.alloc (.cells #[.slice a1 n1 c1, .slice a2 n2 c2] 22)) w.heap.size 2 (fun j => if j = 0 then a1 else a2) (fun j => if j = 0 then n1 else n2) (fun j => if j = 0 then c1 else c2) (fun j => if j = 0 then f else g) := by
  intro j hj
  rcases (show j = 0 ∨ j = 1 by omega) with rfl | rfl
  · exact ⟨by simp [go_sem], h1.below (bl1 _ _), b1⟩
  · exact ⟨by simp [go_sem], h2.below (bl1 _ _), b2⟩
theorem chkC1 (p : Int) (f : List Int) : chkC p (fun _ => f) 1 = chk1 p f := by simp [chkC, chkB, chk1]
theorem chkC2 (p : Int) (f g : List Int) : chkC p (fun j => if j = 0 then f else g) 2 = chk2 p f g := by simp [chkC, chkB, chk2]

theorem check1 (p : Int) (a1 : Option Addr) (n1 c1 : Nat) (f : List Int) (c : Int) (w : World) (h1 : SL w a1 n1 c1 f) (b1 : n1 ≤ 4000000) (hc : chk1 p f = c) :
    Calls Try.prog 85 #[.int .i64 p, .slice (some ⟨w.heap.size, 0, none⟩) 1 1] (w.alloc (.cells #[.slice a1 n1 c1] 22)) fun e w' => e = .returned (.int .i64 c) ∧ Below w.heap.size w w' :=
  (checkPolys_any p w.heap.size 1 1 _ _ _ _ _ (lists1 h1 b1) (by omega)).mono fun e w' h => ⟨by rw [h.1, chkC1, hc], (bl1 w _).trans (h.2.mono (by simp))⟩
theorem check2 (p : Int) (a1 : Option Addr) (n1 c1 : Nat) (f : List Int) (a2 : Option Addr) (n2 c2 : Nat) (g : List Int) (c : Int) (w : World) (h1 : SL w a1 n1 c1 f) (h2 : SL w a2 n2 c2 g) (b1 : n1 ≤ 4000000) (b2 : n2 ≤ 4000000) (hc : chk2 p f g = c) :
    Calls Try.prog 85 #[.int .i64 p, .slice (some ⟨w.heap.size, 0, none⟩) 2 2] (w.alloc (.cells #[.slice a1 n1 c1, .slice a2 n2 c2] 22)) fun e w' => e = .returned (.int .i64 c) ∧ Below w.heap.size w w' :=
  (checkPolys_any p w.heap.size 2 2 _ _ _ _ _ (lists2 h1 h2 b1 b2) (by omega)).mono fun e w' h => ⟨by rw [h.1, chkC2, hc], (bl1 w _).trans (h.2.mono (by simp))⟩
theorem code1 (p : Int) (a1 : Option Addr) (n1 c1 : Nat) (f : List Int) (c : Int) (w : World) (h1 : SL w a1 n1 c1 f) (b1 : n1 ≤ 4000000) (hc : chk1 p f = c) :
    Calls Try.prog 83 #[.int .i64 p, .slice (some ⟨w.heap.size, 0, none⟩) 1 1] (w.alloc (.cells #[.slice a1 n1 c1] 22)) fun e w' => e = .returned (.int .i64 c) ∧ Below w.heap.size w w' :=
  (l01Code_any p w.heap.size 1 1 _ _ _ _ _ (lists1 h1 b1) (by omega)).mono fun e w' h => ⟨by rw [h.1, chkC1, hc], by rw [← h.2]; exact bl1 w _⟩
theorem code2 (p : Int) (a1 : Option Addr) (n1 c1 : Nat) (f : List Int) (a2 : Option Addr) (n2 c2 : Nat) (g : List Int) (c : Int) (w : World) (h1 : SL w a1 n1 c1 f) (h2 : SL w a2 n2 c2 g) (b1 : n1 ≤ 4000000) (b2 : n2 ≤ 4000000) (hc : chk2 p f g = c) :
    Calls Try.prog 83 #[.int .i64 p, .slice (some ⟨w.heap.size, 0, none⟩) 2 2] (w.alloc (.cells #[.slice a1 n1 c1, .slice a2 n2 c2] 22)) fun e w' => e = .returned (.int .i64 c) ∧ Below w.heap.size w w' :=
  (l01Code_any p w.heap.size 2 2 _ _ _ _ _ (lists2 h1 h2 b1 b2) (by omega)).mono fun e w' h => ⟨by rw [h.1, chkC2, hc], by rw [← h.2]; exact bl1 w _⟩
end Go.Proofs.Ytkpmonopjkjflaa

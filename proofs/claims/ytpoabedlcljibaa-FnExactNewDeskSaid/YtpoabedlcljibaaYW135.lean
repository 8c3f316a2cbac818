/- Merged texts. -/
import Derived.Test.YtpoabedlcljibaaYW120
import Derived.Test.YtpoabedlcljibaaYW134
import Derived.Test.YtpoabedlcljibaaYW132
import Derived.Test.YtpoabedlcljibaaYW133
/- Contracts: AffineMoments (program). -/
namespace Go.Proofs.Ytpoabedlcljibaa
open Go.RowKit
set_option linter.unusedVariables false
set_option linter.unusedSimpArgs false

/-- The powers of a x + b. -/
def afP (p : Int) (st : List Int) : Nat → List Int
  | 0 => [1]
  | i + 1 => mulM p (afP p st i) st
theorem afP_len (p : Int) (st : List Int) (hl : st.length ≤ 2) : ∀ i, (afP p st i).length ≤ i + 1 := by
  intro i
  induction i with
  | zero => simp [afP]
  | succ i ih =>
    show (mulM p (afP p st i) st).length ≤ _
    rcases mulM_up (p := p) (f := afP p st i) (g := st) with h | ⟨_, _, h⟩
    · omega
    · rw [h]; omega
theorem afP_poly {p : Int} (hp : primeB p = true) {st : List Int} (hst : polyB p st = true) (hl : st.length ≤ 2) : ∀ i, i ≤ 24 → polyB p (afP p st i) = true := by
  have hpl := primeB_lo hp
  intro i
  induction i with
  | zero => intro _; simp [afP, polyB, areB, okN, lastZ]; omega
  | succ i ih =>
    intro h
    exact mulpI hp (ih (by omega)) hst (by have := afP_len p st hl (i + 1); show (afP p st (i + 1)).length ≤ 25; omega)
theorem afP_are {p : Int} (hp : 2 ≤ p) (st : List Int) : ∀ i, areB p (afP p st i) = true := by
  intro i
  cases i with
  | zero => simp [afP, areB, okN]; omega
  | succ i => exact mulM_are hp
theorem step_poly {p a b : Int} (hp : 2 ≤ p) (ha0 : 0 ≤ a) (ha1 : a < p) (hb0 : 0 ≤ b) (hb1 : b < p) : polyB p (trimL [b, a]) = true ∧ (trimL [b, a]).length ≤ 2 := by
  refine ⟨polyB_trim (by simp) (fun j hj => ?_), trimL_le _⟩
  match j, hj with
  | 0, _ => exact ⟨hb0, hb1⟩
  | 1, _ => exact ⟨ha0, ha1⟩
def afH (p : Int) (st xs : List Int) : Nat → Int := fun k => dotK p (afP p st k) xs 0 (afP p st k).length
def afmC (p : Int) (xs : List Int) (a b : Int) : Int := if momB p xs then (if (0 ≤ a ∧ a < p) ∧ (0 ≤ b ∧ b < p) then 0 else 2) else 1
def afmV (p : Int) (xs : List Int) (a b : Int) : List Int := if afmC p xs a b = 0 then tab xs.length (afH p (trimL [b, a]) xs) else []
def afmP (p : Int) (xs : List Int) (a b : Int) : Int := if afmC p xs a b = 0 then p else 0
theorem afRow_step (p : Int) (st xs : List Int) (N k : Nat) : (tab N (fun j => if j < k then afH p st xs j else 0)).set k (afH p st xs k) = tab N (fun j => if j < k + 1 then afH p st xs j else 0) := by
  rw [tab_set]
  apply tab_congr
  intro j _
  by_cases e : j = k
  · subst e; rw [if_pos rfl, if_pos (by omega)]
  · rw [if_neg e]
    by_cases h : j < k
    · rw [if_pos h, if_pos (by omega)]
    · rw [if_neg h, if_neg (by omega)]
theorem afRow_all (p : Int) (st xs : List Int) (N : Nat) : tab N (fun j => if j < N then afH p st xs j else 0) = tab N (afH p st xs) := tab_congr fun j hj => if_pos hj
end Go.Proofs.Ytpoabedlcljibaa
/- Contracts: HalveJacobi (program and model). -/
namespace Go.Proofs.Ytpoabedlcljibaa
open Go.RowKit
set_option linter.unusedVariables false
set_option linter.unusedSimpArgs false

def hvjC (p : Int) (xs ys : List Int) : Int := if jacB p xs ys then (if 2 ≤ xs.length ∧ trimN xs xs.length = 0 then 0 else 5) else 1
def hvjP (p : Int) (xs ys : List Int) : Int := if hvjC p xs ys = 0 then p else 0
def hvjV (p : Int) (xs ys : List Int) : List Int := if hvjC p xs ys = 0 then tab (xs.length / 2) (jsA p ys) else []
def hvjU (p : Int) (xs ys : List Int) : List Int := if hvjC p xs ys = 0 then tab (xs.length / 2) (jsB p ys) else []
theorem hvj_err {p : Int} {xs ys : List Int} {e : Int} (h : hvjC p xs ys = e) (he : e ≠ 0) : hvjP p xs ys = 0 ∧ hvjV p xs ys = [] ∧ hvjU p xs ys = [] := by
  have : hvjC p xs ys ≠ 0 := by rw [h]; exact he
  exact ⟨if_neg this, if_neg this, if_neg this⟩
theorem hasB_tab {n : Nat} {h : Nat → Int} (hh : ∀ k, k < n → h k ≠ 0) : hasB 0 (tab n h) = false := by
  unfold hasB tab
  rw [List.any_eq_false]
  intro x hx
  rw [List.mem_map] at hx
  obtain ⟨k, hk, rfl⟩ := hx
  have := hh k (by simpa using hk)
  simp
  omega
theorem getD_take2 (ys : List Int) (e k : Nat) (h : k < e) : (ys.take e).getD k 0 = ys.getD k 0 := by
  simp [List.getD_eq_getElem?_getD, List.getElem?_take, h]
theorem jos_half {p : Int} (hP : primeB p = true) {ys : List Int} (hy : posB p ys = true) (m e : Nat) (hm : ys.length = m) (h2 : 2 ≤ m) (h12 : m ≤ 12) (he : e = m - m % 2) :
    josC p (ys.take e) = 0 ∧ josV p (ys.take e) = tab (m / 2) (jsA p ys) ∧ josU p (ys.take e) = tab (m / 2) (jsB p ys) ∧ josP p (ys.take e) = p := by
  have hl : (ys.take e).length = e := by simp; omega
  have hr : e / 2 = m / 2 := by omega
  have eA : tab (m / 2) (jsA p (ys.take e)) = tab (m / 2) (jsA p ys) := tab_congr fun k hk => by
    unfold jsA
    split
    · rw [getD_take2 _ _ _ (by omega)]
    · rw [getD_take2 _ _ _ (by omega), getD_take2 _ _ _ (by omega)]
  have eB : tab (m / 2) (jsB p (ys.take e)) = tab (m / 2) (jsB p ys) := tab_congr fun k hk => by
    unfold jsB
    split
    · rw [getD_take2 _ _ _ (by omega)]
    · rw [getD_take2 _ _ _ (by omega), getD_take2 _ _ _ (by omega)]
  have hA : areB p (ys.take e) = true := areB_mk fun j hj => by
    rw [hl] at hj
    rw [getD_take2 _ _ _ hj]
    have := posB_at hy j (by omega)
    omega
  have hz : hasB 0 (tab (m / 2) (jsB p ys)) = false := hasB_tab fun k hk => by
    unfold jsB
    split
    · have := posB_at hy 0 (by omega); omega
    · have a1 := posB_at hy (2 * k - 1) (by omega)
      have a2 := posB_at hy (2 * k) (by omega)
      exact prime_mul hP (by omega) a1.2 (by omega) a2.2
  have hL : lisB p (ys.take e) 2 24 = true := by
    simp only [lisB, hP, hA, hl]
    simp
    omega
  have hC : josC p (ys.take e) = 0 := by
    unfold josC
    rw [if_pos ⟨hL, by rw [hl]; omega⟩, hl, hr, eB, hz]
    rfl
  refine ⟨hC, ?_, ?_, ?_⟩
  · rw [josV, if_pos hC, hl, hr, eA]
  · rw [josU, if_pos hC, hl, hr, eB]
  · rw [josP, if_pos hC]
end Go.Proofs.Ytpoabedlcljibaa

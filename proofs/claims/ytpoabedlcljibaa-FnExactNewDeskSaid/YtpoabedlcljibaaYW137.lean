/- Merged texts. -/
import Derived.Test.YtpoabedlcljibaaYW136
import Derived.Test.YtpoabedlcljibaaYW135
import Derived.Test.YtpoabedlcljibaaYW129
/- Contract: differencesAndQuotients (program; goto). -/
namespace Go.Proofs.Ytpoabedlcljibaa
open Go.RowKit
set_option linter.unusedVariables false
set_option linter.unusedSimpArgs false

end Go.Proofs.Ytpoabedlcljibaa
/- Mathematics of steps back. -/
namespace Go.Proofs.Ytpoabedlcljibaa
open Go.RowKit
set_option linter.unusedVariables false
set_option linter.unusedSimpArgs false

def sbE (p : Int) (xs ys : List Int) (c q : Int) (k : Nat) : Int := if k = 0 then 0 else dfD p xs ys c q (k - 1)
def sbA (p : Int) (xs ys : List Int) (c q : Int) (k : Nat) : Int := (dfL p xs ys c q k + sbE p xs ys c q k + c) % p
def sbB (p : Int) (xs ys : List Int) (c q : Int) (k : Nat) : Int := if k = 0 then ys.getD 0 0 * invM p q % p else dfL p xs ys c q (k - 1) * dfD p xs ys c q (k - 1) % p
def sbkC (p : Int) (xs ys : List Int) (c q : Int) : Int := if jacB p xs ys then (if (0 ≤ c ∧ c ≤ p - 1) ∧ (1 ≤ q ∧ q ≤ p - 1) then (if dqB p xs ys c q (xs.length - 1) then 0 else 5) else 2) else 1
def sbkP (p : Int) (xs ys : List Int) (c q : Int) : Int := if sbkC p xs ys c q = 0 then p else 0
def sbkV (p : Int) (xs ys : List Int) (c q : Int) : List Int := if sbkC p xs ys c q = 0 then tab xs.length (sbA p xs ys c q) else []
def sbkU (p : Int) (xs ys : List Int) (c q : Int) : List Int := if sbkC p xs ys c q = 0 then tab xs.length (sbB p xs ys c q) else []
theorem sbk_err {p : Int} {xs ys : List Int} {c q e : Int} (h : sbkC p xs ys c q = e) (he : e ≠ 0) : sbkP p xs ys c q = 0 ∧ sbkV p xs ys c q = [] ∧ sbkU p xs ys c q = [] := by
  have : sbkC p xs ys c q ≠ 0 := by rw [h]; exact he
  exact ⟨if_neg this, if_neg this, if_neg this⟩
def sbT (p : Int) (xs ys : List Int) (c q : Int) (n : Nat) : List Int := [ys.getD 0 0 * invM p q % p, q] ++ dqV p xs ys c q (n - 1)
theorem sbT_len (p : Int) (xs ys : List Int) (c q : Int) (n : Nat) (hn : 1 ≤ n) : (sbT p xs ys c q n).length = 2 * n := by
  simp only [sbT, List.length_append, dqV_len, List.length_cons, List.length_nil]
  omega
theorem sbT_tail (p : Int) (xs ys : List Int) (c q : Int) (n j : Nat) : (sbT p xs ys c q n).getD (j + 2) 0 = (dqV p xs ys c q (n - 1)).getD j 0 := by
  simp [sbT, List.getD_eq_getElem?_getD, List.getElem?_append]
theorem sbT_L (p : Int) (xs ys : List Int) (c q : Int) (n k : Nat) (hk : k < n) : (sbT p xs ys c q n).getD (2 * k + 1) 0 = dfL p xs ys c q k := by
  cases k with
  | zero => rfl
  | succ k => rw [show 2 * (k + 1) + 1 = (2 * k + 1) + 2 by omega, sbT_tail, (dqV_at p xs ys c q (n - 1) k (by omega)).2]
theorem sbT_D (p : Int) (xs ys : List Int) (c q : Int) (n k : Nat) (hk : k + 1 < n) : (sbT p xs ys c q n).getD (2 * (k + 1)) 0 = dfD p xs ys c q k := by
  rw [show 2 * (k + 1) = (2 * k) + 2 by omega, sbT_tail, (dqV_at p xs ys c q (n - 1) k (by omega)).1]
theorem sbk_jos {p : Int} (hP : primeB p = true) {xs ys : List Int} {c q : Int} {n : Nat} (hl : xs.length = n) (hl2 : ys.length = n) (n1 : 1 ≤ n) (n2 : n ≤ 12) (hy : posB p ys = true) (q0 : 1 ≤ q) (q1 : q < p) (hd : dqB p xs ys c q (n - 1) = true) :
    josC p (sbT p xs ys c q n) = 0 ∧ josV p (sbT p xs ys c q n) = tab n (jsA p (sbT p xs ys c q n)) ∧ josU p (sbT p xs ys c q n) = tab n (jsB p (sbT p xs ys c q n)) ∧ josP p (sbT p xs ys c q n) = p ∧
      jacB p (tab n (jsA p (sbT p xs ys c q n))) (tab n (jsB p (sbT p xs ys c q n))) = true ∧ tab n (afA p 1 c (tab n (jsA p (sbT p xs ys c q n))) n) = tab n (sbA p xs ys c q) ∧ tab n (afB p 1 (tab n (jsB p (sbT p xs ys c q n))) n) = tab n (sbB p xs ys c q) := by
  have hp := (primeB_lo hP).1
  have hT := sbT_len p xs ys c q n n1
  have hA : areB p (sbT p xs ys c q n) = true := areB_mk fun j hj => by
    rw [hT] at hj
    by_cases e : j % 2 = 1
    · rw [show j = 2 * (j / 2) + 1 by omega, sbT_L _ _ _ _ _ _ _ (by omega)]
      exact dfL_rng hp xs ys c (by omega) q1 _
    · by_cases e0 : j = 0
      · subst e0; exact modb hp
      · rw [show j = 2 * ((j / 2 - 1) + 1) by omega, sbT_D _ _ _ _ _ _ _ (by omega)]
        exact dfD_rng hp xs ys c q _
  have hB : ∀ k, k < n → jsB p (sbT p xs ys c q n) k = sbB p xs ys c q k := fun k hk => by
    unfold jsB sbB
    by_cases e : k = 0
    · subst e; rfl
    · rw [if_neg e, if_neg e]
      obtain ⟨j, rfl⟩ : ∃ j, k = j + 1 := ⟨k - 1, by omega⟩
      rw [sbT_D _ _ _ _ _ _ _ hk, show 2 * (j + 1) - 1 = 2 * j + 1 by omega, sbT_L _ _ _ _ _ _ _ (by omega)]
      rfl
  have hL : ∀ k, k < n → 0 < dfL p xs ys c q k := fun k hk => by
    cases k with
    | zero => exact q0
    | succ k => exact dfL_pos hP hy hd k (by omega) (by omega)
  have hne : ∀ k, k < n → jsB p (sbT p xs ys c q n) k ≠ 0 := fun k hk => by
    rw [hB k hk]
    unfold sbB
    by_cases e : k = 0
    · rw [if_pos e]
      have a1 := posB_at hy 0 (by omega)
      have a2 := invM_pos hP (x := q) (by omega) q1
      have a3 := invM_rng q hp
      exact prime_mul hP (by omega) a1.2 a2 a3.2
    · rw [if_neg e]
      have a1 := hL (k - 1) (by omega)
      have a2 := dfL_rng hp xs ys c (l0 := q) (by omega) q1 (k - 1)
      have a3 := dqB_at hd (k - 1) (by omega)
      have a4 := dfD_rng hp xs ys c q (k - 1)
      exact prime_mul hP a1 a2.2 (by omega) a4.2
  have hz : hasB 0 (tab n (jsB p (sbT p xs ys c q n))) = false := hasB_tab hne
  have hLi : lisB p (sbT p xs ys c q n) 2 24 = true := by
    simp only [lisB, hP, hA, hT]
    simp
    omega
  have hC : josC p (sbT p xs ys c q n) = 0 := by
    unfold josC
    rw [if_pos ⟨hLi, by rw [hT]; omega⟩, hT, show 2 * n / 2 = n by omega, hz]
    rfl
  have hJ := jos_jac hP hA n n1 n2
  rw [hz] at hJ
  refine ⟨hC, ?_, ?_, ?_, hJ, ?_, ?_⟩
  · rw [josV, if_pos hC, hT, show 2 * n / 2 = n by omega]
  · rw [josU, if_pos hC, hT, show 2 * n / 2 = n by omega]
  · rw [josP, if_pos hC]
  · apply tab_congr
    intro k hk
    unfold afA sbA
    rw [if_pos hk, tab_at _ _ _ hk, Int.one_mul]
    have e : jsA p (sbT p xs ys c q n) k = (dfL p xs ys c q k + sbE p xs ys c q k) % p := by
      unfold jsA sbE
      by_cases e : k = 0
      · subst e
        rw [if_pos rfl, if_pos rfl]
        show q = (q + 0) % p
        rw [Int.add_zero, Int.emod_eq_of_lt (by omega) q1]
      · rw [if_neg e, if_neg e, sbT_L _ _ _ _ _ _ _ hk]
        obtain ⟨j, rfl⟩ : ∃ j, k = j + 1 := ⟨k - 1, by omega⟩
        rw [sbT_D _ _ _ _ _ _ _ hk, Int.add_comm]
        rfl
    rw [e, Int.emod_add_emod]
  · rw [afB_id hp (areB_mk fun j hj => by rw [tab_len] at hj; rw [tab_at _ _ _ hj]; exact jsB_rng hp hA j) n (tab_len _ _)]
    exact tab_congr hB
end Go.Proofs.Ytpoabedlcljibaa

/- Contracts: AffineJacobi (program and model). -/
import Derived.Test.YtiahaipaekeinaaJc
import Derived.Test.YtiahaipaekeinaaPa
import Derived.Test.YtiahaipaekeinaaRx
import Derived.Deep.DeepFit
namespace Go.Proofs.Ytiahaipaekeinaa
open Go.RowKit
set_option linter.unusedVariables false
set_option linter.unusedSimpArgs false

def afA (p a c : Int) (xs : List Int) (m : Nat) : Nat → Int := fun j => if j < m then (a * xs.getD j 0 + c) % p else xs.getD j 0
def afB (p a : Int) (ys : List Int) (m : Nat) : Nat → Int := fun j => if 0 < j ∧ j < m then a * a % p * ys.getD j 0 % p else ys.getD j 0
theorem afA_step (p a c : Int) (xs : List Int) (N m : Nat) : (tab N (afA p a c xs m)).set m ((a * xs.getD m 0 + c) % p) = tab N (afA p a c xs (m + 1)) := by
  rw [tab_set]
  apply tab_congr
  intro j _
  unfold afA
  by_cases e : j = m
  · subst e; simp
  · rw [if_neg e]
    by_cases h : j < m
    · rw [if_pos h, if_pos (by omega)]
    · rw [if_neg h, if_neg (by omega)]
theorem afB_step (p a : Int) (ys : List Int) (N m : Nat) (hm : 0 < m) : (tab N (afB p a ys m)).set m (a * a % p * ys.getD m 0 % p) = tab N (afB p a ys (m + 1)) := by
  rw [tab_set]
  apply tab_congr
  intro j _
  unfold afB
  by_cases e : j = m
  · subst e; simp [hm]
  · rw [if_neg e]
    by_cases h : 0 < j ∧ j < m
    · rw [if_pos h, if_pos (by omega)]
    · rw [if_neg h, if_neg (by omega)]
theorem afB_one (p a : Int) (ys : List Int) (N : Nat) : tab N (afB p a ys 0) = tab N (afB p a ys 1) := by
  apply tab_congr
  intro j _
  unfold afB
  rw [if_neg (by omega), if_neg (by omega)]
theorem afA_zero (p a c : Int) (xs : List Int) (N : Nat) (h : xs.length = N) : tab N (afA p a c xs 0) = xs := by
  conv => rhs; rw [tab_of xs N h]
  apply tab_congr
  intro j _
  unfold afA
  rw [if_neg (by omega)]
theorem afB_zero (p a : Int) (ys : List Int) (N : Nat) (h : ys.length = N) : tab N (afB p a ys 0) = ys := by
  conv => rhs; rw [tab_of ys N h]
  apply tab_congr
  intro j _
  unfold afB
  rw [if_neg (by omega)]
def affC (p : Int) (xs ys : List Int) (a c : Int) : Int := if jacB p xs ys then (if (1 ≤ a ∧ a < p) ∧ (0 ≤ c ∧ c < p) then 0 else 2) else 1
def affP (p : Int) (xs ys : List Int) (a c : Int) : Int := if affC p xs ys a c = 0 then p else 0
def affV (p : Int) (xs ys : List Int) (a c : Int) : List Int := if affC p xs ys a c = 0 then tab xs.length (afA p a c xs xs.length) else []
def affU (p : Int) (xs ys : List Int) (a c : Int) : List Int := if affC p xs ys a c = 0 then tab xs.length (afB p a ys xs.length) else []
/-- Two rows of the call's own, apart from each other. -/
theorem JZ.rows {lo hi : Nat} {w : World} {a : Option Addr} {n c : Nat} {xs : List Int} {b : Option Addr} {m d : Nat} {ys : List Int} (h : JZ lo hi w a n c xs b m d ys) (h1 : n ≠ 0) (h2 : m ≠ 0) :
    ∃ ga gb, a = some ⟨ga, 0, none⟩ ∧ b = some ⟨gb, 0, none⟩ ∧ ga ≠ gb ∧ lo ≤ ga ∧ ga < hi ∧ lo ≤ gb ∧ gb < hi ∧ Own lo w a c xs ∧ Own lo w b d ys := by
  have e1 := h.1.len
  have e2 := h.2.1.len
  rcases h.1.2 with h0 | ⟨o1, g1, k1, q1⟩
  · exact absurd h0 h1
  rcases h.2.1.2 with h0 | ⟨o2, g2, k2, q2⟩
  · exact absurd h0 h2
  obtain ⟨ga, ra, x1, x2, _⟩ := o1.blkG (by omega)
  obtain ⟨gb, rb, y1, y2, _⟩ := o2.blkG (by omega)
  subst ra
  subst rb
  cases k1
  cases k2
  refine ⟨ga, gb, rfl, rfl, ?_, x1, q1, y1, q2, o1, o2⟩
  rcases h.2.2 with h0 | h0 | h0
  · exact absurd h0 h1
  · exact absurd h0 h2
  · intro e
    exact h0 (by simp [blk, e])
end Go.Proofs.Ytiahaipaekeinaa

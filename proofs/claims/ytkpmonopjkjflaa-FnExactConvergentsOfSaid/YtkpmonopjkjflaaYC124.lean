/- Merged texts. -/
import Derived.Test.YtkpmonopjkjflaaYC123
import Derived.Test.YtkpmonopjkjflaaYC116
import Derived.BigRegion
/- Contracts: eliminate, determinant (program). -/
namespace Go.Proofs.Ytkpmonopjkjflaa
open Go.RowKit
set_option linter.unusedVariables false
set_option linter.unusedSimpArgs false

theorem stepR_at (p : Int) (n k m : Nat) (X : Nat → List Int) (i : Nat) (h : i ≤ k ∨ m ≤ i) : stepR p n k m X i = X i := by
  unfold stepR
  rw [if_neg (by omega)]
theorem stepR_len (p : Int) (n k m : Nat) (X : Nat → List Int) (h : ∀ i, (X i).length = n) (i : Nat) : (stepR p n k m X i).length = n := by
  unfold stepR elimR
  split
  · exact tab_len _ _
  · exact h i
theorem stepR_next (p : Int) (n k m : Nat) (X : Nat → List Int) (i : Nat) (h : i ≠ m) : stepR p n k (m + 1) X i = stepR p n k m X i := by
  unfold stepR
  by_cases e : k < i ∧ i < m
  · rw [if_pos e, if_pos (by omega)]
  · rw [if_neg e, if_neg (by omega)]
theorem elim_add (p : Int) (own row : List Int) (k n : Nat) (h : row.length = n) : addlM p ((p - invM p (own.getD k 0)) * row.getD k 0 % p) row own = elimR p own row k n := by
  unfold addlM elimR
  rw [h]
  apply tab_congr
  intro j _
  exact elim_eq p _ _ _ _
theorem elimR_are {p : Int} (hp : 2 ≤ p) (own row : List Int) (k n : Nat) : areB p (elimR p own row k n) = true := tab_are fun _ _ => modb hp
theorem stepR_are {p : Int} (hp : 2 ≤ p) (n k m : Nat) (X : Nat → List Int) (N : Nat) (h : ∀ i, i < N → areB p (X i) = true) (i : Nat) (hi : i < N) : areB p (stepR p n k m X i) = true := by
  unfold stepR
  split
  · exact elimR_are hp _ _ _ _
  · exact h i hi
end Go.Proofs.Ytkpmonopjkjflaa
/- Contracts: determinant, hankel (program). -/
namespace Go.Proofs.Ytkpmonopjkjflaa
open Go.RowKit
set_option linter.unusedVariables false
set_option linter.unusedSimpArgs false

theorem swapR_are {p : Int} (n : Nat) (X : Nat → List Int) (a b : Nat) (ha : a < n) (hb : b < n) (h : ∀ i, i < n → areB p (X i) = true) (i : Nat) (hi : i < n) : areB p (swapR X a b i) = true := by
  unfold swapR
  split
  · exact h b hb
  · split
    · exact h a ha
    · exact h i hi
theorem swapR_self (X : Nat → List Int) (a : Nat) : swapR X a a = X := by
  funext i
  unfold swapR
  split
  · rename_i e; rw [e]
  · rfl
theorem RowsX.swap {B g n cap m : Nat} {w : World} {vs : List Value} {X : Nat → List Int} (h : RowsX B g n cap w vs X m) (k i : Nat) (hk : k < m) (hi : i < m) {ak ai : Option Addr} {ck ci : Nat} (hne : i ≠ k)
    (sk : SL w ak n ck (X k)) (si : SL w ai n ci (X i)) (gk : blk ak ≠ some g) (gi : blk ai ≠ some g) :
    RowsX B g n cap ((w.setCell ⟨g, k, none⟩ (.slice ai n ci)).setCell ⟨g, i, none⟩ (.slice ak n ck)) ((vs.set k (.slice ai n ci)).set i (.slice ak n ck)) (swapR X k i) m := by
  have h1 := h.put (Y := fun j => if j = k then X i else X j) k hk (by simpa using si) gi (fun j _ hj => if_neg hj)
  refine h1.put i hi ?_ gk (fun j _ hj => ?_)
  · unfold swapR
    rw [if_neg hne, if_pos rfl]
    exact sk.otherG gk _
  · unfold swapR
    by_cases e : j = k
    · rw [if_pos e, if_pos e]
    · rw [if_neg e, if_neg hj, if_neg e]
end Go.Proofs.Ytkpmonopjkjflaa

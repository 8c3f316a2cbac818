/- Contract: slices.Reverse at []int64, on an owned row or on the rest of one. -/
import Derived.Test.YtgaafhcnfeipbaaRa
import Derived.BigRegion
namespace Go.Proofs.Ytgaafhcnfeipbaa
open Go.RowKit
set_option linter.unusedVariables false
set_option linter.unusedSimpArgs false

/-- The numbers from o on, n of them, the first i and the last i of which are exchanged. -/
def rvH (h : Nat → Int) (o n i : Nat) : Nat → Int := fun j => if o ≤ j ∧ (j < o + i ∨ o + n ≤ j + i) then h (o + (o + n - 1 - j)) else h j
theorem rvH_step (h : Nat → Int) (o n i : Nat) (hi : i + 1 < n - i) : ((tab (o + n) (rvH h o n i)).set (o + i) (h (o + (n - 1 - i)))).set (o + (n - 1 - i)) (h (o + i)) = tab (o + n) (rvH h o n (i + 1)) := by
  rw [tab_set, tab_set]
  apply tab_congr
  intro j hj
  unfold rvH
  by_cases e1 : j = o + (n - 1 - i)
  · subst e1
    rw [if_pos rfl, if_pos (by omega)]
    congr 1; omega
  · rw [if_neg e1]
    by_cases e2 : j = o + i
    · subst e2
      rw [if_pos rfl, if_pos (by omega)]
      congr 1; omega
    · rw [if_neg e2]
      by_cases e3 : o ≤ j ∧ (j < o + i ∨ o + n ≤ j + i)
      · rw [if_pos e3, if_pos (by omega)]
      · rw [if_neg e3, if_neg (by omega)]
theorem rvH_zero (h : Nat → Int) (o n : Nat) : tab (o + n) (rvH h o n 0) = tab (o + n) h := by
  apply tab_congr
  intro j hj
  unfold rvH
  rw [if_neg (by omega)]
theorem rvH_all (h : Nat → Int) (o n i : Nat) (hi : n ≤ 2 * i + 1) (hi2 : i ≤ n) : tab (o + n) (rvH h o n i) = tab (o + n) (fun j => if o ≤ j then h (o + (o + n - 1 - j)) else h j) := by
  apply tab_congr
  intro j hj
  unfold rvH
  by_cases e : o ≤ j
  · by_cases e3 : j < o + i ∨ o + n ≤ j + i
    · rw [if_pos ⟨e, e3⟩, if_pos e]
    · rw [if_neg (fun h => e3 h.2), if_pos e]
      congr 1; omega
  · rw [if_neg (fun h => e h.1), if_neg e]
theorem Touch.put {lo hi : Nat} {a w : World} (h : Touch lo hi a w) {x : Addr} (h1 : lo ≤ x.block) (h2 : x.block < hi) (u : Value) : Touch lo hi a (w.setCell x u) :=
  h.trans ⟨rfl, rfl, rfl, by simp, fun k hk hd => Below.heap_setCell _ _ _ _ (by omega)⟩
theorem Touch.dr {lo hi : Nat} {a w : World} (h : Touch lo hi a w) : Touch lo hi a w.drew := h.trans ⟨rfl, rfl, rfl, Nat.le_refl _, fun _ _ _ => rfl⟩
end Go.Proofs.Ytgaafhcnfeipbaa

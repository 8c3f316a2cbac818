/- Contracts: trim, checkPolys (program); l01Own, l01Trim, l01Code (model). -/
import Derived.Test.YtpoabedlcljibaaPo
namespace Go.Proofs.Ytpoabedlcljibaa
open Go.RowKit
set_option linter.unusedVariables false
set_option linter.unusedSimpArgs false

/-- How many numbers are left of the first k when the zeros at the end go. -/
def trimN (xs : List Int) : Nat → Nat
  | 0 => 0
  | k + 1 => if xs.getD k 0 = 0 then trimN xs k else k + 1
def trimL (xs : List Int) : List Int := xs.take (trimN xs xs.length)
theorem trimN_le (xs : List Int) (k : Nat) : trimN xs k ≤ k := by
  induction k with
  | zero => simp [trimN]
  | succ k ih => unfold trimN; split <;> omega
theorem trimL_len (xs : List Int) : (trimL xs).length = trimN xs xs.length := by
  unfold trimL
  have := trimN_le xs xs.length
  simp
  omega
theorem trimN_zero {xs : List Int} {k : Nat} (h : xs.getD (k - 1) 0 = 0) (hk : 0 < k) : trimN xs k = trimN xs (k - 1) := by
  obtain ⟨j, rfl⟩ : ∃ j, k = j + 1 := ⟨k - 1, by omega⟩
  simp only [Nat.add_sub_cancel] at *
  rw [trimN, if_pos h]
theorem trimN_stop {xs : List Int} {k : Nat} (h : xs.getD (k - 1) 0 ≠ 0) (hk : 0 < k) : trimN xs k = k := by
  obtain ⟨j, rfl⟩ : ∃ j, k = j + 1 := ⟨k - 1, by omega⟩
  simp only [Nat.add_sub_cancel] at *
  rw [trimN, if_neg h]

/-- A list of lists in memory (block b): the k-th cell holds a slice that reads as X k. -/
def Lists (w : World) (b n : Nat) (A : Nat → Option Addr) (L C : Nat → Nat) (X : Nat → List Int) : Prop :=
  ∀ j, j < n → w.cell? ⟨b, j, none⟩ = some (.slice (A j) (L j) (C j)) ∧ SL w (A j) (L j) (C j) (X j) ∧ L j ≤ 4000000
theorem Lists.below {w w' : World} {b n : Nat} {A : Nat → Option Addr} {L C : Nat → Nat} {X : Nat → List Int} (h : Lists w b n A L C X) (hb : Below w.heap.size w w') : Lists w' b n A L C X :=
  fun j hj => ⟨cell_be hb (h j hj).1, (h j hj).2.1.below hb, (h j hj).2.2⟩
def chkB (p : Int) (X : Nat → List Int) : Nat → Bool
  | 0 => true
  | k + 1 => chkB p X k && polyB p (X k)
def chkC (p : Int) (X : Nat → List Int) (n : Nat) : Int := if chkB p X n then (if primeB p then 0 else 2) else 1
theorem chkB_false (p : Int) (X : Nat → List Int) (n k : Nat) (hk : k < n) (h : polyB p (X k) = false) : chkB p X n = false := by
  induction n with
  | zero => omega
  | succ n ih =>
    unfold chkB
    by_cases e : k = n
    · subst e; simp [h]
    · rw [ih (by omega)]; rfl
end Go.Proofs.Ytpoabedlcljibaa

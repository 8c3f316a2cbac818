/- Moments of steps: mathematics; contracts of l05Moments and MomentsOfSteps (model). -/
import Derived.Test.YtnojmghmkoojfaaSg
import Derived.Test.YtnojmghmkoojfaaSm
namespace Go.Proofs.Ytnojmghmkoojfaa
open Go.RowKit
set_option linter.unusedVariables false
set_option linter.unusedSimpArgs false

theorem serT_congrG (p : Int) (f g g' : List Int) (S : Nat → Int) (k : Nat) (h : ∀ j, j ≤ k → g.getD j 0 = g'.getD j 0) : ∀ i, i ≤ k → serT p f g S k i = serT p f g' S k i := by
  intro i
  induction i with
  | zero => intro _; rfl
  | succ i ih => intro hi; rw [serT, serT, ih (by omega), h (i + 1) hi]
/-- The series needs no more numbers of its divisor than it has itself. -/
theorem serL_congr (p : Int) (f g g' : List Int) : ∀ n, (∀ j, j < n → g.getD j 0 = g'.getD j 0) → serL p f g n = serL p f g' n := by
  intro n
  induction n with
  | zero => intro _; rfl
  | succ n ih =>
    intro h
    rw [serL, serL, ih (fun j hj => h j (by omega)), serT_congrG p f g g' _ n (fun j hj => h j (by omega)) n (Nat.le_refl _), h 0 (by omega)]
/-- 1 less x times a series. -/
def lessX (p : Int) (n : Nat) (s : List Int) : List Int := 1 :: tab (n - 1) (fun j => (-(s.getD j 0)) % p)
/-- The first n numbers of the series of steps. -/
def mosF (p : Int) (n : Nat) : List Int → List Int
  | [] => List.replicate n 0
  | a :: l => serL p [a] (lessX p n (mosF p n l)) n
theorem mosF_len (p : Int) (n : Nat) (l : List Int) : (mosF p n l).length = n := by
  cases l with
  | nil => simp [mosF]
  | cons a l => simp [mosF, serL_len]
theorem lessX_are {p : Int} (hp : 2 ≤ p) (n : Nat) (s : List Int) : areB p (lessX p n s) = true := areB_mk fun j hj => by
  unfold lessX
  cases j with
  | zero => simp; omega
  | succ j =>
    rw [List.getD_cons_succ]
    have : j < n - 1 := by simp [lessX, tab_len] at hj; omega
    rw [tab_at _ _ _ this]
    exact modb hp
theorem lessX_len (p : Int) (n : Nat) (s : List Int) (hn : 1 ≤ n) : (lessX p n s).length = n := by simp [lessX, tab_len]; omega
theorem mosF_are {p : Int} (hp : 2 ≤ p) (n : Nat) (l : List Int) : areB p (mosF p n l) = true := by
  cases l with
  | nil =>
    refine areB_mk fun j hj => ?_
    have : (List.replicate n (0 : Int)).getD j 0 = 0 := by
      by_cases h : j < n <;> simp [h]
    simp only [mosF]
    rw [this]; omega
  | cons a l => exact serL_are hp _ _ _
theorem drop_cons (xs : List Int) (i : Nat) (h : i < xs.length) : xs.drop i = xs.getD i 0 :: xs.drop (i + 1) := by
  rw [List.drop_eq_getElem_cons h]
  simp [h]
def mosC (p : Int) (xs : List Int) (k : Int) : Int := if lisB p xs 1 24 = true ∧ 1 ≤ k ∧ k ≤ 24 then (if hasB 0 (xs.take (xs.length - 1)) = true then 5 else 0) else 2
def mosV (p : Int) (xs : List Int) (k : Int) : List Int := if mosC p xs k = 0 then mosF p k.toNat xs else []
def mosP (p : Int) (xs : List Int) (k : Int) : Int := if mosC p xs k = 0 then p else 0
end Go.Proofs.Ytnojmghmkoojfaa

/- Merged texts. -/
import Derived.Test.YtpoabedlcljibaaYW114
import Derived.Test.YtpoabedlcljibaaYW18
import Derived.Test.YtpoabedlcljibaaYW113
import Derived.Test.YtpoabedlcljibaaYW115
/- Contracts: evaluateAt, ValueAt (program and model). -/
namespace Go.Proofs.Ytpoabedlcljibaa
open Go.RowKit
set_option linter.unusedVariables false
set_option linter.unusedSimpArgs false
def valC (p : Int) (f : List Int) (x : Int) : Int := if chk1 p f = 0 then (if 0 ≤ x ∧ x < p then 0 else 2) else chk1 p f
def valV (p : Int) (f : List Int) (x : Int) : Int := if valC p f x = 0 then evM p f x else 0
end Go.Proofs.Ytpoabedlcljibaa
/- Mathematics of recurrences: one step, the polynomials P(k) and Q(k). No program. -/
namespace Go.Proofs.Ytpoabedlcljibaa
open Go.RowKit
set_option linter.unusedVariables false
set_option linter.unusedSimpArgs false

def opp (p x : Int) : Int := (p - x) % p
def linM (p a : Int) : List Int := [opp p a, 1]
/-- (x - a) f - b g. -/
def stp (p a b : Int) (f g : List Int) : List Int := addM p (mulM p (linM p a) f) g (opp p b)
/-- The last two polynomials of the recurrence, begun with c, d and the numbers at s. -/
def rcP (p : Int) (xs ys : List Int) (s : Nat) (c d : List Int) : Nat → List Int × List Int
  | 0 => (c, d)
  | i + 1 => ((rcP p xs ys s c d i).2, stp p (xs.getD (s + i) 0) (ys.getD (s + i) 0) (rcP p xs ys s c d i).2 (rcP p xs ys s c d i).1)
def polJ (p : Int) (xs ys : List Int) (k : Nat) : List Int := (rcP p xs ys 0 [] [1] k).2
def secJ (p : Int) (xs ys : List Int) (k : Nat) : List Int := (rcP p xs ys 1 [] [1] k).1

theorem opp_rng {p x : Int} (hp : 2 ≤ p) : 0 ≤ opp p x ∧ opp p x < p := modb hp
theorem opp_neg (p x : Int) : (-x) % p = opp p x := by
  unfold opp
  rw [show p - x = -x + p * 1 by omega, Int.add_mul_emod_self_left]
theorem linM_poly {p a : Int} (hp : 2 ≤ p) : polyB p (linM p a) = true := by
  have := opp_rng (x := a) hp
  simp [polyB, areB, okN, lastZ, linM]
  omega
/-- A polynomial of a small degree. -/
def Small (p : Int) (m : Nat) (f : List Int) : Prop := polyB p f = true ∧ f.length ≤ m
theorem Small.are {p : Int} {m : Nat} {f : List Int} (h : Small p m f) : areB p f = true := (polyB_rng h.1).2.1
theorem Small.nil (p : Int) (m : Nat) : Small p m [] := ⟨by simp [polyB, areB], by simp⟩
theorem Small.one {p : Int} (hp : 2 ≤ p) {m : Nat} (hm : 1 ≤ m) : Small p m [1] := ⟨by simp [polyB, areB, okN, lastZ]; omega, by simpa using hm⟩
theorem lin_len (p a : Int) (f : List Int) : (mulM p (linM p a) f).length ≤ f.length + 1 := by
  by_cases h : f = []
  · rw [mulM_nil (.inr h)]; simp
  · rw [mulM_len (by simp [linM]) h]; simp [linM]; omega
theorem stp_small {p : Int} (hp : 2 ≤ p) {m : Nat} (hm : m ≤ 24) {f g : List Int} (a b : Int) (hf : Small p m f) (hg : Small p m g) : Small p (m + 1) (stp p a b f g) := by
  have h1 := lin_len p a f
  have h2 := hf.2
  have h3 := hg.2
  refine ⟨addM_poly hp (by omega) (by omega) (mulM_are hp), ?_⟩
  have := addM_up (p := p) (f := mulM p (linM p a) f) (g := g) (k := opp p b)
  unfold stp
  omega
theorem stp_trim {p : Int} (hp : primeB p = true) {m : Nat} {f : List Int} (a : Int) (hf : Small p m f) : trimL (mulM p (linM p a) f) = mulM p (linM p a) f :=
  mulM_trim hp (linM_poly (primeB_lo hp).1) hf.1
theorem rcP_small {p : Int} (hp : 2 ≤ p) (xs ys : List Int) (s m : Nat) {c d : List Int} (hc : Small p m c) (hd : Small p m d) : ∀ i, m + i ≤ 25 → Small p (m + i) (rcP p xs ys s c d i).1 ∧ Small p (m + i) (rcP p xs ys s c d i).2 := by
  intro i
  induction i with
  | zero => intro _; exact ⟨hc, hd⟩
  | succ i ih =>
    intro hi
    obtain ⟨h1, h2⟩ := ih (by omega)
    exact ⟨⟨h2.1, Nat.le_trans h2.2 (by omega)⟩, stp_small hp (show m + i ≤ 24 by omega) _ _ h2 h1⟩
theorem polJ_small {p : Int} (hp : 2 ≤ p) (xs ys : List Int) (k : Nat) (hk : k ≤ 24) : Small p (k + 1) (polJ p xs ys k) := by
  have := (rcP_small hp xs ys 0 1 (Small.nil p 1) (Small.one hp (Nat.le_refl _)) k (by omega)).2
  rwa [Nat.add_comm] at this
theorem secJ_small {p : Int} (hp : 2 ≤ p) (xs ys : List Int) (k : Nat) (hk : k ≤ 24) : Small p (k + 1) (secJ p xs ys k) := by
  have := (rcP_small hp xs ys 1 1 (Small.nil p 1) (Small.one hp (Nat.le_refl _)) k (by omega)).1
  rwa [Nat.add_comm] at this
theorem addM_nil {p k : Int} {f : List Int} (h : trimL f = f) : addM p f [] k = f := by
  unfold addM
  have : tab (max f.length ([] : List Int).length) (sumH p k f [] ([] : List Int).length) = f := by
    rw [show max f.length ([] : List Int).length = f.length by simp]
    conv => rhs; rw [tab_of f _ rfl]
    apply tab_congr
    intro j _
    simp [sumH]
  rw [this, h]
theorem stp_one {p : Int} (hp : 2 ≤ p) (a b : Int) : stp p a b [1] [] = linM p a := by
  unfold stp
  rw [mulM_comm hp, mulM_one hp (polyB_rng (linM_poly hp)).2.1]
  exact addM_nil (trimL_self (by simp [linM]))
theorem polJ_zero (p : Int) (xs ys : List Int) : polJ p xs ys 0 = [1] := rfl
theorem polJ_one {p : Int} (hp : 2 ≤ p) (xs ys : List Int) : polJ p xs ys 1 = linM p (xs.getD 0 0) := stp_one hp _ _
theorem rcP_one (p : Int) (xs ys : List Int) (s : Nat) (c d : List Int) (i : Nat) : (rcP p xs ys s c d (i + 1)).1 = (rcP p xs ys s c d i).2 := rfl
theorem rcP_succ (p : Int) (xs ys : List Int) (s : Nat) (c d : List Int) (i : Nat) : rcP p xs ys s c d (i + 1) = ((rcP p xs ys s c d i).2, stp p (xs.getD (s + i) 0) (ys.getD (s + i) 0) (rcP p xs ys s c d i).2 (rcP p xs ys s c d i).1) := rfl
theorem polJ_step (p : Int) (xs ys : List Int) (i : Nat) : polJ p xs ys (i + 2) = stp p (xs.getD (i + 1) 0) (ys.getD (i + 1) 0) (polJ p xs ys (i + 1)) (polJ p xs ys i) := by
  have e := rcP_succ p xs ys 0 [] [1] (i + 1)
  have e1 := rcP_succ p xs ys 0 [] [1] i
  unfold polJ
  rw [e, e1]
  simp only [Nat.zero_add]
theorem secJ_zero (p : Int) (xs ys : List Int) : secJ p xs ys 0 = [] := rfl
theorem secJ_one (p : Int) (xs ys : List Int) : secJ p xs ys 1 = [1] := rfl
theorem secJ_step (p : Int) (xs ys : List Int) (i : Nat) : secJ p xs ys (i + 2) = stp p (xs.getD (i + 1) 0) (ys.getD (i + 1) 0) (secJ p xs ys (i + 1)) (secJ p xs ys i) := by
  have e := rcP_succ p xs ys 1 [] [1] (i + 1)
  have e1 := rcP_succ p xs ys 1 [] [1] i
  unfold secJ
  rw [e, e1, Nat.add_comm 1 i]
end Go.Proofs.Ytpoabedlcljibaa

/- Contracts: ShiftPoly, ComposePolys (program and model). -/
import Derived.Test.YtnojmghmkoojfaaCs
import Derived.Test.YtnojmghmkoojfaaVa
import Derived.Test.YtnojmghmkoojfaaOz
namespace Go.Proofs.Ytnojmghmkoojfaa
open Go.RowKit
set_option linter.unusedVariables false
set_option linter.unusedSimpArgs false
def shfV (p : Int) (f : List Int) (c : Int) : List Int := if valC p f c = 0 then comM p f [c, 1] else []
theorem lin_poly {p c : Int} (hp : 2 ≤ p) (h0 : 0 ≤ c) (h1 : c < p) : polyB p [c, 1] = true := by
  simp [polyB, areB, okN, lastZ, h0, h1]; omega
theorem comM_len {p : Int} {f g : List Int} (hp : primeB p = true) (hf : polyB p f = true) (hg : polyB p g = true) (hd : (f.length - 1) * (g.length - 1) ≤ 24) : (comM p f g).length ≤ 25 :=
  poly_len (horP_poly hp hf hg hd f.length (Nat.le_refl _)).1
def cmpC (p : Int) (f g : List Int) : Int := if chk2 p f g = 0 then (if (f.length - 1) * (g.length - 1) ≤ 24 then 0 else 3) else chk2 p f g
def cmpV (p : Int) (f g : List Int) : List Int := if cmpC p f g = 0 then comM p f g else []
theorem deg_mul (a b : Nat) (h1 : a ≤ 25) (h2 : b ≤ 25) : (-30 ≤ ((a : Int) - 1) * ((b : Int) - 1) ∧ ((a : Int) - 1) * ((b : Int) - 1) ≤ 600) ∧ (24 < ((a : Int) - 1) * ((b : Int) - 1) ↔ ¬ (a - 1) * (b - 1) ≤ 24) := by
  cases a with
  | zero =>
    refine ⟨⟨by omega, by omega⟩, ?_⟩
    simp; omega
  | succ a =>
    cases b with
    | zero =>
      refine ⟨⟨by omega, by omega⟩, ?_⟩
      constructor <;> intro h <;> first | omega | (simp at h; try omega)
    | succ b =>
      have e : (((a + 1 : Nat) : Int) - 1) * (((b + 1 : Nat) : Int) - 1) = ((a * b : Nat) : Int) := by
        rw [show (((a + 1 : Nat) : Int) - 1) = (a : Int) by omega, show (((b + 1 : Nat) : Int) - 1) = (b : Int) by omega]; simp
      have h : a * b ≤ 24 * 24 := Nat.mul_le_mul (by omega) (by omega)
      rw [e, Nat.add_sub_cancel, Nat.add_sub_cancel]
      omega
end Go.Proofs.Ytnojmghmkoojfaa

/- Merged texts. -/
import Derived.Test.YtpoabedlcljibaaYW19
import Derived.Test.YtpoabedlcljibaaYW16
import Derived.Deep.RegionWith
import Derived.Deep.DeepCutAuto
import Derived.Deep.CutBlock
import Derived.Deep.RegionHeld3
import Derived.Test.YtpoabedlcljibaaYW112
/- Contracts: values of polynomials: evaluate (numbers), evaluateAt, ValueAt (program); l01At, ValueAt (model). -/
namespace Go.Proofs.Ytpoabedlcljibaa
open Go.RowKit
set_option linter.unusedVariables false
set_option linter.unusedSimpArgs false

/-- Horner's rule, k numbers taken in from the last one on. -/
def hor (p : Int) (f : List Int) (x : Int) : Nat → Int
  | 0 => 0
  | k + 1 => (hor p f x k * x + f.getD (f.length - 1 - k) 0) % p
def evM (p : Int) (f : List Int) (x : Int) : Int := hor p f x f.length
theorem hor_rng {p : Int} (hp : 2 ≤ p) (f : List Int) (x : Int) (k : Nat) : 0 ≤ hor p f x k ∧ hor p f x k < p := by
  cases k with
  | zero => simp [hor]; omega
  | succ k => exact modb hp
theorem evM_rng {p : Int} (hp : 2 ≤ p) (f : List Int) (x : Int) : 0 ≤ evM p f x ∧ evM p f x < p := hor_rng hp f x _
set_option maxHeartbeats 400000 in
theorem numAdd (p x y : Int) (b : Nat) (w : World) (hc : w.cell? ⟨b, 0, none⟩ = some (.int .i64 p)) (hx : 0 ≤ x) (hx2 : x ≤ 100140049) (hy : 0 ≤ y) (hy2 : y ≤ 100140049) (hp : 2 ≤ p) :
    Calls Try.prog 89 #[num x, num y, .pointer (some ⟨b, 0, none⟩)] w fun e w' => e = .returned (num ((x + y) % p)) ∧ Below w.heap.size w w' := by
  have hc3 := cell_al3 hc
  go_enter Try.func89, Try.ntmps89
  go_wp2
  refine bodyPost_ret (v := num ((x + y) % p)) (by simp [results, Try.results89, go_sem]) rfl ⟨rfl, ?_⟩
  exact bl3 _ _ _ _
end Go.Proofs.Ytpoabedlcljibaa
/- Values of polynomials at polynomials: the closures of polysModulo, evaluate, composition (program and model). -/
namespace Go.Proofs.Ytpoabedlcljibaa
open Go.RowKit
set_option linter.unusedVariables false
set_option linter.unusedSimpArgs false

/-- Horner's rule at a polynomial, k numbers taken in from the last one on. -/
def horP (p : Int) (f g : List Int) : Nat → List Int
  | 0 => []
  | k + 1 => addM p (mulM p (horP p f g k) g) (trimL [f.getD (f.length - 1 - k) 0]) 1
def comM (p : Int) (f g : List Int) : List Int := horP p f g f.length
theorem mulM_rng {p : Int} {f g : List Int} (hp : 2 ≤ p) (j : Nat) : 0 ≤ (mulM p f g).getD j 0 ∧ (mulM p f g).getD j 0 < p := by
  by_cases h : f.length = 0 ∨ g.length = 0
  · rw [mulM_nil (h.imp List.eq_nil_of_length_eq_zero List.eq_nil_of_length_eq_zero)]
    simp; omega
  · have h1 : f.length ≠ 0 := fun e => h (.inl e)
    have h2 : g.length ≠ 0 := fun e => h (.inr e)
    rw [mulM_tab h1 h2]
    by_cases hj : j < f.length + g.length - 1
    · rw [tab_at _ _ _ hj]
      exact mulH_rng hp _ _ _ _
    · have : (tab (f.length + g.length - 1) (mulH p f g f.length)).getD j 0 = 0 := by
        rw [List.getD_eq_getElem?_getD, List.getElem?_eq_none (by rw [tab_len]; omega)]; rfl
      rw [this]; omega
theorem mulM_are {p : Int} {f g : List Int} (hp : 2 ≤ p) : areB p (mulM p f g) = true := areB_mk fun j _ => mulM_rng hp j
theorem mulM_up {f g : List Int} {p : Int} : (mulM p f g).length = 0 ∨ (f.length ≠ 0 ∧ g.length ≠ 0 ∧ (mulM p f g).length = f.length + g.length - 1) := by
  by_cases h : f.length = 0 ∨ g.length = 0
  · exact .inl (by rw [mulM_nil (h.imp List.eq_nil_of_length_eq_zero List.eq_nil_of_length_eq_zero)]; rfl)
  · have h1 : f.length ≠ 0 := fun e => h (.inl e)
    have h2 : g.length ≠ 0 := fun e => h (.inr e)
    exact .inr ⟨h1, h2, by rw [mulM_tab h1 h2, tab_len]⟩
theorem addM_poly {p : Int} {f g : List Int} {k : Int} (hp : 2 ≤ p) (h1 : f.length ≤ 25) (h2 : g.length ≤ 25) (hf : areB p f = true) : polyB p (addM p f g k) = true := by
  unfold addM
  refine polyB_trim (by rw [tab_len]; omega) fun j hj => ?_
  rw [tab_len] at hj
  rw [tab_at _ _ _ hj]
  unfold sumH
  split
  · exact modb hp
  · exact getD_rng hf hp j
theorem addM_up {p : Int} {f g : List Int} {k : Int} : (addM p f g k).length ≤ max f.length g.length := by
  unfold addM
  exact Nat.le_trans (trimL_le _) (by rw [tab_len]; omega)
theorem one_up (x : Int) : (trimL [x]).length ≤ 1 := trimL_le [x]
theorem one_are {p x : Int} (h0 : 0 ≤ x) (h1 : x < p) : areB p (trimL [x]) = true := areB_mk fun j hj => by
  have := one_up x
  rw [trimL_at _ _ hj]
  have : j = 0 := by omega
  subst this
  exact ⟨h0, h1⟩
theorem horP_poly {p : Int} {f g : List Int} (hp : primeB p = true) (hf : polyB p f = true) (hg : polyB p g = true) (hd : (f.length - 1) * (g.length - 1) ≤ 24) :
    ∀ k, k ≤ f.length → polyB p (horP p f g k) = true ∧ (horP p f g k).length ≤ 1 + (k - 1) * (g.length - 1) ∧ (k = 0 → horP p f g k = []) := by
  have hpl := primeB_lo hp
  intro k
  induction k with
  | zero => exact fun _ => ⟨by simp [horP, polyB, areB], by simp [horP], fun _ => rfl⟩
  | succ k ih =>
    intro hk
    obtain ⟨i1, i2, i3⟩ := ih (by omega)
    have hle : k * (g.length - 1) ≤ (f.length - 1) * (g.length - 1) := Nat.mul_le_mul_right _ (by omega)
    have hm : (mulM p (horP p f g k) g).length ≤ 1 + k * (g.length - 1) := by
      rcases mulM_up (f := horP p f g k) (g := g) (p := p) with h | ⟨h1, h2, h⟩
      · omega
      · cases k with
        | zero => exact absurd (by rw [i3 rfl]; rfl) h1
        | succ k =>
          have : (k + 1) * (g.length - 1) = k * (g.length - 1) + (g.length - 1) := Nat.succ_mul _ _
          simp at i2
          omega
    have ho := one_up (f.getD (f.length - 1 - k) 0)
    refine ⟨addM_poly hpl.1 (by omega) (by omega) (mulM_are hpl.1), ?_, fun h => absurd h (by omega)⟩
    have := addM_up (p := p) (f := mulM p (horP p f g k) g) (g := trimL [f.getD (f.length - 1 - k) 0]) (k := 1)
    rw [horP, Nat.add_sub_cancel]
    omega
end Go.Proofs.Ytpoabedlcljibaa

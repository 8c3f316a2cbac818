/- Merged texts. -/
import Derived.Test.YtkpmonopjkjflaaYC124
import Derived.Test.YtkpmonopjkjflaaYC14
/- Contracts: hankel, greatestHankel, HankelDeterminant, OrderOf (program). -/
namespace Go.Proofs.Ytkpmonopjkjflaa
open Go.RowKit
set_option linter.unusedVariables false
set_option linter.unusedSimpArgs false

def winR (xs : List Int) (k : Nat) : Nat → List Int := fun i => (xs.drop i).take k
/-- The Hankel determinant of k rows. -/
def hkM (p : Int) (xs : List Int) (k : Nat) : Int := detM p k (winR xs k)
theorem hkM_zero (p : Int) (xs : List Int) : hkM p xs 0 = 1 := rfl
theorem areB_winR {p : Int} {xs : List Int} (h : areB p xs = true) (hp : 2 ≤ p) (k i : Nat) : areB p (winR xs k i) = true := areB_mk fun j hj => by
  unfold winR at hj ⊢
  have e : ((xs.drop i).take k).getD j 0 = xs.getD (i + j) 0 := by
    simp at hj
    have hij : i + j < xs.length := by omega
    simp [List.getElem?_take, hj, hij]
  rw [e]
  exact getD_rng h hp _
theorem hkM_rng {p : Int} (hp : 2 ≤ p) (xs : List Int) (k : Nat) : 0 ≤ hkM p xs k ∧ hkM p xs k < p := detL_rng hp _ _ _ _ (by omega) (by omega)
theorem OwnV.le {B c : Nat} {a : Option Addr} {w : World} {vs : List Value} (h : OwnV B w a c vs) (h0 : vs.length ≠ 0) : vs.length ≤ c := by
  rcases h.2 with ⟨_, h2⟩ | ⟨g', c', cur, h1, h2, h3, h4, _⟩
  · exact absurd h2 h0
  · simp only [Value.slice.injEq] at h1
    omega

end Go.Proofs.Ytkpmonopjkjflaa
/- Contracts: greatestHankel, HankelDeterminant, OrderOf (program). -/
namespace Go.Proofs.Ytkpmonopjkjflaa
open Go.RowKit
set_option linter.unusedVariables false
set_option linter.unusedSimpArgs false

def hkdC (p : Int) (xs : List Int) (k : Int) : Int := if momB p xs then (if 0 ≤ k ∧ 2 * k ≤ (xs.length : Int) + 1 then 0 else 2) else 1
def hkdV (p : Int) (xs : List Int) (k : Int) : Int := if hkdC p xs k = 0 then hkM p xs k.toNat else 0
def ordF (p : Int) (xs : List Int) (G : Nat) : Nat → Nat → Nat
  | 0, n => n
  | f + 1, n => if n < G then (if hkM p xs (n + 1) = 0 then n else ordF p xs G f (n + 1)) else n
def ordM (p : Int) (xs : List Int) : Nat := ordF p xs ((xs.length + 1) / 2) ((xs.length + 1) / 2) 0
def ordC (p : Int) (xs : List Int) : Int := if momB p xs then 0 else 1
def ordV (p : Int) (xs : List Int) : Int := if ordC p xs = 0 then (ordM p xs : Nat) else 0
theorem ordF_out {p : Int} {xs : List Int} {G f n : Nat} (h : ¬ n < G) : ordF p xs G f n = n := by
  cases f with
  | zero => rfl
  | succ f => rw [ordF, if_neg h]
theorem ordF_stop {p : Int} {xs : List Int} {G f n : Nat} (hf : 0 < f) (h : hkM p xs (n + 1) = 0) : ordF p xs G f n = n := by
  obtain ⟨m, rfl⟩ : ∃ m, f = m + 1 := ⟨f - 1, by omega⟩
  rw [ordF]
  by_cases hn : n < G
  · rw [if_pos hn, if_pos h]
  · rw [if_neg hn]
theorem ordF_go {p : Int} {xs : List Int} {G f n : Nat} (hf : 0 < f) (hn : n < G) (h : hkM p xs (n + 1) ≠ 0) : ordF p xs G f n = ordF p xs G (f - 1) (n + 1) := by
  obtain ⟨m, rfl⟩ : ∃ m, f = m + 1 := ⟨f - 1, by omega⟩
  rw [ordF, if_pos hn, if_neg h]
  rfl
theorem ordF_le {p : Int} {xs : List Int} {G : Nat} : ∀ f n, n ≤ G → ordF p xs G f n ≤ G := by
  intro f
  induction f with
  | zero => intro n h; exact h
  | succ f ih =>
    intro n h
    rw [ordF]
    split
    · split
      · exact h
      · exact ih (n + 1) (by omega)
    · exact h
end Go.Proofs.Ytkpmonopjkjflaa

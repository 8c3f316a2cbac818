/- Merged texts. -/
import Derived.Test.YtllcgoachgfpjaaYD226
import Derived.Test.YtllcgoachgfpjaaYD26
import Derived.Test.YtllcgoachgfpjaaYD219
/- Contracts: checkPolyOfMoments, IsOrthogonal (program and model). -/
namespace Go.Proofs.Ytllcgoachgfpjaa
open Go.RowKit
set_option linter.unusedVariables false
set_option linter.unusedSimpArgs false

theorem ret_b2 {a c : Bool} {b d : Int} (h : a = c) (h' : b = d) : Ending.returned (.tuple #[.bool a, .int .i64 b]) = .returned (.tuple #[.bool c, .int .i64 d]) := by rw [h, h']
def pomC (p : Int) (xs f : List Int) : Int := if momB p xs then (if polyB p f then 0 else 1) else 1
def iorC (p : Int) (xs f : List Int) (k : Int) : Int :=
  if pomC p xs f = 0 then (if 0 ≤ k ∧ k ≤ 12 then (if f.length = 0 ∨ k = 0 then 0 else if (f.length : Int) + k - 1 ≤ xs.length then 0 else 5) else 2) else 1
def iorV (p : Int) (xs f : List Int) (k : Int) : Bool := decide (iorC p xs f k = 0) && (List.range k.toNat).all (fun i => dotK p f xs i f.length == 0)
theorem iorV_bad {p : Int} {xs f : List Int} {k : Int} (h : iorC p xs f k ≠ 0) : iorV p xs f k = false := by simp [iorV, h]
theorem iorV_t {p : Int} {xs f : List Int} {k : Int} (h : iorC p xs f k = 0) (h2 : ∀ i, i < k.toNat → dotK p f xs i f.length = 0) : iorV p xs f k = true := by
  simp only [iorV, h, decide_true, Bool.true_and, List.all_eq_true, List.mem_range, beq_iff_eq]
  exact h2
theorem iorV_f {p : Int} {xs f : List Int} {k : Int} (i : Nat) (hi : i < k.toNat) (h2 : dotK p f xs i f.length ≠ 0) : iorV p xs f k = false := by
  cases e : iorV p xs f k with
  | false => rfl
  | true =>
    unfold iorV at e
    simp only [Bool.and_eq_true, List.all_eq_true, List.mem_range, beq_iff_eq] at e
    exact absurd (e.2 i hi) h2
theorem trimN_nil (xs : List Int) : ∀ k, trimN xs k = 0 ↔ ∀ i, i < k → xs.getD i 0 = 0 := by
  intro k
  induction k with
  | zero => simp [trimN]
  | succ k ih =>
    rw [trimN]
    by_cases h : xs.getD k 0 = 0
    · rw [if_pos h, ih]
      constructor
      · intro h2 i hi
        by_cases e : i = k
        · rw [e]; exact h
        · exact h2 i (by omega)
      · intro h2 i hi
        exact h2 i (by omega)
    · rw [if_neg h]
      constructor
      · intro h2; omega
      · intro h2; exact absurd (h2 k (by omega)) h
theorem pomC_cases (p : Int) (xs f : List Int) : pomC p xs f = 1 ∨ (pomC p xs f = 0 ∧ momB p xs = true ∧ polyB p f = true) := by
  unfold pomC
  cases momB p xs <;> cases polyB p f <;> simp
end Go.Proofs.Ytllcgoachgfpjaa
/- Contracts: AffineMoments (program). -/
namespace Go.Proofs.Ytllcgoachgfpjaa
open Go.RowKit
set_option linter.unusedVariables false
set_option linter.unusedSimpArgs false

/-- The powers of a x + b. -/
def afP (p : Int) (st : List Int) : Nat → List Int
  | 0 => [1]
  | i + 1 => mulM p (afP p st i) st
theorem afP_len (p : Int) (st : List Int) (hl : st.length ≤ 2) : ∀ i, (afP p st i).length ≤ i + 1 := by
  intro i
  induction i with
  | zero => simp [afP]
  | succ i ih =>
    show (mulM p (afP p st i) st).length ≤ _
    rcases mulM_up (p := p) (f := afP p st i) (g := st) with h | ⟨_, _, h⟩
    · omega
    · rw [h]; omega
theorem afP_poly {p : Int} (hp : primeB p = true) {st : List Int} (hst : polyB p st = true) (hl : st.length ≤ 2) : ∀ i, i ≤ 24 → polyB p (afP p st i) = true := by
  have hpl := primeB_lo hp
  intro i
  induction i with
  | zero => intro _; simp [afP, polyB, areB, okN, lastZ]; omega
  | succ i ih =>
    intro h
    exact mulpI hp (ih (by omega)) hst (by have := afP_len p st hl (i + 1); show (afP p st (i + 1)).length ≤ 25; omega)
theorem afP_are {p : Int} (hp : 2 ≤ p) (st : List Int) : ∀ i, areB p (afP p st i) = true := by
  intro i
  cases i with
  | zero => simp [afP, areB, okN]; omega
  | succ i => exact mulM_are hp
theorem step_poly {p a b : Int} (hp : 2 ≤ p) (ha0 : 0 ≤ a) (ha1 : a < p) (hb0 : 0 ≤ b) (hb1 : b < p) : polyB p (trimL [b, a]) = true ∧ (trimL [b, a]).length ≤ 2 := by
  refine ⟨polyB_trim (by simp) (fun j hj => ?_), trimL_le _⟩
  match j, hj with
  | 0, _ => exact ⟨hb0, hb1⟩
  | 1, _ => exact ⟨ha0, ha1⟩
theorem trimV (a : Option Addr) (n c : Nat) (xs : List Int) (t : Nat) (w : World) (hs : SL w a n c xs) (hn : n ≤ 4000000) (ht : trimN xs n = t) :
    Calls Try.prog 81 #[.slice a n c] w fun e w' => e = .returned (.slice a t c) ∧ Below w.heap.size w w' := by
  subst ht
  exact trim_any a n c xs w hs hn
def afH (p : Int) (st xs : List Int) : Nat → Int := fun k => dotK p (afP p st k) xs 0 (afP p st k).length
def afmC (p : Int) (xs : List Int) (a b : Int) : Int := if momB p xs then (if (0 ≤ a ∧ a < p) ∧ (0 ≤ b ∧ b < p) then 0 else 2) else 1
def afmV (p : Int) (xs : List Int) (a b : Int) : List Int := if afmC p xs a b = 0 then tab xs.length (afH p (trimL [b, a]) xs) else []
def afmP (p : Int) (xs : List Int) (a b : Int) : Int := if afmC p xs a b = 0 then p else 0
theorem afRow_step (p : Int) (st xs : List Int) (N k : Nat) : (tab N (fun j => if j < k then afH p st xs j else 0)).set k (afH p st xs k) = tab N (fun j => if j < k + 1 then afH p st xs j else 0) := by
  rw [tab_set]
  apply tab_congr
  intro j _
  by_cases e : j = k
  · subst e; rw [if_pos rfl, if_pos (by omega)]
  · rw [if_neg e]
    by_cases h : j < k
    · rw [if_pos h, if_pos (by omega)]
    · rw [if_neg h, if_neg (by omega)]
theorem afRow_all (p : Int) (st xs : List Int) (N : Nat) : tab N (fun j => if j < N then afH p st xs j else 0) = tab N (afH p st xs) := tab_congr fun j hj => if_pos hj
end Go.Proofs.Ytllcgoachgfpjaa

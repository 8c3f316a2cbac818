/- Merged texts. -/
import Derived.Test.YtdjifjlgllohmaaDoorYDS13
import Derived.Test.YtdjifjlgllohmaaDoorYDS2
import Derived.Test.YtdjifjlgllohmaaDoorYDS5
import Derived.Deep.QuietTactic
import Derived.BigQuiet
import Derived.Test.YtdjifjlgllohmaaDoorYDS12
import Derived.Test.YtdjifjlgllohmaaDoorYDS7
/- Contracts: slices.Index, slices.Contains; l03Is, IsJacobi (program and model), l03Code, checkJacobi. -/
namespace Go.Proofs.YtdjifjlgllohmaaDoor
open Go.RowKit
set_option linter.unusedVariables false
set_option linter.unusedSimpArgs false

def okP (p x : Int) : Bool := decide (1 ≤ x ∧ x < p)
def posB (p : Int) (xs : List Int) : Bool := xs.all (okP p)
def hasB (v : Int) (xs : List Int) : Bool := xs.any (v == ·)
theorem posB_snoc (p : Int) (xs : List Int) (k : Nat) (h : k < xs.length) : posB p (xs.take (k + 1)) = (posB p (xs.take k) && okP p (xs.getD k 0)) := by
  rw [take_snocI xs k h]
  simp [posB]
theorem posB_false (p : Int) (xs : List Int) (k : Nat) (h : k < xs.length) (hx : okP p (xs.getD k 0) = false) : posB p xs = false := by
  unfold posB
  rw [Bool.eq_false_iff]
  intro hall
  rw [List.all_eq_true] at hall
  have := hall (xs.getD k 0) (by simp [h])
  rw [hx] at this
  cases this
theorem posB_at {p : Int} {xs : List Int} (h : posB p xs = true) (k : Nat) (hk : k < xs.length) : 1 ≤ xs.getD k 0 ∧ xs.getD k 0 < p := by
  unfold posB at h
  rw [List.all_eq_true] at h
  have := h (xs.getD k 0) (by simp [hk])
  simpa [okP] using this
theorem posB_eq (p : Int) (xs : List Int) : posB p xs = (areB p xs && !hasB 0 xs) := by
  induction xs with
  | nil => rfl
  | cons x l ih =>
    have e : posB p (x :: l) = (okP p x && posB p l) := rfl
    have e2 : areB p (x :: l) = (okN p x && areB p l) := rfl
    have e3 : hasB 0 (x :: l) = ((0 == x) || hasB 0 l) := rfl
    rw [e, e2, e3, ih]
    by_cases h0 : x = 0
    · subst h0; simp [okP]
    · have : okP p x = okN p x := by unfold okP okN; congr 1; apply propext; omega
      rw [this]
      have h1 : ((0 : Int) == x) = false := by simpa using fun h => h0 h.symm
      rw [h1]
      cases okN p x <;> cases areB p l <;> cases hasB 0 l <;> rfl
theorem hasB_snoc (v : Int) (xs : List Int) (k : Nat) (h : k < xs.length) : hasB v (xs.take (k + 1)) = (hasB v (xs.take k) || v == xs.getD k 0) := by
  rw [take_snocI xs k h]
  simp [hasB]
theorem hasB_true (v : Int) (xs : List Int) (k : Nat) (h : k < xs.length) (hx : v = xs.getD k 0) : hasB v xs = true := by
  unfold hasB
  rw [List.any_eq_true]
  exact ⟨xs.getD k 0, by simp [h], by simpa using hx⟩
def jacB (p : Int) (xs ys : List Int) : Bool := primeB p && decide (1 ≤ xs.length) && decide (xs.length ≤ 12) && decide (ys.length = xs.length) && areB p xs && posB p ys
theorem jacB_rng {p : Int} {xs ys : List Int} (h : jacB p xs ys = true) : primeB p = true ∧ 1 ≤ xs.length ∧ xs.length ≤ 12 ∧ ys.length = xs.length ∧ areB p xs = true ∧ posB p ys = true := by
  unfold jacB at h
  simp only [Bool.and_eq_true, decide_eq_true_eq] at h
  exact ⟨h.1.1.1.1.1, h.1.1.1.1.2, h.1.1.1.2, h.1.1.2, h.1.2, h.2⟩
theorem posB_are {p : Int} {xs : List Int} (h : posB p xs = true) : areB p xs = true := by
  rw [posB_eq] at h
  simp only [Bool.and_eq_true] at h
  exact h.1
/-- The code for data and a number in lo..hi. -/
def jcd (p : Int) (xs ys : List Int) (k lo hi : Int) : Int := if jacB p xs ys then (if lo ≤ k ∧ k ≤ hi then 0 else 2) else 1
theorem jcd_cases (p : Int) (xs ys : List Int) (k lo hi : Int) : jcd p xs ys k lo hi = 1 ∨ jcd p xs ys k lo hi = 2 ∨ (jcd p xs ys k lo hi = 0 ∧ jacB p xs ys = true ∧ lo ≤ k ∧ k ≤ hi) := by
  unfold jcd
  cases jacB p xs ys
  · exact .inl rfl
  · by_cases h : lo ≤ k ∧ k ≤ hi
    · exact .inr (.inr ⟨by simp [h], rfl, h⟩)
    · exact .inr (.inl (by simp only [if_true]; rw [if_neg h]))
end Go.Proofs.YtdjifjlgllohmaaDoor
/- Contracts: the model's composition; ShiftPoly, ComposePolys (program and model). -/
namespace Go.Proofs.YtdjifjlgllohmaaDoor
open Go.RowKit
set_option linter.unusedVariables false
set_option linter.unusedSimpArgs false
theorem litOwn (w : World) (B : Nat) (hB : B ≤ w.heap.size) (y : Int) : Own B (w.alloc (.cells #[.int .i64 y] 2)) (some ⟨w.heap.size, 0, none⟩) 1 [y] := by
  have := World.ownsRow_lit w (base := B) (e := 2) (size := 1) #[.int .i64 y] 1 hB (by decide) rfl
  exact this
theorem litSL (w : World) (y : Int) : SL (w.alloc (.cells #[.int .i64 y] 2)) (some ⟨w.heap.size, 0, none⟩) 1 1 [y] := (litOwn w _ (Nat.le_refl _) y).sl
theorem litSL2 (w : World) (y z : Int) : SL (w.alloc (.cells #[.int .i64 y, .int .i64 z] 2)) (some ⟨w.heap.size, 0, none⟩) 2 2 [y, z] := by
  have := World.ownsRow_lit w (base := w.heap.size) (e := 2) (size := 1) #[.int .i64 y, .int .i64 z] 2 (Nat.le_refl _) (by decide) rfl
  exact Own.sl this
theorem l01TimesP (p : Int) (a1 : Option Addr) (n1 c1 : Nat) (f : List Int) (a2 : Option Addr) (n2 c2 : Nat) (g : List Int) (w : World) (h1 : SL w a1 n1 c1 f) (h2 : SL w a2 n2 c2 g)
    (b1 : n1 ≤ 1000) (b2 : n2 ≤ 1000) (hp : 2 ≤ p) (hp2 : p ≤ 10007) (hf : areB p f = true) (hg : areB p g = true) (ht : trimL (mulM p f g) = mulM p f g) :
    Calls Tryd.prog 82 #[.int .i64 p, .slice a1 n1 c1, .slice a2 n2 c2] w fun e w' => ∃ a' c', e = .returned (.slice a' (mulM p f g).length c') ∧ Own w.heap.size w' a' c' (mulM p f g) ∧ Below w.heap.size w w' := by
  have := l01Times_any p a1 n1 c1 f a2 n2 c2 g w h1 h2 b1 b2 hp hp2 hf hg
  rwa [ht] at this
end Go.Proofs.YtdjifjlgllohmaaDoor

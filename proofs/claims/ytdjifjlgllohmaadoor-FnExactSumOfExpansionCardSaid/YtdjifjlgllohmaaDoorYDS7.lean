/- Merged texts. -/
import Derived.Test.YtdjifjlgllohmaaDoorYDS2
import Derived.Test.YtdjifjlgllohmaaDoorYDS5
import Derived.Test.YtdjifjlgllohmaaDoorYDS6
/- Contracts: the codes of one and of two polynomials, as the callers meet them (a fresh list of the arguments). -/
namespace Go.Proofs.YtdjifjlgllohmaaDoor
open Go.RowKit
set_option linter.unusedVariables false
set_option linter.unusedSimpArgs false

def chk1 (p : Int) (f : List Int) : Int := if polyB p f then (if primeB p then 0 else 2) else 1
def chk2 (p : Int) (f g : List Int) : Int := if polyB p f && polyB p g then (if primeB p then 0 else 2) else 1
theorem chk1_cases (p : Int) (f : List Int) : chk1 p f = 1 ∨ chk1 p f = 2 ∨ (chk1 p f = 0 ∧ polyB p f = true ∧ primeB p = true) := by
  unfold chk1
  cases polyB p f <;> cases primeB p <;> simp
theorem chk2_cases (p : Int) (f g : List Int) : chk2 p f g = 1 ∨ chk2 p f g = 2 ∨ (chk2 p f g = 0 ∧ polyB p f = true ∧ polyB p g = true ∧ primeB p = true) := by
  unfold chk2
  cases polyB p f <;> cases polyB p g <;> cases primeB p <;> simp
theorem lists1 {w : World} {a1 : Option Addr} {n1 c1 : Nat} {f : List Int} (h1 : SL w a1 n1 c1 f) (b1 : n1 ≤ 4000000) :
    Lists (w.alloc (.cells #[.slice a1 n1 c1] 22)) w.heap.size 1 (fun _ => a1) (fun _ => n1) (fun _ => c1) (fun _ => f) := by
  intro j hj
  obtain rfl : j = 0 := by omega
  exact ⟨by simp [go_sem], h1.below (bl1 _ _), b1⟩
theorem lists2 {w : World} {a1 a2 : Option Addr} {n1 c1 n2 c2 : Nat} {f g : List Int} (h1 : SL w a1 n1 c1 f) (h2 : SL w a2 n2 c2 g) (b1 : n1 ≤ 4000000) (b2 : n2 ≤ 4000000) :
    Lists (w.alloc (.cells #[.slice a1 n1 c1, .slice a2 n2 c2] 22)) w.heap.size 2 (fun j => if j = 0 then a1 else a2) (fun j => if j = 0 then n1 else n2) (fun j => if j = 0 then c1 else c2) (fun j => if j = 0 then f else g) := by
  intro j hj
  rcases (show j = 0 ∨ j = 1 by omega) with rfl | rfl
  · exact ⟨by simp [go_sem], h1.below (bl1 _ _), b1⟩
  · exact ⟨by simp [go_sem], h2.below (bl1 _ _), b2⟩
theorem chkC1 (p : Int) (f : List Int) : chkC p (fun _ => f) 1 = chk1 p f := by simp [chkC, chkB, chk1]
theorem chkC2 (p : Int) (f g : List Int) : chkC p (fun j => if j = 0 then f else g) 2 = chk2 p f g := by simp [chkC, chkB, chk2]

end Go.Proofs.YtdjifjlgllohmaaDoor
/- Contracts: AddPolys (program and model). -/
namespace Go.Proofs.YtdjifjlgllohmaaDoor
open Go.RowKit
set_option linter.unusedVariables false
set_option linter.unusedSimpArgs false

def addC (p : Int) (f g : List Int) (k : Int) : Int := if chk2 p f g = 0 then (if 0 ≤ k ∧ k < p then 0 else 2) else chk2 p f g
def addV (p : Int) (f g : List Int) (k : Int) : List Int := if addC p f g k = 0 then addM p f g k else []
theorem poly_len {p : Int} {f : List Int} (h : polyB p f = true) : f.length ≤ 25 := (polyB_rng h).1
theorem addM_len {p : Int} {f g : List Int} {k : Int} (h1 : f.length ≤ 1000) (h2 : g.length ≤ 1000) : (addM p f g k).length ≤ 1000 := by
  unfold addM
  rw [trimL_len]
  have := trimN_le (tab (max f.length g.length) (sumH p k f g g.length)) (tab (max f.length g.length) (sumH p k f g g.length)).length
  rw [tab_len] at *
  omega
theorem poly_are {p : Int} {f : List Int} (h : polyB p f = true) : areB p f = true := (polyB_rng h).2.1

end Go.Proofs.YtdjifjlgllohmaaDoor

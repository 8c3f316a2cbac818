/- Merged texts. -/
import Derived.Test.YtnojmghmkoojfaaYMx24
import Derived.Test.YtnojmghmkoojfaaYMx4
import Derived.Test.YtnojmghmkoojfaaYMx32
/- Contracts: greatestHankel, HankelDeterminant, OrderOf (program). -/
namespace Go.Proofs.Ytnojmghmkoojfaa
open Go.RowKit
set_option linter.unusedVariables false
set_option linter.unusedSimpArgs false

def hkdC (p : Int) (xs : List Int) (k : Int) : Int := if momB p xs then (if 0 ≤ k ∧ 2 * k ≤ (xs.length : Int) + 1 then 0 else 2) else 1
def hkdV (p : Int) (xs : List Int) (k : Int) : Int := if hkdC p xs k = 0 then hkM p xs k.toNat else 0
def ordF (p : Int) (xs : List Int) (G : Nat) : Nat → Nat → Nat
  | 0, n => n
  | f + 1, n => if n < G then (if hkM p xs (n + 1) = 0 then n else ordF p xs G f (n + 1)) else n
def ordM (p : Int) (xs : List Int) : Nat := ordF p xs ((xs.length + 1) / 2) ((xs.length + 1) / 2) 0
def ordC (p : Int) (xs : List Int) : Int := if momB p xs then 0 else 1
def ordV (p : Int) (xs : List Int) : Int := if ordC p xs = 0 then (ordM p xs : Nat) else 0
theorem ordF_out {p : Int} {xs : List Int} {G f n : Nat} (h : ¬ n < G) : ordF p xs G f n = n := by
  cases f with
  | zero => rfl
  | succ f => rw [ordF, if_neg h]
theorem ordF_stop {p : Int} {xs : List Int} {G f n : Nat} (hf : 0 < f) (h : hkM p xs (n + 1) = 0) : ordF p xs G f n = n := by
  obtain ⟨m, rfl⟩ : ∃ m, f = m + 1 := ⟨f - 1, by omega⟩
  rw [ordF]
  by_cases hn : n < G
  · rw [if_pos hn, if_pos h]
  · rw [if_neg hn]
theorem ordF_go {p : Int} {xs : List Int} {G f n : Nat} (hf : 0 < f) (hn : n < G) (h : hkM p xs (n + 1) ≠ 0) : ordF p xs G f n = ordF p xs G (f - 1) (n + 1) := by
  obtain ⟨m, rfl⟩ : ∃ m, f = m + 1 := ⟨f - 1, by omega⟩
  rw [ordF, if_pos hn, if_neg h]
  rfl
theorem ordF_le {p : Int} {xs : List Int} {G : Nat} : ∀ f n, n ≤ G → ordF p xs G f n ≤ G := by
  intro f
  induction f with
  | zero => intro n h; exact h
  | succ f ih =>
    intro n h
    rw [ordF]
    split
    · split
      · exact h
      · exact ih (n + 1) (by omega)
    · exact h
end Go.Proofs.Ytnojmghmkoojfaa
/- Contracts: l02Hankel, l02Order (model). -/
namespace Go.Proofs.Ytnojmghmkoojfaa
open Go.RowKit
set_option linter.unusedVariables false
set_option linter.unusedSimpArgs false

theorem SL.grown {w w' : World} {row : Option Nat} {a : Option Addr} {n c : Nat} {xs : List Int} (h : SL w a n c xs) (hg : w.grownBy w' row) (hne : ∀ b, blk a = some b → row ≠ some b) : SL w' a n c xs := by
  obtain ⟨h1, h2, h3⟩ := h
  refine ⟨h1, h2, ?_⟩
  rcases h3 with h3 | ⟨b, off, rfl, hc⟩
  · exact .inl h3
  · exact .inr ⟨b, off, rfl, fun i hi => cell_ne hg (hc i hi) (hne b rfl)⟩
theorem OwnV.blkLt {B : Nat} {w : World} {a : Option Addr} {c : Nat} {ys : List Value} (h : OwnV B w a c ys) : ∀ g, blk a = some g → g < w.heap.size := fun g hg => by
  rcases h.2 with ⟨h1, _⟩ | ⟨g', c', cur, h1, _, h3, _⟩
  · simp only [Value.slice.injEq] at h1
    rw [h1.1] at hg; cases hg
  · simp only [Value.slice.injEq] at h1
    rw [h1.1] at hg; cases hg; exact lt_of_block h3
/-- Rows that have been collected: slices of n numbers each, in blocks other than that of the rows. -/
def Coll (w : World) (r : Option Addr) (n : Nat) (vs : List Value) (X : Nat → List Int) (i : Nat) : Prop :=
  ∀ j, j < i → ∃ a c, vs[j]? = some (.slice a n c) ∧ SL w a n c (X j) ∧ (∀ b, blk a = some b → blk r ≠ some b ∧ b < w.heap.size)
set_option maxRecDepth 100000 in
set_option maxHeartbeats 800000 in
theorem l02Det_zero (p : Int) (a : Option Addr) (c : Nat) (w : World) :
    Calls Try.prog 113 #[.int .i64 p, .slice a 0 c] w fun e w' => e = .returned (.int .i64 1) ∧ w = w' := by
  go_enter Try.func113, Try.ntmps113
  go_wp2
  refine wp_loop_rounds 1 ?_
  rw [rounds_succ]
  go_wp2
  go_ret
  exact ⟨rfl, rfl⟩
end Go.Proofs.Ytnojmghmkoojfaa

/- Contract: slices.Clone at []int64; owned rows read and written. -/
import Derived.Test.YtgaafhcnfeipbaaOz
import Derived.WalkSpells
namespace Go.Proofs.Ytgaafhcnfeipbaa
open Go.RowKit
set_option linter.unusedVariables false
set_option linter.unusedSimpArgs false

theorem Own.blkG {B : Nat} {w : World} {a : Option Addr} {c : Nat} {ys : List Int} (h : Own B w a c ys) (h0 : ys.length ≠ 0) : ∃ g, a = some ⟨g, 0, none⟩ ∧ B ≤ g ∧ g < w.heap.size ∧ ys.length ≤ c := by
  rcases h.shape with ⟨_, _, rfl⟩ | ⟨g, cur, rfl, hB, hg, hl, _⟩
  · exact absurd rfl h0
  · exact ⟨g, rfl, hB, lt_of_block hg, hl⟩
theorem Own.cellG {B : Nat} {w : World} {g c : Nat} {ys : List Int} (h : Own B w (some ⟨g, 0, none⟩) c ys) (j : Nat) (hj : j < ys.length) : w.cell? ⟨g, j, none⟩ = some (.int .i64 (ys.getD j 0)) := by
  have := World.ownsRow.cellAt h j (by omega)
  rw [this]
  simp [hj]
theorem Own.freeG {B : Nat} {w : World} {g c : Nat} {ys : List Int} (h : Own B w (some ⟨g, 0, none⟩) c ys) (j : Nat) : w.frozen? ⟨g, j, none⟩ = false := World.ownsRow.frozenAt h j
theorem Own.setG {B : Nat} {w : World} {g c : Nat} {ys : List Int} (h : Own B w (some ⟨g, 0, none⟩) c ys) (j : Nat) (u : Int) : Own B (w.setCell ⟨g, j, none⟩ (.int .i64 u)) (some ⟨g, 0, none⟩) c (ys.set j u) := by
  have := (World.ownsRow.stored h j (.int .i64 u)).1
  unfold Own
  rw [List.map_set, List.length_set]
  exact this
theorem Own.otherG {B : Nat} {w : World} {a : Option Addr} {c g j : Nat} {ys : List Int} (h : Own B w a c ys) (hne : blk a ≠ some g) (u : Value) : Own B (w.setCell ⟨g, j, none⟩ u) a c ys := by
  refine h.keep (row := some g) ⟨rfl, rfl, rfl, by simp, fun k _ hk => Below.heap_setCell _ _ _ _ (fun e => hk (by rw [e]))⟩ (fun g' hg' e => ?_)
  rw [hg'] at hne
  exact hne e.symm
/-- A shorter beginning of an owned row. -/
theorem Own.takeG {B : Nat} {w : World} {a : Option Addr} {c : Nat} {ys : List Int} (h : Own B w a c ys) {m : Nat} (hm : m ≤ ys.length) : Own B w a c (ys.take m) := by
  rcases h.shape with ⟨rfl, rfl, rfl⟩ | ⟨g, cur, rfl, hB, hg, hl, hcm, hcs, ht⟩
  · simpa using Own.nil B w
  · have e : (ys.take m).length = m := by simp; omega
    unfold Own
    rw [e]
    refine ⟨by simp; omega, .inr ⟨g, c, cur, rfl, hB, hg, by omega, hcm, by omega, ?_⟩⟩
    rw [Nat.mul_one, List.map_take, ← ht, List.take_take, Nat.min_eq_left hm]
end Go.Proofs.Ytgaafhcnfeipbaa

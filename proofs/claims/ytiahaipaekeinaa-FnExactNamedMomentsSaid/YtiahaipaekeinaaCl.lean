/- Contract: slices.Clone at []int64; owned rows read and written. -/
import Derived.Test.YtiahaipaekeinaaOz
import Derived.WalkSpells
namespace Go.Proofs.Ytiahaipaekeinaa
open Go.RowKit
set_option linter.unusedVariables false
set_option linter.unusedSimpArgs false

theorem Own.blkG {B : Nat} {w : World} {a : Option Addr} {c : Nat} {ys : List Int} (h : Own B w a c ys) (h0 : ys.length ≠ 0) : ∃ g, a = some ⟨g, 0, none⟩ ∧ B ≤ g ∧ g < w.heap.size ∧ ys.length ≤ c := by
  rcases h.shape with ⟨_, _, rfl⟩ | ⟨g, cur, rfl, hB, hg, hl, _⟩
  · exact absurd rfl h0
  · exact ⟨g, rfl, hB, lt_of_block hg, hl⟩
theorem Own.cellG {B : Nat} {w : World} {g c : Nat} {ys : List Int} (h : Own B w (some ⟨g, 0, none⟩) c ys) (j : Nat) (hj : j < ys.length) : w.cell? ⟨g, j, none⟩ = some (.int .i64 (ys.getD j 0)) := by
  have := World.ownsRow.cellAt h j (by omega)
  rw [this]
  simp [hj]
theorem Own.freeG {B : Nat} {w : World} {g c : Nat} {ys : List Int} (h : Own B w (some ⟨g, 0, none⟩) c ys) (j : Nat) : w.frozen? ⟨g, j, none⟩ = false := World.ownsRow.frozenAt h j
theorem Own.setG {B : Nat} {w : World} {g c : Nat} {ys : List Int} (h : Own B w (some ⟨g, 0, none⟩) c ys) (j : Nat) (u : Int) : Own B (w.setCell ⟨g, j, none⟩ (.int .i64 u)) (some ⟨g, 0, none⟩) c (ys.set j u) := by
  have := (World.ownsRow.stored h j (.int .i64 u)).1
  unfold Own
  rw [List.map_set, List.length_set]
  exact this
theorem Own.otherG {B : Nat} {w : World} {a : Option Addr} {c g j : Nat} {ys : List Int} (h : Own B w a c ys) (hne : blk a ≠ some g) (u : Value) : Own B (w.setCell ⟨g, j, none⟩ u) a c ys := by
  refine h.keep (row := some g) ⟨rfl, rfl, rfl, by simp, fun k _ hk => Below.heap_setCell _ _ _ _ (fun e => hk (by rw [e]))⟩ (fun g' hg' e => ?_)
  rw [hg'] at hne
  exact hne e.symm
/-- A shorter beginning of an owned row. -/
theorem Own.takeG {B : Nat} {w : World} {a : Option Addr} {c : Nat} {ys : List Int} (h : Own B w a c ys) {m : Nat} (hm : m ≤ ys.length) : Own B w a c (ys.take m) := by
  rcases h.shape with ⟨rfl, rfl, rfl⟩ | ⟨g, cur, rfl, hB, hg, hl, hcm, hcs, ht⟩
  · simpa using Own.nil B w
  · have e : (ys.take m).length = m := by simp; omega
    unfold Own
    rw [e]
    refine ⟨by simp; omega, .inr ⟨g, c, cur, rfl, hB, hg, by omega, hcm, by omega, ?_⟩⟩
    rw [Nat.mul_one, List.map_take, ← ht, List.take_take, Nat.min_eq_left hm]
set_option maxHeartbeats 800000 in
theorem clone_any (a : Option Addr) (n c : Nat) (xs : List Int) (w : World) (hs : SL w a n c xs) (hn : n ≤ 4000000) :
    Calls Try.prog 37 #[.slice a n c] w fun e w' => ∃ a' c', e = .returned (.slice a' n c') ∧ Own w.heap.size w' a' c' xs ∧ Below w.heap.size w w' := by
  have hl := hide hs.len
  cases a with
  | none =>
    have h0 : n = 0 := by
      rcases hs.2.2 with h | ⟨_, _, h, _⟩
      · exact h
      · cases h
    subst h0
    obtain rfl := hs.empty
    have hq := fun w => Lib.run_eql_slice_nil (P := Try.prog) w 22 2 none 0 c 0 0 Try.underlying22
    go_enter Try.func37, Try.ntmps37
    go_wp2
    go_ret
    exact ⟨none, 0, rfl, Own.nil _ _, Below.refl _ _⟩
  | some ad =>
    have hq := fun w => Lib.run_eql_slice_nil (P := Try.prog) w 22 2 (some ad) n c 0 0 Try.underlying22
    have hs' := hs.below (bl1 w (.cells #[] 2))
    have ho : Own w.heap.size (w.alloc (.cells #[] 2)) (some ⟨w.heap.size, 0, none⟩) 0 [] := by
      have := World.ownsRow_lit w (base := w.heap.size) (e := 2) (size := 1) #[] 0 (Nat.le_refl _) (by simp) rfl
      exact this
    go_enter Try.func37, Try.ntmps37
    go_wp2_with (at_builtin; refine wp_append rfl _ _ rfl w.heap.size _ _ _ [] rfl rfl ho _ _ _ xs rfl hs' (by simp; omega) (by simp) ?_; intro ad' cap' w1 hown hb; simp only [List.nil_append] at hown)
    go_ret
    exact ⟨_, cap', by rw [← hl.out]; rfl, hown, (bl1 w _).trans hb⟩
end Go.Proofs.Ytiahaipaekeinaa

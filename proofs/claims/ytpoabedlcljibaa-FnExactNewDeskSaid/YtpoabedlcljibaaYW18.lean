/- Merged texts. -/
import Derived.Test.YtpoabedlcljibaaYW11
import Derived.WalkSpells
import Derived.Test.YtpoabedlcljibaaYW14
/- Contract: slices.Clone at []int64; owned rows read and written. -/
namespace Go.Proofs.Ytpoabedlcljibaa
open Go.RowKit
set_option linter.unusedVariables false
set_option linter.unusedSimpArgs false

theorem Own.blkG {B : Nat} {w : World} {a : Option Addr} {c : Nat} {ys : List Int} (h : Own B w a c ys) (h0 : ys.length ≠ 0) : ∃ g, a = some ⟨g, 0, none⟩ ∧ B ≤ g ∧ g < w.heap.size ∧ ys.length ≤ c := by
  rcases h.shape with ⟨_, _, rfl⟩ | ⟨g, cur, rfl, hB, hg, hl, _⟩
  · exact absurd rfl h0
  · exact ⟨g, rfl, hB, lt_of_block hg, hl⟩
theorem Own.cellG {B : Nat} {w : World} {g c : Nat} {ys : List Int} (h : Own B w (some ⟨g, 0, none⟩) c ys) (j : Nat) (hj : j < ys.length) : w.cell? ⟨g, j, none⟩ = some (.int .i64 (ys.getD j 0)) := by
  have := World.ownsRow.cellAt h j (by omega)
  rw [this]
  simp [hj]
theorem Own.freeG {B : Nat} {w : World} {g c : Nat} {ys : List Int} (h : Own B w (some ⟨g, 0, none⟩) c ys) (j : Nat) : w.frozen? ⟨g, j, none⟩ = false := World.ownsRow.frozenAt h j
theorem Own.setG {B : Nat} {w : World} {g c : Nat} {ys : List Int} (h : Own B w (some ⟨g, 0, none⟩) c ys) (j : Nat) (u : Int) : Own B (w.setCell ⟨g, j, none⟩ (.int .i64 u)) (some ⟨g, 0, none⟩) c (ys.set j u) := by
  have := (World.ownsRow.stored h j (.int .i64 u)).1
  unfold Own
  rw [List.map_set, List.length_set]
  exact this
theorem Own.otherG {B : Nat} {w : World} {a : Option Addr} {c g j : Nat} {ys : List Int} (h : Own B w a c ys) (hne : blk a ≠ some g) (u : Value) : Own B (w.setCell ⟨g, j, none⟩ u) a c ys := by
  refine h.keep (row := some g) ⟨rfl, rfl, rfl, by simp, fun k _ hk => Below.heap_setCell _ _ _ _ (fun e => hk (by rw [e]))⟩ (fun g' hg' e => ?_)
  rw [hg'] at hne
  exact hne e.symm
/-- A shorter beginning of an owned row. -/
theorem Own.takeG {B : Nat} {w : World} {a : Option Addr} {c : Nat} {ys : List Int} (h : Own B w a c ys) {m : Nat} (hm : m ≤ ys.length) : Own B w a c (ys.take m) := by
  rcases h.shape with ⟨rfl, rfl, rfl⟩ | ⟨g, cur, rfl, hB, hg, hl, hcm, hcs, ht⟩
  · simpa using Own.nil B w
  · have e : (ys.take m).length = m := by simp; omega
    unfold Own
    rw [e]
    refine ⟨by simp; omega, .inr ⟨g, c, cur, rfl, hB, hg, by omega, hcm, by omega, ?_⟩⟩
    rw [Nat.mul_one, List.map_take, ← ht, List.take_take, Nat.min_eq_left hm]
set_option maxHeartbeats 800000 in
theorem clone_any (a : Option Addr) (n c : Nat) (xs : List Int) (w : World) (hs : SL w a n c xs) (hn : n ≤ 4000000) :
    Calls Try.prog 86 #[.slice a n c] w fun e w' => ∃ a' c', e = .returned (.slice a' n c') ∧ Own w.heap.size w' a' c' xs ∧ Below w.heap.size w w' := by
  have hl := hide hs.len
  cases a with
  | none =>
    have h0 : n = 0 := by
      rcases hs.2.2 with h | ⟨_, _, h, _⟩
      · exact h
      · cases h
    subst h0
    obtain rfl := hs.empty
    have hq := fun w => Lib.run_eql_slice_nil (P := Try.prog) w 22 2 none 0 c 0 0 Try.underlying22
    go_enter Try.func86, Try.ntmps86
    go_wp2
    go_ret
    exact ⟨none, 0, rfl, Own.nil _ _, Below.refl _ _⟩
  | some ad =>
    have hq := fun w => Lib.run_eql_slice_nil (P := Try.prog) w 22 2 (some ad) n c 0 0 Try.underlying22
    have hs' := hs.below (bl1 w (.cells #[] 2))
    have ho : Own w.heap.size (w.alloc (.cells #[] 2)) (some ⟨w.heap.size, 0, none⟩) 0 [] := by
      have := World.ownsRow_lit w (base := w.heap.size) (e := 2) (size := 1) #[] 0 (Nat.le_refl _) (by simp) rfl
      exact this
    go_enter Try.func86, Try.ntmps86
    go_wp2_with (at_builtin; refine wp_append rfl _ _ rfl w.heap.size _ _ _ [] rfl rfl ho _ _ _ xs rfl hs' (by simp; omega) (by simp) ?_; intro ad' cap' w1 hown hb; simp only [List.nil_append] at hown)
    go_ret
    exact ⟨_, cap', by rw [← hl.out]; rfl, hown, (bl1 w _).trans hb⟩
end Go.Proofs.Ytpoabedlcljibaa
/- Contracts: the codes of one and of two polynomials, as the callers meet them (a fresh list of the arguments). -/
namespace Go.Proofs.Ytpoabedlcljibaa
open Go.RowKit
set_option linter.unusedVariables false
set_option linter.unusedSimpArgs false

def chk1 (p : Int) (f : List Int) : Int := if polyB p f then (if primeB p then 0 else 2) else 1
def chk2 (p : Int) (f g : List Int) : Int := if polyB p f && polyB p g then (if primeB p then 0 else 2) else 1
theorem chk1_cases (p : Int) (f : List Int) : chk1 p f = 1 ∨ chk1 p f = 2 ∨ (chk1 p f = 0 ∧ polyB p f = true ∧ primeB p = true) := by
  unfold chk1
  cases polyB p f <;> cases primeB p <;> simp
theorem chk2_cases (p : Int) (f g : List Int) : chk2 p f g = 1 ∨ chk2 p f g = 2 ∨ (chk2 p f g = 0 ∧ polyB p f = true ∧ polyB p g = true ∧ primeB p = true) := by
  unfold chk2
  cases polyB p f <;> cases polyB p g <;> cases primeB p <;> simp
theorem lists1 {w : World} {a1 : Option Addr} {n1 c1 : Nat} {f : List Int} (h1 : SL w a1 n1 c1 f) (b1 : n1 ≤ 4000000) :
    Lists (w.alloc (.cells #[.slice a1 n1 c1] 22)) w.heap.size 1 (fun _ => a1) (fun _ => n1) (fun _ => c1) (fun _ => f) := by
  intro j hj
  obtain rfl : j = 0 := by omega
  exact ⟨by simp [go_sem], h1.below (bl1 _ _), b1⟩
theorem lists2 {w : World} {a1 a2 : Option Addr} {n1 c1 n2 c2 : Nat} {f g : List Int} (h1 : SL w a1 n1 c1 f) (h2 : SL w a2 n2 c2 g) (b1 : n1 ≤ 4000000) (b2 : n2 ≤ 4000000) :
    Lists (w.alloc (.cells #[.slice a1 n1 c1, .slice a2 n2 c2] 22)) w.heap.size 2 (fun j => if j = 0 then a1 else a2) (fun j => if j = 0 then n1 else n2) (fun j => if j = 0 then c1 else c2) (fun j => if j = 0 then f else g) := by
  intro j hj
  rcases (show j = 0 ∨ j = 1 by omega) with rfl | rfl
  · exact ⟨by simp [go_sem], h1.below (bl1 _ _), b1⟩
  · exact ⟨by simp [go_sem], h2.below (bl1 _ _), b2⟩
theorem chkC1 (p : Int) (f : List Int) : chkC p (fun _ => f) 1 = chk1 p f := by simp [chkC, chkB, chk1]
theorem chkC2 (p : Int) (f g : List Int) : chkC p (fun j => if j = 0 then f else g) 2 = chk2 p f g := by simp [chkC, chkB, chk2]

end Go.Proofs.Ytpoabedlcljibaa

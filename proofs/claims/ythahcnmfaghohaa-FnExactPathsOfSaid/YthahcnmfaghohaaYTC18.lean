/- Merged texts. -/
import Derived.Test.YthahcnmfaghohaaYTC5
import Derived.Test.YthahcnmfaghohaaYTC8
import Derived.Test.YthahcnmfaghohaaYTC17
import Derived.Test.YthahcnmfaghohaaYTC6
import Derived.Deep.AppendLies
import Derived.Deep.RegionHeld3
import Derived.Deep.DrawnRows
/- Contracts: addList, AddMoments (program). -/
namespace Go.Proofs.Ythahcnmfaghohaa
open Go.RowKit
set_option linter.unusedVariables false
set_option linter.unusedSimpArgs false

/-- The first m numbers of a sum. -/
def alH (p k : Int) (xs ys : List Int) (m : Nat) : Nat → Int := fun j => if j < m then (xs.getD j 0 + k * ys.getD j 0) % p else 0
theorem alH_step (p k : Int) (xs ys : List Int) (N m : Nat) : (tab N (alH p k xs ys m)).set m ((xs.getD m 0 + k * ys.getD m 0) % p) = tab N (alH p k xs ys (m + 1)) := by
  rw [tab_set]
  apply tab_congr
  intro j _
  unfold alH
  by_cases e : j = m
  · subst e; simp
  · rw [if_neg e]
    by_cases h : j < m
    · rw [if_pos h, if_pos (by omega)]
    · rw [if_neg h, if_neg (by omega)]
theorem alH_all (p k : Int) (xs ys : List Int) (N : Nat) (h : xs.length = N) : tab N (alH p k xs ys N) = addlM p k xs ys := by
  unfold addlM
  rw [h]
  apply tab_congr
  intro j hj
  unfold alH
  rw [if_pos hj]
theorem addlM_nil (p k : Int) (ys : List Int) : addlM p k [] ys = [] := rfl
def adC (p : Int) (xs : List Int) (q : Int) (ys : List Int) (k : Int) : Int := if momB p xs && momB q ys then (if p = q ∧ xs.length = ys.length ∧ 0 ≤ k ∧ k < p then 0 else 2) else 1
def adV (p : Int) (xs : List Int) (q : Int) (ys : List Int) (k : Int) : List Int := if adC p xs q ys k = 0 then addlM p k xs ys else []
def adP (p : Int) (xs : List Int) (q : Int) (ys : List Int) (k : Int) : Int := if adC p xs q ys k = 0 then p else 0
end Go.Proofs.Ythahcnmfaghohaa
/- Contracts: windows (slices of one list) and functional over lists. -/
namespace Go.Proofs.Ythahcnmfaghohaa
open Go.RowKit
set_option linter.unusedVariables false
set_option linter.unusedSimpArgs false

/-- An owned row of slices. -/
def OwnV (B : Nat) (w : World) (a : Option Addr) (cap : Nat) (ys : List Value) : Prop := w.ownsRow B 22 1 (.slice a ys.length cap) ys.length ys
theorem OwnV.nil (B : Nat) (w : World) : OwnV B w none 0 [] := World.ownsRow_nil _ _ _ _
theorem infoS : (Try.prog.info? 22).map (fun i => (i.zero, i.size, i.bytes)) = some (some (.slice none 0 0), 1, 24) := by kernel_rfl
theorem OwnV.below {B : Nat} {w w' : World} {a : Option Addr} {cap : Nat} {ys : List Value} (h : OwnV B w a cap ys) (hb : Below w.heap.size w w') : OwnV B w' a cap ys := by
  refine ⟨h.1, ?_⟩
  rcases h.2 with h' | ⟨g, c, cur, h1, h2, h3, h4⟩
  · exact .inl h'
  · exact .inr ⟨g, c, cur, h1, h2, (hb.block g (lt_of_block h3)).trans h3, h4⟩
theorem OwnV.blkG {B : Nat} {w : World} {a : Option Addr} {c : Nat} {ys : List Value} (h : OwnV B w a c ys) : ∀ g, blk a = some g → B ≤ g := fun g hg => by
  rcases h.2 with ⟨h1, _⟩ | ⟨g', c', cur, h1, h2, _⟩
  · simp only [Value.slice.injEq] at h1
    rw [h1.1] at hg; cases hg
  · simp only [Value.slice.injEq] at h1
    rw [h1.1] at hg; cases hg; exact h2
theorem OwnV.at {B : Nat} {w : World} {a : Option Addr} {c : Nat} {ys : List Value} (h : OwnV B w a c ys) (h0 : ys.length ≠ 0) : ∃ g, a = some ⟨g, 0, none⟩ ∧ ∀ j, j < ys.length → w.cell? ⟨g, j, none⟩ = ys[j]? := by
  rcases h.2 with ⟨h1, h2⟩ | ⟨g', c', cur, h1, _⟩
  · exact absurd h2 h0
  · simp only [Value.slice.injEq] at h1
    obtain ⟨rfl, _, rfl⟩ := h1
    exact ⟨g', rfl, fun j hj => World.ownsRow.cellAt h j (by omega)⟩
theorem SL.win {w : World} {b off N c n i : Nat} {xs : List Int} (h : SL w (some ⟨b, off, none⟩) N c xs) (hi : i + n ≤ N) : SL w (some ⟨b, off + i, none⟩) n n ((xs.drop i).take n) := by
  have hl := h.1
  refine ⟨by simp; omega, ⟨Nat.le_refl _, fun e => by cases e⟩, ?_⟩
  rcases h.2.2 with h0 | ⟨b', o', e, hc⟩
  · left; simp [h0] at hl ⊢ <;> omega
  · right
    cases e
    refine ⟨b, off + i, rfl, fun j hj => ?_⟩
    have := hc (i + j) (by omega)
    rw [← Nat.add_assoc] at this
    rw [this]
    simp [List.getElem?_take, hj]
def winV (b off n i : Nat) : List Value := (List.range i).map (fun j => Value.slice (some ⟨b, off + j, none⟩) n n)
theorem winV_len (b off n i : Nat) : (winV b off n i).length = i := by simp [winV]
theorem winV_step (b off n i : Nat) : winV b off n i ++ [Value.slice (some ⟨b, off + i, none⟩) n n] = winV b off n (i + 1) := by simp [winV, List.range_succ]
theorem winV_at (b off n i j : Nat) (hj : j < i) : (winV b off n i)[j]? = some (Value.slice (some ⟨b, off + j, none⟩) n n) := by simp [winV, hj]
/-- A list to which multiples of lists are added, one after the other. -/
def funF (p : Int) (f : List Int) (R : Nat → List Int) (ys : List Int) : Nat → List Int
  | 0 => ys
  | i + 1 => addlM p (f.getD i 0) (funF p f R ys i) (R i)
theorem funF_len (p : Int) (f : List Int) (R : Nat → List Int) (ys : List Int) (i : Nat) : (funF p f R ys i).length = ys.length := by
  induction i with
  | zero => rfl
  | succ i ih => rw [funF, addlM_len, ih]
theorem funF_are {p : Int} (hp : 2 ≤ p) (f : List Int) (R : Nat → List Int) (ys : List Int) (hy : areB p ys = true) (i : Nat) : areB p (funF p f R ys i) = true := by
  cases i with
  | zero => exact hy
  | succ i => exact addlM_are hp _ _ _
end Go.Proofs.Ythahcnmfaghohaa

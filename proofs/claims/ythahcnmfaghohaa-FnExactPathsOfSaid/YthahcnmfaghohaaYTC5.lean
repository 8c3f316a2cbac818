/- Merged texts. -/
import Derived.Test.YthahcnmfaghohaaYTC2
import Derived.WalkSpells
import Derived.Test.YthahcnmfaghohaaYTC4
import Derived.StillTailTactics
import Derived.IntWalk
import Derived.Deep.RegionWith
import Derived.Deep.RegionHeld3
import Derived.Deep.CutBlock
import Derived.Deep.DeepCutAuto
import Derived.Deep.LoopGhost
/- Contract: slices.Clone at []int64; owned rows read and written. -/
namespace Go.Proofs.Ythahcnmfaghohaa
open Go.RowKit
set_option linter.unusedVariables false
set_option linter.unusedSimpArgs false

theorem Own.blkG {B : Nat} {w : World} {a : Option Addr} {c : Nat} {ys : List Int} (h : Own B w a c ys) (h0 : ys.length ≠ 0) : ∃ g, a = some ⟨g, 0, none⟩ ∧ B ≤ g ∧ g < w.heap.size ∧ ys.length ≤ c := by
  rcases h.shape with ⟨_, _, rfl⟩ | ⟨g, cur, rfl, hB, hg, hl, _⟩
  · exact absurd rfl h0
  · exact ⟨g, rfl, hB, lt_of_block hg, hl⟩
theorem Own.cellG {B : Nat} {w : World} {g c : Nat} {ys : List Int} (h : Own B w (some ⟨g, 0, none⟩) c ys) (j : Nat) (hj : j < ys.length) : w.cell? ⟨g, j, none⟩ = some (.int .i64 (ys.getD j 0)) := by
  have := World.ownsRow.cellAt h j (by omega)
  rw [this]
  simp [hj]
theorem Own.freeG {B : Nat} {w : World} {g c : Nat} {ys : List Int} (h : Own B w (some ⟨g, 0, none⟩) c ys) (j : Nat) : w.frozen? ⟨g, j, none⟩ = false := World.ownsRow.frozenAt h j
theorem Own.setG {B : Nat} {w : World} {g c : Nat} {ys : List Int} (h : Own B w (some ⟨g, 0, none⟩) c ys) (j : Nat) (u : Int) : Own B (w.setCell ⟨g, j, none⟩ (.int .i64 u)) (some ⟨g, 0, none⟩) c (ys.set j u) := by
  have := (World.ownsRow.stored h j (.int .i64 u)).1
  unfold Own
  rw [List.map_set, List.length_set]
  exact this
theorem Own.otherG {B : Nat} {w : World} {a : Option Addr} {c g j : Nat} {ys : List Int} (h : Own B w a c ys) (hne : blk a ≠ some g) (u : Value) : Own B (w.setCell ⟨g, j, none⟩ u) a c ys := by
  refine h.keep (row := some g) ⟨rfl, rfl, rfl, by simp, fun k _ hk => Below.heap_setCell _ _ _ _ (fun e => hk (by rw [e]))⟩ (fun g' hg' e => ?_)
  rw [hg'] at hne
  exact hne e.symm
/-- A shorter beginning of an owned row. -/
theorem Own.takeG {B : Nat} {w : World} {a : Option Addr} {c : Nat} {ys : List Int} (h : Own B w a c ys) {m : Nat} (hm : m ≤ ys.length) : Own B w a c (ys.take m) := by
  rcases h.shape with ⟨rfl, rfl, rfl⟩ | ⟨g, cur, rfl, hB, hg, hl, hcm, hcs, ht⟩
  · simpa using Own.nil B w
  · have e : (ys.take m).length = m := by simp; omega
    unfold Own
    rw [e]
    refine ⟨by simp; omega, .inr ⟨g, c, cur, rfl, hB, hg, by omega, hcm, by omega, ?_⟩⟩
    rw [Nat.mul_one, List.map_take, ← ht, List.take_take, Nat.min_eq_left hm]
end Go.Proofs.Ythahcnmfaghohaa
/- Contracts: ShiftMoments, CutMoments (program and model). -/
namespace Go.Proofs.Ythahcnmfaghohaa
open Go.RowKit
set_option linter.unusedVariables false
set_option linter.unusedSimpArgs false

/-- The two results of a call: moments and a code. -/
def ResM (w : World) (q : Int) (v : List Int) (c : Int) (e : Ending) (w' : World) : Prop :=
  ∃ a cap, e = .returned (.tuple #[mom q a v.length cap, .int .i64 c]) ∧ OZ w.heap.size w'.heap.size w' a v.length cap v ∧ v.length ≤ 100000 ∧ Below w.heap.size w w'
theorem ResM.nil {w w' : World} {q : Int} {v : List Int} {c c' : Int} (hq : q = 0) (hv : v = []) (hc : c = c') (hb : Below w.heap.size w w') : ResM w q v c (.returned (.tuple #[mom 0 none 0 0, .int .i64 c'])) w' := by
  subst hv; subst hc; subst hq
  exact ⟨none, 0, rfl, ⟨SL.nil _, .inl rfl⟩, by simp, hb⟩
theorem ResM.own {w w' : World} {q q' : Int} {v : List Int} {c c' : Int} {a : Option Addr} {n cap : Nat} (hq : q = q') (hc : c = c') (hn : n = v.length) (ho : Own w.heap.size w' a cap v) (hl : v.length ≤ 100000) (hb : Below w.heap.size w w') : ResM w q v c (.returned (.tuple #[mom q' a n cap, .int .i64 c'])) w' := by
  subst hc; subst hn; subst hq
  exact ⟨a, cap, rfl, OZ.of ho rfl, hl, hb⟩
theorem SL.dropS {w : World} {b off n c : Nat} {xs : List Int} (h : SL w (some ⟨b, off, none⟩) n c xs) (k : Nat) (hk : k ≤ n) : SL w (some ⟨b, off + k, none⟩) (n - k) (c - k) (xs.drop k) := by
  obtain ⟨h1, ⟨h2, h2'⟩, h3⟩ := h
  refine ⟨by simp; omega, ⟨by omega, fun h => by cases h⟩, ?_⟩
  rcases h3 with h3 | ⟨b', off', he, hc⟩
  · exact .inl (by omega)
  · simp only [Option.some.injEq, Addr.mk.injEq, and_true] at he
    obtain ⟨rfl, rfl⟩ := he
    refine .inr ⟨b, off + k, rfl, fun j hj => ?_⟩
    rw [show off + k + j = off + (k + j) by omega, hc (k + j) (by omega)]
    simp
def shmC (p : Int) (xs : List Int) : Int := if momB p xs then (if xs.length = 1 then 5 else 0) else 1
def shmV (p : Int) (xs : List Int) : List Int := if shmC p xs = 0 then xs.drop 1 else []
def shmP (p : Int) (xs : List Int) : Int := if shmC p xs = 0 then p else 0
def cutC (p : Int) (xs : List Int) (k : Int) : Int := if momB p xs then (if 1 ≤ k ∧ k ≤ (xs.length : Int) then 0 else 2) else 1
def cutV (p : Int) (xs : List Int) (k : Int) : List Int := if cutC p xs k = 0 then xs.take k.toNat else []
def cutP (p : Int) (xs : List Int) (k : Int) : Int := if cutC p xs k = 0 then p else 0
end Go.Proofs.Ythahcnmfaghohaa

/- Contracts: ShiftMoments, CutMoments (program and model). -/
import Derived.Test.YtiahaipaekeinaaAm
import Derived.Test.YtiahaipaekeinaaPc
import Derived.Test.YtiahaipaekeinaaCl
import Derived.StillTailTactics
import Derived.IntWalk
import Derived.Deep.RegionWith
import Derived.Deep.RegionHeld3
import Derived.Deep.CutBlock
import Derived.Deep.DeepCutAuto
import Derived.Deep.LoopGhost
namespace Go.Proofs.Ytiahaipaekeinaa
open Go.RowKit
set_option linter.unusedVariables false
set_option linter.unusedSimpArgs false

/-- The two results of a call: moments and a code. -/
def ResM (w : World) (q : Int) (v : List Int) (c : Int) (e : Ending) (w' : World) : Prop :=
  ∃ a cap, e = .returned (.tuple #[mom q a v.length cap, .int .i64 c]) ∧ OZ w.heap.size w'.heap.size w' a v.length cap v ∧ v.length ≤ 100000 ∧ Below w.heap.size w w'
theorem ResM.nil {w w' : World} {q : Int} {v : List Int} {c c' : Int} (hq : q = 0) (hv : v = []) (hc : c = c') (hb : Below w.heap.size w w') : ResM w q v c (.returned (.tuple #[mom 0 none 0 0, .int .i64 c'])) w' := by
  subst hv; subst hc; subst hq
  exact ⟨none, 0, rfl, ⟨SL.nil _, .inl rfl⟩, by simp, hb⟩
theorem ResM.own {w w' : World} {q q' : Int} {v : List Int} {c c' : Int} {a : Option Addr} {n cap : Nat} (hq : q = q') (hc : c = c') (hn : n = v.length) (ho : Own w.heap.size w' a cap v) (hl : v.length ≤ 100000) (hb : Below w.heap.size w w') : ResM w q v c (.returned (.tuple #[mom q' a n cap, .int .i64 c'])) w' := by
  subst hc; subst hn; subst hq
  exact ⟨a, cap, rfl, OZ.of ho rfl, hl, hb⟩
theorem SL.dropS {w : World} {b off n c : Nat} {xs : List Int} (h : SL w (some ⟨b, off, none⟩) n c xs) (k : Nat) (hk : k ≤ n) : SL w (some ⟨b, off + k, none⟩) (n - k) (c - k) (xs.drop k) := by
  obtain ⟨h1, ⟨h2, h2'⟩, h3⟩ := h
  refine ⟨by simp; omega, ⟨by omega, fun h => by cases h⟩, ?_⟩
  rcases h3 with h3 | ⟨b', off', he, hc⟩
  · exact .inl (by omega)
  · simp only [Option.some.injEq, Addr.mk.injEq, and_true] at he
    obtain ⟨rfl, rfl⟩ := he
    refine .inr ⟨b, off + k, rfl, fun j hj => ?_⟩
    rw [show off + k + j = off + (k + j) by omega, hc (k + j) (by omega)]
    simp
def shmC (p : Int) (xs : List Int) : Int := if momB p xs then (if xs.length = 1 then 5 else 0) else 1
def shmV (p : Int) (xs : List Int) : List Int := if shmC p xs = 0 then xs.drop 1 else []
def shmP (p : Int) (xs : List Int) : Int := if shmC p xs = 0 then p else 0
def cutC (p : Int) (xs : List Int) (k : Int) : Int := if momB p xs then (if 1 ≤ k ∧ k ≤ (xs.length : Int) then 0 else 2) else 1
def cutV (p : Int) (xs : List Int) (k : Int) : List Int := if cutC p xs k = 0 then xs.take k.toNat else []
def cutP (p : Int) (xs : List Int) (k : Int) : Int := if cutC p xs k = 0 then p else 0
end Go.Proofs.Ytiahaipaekeinaa

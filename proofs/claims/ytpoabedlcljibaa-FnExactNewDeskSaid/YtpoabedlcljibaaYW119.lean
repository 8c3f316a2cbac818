/- Merged texts. -/
import Derived.Test.YtpoabedlcljibaaYW115
import Derived.Test.YtpoabedlcljibaaYW118
import Derived.Test.YtpoabedlcljibaaYW117
/- Contracts: partOf, l03Cut; CutJacobi, ShiftJacobi (program and model). -/
namespace Go.Proofs.Ytpoabedlcljibaa
open Go.RowKit
set_option linter.unusedVariables false
set_option linter.unusedSimpArgs false

/-- The two results of a call: data and a code. -/
def ResJ (w : World) (q : Int) (v u : List Int) (c : Int) (e : Ending) (w' : World) : Prop :=
  ∃ a cap b cap', e = .returned (.tuple #[jac q a v.length cap b u.length cap', .int .i64 c]) ∧ JZ w.heap.size w'.heap.size w' a v.length cap v b u.length cap' u ∧ (v.length ≤ 100000 ∧ u.length ≤ 100000) ∧ Below w.heap.size w w'
theorem ResJ.nil {w w' : World} {q : Int} {v u : List Int} {c c' : Int} (hq : q = 0) (hv : v = []) (hu : u = []) (hc : c = c') (hb : Below w.heap.size w w') : ResJ w q v u c (.returned (.tuple #[jac 0 none 0 0 none 0 0, .int .i64 c'])) w' := by
  subst hv; subst hu; subst hc; subst hq
  exact ⟨none, 0, none, 0, rfl, ⟨⟨SL.nil _, .inl rfl⟩, ⟨SL.nil _, .inl rfl⟩, .inl rfl⟩, by simp, hb⟩
theorem ResJ.mk {w w' : World} {q q' : Int} {v u : List Int} {c c' : Int} {a : Option Addr} {n cap : Nat} {b : Option Addr} {m cap' : Nat} (hq : q = q') (hc : c = c') (hn : n = v.length) (hm : m = u.length) (ho : JZ w.heap.size w'.heap.size w' a n cap v b m cap' u)
    (hl : v.length ≤ 100000) (hl' : u.length ≤ 100000) (hb : Below w.heap.size w w') : ResJ w q v u c (.returned (.tuple #[jac q' a n cap b m cap', .int .i64 c'])) w' := by
  subst hc; subst hn; subst hm; subst hq
  exact ⟨a, cap, b, cap', rfl, ho, ⟨hl, hl'⟩, hb⟩
theorem SL.part {w : World} {b off n c : Nat} {xs : List Int} (h : SL w (some ⟨b, off, none⟩) n c xs) (lo hi : Nat) (h1 : lo ≤ hi) (h2 : hi ≤ n) : SL w (some ⟨b, off + lo, none⟩) (hi - lo) (c - lo) ((xs.take hi).drop lo) :=
  (h.take h2).dropS lo h1
def cutjV (k : Int) (xs : List Int) : List Int := xs.take k.toNat
def shjV (k : Int) (xs : List Int) : List Int := xs.drop k.toNat
def cutjC (p : Int) (xs ys : List Int) (k : Int) : Int := jcd p xs ys k 1 xs.length
def cutJP (p : Int) (xs ys : List Int) (k : Int) : Int := if cutjC p xs ys k = 0 then p else 0
def cutJV (p : Int) (xs ys : List Int) (k : Int) : List Int := if cutjC p xs ys k = 0 then xs.take k.toNat else []
def cutJU (p : Int) (xs ys : List Int) (k : Int) : List Int := if cutjC p xs ys k = 0 then ys.take k.toNat else []
def shjC (p : Int) (xs ys : List Int) (k : Int) : Int := jcd p xs ys k 0 ((xs.length : Int) - 1)
def shJP (p : Int) (xs ys : List Int) (k : Int) : Int := if shjC p xs ys k = 0 then p else 0
def shJV (p : Int) (xs ys : List Int) (k : Int) : List Int := if shjC p xs ys k = 0 then xs.drop k.toNat else []
def shJU (p : Int) (xs ys : List Int) (k : Int) : List Int := if shjC p xs ys k = 0 then ys.drop k.toNat else []
end Go.Proofs.Ytpoabedlcljibaa
/- Contracts: opposite, linear (program); l03Step, l03Poly, l03Second (model). -/
namespace Go.Proofs.Ytpoabedlcljibaa
open Go.RowKit
set_option linter.unusedVariables false
set_option linter.unusedSimpArgs false

end Go.Proofs.Ytpoabedlcljibaa

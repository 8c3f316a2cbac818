/- Merged texts. -/
import Derived.Test.YtpoabedlcljibaaYW19
import Derived.Test.YtpoabedlcljibaaYW17
import Derived.Test.YtpoabedlcljibaaYW18
import Derived.Deep.LoopGhost
import Derived.StillTailTactics
import Derived.IntWalk
/- Contracts: MultiplyPolys; monic, MonicPoly (program and model). -/
namespace Go.Proofs.Ytpoabedlcljibaa
open Go.RowKit
set_option linter.unusedVariables false
set_option linter.unusedSimpArgs false

def mulC (p : Int) (f g : List Int) : Int := if chk2 p f g = 0 then (if (mulM p f g).length ≤ 25 then 0 else 3) else chk2 p f g
def mulV (p : Int) (f g : List Int) : List Int := if mulC p f g = 0 then mulM p f g else []
theorem mulM_le (p : Int) (f g : List Int) : (mulM p f g).length ≤ f.length + g.length := by
  unfold mulM
  split
  · simp
  · rw [tab_len]; omega
def monM (p : Int) (f : List Int) : List Int := if f.isEmpty then [] else addM p [] f (invM p (f.getD (f.length - 1) 0))
def monC (p : Int) (f : List Int) : Int := if chk1 p f = 0 then (if f.isEmpty then 5 else 0) else chk1 p f
def monV (p : Int) (f : List Int) : List Int := if monC p f = 0 then monM p f else []
theorem monM_nil (p : Int) : monM p [] = [] := rfl
theorem monM_cons {p : Int} {f : List Int} {n : Nat} (hl : f.length = n) (h : n ≠ 0) : monM p f = addM p [] f (invM p (f.getD (n - 1) 0)) := by
  unfold monM
  cases f with
  | nil => simp at hl; omega
  | cons a f => simp [← hl]
theorem invM_rng {p : Int} (x : Int) (hp : 2 ≤ p) : 0 ≤ invM p x ∧ invM p x < p := powM_rng hp
theorem areB_nil (p : Int) : areB p [] = true := rfl
theorem monM_len {p : Int} {f : List Int} (h : f.length ≤ 1000) : (monM p f).length ≤ 1000 := by
  unfold monM
  split
  · simp
  · exact addM_len (by simp) h
end Go.Proofs.Ytpoabedlcljibaa
/- Contracts: divide (program). -/
namespace Go.Proofs.Ytpoabedlcljibaa
open Go.RowKit
set_option linter.unusedVariables false
set_option linter.unusedSimpArgs false

/-- A pair of lists as the call's result: the first lies below M, the second from M on. -/
def Pair (w : World) (q r : List Int) (e : Ending) (w' : World) : Prop :=
  ∃ a1 c1 a2 c2 M, e = .returned (.tuple #[.slice a1 q.length c1, .slice a2 r.length c2]) ∧ OZ w.heap.size M w' a1 q.length c1 q ∧ OZ M w'.heap.size w' a2 r.length c2 r ∧ w.heap.size ≤ M ∧ M ≤ w'.heap.size ∧ Below w.heap.size w w'
theorem Pair.mk {w w' : World} {q r : List Int} {a1 a2 : Option Addr} {n1 n2 c1 c2 M : Nat} (h1 : n1 = q.length) (h2 : n2 = r.length) (o1 : OZ w.heap.size M w' a1 n1 c1 q) (o2 : OZ M w'.heap.size w' a2 n2 c2 r) (hM : w.heap.size ≤ M) (hM' : M ≤ w'.heap.size) (hb : Below w.heap.size w w') :
    Pair w q r (.returned (.tuple #[.slice a1 n1 c1, .slice a2 n2 c2])) w' := by
  subst h1; subst h2
  exact ⟨a1, c1, a2, c2, M, rfl, o1, o2, hM, hM', hb⟩
theorem quoM_short {p : Int} {f g : List Int} (h : f.length < g.length) : quoM p f g = [] ∧ remM p f g = f := by
  unfold quoM remM
  rw [if_pos h, if_pos h]
  exact ⟨rfl, rfl⟩
theorem quoM_long {p inv : Int} {f g : List Int} {D n2 : Nat} (hg : g.length = n2) (h : f.length = D + n2) (hi : inv = invM p (g.getD (n2 - 1) 0)) : quoM p f g = trimL (tab (D + 1) (divQ p inv f g D (D + 1))) ∧ remM p f g = trimL (tab (D + n2) (divR p inv f g D (D + 1))) := by
  unfold quoM remM
  rw [if_neg (by omega), if_neg (by omega), hg, h, hi, Nat.add_sub_cancel]
  exact ⟨rfl, rfl⟩
end Go.Proofs.Ytpoabedlcljibaa

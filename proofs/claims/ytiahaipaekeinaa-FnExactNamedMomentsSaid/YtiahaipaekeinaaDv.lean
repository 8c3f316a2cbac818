/- Contracts: divide (program). -/
import Derived.Test.YtiahaipaekeinaaDm
import Derived.Test.YtiahaipaekeinaaCl
import Derived.Test.YtiahaipaekeinaaMp
import Derived.Deep.LoopGhost
import Derived.StillTailTactics
import Derived.IntWalk
namespace Go.Proofs.Ytiahaipaekeinaa
open Go.RowKit
set_option linter.unusedVariables false
set_option linter.unusedSimpArgs false

/-- A pair of lists as the call's result: the first lies below M, the second from M on. -/
def Pair (w : World) (q r : List Int) (e : Ending) (w' : World) : Prop :=
  ∃ a1 c1 a2 c2 M, e = .returned (.tuple #[.slice a1 q.length c1, .slice a2 r.length c2]) ∧ OZ w.heap.size M w' a1 q.length c1 q ∧ OZ M w'.heap.size w' a2 r.length c2 r ∧ w.heap.size ≤ M ∧ M ≤ w'.heap.size ∧ Below w.heap.size w w'
theorem Pair.mk {w w' : World} {q r : List Int} {a1 a2 : Option Addr} {n1 n2 c1 c2 M : Nat} (h1 : n1 = q.length) (h2 : n2 = r.length) (o1 : OZ w.heap.size M w' a1 n1 c1 q) (o2 : OZ M w'.heap.size w' a2 n2 c2 r) (hM : w.heap.size ≤ M) (hM' : M ≤ w'.heap.size) (hb : Below w.heap.size w w') :
    Pair w q r (.returned (.tuple #[.slice a1 n1 c1, .slice a2 n2 c2])) w' := by
  subst h1; subst h2
  exact ⟨a1, c1, a2, c2, M, rfl, o1, o2, hM, hM', hb⟩
theorem quoM_short {p : Int} {f g : List Int} (h : f.length < g.length) : quoM p f g = [] ∧ remM p f g = f := by
  unfold quoM remM
  rw [if_pos h, if_pos h]
  exact ⟨rfl, rfl⟩
theorem quoM_long {p inv : Int} {f g : List Int} {D n2 : Nat} (hg : g.length = n2) (h : f.length = D + n2) (hi : inv = invM p (g.getD (n2 - 1) 0)) : quoM p f g = trimL (tab (D + 1) (divQ p inv f g D (D + 1))) ∧ remM p f g = trimL (tab (D + n2) (divR p inv f g D (D + 1))) := by
  unfold quoM remM
  rw [if_neg (by omega), if_neg (by omega), hg, h, hi, Nat.add_sub_cancel]
  exact ⟨rfl, rfl⟩
end Go.Proofs.Ytiahaipaekeinaa

/- Merged texts. -/
import Derived.Test.YtdjifjlgllohmaaDoorYDS5
import Derived.Test.YtdjifjlgllohmaaDoorYDS6
import Derived.Test.YtdjifjlgllohmaaDoorYDS8
import Derived.Deep.LoopGhost
import Derived.StillTailTactics
import Derived.IntWalk
import Derived.Deep.RegionWith
import Derived.Deep.DeepCutAuto
/- Contracts: divide (program). -/
namespace Go.Proofs.YtdjifjlgllohmaaDoor
open Go.RowKit
set_option linter.unusedVariables false
set_option linter.unusedSimpArgs false

/-- A pair of lists as the call's result: the first lies below M, the second from M on. -/
def Pair (w : World) (q r : List Int) (e : Ending) (w' : World) : Prop :=
  ∃ a1 c1 a2 c2 M, e = .returned (.tuple #[.slice a1 q.length c1, .slice a2 r.length c2]) ∧ OZ w.heap.size M w' a1 q.length c1 q ∧ OZ M w'.heap.size w' a2 r.length c2 r ∧ w.heap.size ≤ M ∧ M ≤ w'.heap.size ∧ Below w.heap.size w w'
theorem Pair.mk {w w' : World} {q r : List Int} {a1 a2 : Option Addr} {n1 n2 c1 c2 M : Nat} (h1 : n1 = q.length) (h2 : n2 = r.length) (o1 : OZ w.heap.size M w' a1 n1 c1 q) (o2 : OZ M w'.heap.size w' a2 n2 c2 r) (hM : w.heap.size ≤ M) (hM' : M ≤ w'.heap.size) (hb : Below w.heap.size w w') :
    Pair w q r (.returned (.tuple #[.slice a1 n1 c1, .slice a2 n2 c2])) w' := by
  subst h1; subst h2
  exact ⟨a1, c1, a2, c2, M, rfl, o1, o2, hM, hM', hb⟩
theorem quoM_short {p : Int} {f g : List Int} (h : f.length < g.length) : quoM p f g = [] ∧ remM p f g = f := by
  unfold quoM remM
  rw [if_pos h, if_pos h]
  exact ⟨rfl, rfl⟩
theorem quoM_long {p inv : Int} {f g : List Int} {D n2 : Nat} (hg : g.length = n2) (h : f.length = D + n2) (hi : inv = invM p (g.getD (n2 - 1) 0)) : quoM p f g = trimL (tab (D + 1) (divQ p inv f g D (D + 1))) ∧ remM p f g = trimL (tab (D + n2) (divR p inv f g D (D + 1))) := by
  unfold quoM remM
  rw [if_neg (by omega), if_neg (by omega), hg, h, hi, Nat.add_sub_cancel]
  exact ⟨rfl, rfl⟩
end Go.Proofs.YtdjifjlgllohmaaDoor
/- Contracts: l01Divide (model). -/
namespace Go.Proofs.YtdjifjlgllohmaaDoor
open Go.RowKit
set_option linter.unusedVariables false
set_option linter.unusedSimpArgs false

/-- A new row of zeros. -/
def zrow (n : Nat) : Array Value := ((List.replicate n (0 : Int)).map (Value.int .i64)).toArray
set_option maxRecDepth 100000 in
theorem run_mk (n : Nat) (hn : n ≤ 4000000) : ∀ W : World, (Instr.makeSlice 22 (.int .i64 (n : Int)) (.int .i64 (n : Int))).run Tryd.prog W = .ok (.slice (some ⟨W.heap.size, 0, none⟩) n n) (W.alloc (.cells (zrow n) 2)) := by
  intro W
  obtain ⟨i0, hi, hz0, hz1, hz2⟩ := info_parts infoI
  have hr := run_make (P := Tryd.prog) W 22 2 i0 (.int .i64 0) Tryd.underlying22 hi hz0 .i64 .i64 n n (by omega) (by omega) (by rw [hz2]; omega) (by omega)
  simp only [Int.toNat_natCast] at hr
  rw [hr, hz1, Nat.mul_one]
  congr 2
  have e : madeCells (Value.int IntKind.i64 0).cells n = zrow n := by
    have : (madeCells (Value.int IntKind.i64 0).cells n).toList = (zrow n).toList := by
      rw [Value.cells.eq_def]
      simp [toList_madeCells_one, zrow]
    exact Array.toList_inj.1 this
  rw [e]
theorem zrow_row (W : World) (n : Nat) : RowI (W.alloc (.cells (zrow n) 2)) W.heap.size (tab n (fun _ => 0)) := by
  unfold RowI
  rw [← tab_zero]
  exact heap_alloc_new W _
end Go.Proofs.YtdjifjlgllohmaaDoor

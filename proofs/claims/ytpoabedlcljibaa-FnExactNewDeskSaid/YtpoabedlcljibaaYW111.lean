/- Merged texts. -/
import Derived.Test.YtpoabedlcljibaaYW110
import Derived.Deep.RegionWith
import Derived.Deep.DeepCutAuto
/- Contracts: l01Divide (model). -/
namespace Go.Proofs.Ytpoabedlcljibaa
open Go.RowKit
set_option linter.unusedVariables false
set_option linter.unusedSimpArgs false

/-- A new row of zeros. -/
def zrow (n : Nat) : Array Value := ((List.replicate n (0 : Int)).map (Value.int .i64)).toArray
set_option maxRecDepth 100000 in
theorem run_mk (n : Nat) (hn : n ≤ 4000000) : ∀ W : World, (Instr.makeSlice 22 (.int .i64 (n : Int)) (.int .i64 (n : Int))).run Try.prog W = .ok (.slice (some ⟨W.heap.size, 0, none⟩) n n) (W.alloc (.cells (zrow n) 2)) := by
  intro W
  obtain ⟨i0, hi, hz0, hz1, hz2⟩ := info_parts infoI
  have hr := run_make (P := Try.prog) W 22 2 i0 (.int .i64 0) Try.underlying22 hi hz0 .i64 .i64 n n (by omega) (by omega) (by rw [hz2]; omega) (by omega)
  simp only [Int.toNat_natCast] at hr
  rw [hr, hz1, Nat.mul_one]
  congr 2
  have e : madeCells (Value.int IntKind.i64 0).cells n = zrow n := by
    have : (madeCells (Value.int IntKind.i64 0).cells n).toList = (zrow n).toList := by
      rw [Value.cells.eq_def]
      simp [toList_madeCells_one, zrow]
    exact Array.toList_inj.1 this
  rw [e]
theorem zrow_row (W : World) (n : Nat) : RowI (W.alloc (.cells (zrow n) 2)) W.heap.size (tab n (fun _ => 0)) := by
  unfold RowI
  rw [← tab_zero]
  exact heap_alloc_new W _
end Go.Proofs.Ytpoabedlcljibaa
/- Contracts: DividePolys (program and model). -/
namespace Go.Proofs.Ytpoabedlcljibaa
open Go.RowKit
set_option linter.unusedVariables false
set_option linter.unusedSimpArgs false

/-- The three results of a call: two lists in zones of their own and a code. -/
def Res2 (w : World) (v u : List Int) (c : Int) (e : Ending) (w' : World) : Prop :=
  ∃ a1 c1 a2 c2, e = .returned (.tuple #[.slice a1 v.length c1, .slice a2 u.length c2, .int .i64 c]) ∧ ∃ lo hi lo2 hi2, (w.heap.size ≤ lo ∧ hi ≤ w'.heap.size ∧ w.heap.size ≤ lo2 ∧ hi2 ≤ w'.heap.size ∧ hi ≤ lo2) ∧
    OZ lo hi w' a1 v.length c1 v ∧ OZ lo2 hi2 w' a2 u.length c2 u ∧ v.length ≤ 100000 ∧ u.length ≤ 100000 ∧ Below w.heap.size w w'
theorem Res2.nil {w w' : World} {v u : List Int} {c c' : Int} (hv : v = []) (hu : u = []) (hc : c = c') (hb : Below w.heap.size w w') : Res2 w v u c (.returned (.tuple #[.slice none 0 0, .slice none 0 0, .int .i64 c'])) w' := by
  subst hv; subst hu; subst hc
  exact ⟨none, 0, none, 0, rfl, w.heap.size, w.heap.size, w.heap.size, w.heap.size, ⟨Nat.le_refl _, hb.size, Nat.le_refl _, hb.size, Nat.le_refl _⟩, ⟨SL.nil _, .inl rfl⟩, ⟨SL.nil _, .inl rfl⟩, by simp, by simp, hb⟩
theorem Res2.mk {w w1 w' : World} {v u q r : List Int} {c c' : Int} {a1 a2 : Option Addr} {n1 n2 c1 c2 M : Nat} (hv : v = q) (hu : u = r) (hc : c = c') (h1 : n1 = q.length) (h2 : n2 = r.length) (o1 : OZ w1.heap.size M w' a1 n1 c1 q) (o2 : OZ M w'.heap.size w' a2 n2 c2 r)
    (hw : w.heap.size ≤ w1.heap.size) (hM : w1.heap.size ≤ M) (hM' : M ≤ w'.heap.size) (hlq : q.length ≤ 100000) (hlr : r.length ≤ 100000) (hb : Below w.heap.size w w') : Res2 w v u c (.returned (.tuple #[.slice a1 n1 c1, .slice a2 n2 c2, .int .i64 c'])) w' := by
  subst hv; subst hu; subst hc; subst h1; subst h2
  exact ⟨a1, c1, a2, c2, rfl, w1.heap.size, M, M, w'.heap.size, ⟨hw, hM', by omega, Nat.le_refl _, Nat.le_refl _⟩, o1, o2, hlq, hlr, hb⟩
def divC (p : Int) (f g : List Int) : Int := if chk2 p f g = 0 then (if g.isEmpty then 5 else 0) else chk2 p f g
def divV (p : Int) (f g : List Int) : List Int := if divC p f g = 0 then quoM p f g else []
def divU (p : Int) (f g : List Int) : List Int := if divC p f g = 0 then remM p f g else []
theorem trimL_le (xs : List Int) : (trimL xs).length ≤ xs.length := by rw [trimL_len]; exact trimN_le _ _
theorem quoM_len (p : Int) (f g : List Int) : (quoM p f g).length ≤ f.length + 1 := by
  unfold quoM
  split
  · simp
  · refine Nat.le_trans (trimL_le _) ?_
    rw [tab_len]; omega
theorem remM_len (p : Int) (f g : List Int) : (remM p f g).length ≤ f.length := by
  unfold remM
  split
  · exact Nat.le_refl _
  · refine Nat.le_trans (trimL_le _) ?_
    rw [tab_len]
    exact Nat.le_refl _
theorem poly_last {p : Int} {f : List Int} {n : Nat} (h : polyB p f = true) (hl : f.length = n) (hn : 0 < n) : f.getD (n - 1) 0 ≠ 0 := by
  rcases (polyB_rng h).2.2 with h | h
  · subst h; simp at hl; omega
  · rwa [hl] at h
end Go.Proofs.Ytpoabedlcljibaa

/- The law 'FnExactDiscriminantOf' returns true for every input and leaves its arguments as they were. Conditions: none. -/
import Derived.Test.YtnojmghmkoojfaaRows
import Derived.WalkKit
import Derived.ProofKit
import Derived.OpenShut
import Derived.ShutString
import Derived.ChangeOld
import Derived.Below
import Derived.Test.YtnojmghmkoojfaaYRs34
namespace Go.Proofs.Ytnojmghmkoojfaa.fnExactDiscriminantOf
open Go.ChangeShapes Go.WideShapes Go.ChangeAt Go.RowKit
open Go.ChangeMaps (open_string shut_string)
set_option linter.unusedVariables false
set_option linter.unusedSimpArgs false

theorem own : ownKnob Try.prog.godebug = none := by kernel_rfl
theorem laidOut : laidOutB Try.prog = true := by kernel_rfl

/-- WHAT THE WALK IS TOLD OF A SLICE OF INTEGERS THAT CAME IN: it is nil; or it leads to a row of 'cap' cells, the numbers 'zs' (the first 'len' are its elements, the rest its spare room), each fitting its kind. -/
def IsRow (k : IntKind) (w : World) (a : Option Addr) (len cap : Nat) (zs : List Int) : Prop :=
  (a = none ∧ len = 0 ∧ cap = 0 ∧ zs = []) ∨
  ∃ x, a = some x ∧ len ≤ cap ∧ cap ≤ maxLen ∧ zs.length = cap ∧ (∀ i, i < zs.length → w.cell? (x.add i) = some (.int k (zs.getD i 0))) ∧ ∀ n ∈ zs, (Lit.int k n).wf = true

/-! ### STEP 1: THE WALK: the Go text returns true, AND WRITES NOTHING THAT WAS THERE: 'Below w.heap.size w w'' (Derived/Below.lean: '.refl', '.alloc', '.drew', '.setCell' at a new block, '.trans'). Open each 'IsRow' by 'rcases' AHEAD of 'go_enter'; part every test ahead of the walk. -/
set_option maxRecDepth 100000 in
set_option maxHeartbeats 3000000 in
theorem walk (a0 : Int) (a1 : Option Addr) (len1 cap1 : Nat) (z1 : List Int) (w : World) (w0 : (Lit.int .i64 a0).wf = true) (w1 : IsRow .i64 w a1 len1 cap1 z1) :
    Calls Try.prog 11 #[.int .i64 a0, .slice a1 len1 cap1] w fun e w' => e = .returned (.bool true) ∧ Below w.heap.size w w' := by
  have s1 := sl_of_row w1
  have rs1 := row_len w1
  clear w1
  have b0 := Below.refl w.heap.size w
  by_cases L1 : (1048576 : Int) < (len1 : Int)
  · go_enter Try.func11, Try.ntmps11
    go_wp2
    go_ret
    exact ⟨rfl, b0⟩
  have B0 := b0
  have sz0 := Nat.le_refl w.heap.size
  go_enter Try.func11, Try.ntmps11
  go_wp2_with fail
  refine (toI _ _ _ _ _ (s1.below b0) (by omega)).mono ?_
  rintro e u1 ⟨x1, rfl, o1, t1⟩
  have B1 := bnext b0 t1
  have sz1 : w.heap.size + 0 ≤ u1.heap.size := by have := t1.size; (try simp at this); omega
  replace o1 := OZ.of o1 s1.len.symm
  clear t1
  go_wp2_with fail
  refine (specDiscriminantOf _ _ _ _ _ _ (OZ.sl o1) (by omega)).mono ?_
  rintro e u2 ⟨rfl, t2⟩
  have B2 := bnext B1 t2
  have sz2 := t2.size
  replace o1 := o1.below t2
  clear t2
  clear o1
  go_wp2_with fail
  refine (toI _ _ _ _ _ (s1.below B2) (by omega)).mono ?_
  rintro e u3 ⟨x3, rfl, o3, t3⟩
  have B3 := bnext B2 t3
  have sz3 := t3.size
  replace o3 := OZ.of o3 s1.len.symm
  clear t3
  go_wp2_with fail
  refine (implDiscriminantOf _ _ _ _ _ _ (OZ.sl o3) (by omega)).mono ?_
  rintro e u4 ⟨rfl, t4⟩
  have B4 := bnext B3 t4
  have sz4 := t4.size
  replace o3 := o3.below t4
  clear t4
  go_wp2_with fail
  refine (toI _ _ _ _ _ (s1.below B4) (by omega)).mono ?_
  rintro e u5 ⟨x5, rfl, o5, t5⟩
  have B5 := bnext B4 t5
  have sz5 := t5.size
  replace o3 := o3.below t5
  replace o5 := OZ.of o5 s1.len.symm
  clear t5
  go_wp2_with fail
  refine (eqI _ _ _ _ _ _ _ (OZ.sl o3) (OZ.sl o5) (by omega)).mono ?_
  rintro e u6 ⟨rfl, t6⟩
  have B6 := bnext B5 t6
  have sz6 := t6.size
  replace o3 := o3.below t6
  replace o5 := o5.below t6
  clear t6
  clear o5
  go_wp2
  go_ret
  exact ⟨rfl, B6⟩

/-! ### THE ROW's STEP: WRITTEN OUT: LEAVE IT -/
set_option maxRecDepth 100000 in
theorem lifted (os : Os) (started : os.Started) (H : Type) (enc : TypeId × Value → H) :
    ReturnsInHanded {} Try.checked os 11 .any (Rows.fnExactDiscriminantOfSpec.pre6 enc Try.prog Try.f11 Rows.fnExactDiscriminantOfRow.domain false) (Rows.fnExactDiscriminantOfSpec.post enc Try.prog Try.f11 false true false false) := by
  refine returnsInHanded_of_change (C := Try.checked) own started (by kernel_rfl) Try.func11
    (ChangeSpec.witness6 (enc := enc) (C := Try.checked) false ⟨#[], #[.int .i64 0, .slice none 0 0], []⟩ 8 (by kernel_rfl) (by kernel_rfl) (by kernel_rfl) (by kernel_rfl)) ?_
  intro W base args ds gs before hval0 hW hcnd _
  have hval : ∀ (j : Nat) t v, Try.f11.params[j]? = some t → args[j]? = some v → Value.okWide Try.prog W .any base t v := hval0
  have hW' := hW
  obtain ⟨p, q, hA0, hV, rfl, hfz, hnd⟩ := hW
  have hA : DataW.TrodAll enc Try.prog W 0 (fun _ => true) true Try.f11.params.toList args.toList ds p := hA0
  rw [Try.params11] at hA hval
  obtain ⟨v0, vs0, d0, ds0, p0, q0, hargs, rfl, rfl, h0, r0⟩ := trodAll_cons hA
  obtain ⟨v1, vs1, d1, ds1, p1, q1, rfl, rfl, rfl, h1, r1⟩ := trodAll_cons r0
  obtain ⟨rfl, rfl, rfl⟩ := trodAll_nil r1
  obtain rfl : args = #[v0, v1] := by cases args; simp_all
  obtain ⟨rfl, rfl⟩ := trodVars_none hV
  obtain ⟨a0, rfl, rfl, rfl, w0⟩ := open_int Try.underlying2 (hval 0 2 v0 rfl rfl) h0
  obtain ⟨a1, len1, cap1, rfl⟩ := okWide_slice Try.underlying22 (hval 1 22 v1 rfl rfl)
  have k1 := h1
  have lt1 : ∀ x ∈ p1, x.block < W.heap.size := by obtain ⟨m, hm⟩ := k1; exact DataW.trod_lt m _ _ _ hm
  obtain ⟨z1, w1⟩ : ∃ zs, IsRow .i64 W a1 len1 cap1 zs := by
    obtain ⟨fuel, hf⟩ := h1
    rcases open_ints Try.underlying22 Try.underlying2 (by kernel_rfl) hf with ⟨hcs, _⟩ | ⟨x, l, c, zs, hcs, _, hl, hm, hz, _, hcell, hwz⟩
    · simp [Value.cells] at hcs
      obtain ⟨rfl, rfl, rfl⟩ := hcs
      exact ⟨[], .inl ⟨rfl, rfl, rfl, rfl⟩⟩
    · simp [Value.cells] at hcs
      obtain ⟨rfl, rfl, rfl⟩ := hcs
      exact ⟨zs, .inr ⟨_, rfl, hl, hm, by simpa using hz, hcell, hwz⟩⟩
  clear hA0 hval0
  refine (walk a0 a1 len1 cap1 z1 W w0 w1).mono fun e W' ⟨he, bel⟩ => ?_
  subst he
  exact ⟨_, rfl, _, _, _, [], _, [], hW', trodAll_mk1 (shut_bool Try.underlying4 _), (trodAll_cons_mk (shut_int Try.underlying2 w0) (trodAll_cons_mk (Below.trod laidOut (by kernel_rfl) (of_decide_eq_true (by kernel_rfl)) k1 bel lt1) trodAll_mk0)), rfl, bel.frame _, fun h => by cases h⟩

theorem over : Rows.fnExactDiscriminantOfRow.holds Try.pinned (OpenSpec.ofChange Rows.fnExactDiscriminantOfSpec) :=
  OpenClaim.holds_of_wide 11 Try.f11 rfl rfl rfl rfl rfl rfl rfl ⟨rfl, rfl, rfl, rfl, rfl⟩ rfl rfl rfl rfl rfl (by kernel_rfl) Try.func11 (by kernel_rfl)
    (of_decide_eq_true (by kernel_rfl)) (by unfold Func.isWrapper; first | (rw [if_pos (by decide +kernel)]; kernel_rfl) | (rw [if_neg (by decide +kernel)]; exact ⟨rfl, rfl⟩))
    (fun os started H enc _ => lifted os started H enc)

/-- ████ THE STATEMENT ████ -/
theorem proved : Rows.FnExactDiscriminantOfSaid := over
#print axioms proved
end Go.Proofs.Ytnojmghmkoojfaa.fnExactDiscriminantOf

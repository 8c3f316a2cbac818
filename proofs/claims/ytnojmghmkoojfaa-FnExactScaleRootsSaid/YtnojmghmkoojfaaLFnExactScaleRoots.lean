/- The law 'FnExactScaleRoots' returns true for every input and leaves its arguments as they were. Conditions: none. -/
import Derived.Test.YtnojmghmkoojfaaRows
import Derived.WalkKit
import Derived.ProofKit
import Derived.OpenShut
import Derived.ShutString
import Derived.ChangeOld
import Derived.Below
import Derived.Test.YtnojmghmkoojfaaQd
namespace Go.Proofs.Ytnojmghmkoojfaa.fnExactScaleRoots
open Go.ChangeShapes Go.WideShapes Go.ChangeAt Go.RowKit
open Go.ChangeMaps (open_string shut_string)
set_option linter.unusedVariables false
set_option linter.unusedSimpArgs false

theorem own : ownKnob Try.prog.godebug = none := by kernel_rfl
theorem laidOut : laidOutB Try.prog = true := by kernel_rfl

/-- WHAT THE WALK IS TOLD OF A SLICE OF INTEGERS THAT CAME IN: it is nil; or it leads to a row of 'cap' cells, the numbers 'zs' (the first 'len' are its elements, the rest its spare room), each fitting its kind. -/
def IsRow (k : IntKind) (w : World) (a : Option Addr) (len cap : Nat) (zs : List Int) : Prop :=
  (a = none ∧ len = 0 ∧ cap = 0 ∧ zs = []) ∨
  ∃ x, a = some x ∧ len ≤ cap ∧ cap ≤ maxLen ∧ zs.length = cap ∧ (∀ i, i < zs.length → w.cell? (x.add i) = some (.int k (zs.getD i 0))) ∧ ∀ n ∈ zs, (Lit.int k n).wf = true

/-! ### STEP 1: THE WALK: the Go text returns true, AND WRITES NOTHING THAT WAS THERE: 'Below w.heap.size w w'' (Derived/Below.lean: '.refl', '.alloc', '.drew', '.setCell' at a new block, '.trans'). Open each 'IsRow' by 'rcases' AHEAD of 'go_enter'; part every test ahead of the walk. -/
set_option maxRecDepth 100000 in
set_option maxHeartbeats 3000000 in
theorem walk (a0 : Int) (a1 : Option Addr) (len1 cap1 : Nat) (z1 : List Int) (a2 : Int) (w : World) (w0 : (Lit.int .i64 a0).wf = true) (w1 : IsRow .i64 w a1 len1 cap1 z1) (w2 : (Lit.int .i64 a2).wf = true) :
    Calls Try.prog 5 #[.int .i64 a0, .slice a1 len1 cap1, .int .i64 a2] w fun e w' => e = .returned (.bool true) ∧ Below w.heap.size w w' := by
  have s1 := sl_of_row w1
  clear w1
  by_cases L1 : (1048576 : Int) < (len1 : Int)
  · go_enter Try.func5, Try.ntmps5
    go_wp2
    go_ret
    exact ⟨rfl, Below.refl _ _⟩
  have B0 := Below.refl w.heap.size w
  have z0 := Nat.le_refl w.heap.size
  go_enter Try.func5, Try.ntmps5
  go_wp2_with fail
  refine (toI _ _ _ _ _ (s1.below B0) (by omega)).mono ?_
  rintro e u1 ⟨x1, rfl, o1, t1⟩
  have B1 := bnext B0 t1
  have z1 := t1.size
  replace o1 := OZ.of o1 s1.len.symm
  clear t1
  go_wp2_with fail
  refine (specScaleRoots _ _ _ _ _ _ _ (OZ.sl o1) (by omega)).mono ?_
  rintro e u2 ⟨a2, c2, rfl, o2, l2, t2⟩
  have B2 := bnext B1 t2
  have z2 := t2.size
  replace o1 := o1.below t2
  clear t2
  clear o1
  go_wp2_with fail
  refine (toI _ _ _ _ _ (s1.below B2) (by omega)).mono ?_
  rintro e u3 ⟨x3, rfl, o3, t3⟩
  have B3 := bnext B2 t3
  have z3 := t3.size
  replace o2 := o2.below t3
  replace o3 := OZ.of o3 s1.len.symm
  clear t3
  go_wp2_with fail
  refine (implScaleRoots _ _ _ _ _ _ _ (OZ.sl o3) (by omega)).mono ?_
  rintro e u4 ⟨a4, c4, rfl, o4, l4, t4⟩
  have B4 := bnext B3 t4
  have z4 := t4.size
  replace o2 := o2.below t4
  replace o3 := o3.below t4
  clear t4
  go_wp2_with fail
  refine (eqI _ _ _ _ _ _ _ (OZ.sl o4) (OZ.sl o2) (by omega)).mono ?_
  rintro e u5 ⟨rfl, t5⟩
  have B5 := bnext B4 t5
  have z5 := t5.size
  replace o2 := o2.below t5
  replace o3 := o3.below t5
  replace o4 := o4.below t5
  clear t5
  go_wp2_with fail
  refine (toI _ _ _ _ _ (s1.below B5) (by omega)).mono ?_
  rintro e u6 ⟨x5, rfl, o5, t6⟩
  have B6 := bnext B5 t6
  have z6 := t6.size
  replace o2 := o2.below t6
  replace o3 := o3.below t6
  replace o4 := o4.below t6
  replace o5 := OZ.of o5 s1.len.symm
  clear t6
  go_wp2_with fail
  refine (eqI _ _ _ _ _ _ _ (OZ.sl o3) (OZ.sl o5) (by omega)).mono ?_
  rintro e u7 ⟨rfl, t7⟩
  have B7 := bnext B6 t7
  have z7 := t7.size
  replace o2 := o2.below t7
  replace o3 := o3.below t7
  replace o4 := o4.below t7
  replace o5 := o5.below t7
  clear t7
  clear o5
  go_wp2_with fail
  refine (markZ _ _ _ _ _ _ _ _ o3 (by omega) (by omega) (by omega)).mono ?_
  rintro e u8 ⟨rfl, no3, row, gr, hr⟩
  clear o3
  have o3 := no3
  clear no3
  have B8 := below_mark B7 gr hr (by omega) (by omega)
  have z8 := gr.size
  replace o2 := o2.keep gr hr (by omega)
  replace o4 := o4.keep gr hr (by omega)
  clear gr hr
  clear o3
  go_wp2_with fail
  refine (eqI _ _ _ _ _ _ _ (OZ.sl o4) (OZ.sl o2) (by omega)).mono ?_
  rintro e u9 ⟨rfl, t9⟩
  have B9 := bnext B8 t9
  have z9 := t9.size
  replace o2 := o2.below t9
  replace o4 := o4.below t9
  clear t9
  go_wp2_with fail
  refine (markZ _ _ _ _ _ _ _ _ o4 (by omega) (by omega) (by omega)).mono ?_
  rintro e u10 ⟨rfl, no4, row, gr, hr⟩
  clear o4
  have o4 := no4
  clear no4
  have B10 := below_mark B9 gr hr (by omega) (by omega)
  have z10 := gr.size
  replace o2 := o2.keep gr hr (by omega)
  clear gr hr
  go_wp2_with fail
  refine (heldI _ _ _ _ _ (OZ.sl o4) (by omega) (by omega) (by omega)).mono ?_
  rintro e w' ⟨rfl, rfl⟩
  go_wp2_with fail
  refine (toI _ _ _ _ _ (s1.below B10) (by omega)).mono ?_
  rintro e u11 ⟨x6, rfl, o6, t11⟩
  have B11 := bnext B10 t11
  have z11 := t11.size
  replace o2 := o2.below t11
  replace o4 := o4.below t11
  replace o6 := OZ.of o6 s1.len.symm
  clear t11
  go_wp2_with fail
  refine (implScaleRoots _ _ _ _ _ _ _ (OZ.sl o6) (by omega)).mono ?_
  rintro e u12 ⟨a7, c7, rfl, o7, l7, t12⟩
  have B12 := bnext B11 t12
  have z12 := t12.size
  replace o2 := o2.below t12
  replace o4 := o4.below t12
  replace o6 := o6.below t12
  clear t12
  clear o6
  go_wp2_with fail
  refine (eqI _ _ _ _ _ _ _ (OZ.sl o7) (OZ.sl o2) (by omega)).mono ?_
  rintro e u13 ⟨rfl, t13⟩
  have B13 := bnext B12 t13
  have z13 := t13.size
  replace o2 := o2.below t13
  replace o4 := o4.below t13
  replace o7 := o7.below t13
  clear t13
  clear o7
  go_wp2_with fail
  refine (heldI _ _ _ _ _ (OZ.sl o4) (by omega) (by omega) (by omega)).mono ?_
  rintro e w' ⟨rfl, rfl⟩
  go_wp2
  go_ret
  exact ⟨rfl, B13⟩

/-! ### THE ROW's STEP: WRITTEN OUT: LEAVE IT -/
set_option maxRecDepth 100000 in
theorem lifted (os : Os) (started : os.Started) (H : Type) (enc : TypeId × Value → H) :
    ReturnsInHanded {} Try.checked os 5 .any (Rows.fnExactScaleRootsSpec.pre6 enc Try.prog Try.f5 Rows.fnExactScaleRootsRow.domain false) (Rows.fnExactScaleRootsSpec.post enc Try.prog Try.f5 false true false false) := by
  refine returnsInHanded_of_change (C := Try.checked) own started (by kernel_rfl) Try.func5
    (ChangeSpec.witness6 (enc := enc) (C := Try.checked) false ⟨#[], #[.int .i64 0, .slice none 0 0, .int .i64 0], []⟩ 8 (by kernel_rfl) (by kernel_rfl) (by kernel_rfl) (by kernel_rfl)) ?_
  intro W base args ds gs before hval0 hW hcnd _
  have hval : ∀ (j : Nat) t v, Try.f5.params[j]? = some t → args[j]? = some v → Value.okWide Try.prog W .any base t v := hval0
  have hW' := hW
  obtain ⟨p, q, hA0, hV, rfl, hfz, hnd⟩ := hW
  have hA : DataW.TrodAll enc Try.prog W 0 (fun _ => true) true Try.f5.params.toList args.toList ds p := hA0
  rw [Try.params5] at hA hval
  obtain ⟨v0, vs0, d0, ds0, p0, q0, hargs, rfl, rfl, h0, r0⟩ := trodAll_cons hA
  obtain ⟨v1, vs1, d1, ds1, p1, q1, rfl, rfl, rfl, h1, r1⟩ := trodAll_cons r0
  obtain ⟨v2, vs2, d2, ds2, p2, q2, rfl, rfl, rfl, h2, r2⟩ := trodAll_cons r1
  obtain ⟨rfl, rfl, rfl⟩ := trodAll_nil r2
  obtain rfl : args = #[v0, v1, v2] := by cases args; simp_all
  obtain ⟨rfl, rfl⟩ := trodVars_none hV
  obtain ⟨a0, rfl, rfl, rfl, w0⟩ := open_int Try.underlying2 (hval 0 2 v0 rfl rfl) h0
  obtain ⟨a1, len1, cap1, rfl⟩ := okWide_slice Try.underlying22 (hval 1 22 v1 rfl rfl)
  have k1 := h1
  have lt1 : ∀ x ∈ p1, x.block < W.heap.size := by obtain ⟨m, hm⟩ := k1; exact DataW.trod_lt m _ _ _ hm
  obtain ⟨z1, w1⟩ : ∃ zs, IsRow .i64 W a1 len1 cap1 zs := by
    obtain ⟨fuel, hf⟩ := h1
    rcases open_ints Try.underlying22 Try.underlying2 (by kernel_rfl) hf with ⟨hcs, _⟩ | ⟨x, l, c, zs, hcs, _, hl, hm, hz, _, hcell, hwz⟩
    · simp [Value.cells] at hcs
      obtain ⟨rfl, rfl, rfl⟩ := hcs
      exact ⟨[], .inl ⟨rfl, rfl, rfl, rfl⟩⟩
    · simp [Value.cells] at hcs
      obtain ⟨rfl, rfl, rfl⟩ := hcs
      exact ⟨zs, .inr ⟨_, rfl, hl, hm, by simpa using hz, hcell, hwz⟩⟩
  obtain ⟨a2, rfl, rfl, rfl, w2⟩ := open_int Try.underlying2 (hval 2 2 v2 rfl rfl) h2
  clear hA0 hval0
  refine (walk a0 a1 len1 cap1 z1 a2 W w0 w1 w2).mono fun e W' ⟨he, bel⟩ => ?_
  subst he
  exact ⟨_, rfl, _, _, _, [], _, [], hW', trodAll_mk1 (shut_bool Try.underlying4 _), (trodAll_cons_mk (shut_int Try.underlying2 w0) (trodAll_cons_mk (Below.trod laidOut (by kernel_rfl) (of_decide_eq_true (by kernel_rfl)) k1 bel lt1) (trodAll_cons_mk (shut_int Try.underlying2 w2) trodAll_mk0))), rfl, bel.frame _, fun h => by cases h⟩

theorem over : Rows.fnExactScaleRootsRow.holds Try.pinned (OpenSpec.ofChange Rows.fnExactScaleRootsSpec) :=
  OpenClaim.holds_of_wide 5 Try.f5 rfl rfl rfl rfl rfl rfl rfl ⟨rfl, rfl, rfl, rfl, rfl⟩ rfl rfl rfl rfl rfl (by kernel_rfl) Try.func5 (by kernel_rfl)
    (of_decide_eq_true (by kernel_rfl)) (by unfold Func.isWrapper; first | (rw [if_pos (by decide +kernel)]; kernel_rfl) | (rw [if_neg (by decide +kernel)]; exact ⟨rfl, rfl⟩))
    (fun os started H enc _ => lifted os started H enc)

/-- ████ THE STATEMENT ████ -/
theorem proved : Rows.FnExactScaleRootsSaid := over
#print axioms proved
end Go.Proofs.Ytnojmghmkoojfaa.fnExactScaleRoots

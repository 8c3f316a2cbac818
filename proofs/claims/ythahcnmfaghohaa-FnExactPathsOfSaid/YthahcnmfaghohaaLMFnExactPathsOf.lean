/- The law 'FnExactPathsOf' returns true for every input and leaves its arguments as they were. Conditions: none. -/
import Derived.Test.YthahcnmfaghohaaRows
import Derived.WalkKit
import Derived.ProofKit
import Derived.OpenShut
import Derived.ShutString
import Derived.ChangeOld
import Derived.Below
import Derived.Test.YthahcnmfaghohaaYTC34
namespace Go.Proofs.Ythahcnmfaghohaa.fnExactPathsOf
open Go.ChangeShapes Go.WideShapes Go.ChangeAt Go.RowKit
open Go.ChangeMaps (open_string shut_string)
set_option linter.unusedVariables false      -- a walk need not use every 'w<i>' (that an integer argument fits its kind)

theorem own : ownKnob Try.prog.godebug = none := by kernel_rfl

/-! ### STEP 1: THE WALK: the Go text returns true. 'Grown w w'': the world has at most new blocks (Derived/RowKit3.lean). Part the cases AHEAD of 'go_enter' where a test parts the walk; take each callee by a contract of your own. -/
set_option maxRecDepth 100000 in
set_option maxHeartbeats 3000000 in
theorem walk (a0 : Int) (a1 : Int) (a2 : Int) (a3 : Int) (w0 : (Lit.int .i64 a0).wf = true) (w1 : (Lit.int .i64 a1).wf = true) (w2 : (Lit.int .i64 a2).wf = true) (w3 : (Lit.int .i64 a3).wf = true) (w : World) :
    Calls Try.prog 6 #[.int .i64 a0, .int .i64 a1, .int .i64 a2, .int .i64 a3] w fun e w' => e = .returned (.bool true) ∧ Below w.heap.size w w' := by
  go_enter Try.func6, Try.ntmps6
  go_wp2_with fail
  refine (specPathsOf _ _ _ _ _).mono ?_
  rintro e u1 ⟨p1, d1, rfl, o1, l1, t1⟩
  go_wp2_with fail
  refine (implPathsOf _ _ _ _ _).mono ?_
  rintro e u2 ⟨p2, d2, rfl, o2, l2, t2⟩
  obtain ⟨v, hv⟩ : ∃ v, poV a0 a1 a2 a3 = v := ⟨_, rfl⟩
  have HV := hide hv
  rw [hv] at o1 o2 l1 ⊢
  clear l2
  have B2 := bnext t1 t2
  have r1 := hide o1.rd
  have h10 := t2
  go_wp2_with fail
  refine (eqT p2 p1 d2 d1 v _ o2.rd (r1.out.below h10) (by omega)).mono ?_
  rintro e u3 ⟨rfl, t3⟩
  have B3 := bnext B2 t3
  have h13 := bnext h10 t3
  have o3 := o2.below t3
  rw [tsV_of] at o3
  have z1 := t1.size
  have z3 := h13.size
  have HO3 := hide o3
  have H13 := hide h13
  have HB3 := hide B3
  clear o2 o3 t1 t2 t3 h10 h13 B2 B3 hv o1
  go_wp2_with fail
  refine (markT u1.heap.size p2 v.length d2 _ 1 u3 HO3.out (by omega) (by omega) (by omega) z3).mono ?_
  rintro e u4 ⟨rfl, o4, t4⟩
  have H14 := hide (H13.out.trans t4)
  have HB4 := hide (HB3.out.trans (t4.mono z1))
  have HO4 := hide o4
  have q0 : ¬ (1 + (v.length : Int)) < 0 := by omega
  clear o4 t4
  go_wp2_with fail
  refine (heldT u1.heap.size p2 v.length d2 1 u4 HO4.out (by omega) (by omega) (by omega)).mono ?_
  rintro e u5 ⟨rfl, t5⟩
  have H15 := hide (bnext H14.out t5)
  have HB5 := hide (bnext HB4.out t5)
  have HO5 := hide (HO4.out.below t5)
  clear t5
  go_wp2_with fail
  refine (implPathsOf _ _ _ _ _).mono ?_
  rintro e u6 ⟨p6, d6, rfl, o6, l6, t6⟩
  rw [HV.out] at o6 ⊢
  have H16 := hide (bnext H15.out t6)
  have HB6 := hide (bnext HB5.out t6)
  have HO6 := hide (HO5.out.below t6)
  clear t6 l6
  go_wp2_with fail
  refine (eqT p6 p1 d6 d1 v _ o6.rd (r1.out.below H16.out) (by omega)).mono ?_
  rintro e u7 ⟨rfl, t7⟩
  have HB7 := hide (bnext HB6.out t7)
  have HO7 := hide (HO6.out.below t7)
  clear t7 o6
  go_wp2_with fail
  refine (heldT u1.heap.size p2 v.length d2 1 u7 HO7.out (by omega) (by omega) (by omega)).mono ?_
  rintro e u8 ⟨rfl, t8⟩
  have HB8 := bnext HB7.out t8
  clear t8
  go_wp2
  go_ret
  exact ⟨rfl, HB8⟩

/-! ### THE ROW's STEP: WRITTEN OUT: LEAVE IT -/
set_option maxRecDepth 100000 in
theorem lifted (os : Os) (started : os.Started) (H : Type) (enc : TypeId × Value → H) :
    ReturnsInHanded {} Try.checked os 6 .any (Rows.fnExactPathsOfSpec.pre6 enc Try.prog Try.f6 Rows.fnExactPathsOfRow.domain false) (Rows.fnExactPathsOfSpec.post enc Try.prog Try.f6 false true false false) := by
  refine returnsInHanded_of_change (C := Try.checked) own started (by kernel_rfl) Try.func6
    (ChangeSpec.witness6 (enc := enc) (C := Try.checked) false ⟨#[], #[.int .i64 0, .int .i64 0, .int .i64 0, .int .i64 0], []⟩ 8 (by kernel_rfl) (by kernel_rfl) (by kernel_rfl) (by kernel_rfl)) ?_
  intro W base args ds gs before hval0 hW hcnd _
  have hval : ∀ (j : Nat) t v, Try.f6.params[j]? = some t → args[j]? = some v → Value.okWide Try.prog W .any base t v := hval0
  have hW' := hW
  obtain ⟨p, q, hA0, hV, rfl, hfz, hnd⟩ := hW
  have hA : DataW.TrodAll enc Try.prog W 0 (fun _ => true) true Try.f6.params.toList args.toList ds p := hA0
  rw [Try.params6] at hA hval
  obtain ⟨v0, vs0, d0, ds0, p0, q0, hargs, rfl, rfl, h0, r0⟩ := trodAll_cons hA
  obtain ⟨v1, vs1, d1, ds1, p1, q1, rfl, rfl, rfl, h1, r1⟩ := trodAll_cons r0
  obtain ⟨v2, vs2, d2, ds2, p2, q2, rfl, rfl, rfl, h2, r2⟩ := trodAll_cons r1
  obtain ⟨v3, vs3, d3, ds3, p3, q3, rfl, rfl, rfl, h3, r3⟩ := trodAll_cons r2
  obtain ⟨rfl, rfl, rfl⟩ := trodAll_nil r3
  obtain rfl : args = #[v0, v1, v2, v3] := by cases args; simp_all
  obtain ⟨rfl, rfl⟩ := trodVars_none hV
  obtain ⟨a0, rfl, rfl, rfl, w0⟩ := open_int Try.underlying2 (hval 0 2 v0 rfl rfl) h0
  obtain ⟨a1, rfl, rfl, rfl, w1⟩ := open_int Try.underlying2 (hval 1 2 v1 rfl rfl) h1
  obtain ⟨a2, rfl, rfl, rfl, w2⟩ := open_int Try.underlying2 (hval 2 2 v2 rfl rfl) h2
  obtain ⟨a3, rfl, rfl, rfl, w3⟩ := open_int Try.underlying2 (hval 3 2 v3 rfl rfl) h3
  clear hA0 hval0
  refine (walk a0 a1 a2 a3 w0 w1 w2 w3 W).mono fun e W' ⟨he, bel⟩ => ?_
  subst he
  exact ⟨_, rfl, _, _, _, [], _, [], hW', trodAll_mk1 (shut_bool Try.underlying4 _), (trodAll_cons_mk (shut_int Try.underlying2 w0) (trodAll_cons_mk (shut_int Try.underlying2 w1) (trodAll_cons_mk (shut_int Try.underlying2 w2) (trodAll_cons_mk (shut_int Try.underlying2 w3) trodAll_mk0)))), rfl, bel.frame _, fun h => by cases h⟩

theorem over : Rows.fnExactPathsOfRow.holds Try.pinned (OpenSpec.ofChange Rows.fnExactPathsOfSpec) :=
  OpenClaim.holds_of_wide 6 Try.f6 rfl rfl rfl rfl rfl rfl rfl ⟨rfl, rfl, rfl, rfl, rfl⟩ rfl rfl rfl rfl rfl (by kernel_rfl) Try.func6 (by kernel_rfl)
    (of_decide_eq_true (by kernel_rfl)) (by unfold Func.isWrapper; first | (rw [if_pos (by decide +kernel)]; kernel_rfl) | (rw [if_neg (by decide +kernel)]; exact ⟨rfl, rfl⟩))
    (fun os started H enc _ => lifted os started H enc)

/-- ████ THE STATEMENT ████ -/
theorem proved : Rows.FnExactPathsOfSaid :=
  over
#print axioms proved
end Go.Proofs.Ythahcnmfaghohaa.fnExactPathsOf

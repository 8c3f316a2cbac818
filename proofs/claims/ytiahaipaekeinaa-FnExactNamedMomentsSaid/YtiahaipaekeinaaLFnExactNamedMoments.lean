/- The law 'FnExactNamedMoments' returns true for every input and leaves its arguments as they were. Conditions: none. -/
import Derived.Test.YtiahaipaekeinaaRows
import Derived.WalkKit
import Derived.ProofKit
import Derived.OpenShut
import Derived.ShutString
import Derived.ChangeOld
import Derived.Below
import Derived.Test.YtiahaipaekeinaaNh
namespace Go.Proofs.Ytiahaipaekeinaa.fnExactNamedMoments
open Go.ChangeShapes Go.WideShapes Go.ChangeAt Go.RowKit
open Go.ChangeMaps (open_string shut_string)
set_option linter.unusedVariables false      -- a walk need not use every 'w<i>' (that an integer argument fits its kind)

theorem own : ownKnob Try.prog.godebug = none := by kernel_rfl

/-! ### STEP 1: THE WALK: the Go text returns true. 'Grown w w'': the world has at most new blocks (Derived/RowKit3.lean). Part the cases AHEAD of 'go_enter' where a test parts the walk; take each callee by a contract of your own. -/
set_option maxRecDepth 100000 in
set_option maxHeartbeats 3000000 in
theorem walk (a0 : ByteArray) (a1 : Int) (a2 : Int) (w0 : a0.size ≤ maxLen) (w1 : (Lit.int .i64 a1).wf = true) (w2 : (Lit.int .i64 a2).wf = true) (w : World) :
    Calls Try.prog 3 #[.string a0, .int .i64 a1, .int .i64 a2] w fun e w' => e = .returned (.bool true) ∧ Below w.heap.size w w' := by
  have b0 := Below.refl w.heap.size w
  by_cases LS : (1048576 : Int) < (a0.size : Int)
  · go_enter Try.func3, Try.ntmps3
    go_wp2
    go_ret
    exact ⟨rfl, b0⟩
  have hsz : a0.size ≤ 1048576 := by omega
  have B0 := b0
  have sz0 := Nat.le_refl w.heap.size
  go_enter Try.func3, Try.ntmps3
  go_wp2_with fail
  refine (specNamedMoments a0 _ _ _ hsz).mono ?_
  rintro e u1 ⟨ra1, rc1, rfl, o1, l1, t1⟩
  have B1 := bnext b0 t1
  have sz1 : w.heap.size + 0 ≤ u1.heap.size := by have := t1.size; (try simp at this); omega
  clear t1
  have pa1 := bl1 u1 (.cells #[.int .i64 (nmP a0 a1 a2), .slice ra1 (nmV a0 a1 a2).length rc1] 24)
  replace o1 := o1.below pa1
  go_wp2_with fail
  refine (implNamedMoments a0 _ _ _ hsz).mono ?_
  rintro e u2 ⟨ra2, rc2, rfl, o2, l2, t2⟩
  have B2 := bnext (bnext B1 pa1) t2
  have sz2 : u1.heap.size + 1 ≤ u2.heap.size := by have := t2.size; simp at this; omega
  have ko1_0 : u2.cell? ⟨u1.heap.size, 0, none⟩ = some (.int .i64 (nmP a0 a1 a2)) := cell_be t2 (by simp [go_sem])
  have ko1_1 : u2.cell? ⟨u1.heap.size, 1, none⟩ = some (.slice ra1 (nmV a0 a1 a2).length rc1) := cell_be t2 (by simp [go_sem])
  replace o1 := o1.below t2
  replace o2 := o2.mono (lo' := u1.heap.size + 1) (by simp) (Nat.le_refl _)
  clear t2
  have pa2 := bl1 u2 (.cells #[.int .i64 (nmP a0 a1 a2), .slice ra2 (nmV a0 a1 a2).length rc2] 24)
  replace o1 := o1.below pa2
  replace o2 := o2.below pa2
  replace ko1_0 := cell_al ko1_0 (.cells #[.int .i64 (nmP a0 a1 a2), .slice ra2 (nmV a0 a1 a2).length rc2] 24)
  replace ko1_1 := cell_al ko1_1 (.cells #[.int .i64 (nmP a0 a1 a2), .slice ra2 (nmV a0 a1 a2).length rc2] 24)
  go_wp2_with fail
  refine (eqM _ _ _ _ _ _ _ _ (OZ.sl o2) (OZ.sl o1) (by omega)).mono ?_
  rintro e u3 ⟨rfl, t3⟩
  have B3 := bnext (bnext B2 pa2) t3
  replace ko1_0 := cell_be t3 ko1_0
  replace ko1_1 := cell_be t3 ko1_1
  have sz3 : u2.heap.size + 1 ≤ u3.heap.size := by have := t3.size; simp at this; omega
  have ko2_0 : u3.cell? ⟨u2.heap.size, 0, none⟩ = some (.int .i64 (nmP a0 a1 a2)) := cell_be t3 (by simp [go_sem])
  have ko2_1 : u3.cell? ⟨u2.heap.size, 1, none⟩ = some (.slice ra2 (nmV a0 a1 a2).length rc2) := cell_be t3 (by simp [go_sem])
  replace o1 := o1.below t3
  replace o2 := o2.below t3
  clear t3
  have B4 := B3
  have sz4 := Nat.le_refl u3.heap.size
  go_wp2_with fail
  refine (markMT _ _ _ _ _ _ _ _ _ o2 (by omega) (by omega) (by omega)).mono ?_
  rintro e u5 ⟨rfl, no2, gt⟩
  clear o2
  have o2 := no2
  clear no2
  have B5 := below_touch B4 gt (by omega) (by omega)
  have sz5 := gt.size
  replace o1 := o1.touch gt (by omega)
  replace ko1_0 := gt.cell ko1_0 (by omega)
  replace ko1_1 := gt.cell ko1_1 (by omega)
  replace ko2_0 := gt.cell ko2_0 (by omega)
  replace ko2_1 := gt.cell ko2_1 (by omega)
  clear gt
  go_wp2_with fail
  refine (heldM _ _ _ _ _ _ (OZ.sl o2) (by omega) (by omega) (by omega)).mono ?_
  rintro e u6 ⟨rfl, t6⟩
  have B6 := bnext B5 t6
  replace ko1_0 := cell_be t6 ko1_0
  replace ko1_1 := cell_be t6 ko1_1
  replace ko2_0 := cell_be t6 ko2_0
  replace ko2_1 := cell_be t6 ko2_1
  have sz6 := t6.size
  replace o1 := o1.below t6
  replace o2 := o2.below t6
  clear t6
  go_wp2_with fail
  refine (implNamedMoments a0 _ _ _ hsz).mono ?_
  rintro e u7 ⟨ra3, rc3, rfl, o3, l3, t7⟩
  have B7 := bnext B6 t7
  replace ko1_0 := cell_be t7 ko1_0
  replace ko1_1 := cell_be t7 ko1_1
  replace ko2_0 := cell_be t7 ko2_0
  replace ko2_1 := cell_be t7 ko2_1
  have sz7 := t7.size
  replace o1 := o1.below t7
  replace o2 := o2.below t7
  clear t7
  have pa7 := bl1 u7 (.cells #[.int .i64 (nmP a0 a1 a2), .slice ra3 (nmV a0 a1 a2).length rc3] 24)
  replace o1 := o1.below pa7
  replace o2 := o2.below pa7
  replace o3 := o3.below pa7
  replace ko1_0 := cell_al ko1_0 (.cells #[.int .i64 (nmP a0 a1 a2), .slice ra3 (nmV a0 a1 a2).length rc3] 24)
  replace ko1_1 := cell_al ko1_1 (.cells #[.int .i64 (nmP a0 a1 a2), .slice ra3 (nmV a0 a1 a2).length rc3] 24)
  replace ko2_0 := cell_al ko2_0 (.cells #[.int .i64 (nmP a0 a1 a2), .slice ra3 (nmV a0 a1 a2).length rc3] 24)
  replace ko2_1 := cell_al ko2_1 (.cells #[.int .i64 (nmP a0 a1 a2), .slice ra3 (nmV a0 a1 a2).length rc3] 24)
  go_wp2_with fail
  refine (eqM _ _ _ _ _ _ _ _ (OZ.sl o3) (OZ.sl o1) (by omega)).mono ?_
  rintro e u8 ⟨rfl, t8⟩
  have B8 := bnext (bnext B7 pa7) t8
  replace ko1_0 := cell_be t8 ko1_0
  replace ko1_1 := cell_be t8 ko1_1
  replace ko2_0 := cell_be t8 ko2_0
  replace ko2_1 := cell_be t8 ko2_1
  have sz8 : u7.heap.size + 1 ≤ u8.heap.size := by have := t8.size; simp at this; omega
  have ko3_0 : u8.cell? ⟨u7.heap.size, 0, none⟩ = some (.int .i64 (nmP a0 a1 a2)) := cell_be t8 (by simp [go_sem])
  have ko3_1 : u8.cell? ⟨u7.heap.size, 1, none⟩ = some (.slice ra3 (nmV a0 a1 a2).length rc3) := cell_be t8 (by simp [go_sem])
  replace o1 := o1.below t8
  replace o2 := o2.below t8
  replace o3 := o3.below t8
  clear t8
  clear o3
  clear ko3_0
  clear ko3_1
  go_wp2_with fail
  refine (heldM _ _ _ _ _ _ (OZ.sl o2) (by omega) (by omega) (by omega)).mono ?_
  rintro e u9 ⟨rfl, t9⟩
  have B9 := bnext B8 t9
  replace ko1_0 := cell_be t9 ko1_0
  replace ko1_1 := cell_be t9 ko1_1
  replace ko2_0 := cell_be t9 ko2_0
  replace ko2_1 := cell_be t9 ko2_1
  have sz9 := t9.size
  replace o1 := o1.below t9
  replace o2 := o2.below t9
  clear t9
  go_wp2
  go_ret
  exact ⟨rfl, B9⟩

/-! ### THE ROW's STEP: WRITTEN OUT: LEAVE IT -/
set_option maxRecDepth 100000 in
theorem lifted (os : Os) (started : os.Started) (H : Type) (enc : TypeId × Value → H) :
    ReturnsInHanded {} Try.checked os 3 .any (Rows.fnExactNamedMomentsSpec.pre6 enc Try.prog Try.f3 Rows.fnExactNamedMomentsRow.domain false) (Rows.fnExactNamedMomentsSpec.post enc Try.prog Try.f3 false true false false) := by
  refine returnsInHanded_of_change (C := Try.checked) own started (by kernel_rfl) Try.func3
    (ChangeSpec.witness6 (enc := enc) (C := Try.checked) false ⟨#[], #[.string ByteArray.empty, .int .i64 0, .int .i64 0], []⟩ 8 (by kernel_rfl) (by kernel_rfl) (by kernel_rfl) (by kernel_rfl)) ?_
  intro W base args ds gs before hval0 hW hcnd _
  have hval : ∀ (j : Nat) t v, Try.f3.params[j]? = some t → args[j]? = some v → Value.okWide Try.prog W .any base t v := hval0
  have hW' := hW
  obtain ⟨p, q, hA0, hV, rfl, hfz, hnd⟩ := hW
  have hA : DataW.TrodAll enc Try.prog W 0 (fun _ => true) true Try.f3.params.toList args.toList ds p := hA0
  rw [Try.params3] at hA hval
  obtain ⟨v0, vs0, d0, ds0, p0, q0, hargs, rfl, rfl, h0, r0⟩ := trodAll_cons hA
  obtain ⟨v1, vs1, d1, ds1, p1, q1, rfl, rfl, rfl, h1, r1⟩ := trodAll_cons r0
  obtain ⟨v2, vs2, d2, ds2, p2, q2, rfl, rfl, rfl, h2, r2⟩ := trodAll_cons r1
  obtain ⟨rfl, rfl, rfl⟩ := trodAll_nil r2
  obtain rfl : args = #[v0, v1, v2] := by cases args; simp_all
  obtain ⟨rfl, rfl⟩ := trodVars_none hV
  obtain ⟨a0, rfl, rfl, rfl, w0⟩ := open_string Try.underlying9 (hval 0 9 v0 rfl rfl) h0
  obtain ⟨a1, rfl, rfl, rfl, w1⟩ := open_int Try.underlying2 (hval 1 2 v1 rfl rfl) h1
  obtain ⟨a2, rfl, rfl, rfl, w2⟩ := open_int Try.underlying2 (hval 2 2 v2 rfl rfl) h2
  clear hA0 hval0
  refine (walk a0 a1 a2 w0 w1 w2 W).mono fun e W' ⟨he, bel⟩ => ?_
  subst he
  exact ⟨_, rfl, _, _, _, [], _, [], hW', trodAll_mk1 (shut_bool Try.underlying4 _), (trodAll_cons_mk (shut_string Try.underlying9 w0) (trodAll_cons_mk (shut_int Try.underlying2 w1) (trodAll_cons_mk (shut_int Try.underlying2 w2) trodAll_mk0))), rfl, bel.frame _, fun h => by cases h⟩

theorem over : Rows.fnExactNamedMomentsRow.holds Try.pinned (OpenSpec.ofChange Rows.fnExactNamedMomentsSpec) :=
  OpenClaim.holds_of_wide 3 Try.f3 rfl rfl rfl rfl rfl rfl rfl ⟨rfl, rfl, rfl, rfl, rfl⟩ rfl rfl rfl rfl rfl (by kernel_rfl) Try.func3 (by kernel_rfl)
    (of_decide_eq_true (by kernel_rfl)) (by unfold Func.isWrapper; first | (rw [if_pos (by decide +kernel)]; kernel_rfl) | (rw [if_neg (by decide +kernel)]; exact ⟨rfl, rfl⟩))
    (fun os started H enc _ => lifted os started H enc)

/-- ████ THE STATEMENT ████ -/
theorem proved : Rows.FnExactNamedMomentsSaid :=
  over
#print axioms proved
end Go.Proofs.Ytiahaipaekeinaa.fnExactNamedMoments

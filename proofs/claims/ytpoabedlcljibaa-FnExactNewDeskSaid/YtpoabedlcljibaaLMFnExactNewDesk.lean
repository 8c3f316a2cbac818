/- The law 'FnExactNewDesk' returns true for every input and leaves its arguments as they were. Conditions: none. -/
import Derived.Test.YtpoabedlcljibaaRows
import Derived.WalkKit
import Derived.ProofKit
import Derived.OpenShut
import Derived.ShutString
import Derived.ChangeOld
import Derived.Below
import Derived.Test.YtpoabedlcljibaaYW138
namespace Go.Proofs.Ytpoabedlcljibaa.fnExactNewDesk
open Go.ChangeShapes Go.WideShapes Go.ChangeAt Go.RowKit
open Go.ChangeMaps (open_string shut_string)
set_option linter.unusedVariables false      -- a walk need not use every 'w<i>' (that an integer argument fits its kind)

theorem own : ownKnob Try.prog.godebug = none := by kernel_rfl

/-! ### STEP 1: THE WALK: the Go text returns true. 'Grown w w'': the world has at most new blocks (Derived/RowKit3.lean). Part the cases AHEAD of 'go_enter' where a test parts the walk; take each callee by a contract of your own. -/
set_option maxRecDepth 100000 in
set_option maxHeartbeats 3000000 in
theorem walk  (w : World) :
    Calls Try.prog 3 #[] w fun e w' => e = .returned (.bool true) ∧ Below w.heap.size w w' := by
  have b0 := Below.refl w.heap.size w
  obtain ⟨n1, n2, n3, n4⟩ := nd_len 101
  go_enter Try.func3, Try.ntmps3
  go_wp2_with fail
  refine (specNewDesk _).mono ?_
  rintro e u1 ⟨a1, c1, b1, d1, i1, j1, f1, g1, rfl, o1, -, t1⟩
  have B1 := bnext b0 t1
  have sz1 := t1.size
  clear t1
  have pa1 := bl1 u1 (.cells #[.int .i64 (ndP 101), .slice a1 (ndM 101).length c1, .int .i64 (ndP 101), .slice b1 (ndA 101).length d1, .slice i1 (ndB 101).length j1, .slice f1 (ndF 101).length g1] 28)
  replace o1 := o1.below pa1
  go_wp2_with fail
  refine (implNewDesk _).mono ?_
  rintro e u2 ⟨a2, c2, b2, d2, i2, j2, f2, g2, rfl, o2, -, t2⟩
  have B2 := bnext (bnext B1 pa1) t2
  replace o1 := o1.below t2
  have sz2 : u1.heap.size + 1 ≤ u2.heap.size := by have := t2.size; simp at this; omega
  have k1_0 : u2.cell? ⟨u1.heap.size, 0, none⟩ = some (.int .i64 (ndP 101)) := cell_be t2 (by simp [go_sem])
  have k1_1 : u2.cell? ⟨u1.heap.size, 1, none⟩ = some (.slice a1 (ndM 101).length c1) := cell_be t2 (by simp [go_sem])
  have k1_2 : u2.cell? ⟨u1.heap.size, 2, none⟩ = some (.int .i64 (ndP 101)) := cell_be t2 (by simp [go_sem])
  have k1_3 : u2.cell? ⟨u1.heap.size, 3, none⟩ = some (.slice b1 (ndA 101).length d1) := cell_be t2 (by simp [go_sem])
  have k1_4 : u2.cell? ⟨u1.heap.size, 4, none⟩ = some (.slice i1 (ndB 101).length j1) := cell_be t2 (by simp [go_sem])
  have k1_5 : u2.cell? ⟨u1.heap.size, 5, none⟩ = some (.slice f1 (ndF 101).length g1) := cell_be t2 (by simp [go_sem])
  clear t2
  replace o2 := o2.mono (lo' := u1.heap.size + 1) (by simp) (Nat.le_refl _)
  have pa2 := bl1 u2 (.cells #[.int .i64 (ndP 101), .slice a2 (ndM 101).length c2, .int .i64 (ndP 101), .slice b2 (ndA 101).length d2, .slice i2 (ndB 101).length j2, .slice f2 (ndF 101).length g2] 28)
  replace o1 := o1.below pa2
  replace o2 := o2.below pa2
  replace k1_0 := cell_al k1_0 (.cells #[.int .i64 (ndP 101), .slice a2 (ndM 101).length c2, .int .i64 (ndP 101), .slice b2 (ndA 101).length d2, .slice i2 (ndB 101).length j2, .slice f2 (ndF 101).length g2] 28)
  replace k1_1 := cell_al k1_1 (.cells #[.int .i64 (ndP 101), .slice a2 (ndM 101).length c2, .int .i64 (ndP 101), .slice b2 (ndA 101).length d2, .slice i2 (ndB 101).length j2, .slice f2 (ndF 101).length g2] 28)
  replace k1_2 := cell_al k1_2 (.cells #[.int .i64 (ndP 101), .slice a2 (ndM 101).length c2, .int .i64 (ndP 101), .slice b2 (ndA 101).length d2, .slice i2 (ndB 101).length j2, .slice f2 (ndF 101).length g2] 28)
  replace k1_3 := cell_al k1_3 (.cells #[.int .i64 (ndP 101), .slice a2 (ndM 101).length c2, .int .i64 (ndP 101), .slice b2 (ndA 101).length d2, .slice i2 (ndB 101).length j2, .slice f2 (ndF 101).length g2] 28)
  replace k1_4 := cell_al k1_4 (.cells #[.int .i64 (ndP 101), .slice a2 (ndM 101).length c2, .int .i64 (ndP 101), .slice b2 (ndA 101).length d2, .slice i2 (ndB 101).length j2, .slice f2 (ndF 101).length g2] 28)
  replace k1_5 := cell_al k1_5 (.cells #[.int .i64 (ndP 101), .slice a2 (ndM 101).length c2, .int .i64 (ndP 101), .slice b2 (ndA 101).length d2, .slice i2 (ndB 101).length j2, .slice f2 (ndF 101).length g2] 28)
  go_wp2_with fail
  refine (eqD _ _ _ _ _ _ _ _ _ _ _ _ _ _ _ _ _ _ _ _ _ _ _ _ _ _ _ o2.s1 o2.s2 o2.s3 o2.s4 o1.s1 o1.s2 o1.s3 o1.s4 (by omega) (by omega) (by omega) (by omega)).mono ?_
  rintro e u3 ⟨rfl, t3⟩
  have B3 := bnext (bnext B2 pa2) t3
  replace o1 := o1.below t3
  replace o2 := o2.below t3
  replace k1_0 := cell_be t3 k1_0
  replace k1_1 := cell_be t3 k1_1
  replace k1_2 := cell_be t3 k1_2
  replace k1_3 := cell_be t3 k1_3
  replace k1_4 := cell_be t3 k1_4
  replace k1_5 := cell_be t3 k1_5
  have sz3 : u2.heap.size + 1 ≤ u3.heap.size := by have := t3.size; simp at this; omega
  have k2_0 : u3.cell? ⟨u2.heap.size, 0, none⟩ = some (.int .i64 (ndP 101)) := cell_be t3 (by simp [go_sem])
  have k2_1 : u3.cell? ⟨u2.heap.size, 1, none⟩ = some (.slice a2 (ndM 101).length c2) := cell_be t3 (by simp [go_sem])
  have k2_2 : u3.cell? ⟨u2.heap.size, 2, none⟩ = some (.int .i64 (ndP 101)) := cell_be t3 (by simp [go_sem])
  have k2_3 : u3.cell? ⟨u2.heap.size, 3, none⟩ = some (.slice b2 (ndA 101).length d2) := cell_be t3 (by simp [go_sem])
  have k2_4 : u3.cell? ⟨u2.heap.size, 4, none⟩ = some (.slice i2 (ndB 101).length j2) := cell_be t3 (by simp [go_sem])
  have k2_5 : u3.cell? ⟨u2.heap.size, 5, none⟩ = some (.slice f2 (ndF 101).length g2) := cell_be t3 (by simp [go_sem])
  clear t3
  go_wp2_with fail
  refine (markD _ _ _ _ _ _ _ _ _ _ _ _ _ _ _ _ _ _ _ _ _ _ o2 (by omega) (by omega) (by omega) (by omega) (by omega) (by omega) (by omega)).mono ?_
  rintro e u4 ⟨rfl, no2, t4⟩
  have B4 := below_touch B3 t4 (by omega) (by omega)
  have sz4 := t4.size
  replace o1 := o1.touch t4 (by omega)
  replace k1_0 := t4.cell k1_0 (by omega)
  replace k1_1 := t4.cell k1_1 (by omega)
  replace k1_2 := t4.cell k1_2 (by omega)
  replace k1_3 := t4.cell k1_3 (by omega)
  replace k1_4 := t4.cell k1_4 (by omega)
  replace k1_5 := t4.cell k1_5 (by omega)
  replace k2_0 := t4.cell k2_0 (by omega)
  replace k2_1 := t4.cell k2_1 (by omega)
  replace k2_2 := t4.cell k2_2 (by omega)
  replace k2_3 := t4.cell k2_3 (by omega)
  replace k2_4 := t4.cell k2_4 (by omega)
  replace k2_5 := t4.cell k2_5 (by omega)
  clear t4
  clear o2
  have o2 := no2
  clear no2
  go_wp2_with fail
  refine (heldD _ _ _ _ _ _ _ _ _ _ _ _ _ _ _ _ o2.s1 o2.s2 o2.s3 o2.s4 (by omega) (by omega) (by omega) (by omega) (by omega) (by omega)).mono ?_
  rintro e u5 ⟨rfl, t5⟩
  have B5 := bnext B4 t5
  replace o1 := o1.below t5
  replace o2 := o2.below t5
  replace k1_0 := cell_be t5 k1_0
  replace k1_1 := cell_be t5 k1_1
  replace k1_2 := cell_be t5 k1_2
  replace k1_3 := cell_be t5 k1_3
  replace k1_4 := cell_be t5 k1_4
  replace k1_5 := cell_be t5 k1_5
  replace k2_0 := cell_be t5 k2_0
  replace k2_1 := cell_be t5 k2_1
  replace k2_2 := cell_be t5 k2_2
  replace k2_3 := cell_be t5 k2_3
  replace k2_4 := cell_be t5 k2_4
  replace k2_5 := cell_be t5 k2_5
  have sz5 := t5.size
  clear t5
  go_wp2_with fail
  refine (implNewDesk _).mono ?_
  rintro e u6 ⟨a3, c3, b3, d3, i3, j3, f3, g3, rfl, o3, -, t6⟩
  have B6 := bnext B5 t6
  replace o1 := o1.below t6
  replace o2 := o2.below t6
  replace k1_0 := cell_be t6 k1_0
  replace k1_1 := cell_be t6 k1_1
  replace k1_2 := cell_be t6 k1_2
  replace k1_3 := cell_be t6 k1_3
  replace k1_4 := cell_be t6 k1_4
  replace k1_5 := cell_be t6 k1_5
  replace k2_0 := cell_be t6 k2_0
  replace k2_1 := cell_be t6 k2_1
  replace k2_2 := cell_be t6 k2_2
  replace k2_3 := cell_be t6 k2_3
  replace k2_4 := cell_be t6 k2_4
  replace k2_5 := cell_be t6 k2_5
  have sz6 := t6.size
  clear t6
  have pa6 := bl1 u6 (.cells #[.int .i64 (ndP 101), .slice a3 (ndM 101).length c3, .int .i64 (ndP 101), .slice b3 (ndA 101).length d3, .slice i3 (ndB 101).length j3, .slice f3 (ndF 101).length g3] 28)
  replace o1 := o1.below pa6
  replace o2 := o2.below pa6
  replace o3 := o3.below pa6
  replace k1_0 := cell_al k1_0 (.cells #[.int .i64 (ndP 101), .slice a3 (ndM 101).length c3, .int .i64 (ndP 101), .slice b3 (ndA 101).length d3, .slice i3 (ndB 101).length j3, .slice f3 (ndF 101).length g3] 28)
  replace k1_1 := cell_al k1_1 (.cells #[.int .i64 (ndP 101), .slice a3 (ndM 101).length c3, .int .i64 (ndP 101), .slice b3 (ndA 101).length d3, .slice i3 (ndB 101).length j3, .slice f3 (ndF 101).length g3] 28)
  replace k1_2 := cell_al k1_2 (.cells #[.int .i64 (ndP 101), .slice a3 (ndM 101).length c3, .int .i64 (ndP 101), .slice b3 (ndA 101).length d3, .slice i3 (ndB 101).length j3, .slice f3 (ndF 101).length g3] 28)
  replace k1_3 := cell_al k1_3 (.cells #[.int .i64 (ndP 101), .slice a3 (ndM 101).length c3, .int .i64 (ndP 101), .slice b3 (ndA 101).length d3, .slice i3 (ndB 101).length j3, .slice f3 (ndF 101).length g3] 28)
  replace k1_4 := cell_al k1_4 (.cells #[.int .i64 (ndP 101), .slice a3 (ndM 101).length c3, .int .i64 (ndP 101), .slice b3 (ndA 101).length d3, .slice i3 (ndB 101).length j3, .slice f3 (ndF 101).length g3] 28)
  replace k1_5 := cell_al k1_5 (.cells #[.int .i64 (ndP 101), .slice a3 (ndM 101).length c3, .int .i64 (ndP 101), .slice b3 (ndA 101).length d3, .slice i3 (ndB 101).length j3, .slice f3 (ndF 101).length g3] 28)
  replace k2_0 := cell_al k2_0 (.cells #[.int .i64 (ndP 101), .slice a3 (ndM 101).length c3, .int .i64 (ndP 101), .slice b3 (ndA 101).length d3, .slice i3 (ndB 101).length j3, .slice f3 (ndF 101).length g3] 28)
  replace k2_1 := cell_al k2_1 (.cells #[.int .i64 (ndP 101), .slice a3 (ndM 101).length c3, .int .i64 (ndP 101), .slice b3 (ndA 101).length d3, .slice i3 (ndB 101).length j3, .slice f3 (ndF 101).length g3] 28)
  replace k2_2 := cell_al k2_2 (.cells #[.int .i64 (ndP 101), .slice a3 (ndM 101).length c3, .int .i64 (ndP 101), .slice b3 (ndA 101).length d3, .slice i3 (ndB 101).length j3, .slice f3 (ndF 101).length g3] 28)
  replace k2_3 := cell_al k2_3 (.cells #[.int .i64 (ndP 101), .slice a3 (ndM 101).length c3, .int .i64 (ndP 101), .slice b3 (ndA 101).length d3, .slice i3 (ndB 101).length j3, .slice f3 (ndF 101).length g3] 28)
  replace k2_4 := cell_al k2_4 (.cells #[.int .i64 (ndP 101), .slice a3 (ndM 101).length c3, .int .i64 (ndP 101), .slice b3 (ndA 101).length d3, .slice i3 (ndB 101).length j3, .slice f3 (ndF 101).length g3] 28)
  replace k2_5 := cell_al k2_5 (.cells #[.int .i64 (ndP 101), .slice a3 (ndM 101).length c3, .int .i64 (ndP 101), .slice b3 (ndA 101).length d3, .slice i3 (ndB 101).length j3, .slice f3 (ndF 101).length g3] 28)
  go_wp2_with fail
  refine (eqD _ _ _ _ _ _ _ _ _ _ _ _ _ _ _ _ _ _ _ _ _ _ _ _ _ _ _ o3.s1 o3.s2 o3.s3 o3.s4 o1.s1 o1.s2 o1.s3 o1.s4 (by omega) (by omega) (by omega) (by omega)).mono ?_
  rintro e u7 ⟨rfl, t7⟩
  have B7 := bnext (bnext B6 pa6) t7
  replace o1 := o1.below t7
  replace o2 := o2.below t7
  replace o3 := o3.below t7
  replace k1_0 := cell_be t7 k1_0
  replace k1_1 := cell_be t7 k1_1
  replace k1_2 := cell_be t7 k1_2
  replace k1_3 := cell_be t7 k1_3
  replace k1_4 := cell_be t7 k1_4
  replace k1_5 := cell_be t7 k1_5
  replace k2_0 := cell_be t7 k2_0
  replace k2_1 := cell_be t7 k2_1
  replace k2_2 := cell_be t7 k2_2
  replace k2_3 := cell_be t7 k2_3
  replace k2_4 := cell_be t7 k2_4
  replace k2_5 := cell_be t7 k2_5
  have sz7 : u6.heap.size + 1 ≤ u7.heap.size := by have := t7.size; simp at this; omega
  have k3_0 : u7.cell? ⟨u6.heap.size, 0, none⟩ = some (.int .i64 (ndP 101)) := cell_be t7 (by simp [go_sem])
  have k3_1 : u7.cell? ⟨u6.heap.size, 1, none⟩ = some (.slice a3 (ndM 101).length c3) := cell_be t7 (by simp [go_sem])
  have k3_2 : u7.cell? ⟨u6.heap.size, 2, none⟩ = some (.int .i64 (ndP 101)) := cell_be t7 (by simp [go_sem])
  have k3_3 : u7.cell? ⟨u6.heap.size, 3, none⟩ = some (.slice b3 (ndA 101).length d3) := cell_be t7 (by simp [go_sem])
  have k3_4 : u7.cell? ⟨u6.heap.size, 4, none⟩ = some (.slice i3 (ndB 101).length j3) := cell_be t7 (by simp [go_sem])
  have k3_5 : u7.cell? ⟨u6.heap.size, 5, none⟩ = some (.slice f3 (ndF 101).length g3) := cell_be t7 (by simp [go_sem])
  clear t7
  clear o3
  clear k3_0
  clear k3_1
  clear k3_2
  clear k3_3
  clear k3_4
  clear k3_5
  go_wp2_with fail
  refine (heldD _ _ _ _ _ _ _ _ _ _ _ _ _ _ _ _ o2.s1 o2.s2 o2.s3 o2.s4 (by omega) (by omega) (by omega) (by omega) (by omega) (by omega)).mono ?_
  rintro e u8 ⟨rfl, t8⟩
  have B8 := bnext B7 t8
  replace o1 := o1.below t8
  replace o2 := o2.below t8
  replace k1_0 := cell_be t8 k1_0
  replace k1_1 := cell_be t8 k1_1
  replace k1_2 := cell_be t8 k1_2
  replace k1_3 := cell_be t8 k1_3
  replace k1_4 := cell_be t8 k1_4
  replace k1_5 := cell_be t8 k1_5
  replace k2_0 := cell_be t8 k2_0
  replace k2_1 := cell_be t8 k2_1
  replace k2_2 := cell_be t8 k2_2
  replace k2_3 := cell_be t8 k2_3
  replace k2_4 := cell_be t8 k2_4
  replace k2_5 := cell_be t8 k2_5
  have sz8 := t8.size
  clear t8
  go_wp2
  go_ret
  exact ⟨rfl, B8⟩

/-! ### THE ROW's STEP: WRITTEN OUT: LEAVE IT -/
set_option maxRecDepth 100000 in
theorem lifted (os : Os) (started : os.Started) (H : Type) (enc : TypeId × Value → H) :
    ReturnsInHanded {} Try.checked os 3 .any (Rows.fnExactNewDeskSpec.pre6 enc Try.prog Try.f3 Rows.fnExactNewDeskRow.domain false) (Rows.fnExactNewDeskSpec.post enc Try.prog Try.f3 false true false false) := by
  refine returnsInHanded_of_change (C := Try.checked) own started (by kernel_rfl) Try.func3
    (ChangeSpec.witness6 (enc := enc) (C := Try.checked) false ⟨#[], #[], []⟩ 8 (by kernel_rfl) (by kernel_rfl) (by kernel_rfl) (by kernel_rfl)) ?_
  intro W base args ds gs before hval0 hW hcnd _
  have hval : ∀ (j : Nat) t v, Try.f3.params[j]? = some t → args[j]? = some v → Value.okWide Try.prog W .any base t v := hval0
  have hW' := hW
  obtain ⟨p, q, hA0, hV, rfl, hfz, hnd⟩ := hW
  have hA : DataW.TrodAll enc Try.prog W 0 (fun _ => true) true Try.f3.params.toList args.toList ds p := hA0
  rw [Try.params3] at hA hval
  obtain ⟨rfl, rfl, rfl⟩ := trodAll_none hA
  obtain ⟨rfl, rfl⟩ := trodVars_none hV
  clear hA0 hval0
  refine (walk  W).mono fun e W' ⟨he, bel⟩ => ?_
  subst he
  exact ⟨_, rfl, _, _, _, [], _, [], hW', trodAll_mk1 (shut_bool Try.underlying4 _), trodAll_mk0, rfl, bel.frame _, fun h => by cases h⟩

theorem over : Rows.fnExactNewDeskRow.holds Try.pinned (OpenSpec.ofChange Rows.fnExactNewDeskSpec) :=
  OpenClaim.holds_of_wide 3 Try.f3 rfl rfl rfl rfl rfl rfl rfl ⟨rfl, rfl, rfl, rfl, rfl⟩ rfl rfl rfl rfl rfl (by kernel_rfl) Try.func3 (by kernel_rfl)
    (of_decide_eq_true (by kernel_rfl)) (by unfold Func.isWrapper; first | (rw [if_pos (by decide +kernel)]; kernel_rfl) | (rw [if_neg (by decide +kernel)]; exact ⟨rfl, rfl⟩))
    (fun os started H enc _ => lifted os started H enc)

/-- ████ THE STATEMENT ████ -/
theorem proved : Rows.FnExactNewDeskSaid :=
  over
#print axioms proved
end Go.Proofs.Ytpoabedlcljibaa.fnExactNewDesk

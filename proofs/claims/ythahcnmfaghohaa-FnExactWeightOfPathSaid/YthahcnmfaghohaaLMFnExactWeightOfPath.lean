/- The law 'FnExactWeightOfPath' returns true for every input and leaves its arguments as they were. Conditions: none. -/
import Derived.Test.YthahcnmfaghohaaRows
import Derived.WalkKit
import Derived.ProofKit
import Derived.OpenShut
import Derived.ShutString
import Derived.ChangeOld
import Derived.Lib.SmallJoins
import Derived.Below
import Derived.Test.YthahcnmfaghohaaYT928
import Derived.Test.YthahcnmfaghohaaYT927
namespace Go.Proofs.Ythahcnmfaghohaa.fnExactWeightOfPath
open Go.ChangeShapes Go.WideShapes Go.ChangeAt Go.RowKit
open Go.ChangeMaps (open_string shut_string)
set_option linter.unusedVariables false
set_option linter.unusedSimpArgs false

theorem own : ownKnob Try.prog.godebug = none := by kernel_rfl
theorem laidOut : laidOutB Try.prog = true := by kernel_rfl

/-- What the walk is told of a slice of integers that came in. -/
def IsRow (k : IntKind) (w : World) (a : Option Addr) (len cap : Nat) (zs : List Int) : Prop :=
  (a = none ∧ len = 0 ∧ cap = 0 ∧ zs = []) ∨
  ∃ x, a = some x ∧ len ≤ cap ∧ cap ≤ maxLen ∧ zs.length = cap ∧ (∀ i, i < zs.length → w.cell? (x.add i) = some (.int k (zs.getD i 0))) ∧ ∀ n ∈ zs, (Lit.int k n).wf = true

set_option maxRecDepth 100000 in
set_option maxHeartbeats 3000000 in
theorem walk (a0_0 : Int) (a0_1 : Option Addr) (len0_1 cap0_1 : Nat) (z0_1 : List Int) (a0_2 : Option Addr) (len0_2 cap0_2 : Nat) (z0_2 : List Int) (a1 : ByteArray) (a2 : Int) (w : World) (w0_0 : (Lit.int .i64 a0_0).wf = true) (w0_1 : IsRow .i64 w a0_1 len0_1 cap0_1 z0_1) (w0_2 : IsRow .i64 w a0_2 len0_2 cap0_2 z0_2) (w1 : a1.size ≤ maxLen) (w2 : (Lit.int .i64 a2).wf = true) :
    Calls Try.prog 3 #[.agg #[.int .i64 a0_0, .slice a0_1 len0_1 cap0_1, .slice a0_2 len0_2 cap0_2], .string a1, .int .i64 a2] w fun e w' => e = .returned (.bool true) ∧ Below w.heap.size w w' := by
  have s0_1 := sl_of_row w0_1
  have rs0_1 := row_len w0_1
  have s0_2 := sl_of_row w0_2
  have rs0_2 := row_len w0_2
  clear w0_0 w0_1 w0_2
  have b0 := bl1 w (.cells #[.int .i64 a0_0, .slice a0_1 len0_1 cap0_1, .slice a0_2 len0_2 cap0_2] 24)
  by_cases LS : (1048576 : Int) < (a1.size : Int)
  · go_enter Try.func3, Try.ntmps3
    go_wp2
    go_ret
    exact ⟨rfl, b0⟩
  have hsz : a1.size ≤ 1048576 := by omega
  by_cases L0 : (1048576 : Int) < (len0_1 : Int) + (len0_2 : Int)
  · go_enter Try.func3, Try.ntmps3
    go_wp2_with fail
    refine (szJ_no _ _ _ _ _ _ _ _ _ rs0_1 rs0_2 (by omega) (by omega) (by omega)).mono ?_
    rintro e v ⟨rfl, y⟩
    go_wp2
    go_ret
    exact ⟨rfl, bnext b0 y⟩
  go_enter Try.func3, Try.ntmps3
  go_wp2_with fail
  refine (szJ _ _ _ _ _ _ _ _ _ (by omega) (by omega) (by omega) (by omega) (by omega)).mono ?_
  rintro e u1 ⟨rfl, t1⟩
  have B1 := bnext b0 t1
  have sz1 : w.heap.size + 1 ≤ u1.heap.size := by have := t1.size; (try simp at this); omega
  have f0_0 : u1.cell? ⟨w.heap.size, 0, none⟩ = some (.int .i64 a0_0) := cell_be t1 (by simp [go_sem])
  have f0_1 : u1.cell? ⟨w.heap.size, 1, none⟩ = some (.slice a0_1 len0_1 cap0_1) := cell_be t1 (by simp [go_sem])
  have f0_2 : u1.cell? ⟨w.heap.size, 2, none⟩ = some (.slice a0_2 len0_2 cap0_2) := cell_be t1 (by simp [go_sem])
  clear t1
  go_wp2_with fail
  refine (toJ _ _ _ _ _ _ _ _ _ _ (s0_1.below B1) (s0_2.below B1) (by omega) (by omega)).mono ?_
  rintro e u2 ⟨x1, y1, rfl, o1, t2⟩
  have B2 := bnext B1 t2
  replace f0_0 := cell_be t2 f0_0
  replace f0_1 := cell_be t2 f0_1
  replace f0_2 := cell_be t2 f0_2
  have sz2 := t2.size
  clear t2
  go_wp2_with fail
  refine (specWeightOfPath _ _ _ _ _ _ _ _ _ a1 _ _ (JZ.sl1 o1) (JZ.sl2 o1) (by omega) (by omega) hsz).mono ?_
  rintro e u3 ⟨rfl, t3⟩
  have B3 := bnext B2 t3
  replace f0_0 := cell_be t3 f0_0
  replace f0_1 := cell_be t3 f0_1
  replace f0_2 := cell_be t3 f0_2
  have sz3 := t3.size
  replace o1 := o1.below t3
  clear t3
  clear o1
  go_wp2_with fail
  refine (toJ _ _ _ _ _ _ _ _ _ _ (s0_1.below B3) (s0_2.below B3) (by omega) (by omega)).mono ?_
  rintro e u4 ⟨x3, y3, rfl, o3, t4⟩
  have B4 := bnext B3 t4
  replace f0_0 := cell_be t4 f0_0
  replace f0_1 := cell_be t4 f0_1
  replace f0_2 := cell_be t4 f0_2
  have sz4 := t4.size
  clear t4
  have pa4 := bl1 u4 (.cells #[.int .i64 a0_0, .slice x3 len0_1 len0_1, .slice y3 len0_2 len0_2] 28)
  replace o3 := o3.below pa4
  replace f0_0 := cell_al f0_0 (.cells #[.int .i64 a0_0, .slice x3 len0_1 len0_1, .slice y3 len0_2 len0_2] 28)
  replace f0_1 := cell_al f0_1 (.cells #[.int .i64 a0_0, .slice x3 len0_1 len0_1, .slice y3 len0_2 len0_2] 28)
  replace f0_2 := cell_al f0_2 (.cells #[.int .i64 a0_0, .slice x3 len0_1 len0_1, .slice y3 len0_2 len0_2] 28)
  go_wp2_with fail
  refine (implWeightOfPath _ _ _ _ _ _ _ _ _ a1 _ _ (JZ.sl1 o3) (JZ.sl2 o3) (by omega) (by omega) hsz).mono ?_
  rintro e u5 ⟨rfl, t5⟩
  have B5 := bnext (bnext B4 pa4) t5
  replace f0_0 := cell_be t5 f0_0
  replace f0_1 := cell_be t5 f0_1
  replace f0_2 := cell_be t5 f0_2
  have sz5 : u4.heap.size + 1 ≤ u5.heap.size := by have := t5.size; simp at this; omega
  have ko3_0 : u5.cell? ⟨u4.heap.size, 0, none⟩ = some (.int .i64 a0_0) := cell_be t5 (by simp [go_sem])
  have ko3_1 : u5.cell? ⟨u4.heap.size, 1, none⟩ = some (.slice x3 len0_1 len0_1) := cell_be t5 (by simp [go_sem])
  have ko3_2 : u5.cell? ⟨u4.heap.size, 2, none⟩ = some (.slice y3 len0_2 len0_2) := cell_be t5 (by simp [go_sem])
  replace o3 := o3.below t5
  clear t5
  have hbr6 := (Below.refl u5.heap.size u5).drew
  have F6 : ∀ w', Below u5.heap.size u5 w' → w'.cell? ⟨w.heap.size, 0, none⟩ = some (.int .i64 a0_0) ∧ w'.cell? ⟨w.heap.size, 1, none⟩ = some (.slice a0_1 len0_1 cap0_1) ∧ w'.cell? ⟨w.heap.size, 2, none⟩ = some (.slice a0_2 len0_2 cap0_2) ∧ w'.cell? ⟨u4.heap.size, 0, none⟩ = some (.int .i64 a0_0) ∧ w'.cell? ⟨u4.heap.size, 1, none⟩ = some (.slice x3 len0_1 len0_1) ∧ w'.cell? ⟨u4.heap.size, 2, none⟩ = some (.slice y3 len0_2 len0_2) := fun w' hb => ⟨cell_be hb f0_0, cell_be hb f0_1, cell_be hb f0_2, cell_be hb ko3_0, cell_be hb ko3_1, cell_be hb ko3_2⟩
  go_wp2_with fail
  go_region_held3 (fun w' => w'.cell? ⟨w.heap.size, 0, none⟩ = some (.int .i64 a0_0) ∧ w'.cell? ⟨w.heap.size, 1, none⟩ = some (.slice a0_1 len0_1 cap0_1) ∧ w'.cell? ⟨w.heap.size, 2, none⟩ = some (.slice a0_2 len0_2 cap0_2) ∧ w'.cell? ⟨u4.heap.size, 0, none⟩ = some (.int .i64 a0_0) ∧ w'.cell? ⟨u4.heap.size, 1, none⟩ = some (.slice x3 len0_1 len0_1) ∧ w'.cell? ⟨u4.heap.size, 2, none⟩ = some (.slice y3 len0_2 len0_2))
    (exact F6 _ (by assumption))
    (first
    | (go_at_call 9; refine (toJ _ _ _ _ _ _ _ _ _ _ ((s0_1.below B5).below hbr6) ((s0_2.below B5).below hbr6) (by omega) (by omega)).mono ?_; rintro e wn6 ⟨xn6, yn6, rfl, on6, hn6⟩; have hm6 := bnext hbr6 hn6)
    | (go_at_call 11; refine (eqJ _ _ _ _ _ _ _ _ _ _ _ _ _ _ ((JZ.sl1 o3).below hm6) on6.sl1 ((JZ.sl2 o3).below hm6) on6.sl2 (by omega) (by omega)).mono ?_; rintro e u6 ⟨rfl, hr6⟩; have t6 := bnext hm6 hr6))
  clear F6 on6 hn6 hm6 hr6 hbr6
  have B6 := bnext B5 t6
  have sz6 := t6.size
  replace f0_0 := cell_be t6 f0_0
  replace f0_1 := cell_be t6 f0_1
  replace f0_2 := cell_be t6 f0_2
  replace ko3_0 := cell_be t6 ko3_0
  replace ko3_1 := cell_be t6 ko3_1
  replace ko3_2 := cell_be t6 ko3_2
  replace o3 := o3.below t6
  clear t6
  go_wp2
  go_ret
  exact ⟨rfl, B6⟩

set_option maxRecDepth 100000 in
theorem lifted (os : Os) (started : os.Started) (H : Type) (enc : TypeId × Value → H) :
    ReturnsInHanded {} Try.checked os 3 .any (Rows.fnExactWeightOfPathSpec.pre6 enc Try.prog Try.f3 Rows.fnExactWeightOfPathRow.domain false) (Rows.fnExactWeightOfPathSpec.post enc Try.prog Try.f3 false true false false) := by
  refine returnsInHanded_of_change (C := Try.checked) own started (by kernel_rfl) Try.func3
    (ChangeSpec.witness6 (enc := enc) (C := Try.checked) false ⟨#[], #[.agg #[.int .i64 0, .slice none 0 0, .slice none 0 0], .string ByteArray.empty, .int .i64 0], []⟩ 8 (by kernel_rfl) (by kernel_rfl) (by kernel_rfl) (by kernel_rfl)) ?_
  intro W base args ds gs before hval0 hW hcnd _
  have hval : ∀ (j : Nat) t v, Try.f3.params[j]? = some t → args[j]? = some v → Value.okWide Try.prog W .any base t v := hval0
  have hW' := hW
  obtain ⟨p, q, hA0, hV, rfl, hfz, hnd⟩ := hW
  have hA : DataW.TrodAll enc Try.prog W 0 (fun _ => true) true Try.f3.params.toList args.toList ds p := hA0
  rw [Try.params3] at hA hval
  obtain ⟨v0, vs0, d0, ds0, p0, q0, hargs, rfl, rfl, h0, r0⟩ := trodAll_cons hA
  obtain ⟨v1, vs1, d1, ds1, p1, q1, rfl, rfl, rfl, h1, r1⟩ := trodAll_cons r0
  obtain ⟨v2, vs2, d2, ds2, p2, q2, rfl, rfl, rfl, h2, r2⟩ := trodAll_cons r1
  obtain ⟨rfl, rfl, rfl⟩ := trodAll_nil r2
  obtain rfl : args = #[v0, v1, v2] := by cases args; simp_all
  obtain ⟨rfl, rfl⟩ := trodVars_none hV
  have k0 := h0
  have lt0 : ∀ x ∈ p0, x.block < W.heap.size := by obtain ⟨m, hm⟩ := k0; exact DataW.trod_lt m _ _ _ hm
  obtain ⟨c0_0, c0_1, c0_2, y0_0, y0_1, y0_2, m0, rfl, rfl, rfl, h0_0, h0_1, h0_2⟩ := Joins.open_agg3 Try.underlying24 (by kernel_rfl) (by kernel_rfl) (hval 0 24 v0 rfl rfl) h0
  obtain ⟨a0_0, e0_0, g0_0, w0_0⟩ := DataW.trod_int Try.underlying2 h0_0
  simp at e0_0
  subst e0_0
  obtain ⟨a0_1, len0_1, cap0_1, e0_1⟩ := Joins.slice_form Try.underlying22 h0_1
  simp at e0_1
  subst e0_1
  obtain ⟨z0_1, w0_1⟩ : ∃ zs, IsRow .i64 W a0_1 len0_1 cap0_1 zs := by
    have hf := h0_1
    rcases open_ints Try.underlying22 Try.underlying2 (by kernel_rfl) hf with ⟨hcs, _⟩ | ⟨x, l, c, zs, hcs, _, hl, hm, hz, _, hcell, hwz⟩
    · simp [Value.cells] at hcs
      obtain ⟨rfl, rfl, rfl⟩ := hcs
      exact ⟨[], .inl ⟨rfl, rfl, rfl, rfl⟩⟩
    · simp [Value.cells] at hcs
      obtain ⟨rfl, rfl, rfl⟩ := hcs
      exact ⟨zs, .inr ⟨_, rfl, hl, hm, by simpa using hz, hcell, hwz⟩⟩
  obtain ⟨a0_2, len0_2, cap0_2, e0_2⟩ := Joins.slice_form Try.underlying22 h0_2
  simp at e0_2
  subst e0_2
  obtain ⟨z0_2, w0_2⟩ : ∃ zs, IsRow .i64 W a0_2 len0_2 cap0_2 zs := by
    have hf := h0_2
    rcases open_ints Try.underlying22 Try.underlying2 (by kernel_rfl) hf with ⟨hcs, _⟩ | ⟨x, l, c, zs, hcs, _, hl, hm, hz, _, hcell, hwz⟩
    · simp [Value.cells] at hcs
      obtain ⟨rfl, rfl, rfl⟩ := hcs
      exact ⟨[], .inl ⟨rfl, rfl, rfl, rfl⟩⟩
    · simp [Value.cells] at hcs
      obtain ⟨rfl, rfl, rfl⟩ := hcs
      exact ⟨zs, .inr ⟨_, rfl, hl, hm, by simpa using hz, hcell, hwz⟩⟩
  obtain ⟨a1, rfl, rfl, rfl, w1⟩ := open_string Try.underlying9 (hval 1 9 v1 rfl rfl) h1
  obtain ⟨a2, rfl, rfl, rfl, w2⟩ := open_int Try.underlying2 (hval 2 2 v2 rfl rfl) h2
  clear hA0 hval0
  refine (walk a0_0 a0_1 len0_1 cap0_1 z0_1 a0_2 len0_2 cap0_2 z0_2 a1 a2 W w0_0 w0_1 w0_2 w1 w2).mono fun e W' ⟨he, bel⟩ => ?_
  subst he
  exact ⟨_, rfl, _, _, _, [], _, [], hW', trodAll_mk1 (shut_bool Try.underlying4 _), (trodAll_cons_mk (Below.trod laidOut (by kernel_rfl) (of_decide_eq_true (by kernel_rfl)) k0 bel lt0) (trodAll_cons_mk (shut_string Try.underlying9 w1) (trodAll_cons_mk (shut_int Try.underlying2 w2) trodAll_mk0))), rfl, bel.frame _, fun h => by cases h⟩

theorem over : Rows.fnExactWeightOfPathRow.holds Try.pinned (OpenSpec.ofChange Rows.fnExactWeightOfPathSpec) :=
  OpenClaim.holds_of_wide 3 Try.f3 rfl rfl rfl rfl rfl rfl rfl ⟨rfl, rfl, rfl, rfl, rfl⟩ rfl rfl rfl rfl rfl (by kernel_rfl) Try.func3 (by kernel_rfl)
    (of_decide_eq_true (by kernel_rfl)) (by unfold Func.isWrapper; first | (rw [if_pos (by decide +kernel)]; kernel_rfl) | (rw [if_neg (by decide +kernel)]; exact ⟨rfl, rfl⟩))
    (fun os started H enc _ => lifted os started H enc)

theorem proved : Rows.FnExactWeightOfPathSaid := over
#print axioms proved
end Go.Proofs.Ythahcnmfaghohaa.fnExactWeightOfPath

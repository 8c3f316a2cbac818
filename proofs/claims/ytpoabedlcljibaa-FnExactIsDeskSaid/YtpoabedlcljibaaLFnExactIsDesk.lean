/- The law 'FnExactIsDesk' returns true for every input and leaves its arguments as they were. Conditions: none. -/
import Derived.Test.YtpoabedlcljibaaRows
import Derived.WalkKit
import Derived.ProofKit
import Derived.OpenShut
import Derived.ShutString
import Derived.ChangeOld
import Derived.Lib.SmallJoins
import Derived.Below
import Derived.Test.YtpoabedlcljibaaTc
namespace Go.Proofs.Ytpoabedlcljibaa.fnExactIsDesk
open Go.ChangeShapes Go.WideShapes Go.ChangeAt Go.RowKit
open Go.ChangeMaps (open_string shut_string)
set_option linter.unusedVariables false
set_option linter.unusedSimpArgs false

theorem own : ownKnob Try.prog.godebug = none := by kernel_rfl
theorem laidOut : laidOutB Try.prog = true := by kernel_rfl

/-- What the walk is told of a slice of integers that came in. -/
def IsRow (k : IntKind) (w : World) (a : Option Addr) (len cap : Nat) (zs : List Int) : Prop :=
  (a = none ∧ len = 0 ∧ cap = 0 ∧ zs = []) ∨
  ∃ x, a = some x ∧ len ≤ cap ∧ cap ≤ maxLen ∧ zs.length = cap ∧ (∀ i, i < zs.length → w.cell? (x.add i) = some (.int k (zs.getD i 0))) ∧ ∀ n ∈ zs, (Lit.int k n).wf = true
theorem array6_fnExactIsDesk {α : Type} {cs : Array α} (h : cs.size = 6) : ∃ c0 c1 c2 c3 c4 c5, cs = #[c0, c1, c2, c3, c4, c5] := by
  obtain ⟨l⟩ := cs
  match l, h with
  | [c0, c1, c2, c3, c4, c5], _ => exact ⟨c0, c1, c2, c3, c4, c5, rfl⟩

set_option maxRecDepth 100000 in
set_option maxHeartbeats 3000000 in
theorem walk (a0_0 : Int) (a0_1 : Option Addr) (len0_1 cap0_1 : Nat) (z0_1 : List Int) (a0_2 : Int) (a0_3 : Option Addr) (len0_3 cap0_3 : Nat) (z0_3 : List Int) (a0_4 : Option Addr) (len0_4 cap0_4 : Nat) (z0_4 : List Int) (a0_5 : Option Addr) (len0_5 cap0_5 : Nat) (z0_5 : List Int) (w : World) (w0_0 : (Lit.int .i64 a0_0).wf = true) (w0_1 : IsRow .i64 w a0_1 len0_1 cap0_1 z0_1) (w0_2 : (Lit.int .i64 a0_2).wf = true) (w0_3 : IsRow .i64 w a0_3 len0_3 cap0_3 z0_3) (w0_4 : IsRow .i64 w a0_4 len0_4 cap0_4 z0_4) (w0_5 : IsRow .i64 w a0_5 len0_5 cap0_5 z0_5) :
    Calls Try.prog 4 #[.agg #[.int .i64 a0_0, .slice a0_1 len0_1 cap0_1, .int .i64 a0_2, .slice a0_3 len0_3 cap0_3, .slice a0_4 len0_4 cap0_4, .slice a0_5 len0_5 cap0_5]] w fun e w' => e = .returned (.bool true) ∧ Below w.heap.size w w' := by
  have s1 := sl_of_row w0_1
  have m1 := row_len w0_1
  have s3 := sl_of_row w0_3
  have m3 := row_len w0_3
  have s4 := sl_of_row w0_4
  have m4 := row_len w0_4
  have s5 := sl_of_row w0_5
  have m5 := row_len w0_5
  clear w0_0 w0_1 w0_2 w0_3 w0_4 w0_5
  have b0 := bl1 w (.cells #[.int .i64 a0_0, .slice a0_1 len0_1 cap0_1, .int .i64 a0_2, .slice a0_3 len0_3 cap0_3, .slice a0_4 len0_4 cap0_4, .slice a0_5 len0_5 cap0_5] 36)
  by_cases L0 : (1048576 : Int) < (len0_1 : Int) + len0_3 + len0_4 + len0_5
  · go_enter Try.func4, Try.ntmps4
    go_wp2_with fail
    refine (szD_no _ _ _ _ _ _ _ _ _ _ _ _ _ _ _ _ (by omega) (by omega) m1 m3 m4 m5 L0).mono ?_
    rintro e u1 ⟨rfl, t1⟩
    go_wp2
    go_ret
    exact ⟨rfl, bnext b0 t1⟩
  go_enter Try.func4, Try.ntmps4
  go_wp2_with fail
  refine (szD _ _ _ _ _ _ _ _ _ _ _ _ _ _ _ _ (by omega) (by omega) (by omega) (by omega) (by omega) (by omega) (by omega)).mono ?_
  rintro e u1 ⟨rfl, t1⟩
  have B1 := bnext b0 t1
  have f0 : u1.cell? ⟨w.heap.size, 0, none⟩ = some (.int .i64 a0_0) := cell_be t1 (by simp [go_sem])
  have f1 : u1.cell? ⟨w.heap.size, 1, none⟩ = some (.slice a0_1 len0_1 cap0_1) := cell_be t1 (by simp [go_sem])
  have f2 : u1.cell? ⟨w.heap.size, 2, none⟩ = some (.int .i64 a0_2) := cell_be t1 (by simp [go_sem])
  have f3 : u1.cell? ⟨w.heap.size, 3, none⟩ = some (.slice a0_3 len0_3 cap0_3) := cell_be t1 (by simp [go_sem])
  have f4 : u1.cell? ⟨w.heap.size, 4, none⟩ = some (.slice a0_4 len0_4 cap0_4) := cell_be t1 (by simp [go_sem])
  have f5 : u1.cell? ⟨w.heap.size, 5, none⟩ = some (.slice a0_5 len0_5 cap0_5) := cell_be t1 (by simp [go_sem])
  have sz1 : w.heap.size + 1 ≤ u1.heap.size := by have := t1.size; simp at this; omega
  clear t1
  go_wp2_with fail
  refine (toD _ _ _ _ _ _ _ _ _ _ _ _ _ _ _ _ _ _ _ (s1.below B1) (s3.below B1) (s4.below B1) (s5.below B1) (by omega) (by omega) (by omega) (by omega)).mono ?_
  rintro e u2 ⟨x1, x3, x4, x5, rfl, o1, t2⟩
  have B2 := bnext B1 t2
  replace f0 := cell_be t2 f0
  replace f1 := cell_be t2 f1
  replace f2 := cell_be t2 f2
  replace f3 := cell_be t2 f3
  replace f4 := cell_be t2 f4
  replace f5 := cell_be t2 f5
  have sz2 := t2.size
  clear t2
  go_wp2_with fail
  refine (specIsDesk _ _ _ _ _ _ _ _ _ _ _ _ _ _ _ _ _ _ _ o1.s1 o1.s2 o1.s3 o1.s4 (by omega) (by omega) (by omega) (by omega)).mono ?_
  rintro e u3 ⟨rfl, t3⟩
  have B3 := bnext B2 t3
  replace f0 := cell_be t3 f0
  replace f1 := cell_be t3 f1
  replace f2 := cell_be t3 f2
  replace f3 := cell_be t3 f3
  replace f4 := cell_be t3 f4
  replace f5 := cell_be t3 f5
  have sz3 := t3.size
  clear t3 o1
  go_wp2_with fail
  refine (toD _ _ _ _ _ _ _ _ _ _ _ _ _ _ _ _ _ _ _ (s1.below B3) (s3.below B3) (s4.below B3) (s5.below B3) (by omega) (by omega) (by omega) (by omega)).mono ?_
  rintro e u4 ⟨y1, y3, y4, y5, rfl, o2, t4⟩
  have B4 := bnext B3 t4
  replace f0 := cell_be t4 f0
  replace f1 := cell_be t4 f1
  replace f2 := cell_be t4 f2
  replace f3 := cell_be t4 f3
  replace f4 := cell_be t4 f4
  replace f5 := cell_be t4 f5
  have sz4 := t4.size
  clear t4
  have pa := bl1 u4 (.cells #[.int .i64 a0_0, .slice y1 len0_1 len0_1, .int .i64 a0_2, .slice y3 len0_3 len0_3, .slice y4 len0_4 len0_4, .slice y5 len0_5 len0_5] 28)
  replace o2 := o2.below pa
  replace f0 := cell_al f0 (.cells #[.int .i64 a0_0, .slice y1 len0_1 len0_1, .int .i64 a0_2, .slice y3 len0_3 len0_3, .slice y4 len0_4 len0_4, .slice y5 len0_5 len0_5] 28)
  replace f1 := cell_al f1 (.cells #[.int .i64 a0_0, .slice y1 len0_1 len0_1, .int .i64 a0_2, .slice y3 len0_3 len0_3, .slice y4 len0_4 len0_4, .slice y5 len0_5 len0_5] 28)
  replace f2 := cell_al f2 (.cells #[.int .i64 a0_0, .slice y1 len0_1 len0_1, .int .i64 a0_2, .slice y3 len0_3 len0_3, .slice y4 len0_4 len0_4, .slice y5 len0_5 len0_5] 28)
  replace f3 := cell_al f3 (.cells #[.int .i64 a0_0, .slice y1 len0_1 len0_1, .int .i64 a0_2, .slice y3 len0_3 len0_3, .slice y4 len0_4 len0_4, .slice y5 len0_5 len0_5] 28)
  replace f4 := cell_al f4 (.cells #[.int .i64 a0_0, .slice y1 len0_1 len0_1, .int .i64 a0_2, .slice y3 len0_3 len0_3, .slice y4 len0_4 len0_4, .slice y5 len0_5 len0_5] 28)
  replace f5 := cell_al f5 (.cells #[.int .i64 a0_0, .slice y1 len0_1 len0_1, .int .i64 a0_2, .slice y3 len0_3 len0_3, .slice y4 len0_4 len0_4, .slice y5 len0_5 len0_5] 28)
  go_wp2_with fail
  refine (implIsDesk _ _ _ _ _ _ _ _ _ _ _ _ _ _ _ _ _ _ _ o2.s1 o2.s2 o2.s3 o2.s4 (by omega) (by omega) (by omega) (by omega)).mono ?_
  rintro e u5 ⟨rfl, t5⟩
  have B5 := bnext (bnext B4 pa) t5
  replace f0 := cell_be t5 f0
  replace f1 := cell_be t5 f1
  replace f2 := cell_be t5 f2
  replace f3 := cell_be t5 f3
  replace f4 := cell_be t5 f4
  replace f5 := cell_be t5 f5
  have k0 : u5.cell? ⟨u4.heap.size, 0, none⟩ = some (.int .i64 a0_0) := cell_be t5 (by simp [go_sem])
  have k1 : u5.cell? ⟨u4.heap.size, 1, none⟩ = some (.slice y1 len0_1 len0_1) := cell_be t5 (by simp [go_sem])
  have k2 : u5.cell? ⟨u4.heap.size, 2, none⟩ = some (.int .i64 a0_2) := cell_be t5 (by simp [go_sem])
  have k3 : u5.cell? ⟨u4.heap.size, 3, none⟩ = some (.slice y3 len0_3 len0_3) := cell_be t5 (by simp [go_sem])
  have k4 : u5.cell? ⟨u4.heap.size, 4, none⟩ = some (.slice y4 len0_4 len0_4) := cell_be t5 (by simp [go_sem])
  have k5 : u5.cell? ⟨u4.heap.size, 5, none⟩ = some (.slice y5 len0_5 len0_5) := cell_be t5 (by simp [go_sem])
  have sz5 : u4.heap.size + 1 ≤ u5.heap.size := by have := t5.size; simp at this; omega
  replace o2 := o2.below t5
  clear t5
  have hbr := (Below.refl u5.heap.size u5).drew
  have F : ∀ w', Below u5.heap.size u5 w' → (w'.cell? ⟨w.heap.size, 0, none⟩ = some (.int .i64 a0_0)) ∧ (w'.cell? ⟨w.heap.size, 1, none⟩ = some (.slice a0_1 len0_1 cap0_1)) ∧ (w'.cell? ⟨w.heap.size, 2, none⟩ = some (.int .i64 a0_2)) ∧ (w'.cell? ⟨w.heap.size, 3, none⟩ = some (.slice a0_3 len0_3 cap0_3)) ∧ (w'.cell? ⟨w.heap.size, 4, none⟩ = some (.slice a0_4 len0_4 cap0_4)) ∧ (w'.cell? ⟨w.heap.size, 5, none⟩ = some (.slice a0_5 len0_5 cap0_5)) ∧ (w'.cell? ⟨u4.heap.size, 0, none⟩ = some (.int .i64 a0_0)) ∧ (w'.cell? ⟨u4.heap.size, 1, none⟩ = some (.slice y1 len0_1 len0_1)) ∧ (w'.cell? ⟨u4.heap.size, 2, none⟩ = some (.int .i64 a0_2)) ∧ (w'.cell? ⟨u4.heap.size, 3, none⟩ = some (.slice y3 len0_3 len0_3)) ∧ (w'.cell? ⟨u4.heap.size, 4, none⟩ = some (.slice y4 len0_4 len0_4)) ∧ (w'.cell? ⟨u4.heap.size, 5, none⟩ = some (.slice y5 len0_5 len0_5)) := fun w' hb => ⟨cell_be hb f0, cell_be hb f1, cell_be hb f2, cell_be hb f3, cell_be hb f4, cell_be hb f5, cell_be hb k0, cell_be hb k1, cell_be hb k2, cell_be hb k3, cell_be hb k4, cell_be hb k5⟩
  go_wp2_with fail
  go_region_held3 (fun w' => (w'.cell? ⟨w.heap.size, 0, none⟩ = some (.int .i64 a0_0)) ∧ (w'.cell? ⟨w.heap.size, 1, none⟩ = some (.slice a0_1 len0_1 cap0_1)) ∧ (w'.cell? ⟨w.heap.size, 2, none⟩ = some (.int .i64 a0_2)) ∧ (w'.cell? ⟨w.heap.size, 3, none⟩ = some (.slice a0_3 len0_3 cap0_3)) ∧ (w'.cell? ⟨w.heap.size, 4, none⟩ = some (.slice a0_4 len0_4 cap0_4)) ∧ (w'.cell? ⟨w.heap.size, 5, none⟩ = some (.slice a0_5 len0_5 cap0_5)) ∧ (w'.cell? ⟨u4.heap.size, 0, none⟩ = some (.int .i64 a0_0)) ∧ (w'.cell? ⟨u4.heap.size, 1, none⟩ = some (.slice y1 len0_1 len0_1)) ∧ (w'.cell? ⟨u4.heap.size, 2, none⟩ = some (.int .i64 a0_2)) ∧ (w'.cell? ⟨u4.heap.size, 3, none⟩ = some (.slice y3 len0_3 len0_3)) ∧ (w'.cell? ⟨u4.heap.size, 4, none⟩ = some (.slice y4 len0_4 len0_4)) ∧ (w'.cell? ⟨u4.heap.size, 5, none⟩ = some (.slice y5 len0_5 len0_5)))
    (exact F _ (by assumption))
    (first
    | (go_at_call 12; refine (toD _ _ _ _ _ _ _ _ _ _ _ _ _ _ _ _ _ _ _ ((s1.below B5).below hbr) ((s3.below B5).below hbr) ((s4.below B5).below hbr) ((s5.below B5).below hbr) (by omega) (by omega) (by omega) (by omega)).mono ?_; rintro e wn ⟨z1, z3, z4, z5, rfl, o3, hn6⟩; have hm6 := bnext hbr hn6)
    | (go_at_call 7; refine (eqD _ _ _ _ _ _ _ _ _ _ _ _ _ _ _ _ _ _ _ _ _ _ _ _ _ _ _ (o2.s1.below hm6) (o2.s2.below hm6) (o2.s3.below hm6) (o2.s4.below hm6) o3.s1 o3.s2 o3.s3 o3.s4 (by omega) (by omega) (by omega) (by omega)).mono ?_; rintro e wq ⟨rfl, hr6⟩; have t6 := bnext hm6 hr6))
  all_goals go_wp2
  go_ret
  exact ⟨rfl, bnext B5 t6⟩

set_option maxRecDepth 100000 in
theorem lifted (os : Os) (started : os.Started) (H : Type) (enc : TypeId × Value → H) :
    ReturnsInHanded {} Try.checked os 4 .any (Rows.fnExactIsDeskSpec.pre6 enc Try.prog Try.f4 Rows.fnExactIsDeskRow.domain false) (Rows.fnExactIsDeskSpec.post enc Try.prog Try.f4 false true false false) := by
  refine returnsInHanded_of_change (C := Try.checked) own started (by kernel_rfl) Try.func4
    (ChangeSpec.witness6 (enc := enc) (C := Try.checked) false ⟨#[], #[.agg #[.int .i64 0, .slice none 0 0, .int .i64 0, .slice none 0 0, .slice none 0 0, .slice none 0 0]], []⟩ 8 (by kernel_rfl) (by kernel_rfl) (by kernel_rfl) (by kernel_rfl)) ?_
  intro W base args ds gs before hval0 hW hcnd _
  have hval : ∀ (j : Nat) t v, Try.f4.params[j]? = some t → args[j]? = some v → Value.okWide Try.prog W .any base t v := hval0
  have hW' := hW
  obtain ⟨p, q, hA0, hV, rfl, hfz, hnd⟩ := hW
  have hA : DataW.TrodAll enc Try.prog W 0 (fun _ => true) true Try.f4.params.toList args.toList ds p := hA0
  rw [Try.params4] at hA hval
  obtain ⟨v0, vs0, d0, ds0, p0, q0, hargs, rfl, rfl, h0, r0⟩ := trodAll_cons hA
  obtain ⟨rfl, rfl, rfl⟩ := trodAll_nil r0
  obtain rfl : args = #[v0] := by cases args; simp_all
  obtain ⟨rfl, rfl⟩ := trodVars_none hV
  have k0 := h0
  have lt0 : ∀ x ∈ p0, x.block < W.heap.size := by obtain ⟨m, hm⟩ := k0; exact DataW.trod_lt m _ _ _ hm
  obtain ⟨cs0, rfl, hsz0⟩ := okWide_struct Try.underlying36 (hval 0 36 v0 rfl rfl)
  obtain ⟨c0_0, c0_1, c0_2, c0_3, c0_4, c0_5, rfl⟩ := array6_fnExactIsDesk (hsz0.trans (show Try.prog.cellsOf 36 = 6 by kernel_rfl))
  obtain ⟨fu0, hf0⟩ := h0
  obtain ⟨ys0_0, ys0_1, ys0_2, ns0, es0, -, qs0_0, qs0_1, qs0_2⟩ := Deep.trod_struct3 Try.underlying36 hf0
  have Es0_0 : Try.prog.cellsOf 33 = 2 := by kernel_rfl
  simp [Es0_0, Value.cells] at qs0_0
  obtain ⟨ys0_0_0, ys0_0_1, ns0_0, es0_0, -, qs0_0_0, qs0_0_1⟩ := trod_struct2 Try.underlying33 qs0_0
  have Es0_0_0 : Try.prog.cellsOf 2 = 1 := by kernel_rfl
  simp [Es0_0_0, Value.cells] at qs0_0_0
  have h0_0 := qs0_0_0
  have Es0_0_1 : Try.prog.cellsOf 22 = 1 := by kernel_rfl
  simp [Es0_0_1, Value.cells] at qs0_0_1
  have h0_1 := qs0_0_1
  have Es0_1 : Try.prog.cellsOf 34 = 3 := by kernel_rfl
  simp [Es0_1, Value.cells] at qs0_1
  obtain ⟨ys0_1_0, ys0_1_1, ys0_1_2, ns0_1, es0_1, -, qs0_1_0, qs0_1_1, qs0_1_2⟩ := Deep.trod_struct3 Try.underlying34 qs0_1
  have Es0_1_0 : Try.prog.cellsOf 2 = 1 := by kernel_rfl
  simp [Es0_1_0, Value.cells] at qs0_1_0
  have h0_2 := qs0_1_0
  have Es0_1_1 : Try.prog.cellsOf 22 = 1 := by kernel_rfl
  simp [Es0_1_1, Value.cells] at qs0_1_1
  have h0_3 := qs0_1_1
  have Es0_1_2 : Try.prog.cellsOf 22 = 1 := by kernel_rfl
  simp [Es0_1_2, Value.cells] at qs0_1_2
  have h0_4 := qs0_1_2
  have Es0_2 : Try.prog.cellsOf 22 = 1 := by kernel_rfl
  simp [Es0_2, Value.cells] at qs0_2
  have h0_5 := qs0_2
  obtain ⟨a0_0, e0_0, g0_0, w0_0⟩ := DataW.trod_int Try.underlying2 h0_0
  simp at e0_0
  subst e0_0
  obtain ⟨a0_1, len0_1, cap0_1, e0_1⟩ := Joins.slice_form Try.underlying22 h0_1
  simp at e0_1
  subst e0_1
  obtain ⟨z0_1, w0_1⟩ : ∃ zs, IsRow .i64 W a0_1 len0_1 cap0_1 zs := by
    have hf := h0_1
    rcases open_ints Try.underlying22 Try.underlying2 (by kernel_rfl) hf with ⟨hcs, _⟩ | ⟨x, l, c, zs, hcs, _, hl, hm, hz, _, hcell, hwz⟩
    · simp [Value.cells] at hcs
      obtain ⟨rfl, rfl, rfl⟩ := hcs
      exact ⟨[], .inl ⟨rfl, rfl, rfl, rfl⟩⟩
    · simp [Value.cells] at hcs
      obtain ⟨rfl, rfl, rfl⟩ := hcs
      exact ⟨zs, .inr ⟨_, rfl, hl, hm, by simpa using hz, hcell, hwz⟩⟩
  obtain ⟨a0_2, e0_2, g0_2, w0_2⟩ := DataW.trod_int Try.underlying2 h0_2
  simp at e0_2
  subst e0_2
  obtain ⟨a0_3, len0_3, cap0_3, e0_3⟩ := Joins.slice_form Try.underlying22 h0_3
  simp at e0_3
  subst e0_3
  obtain ⟨z0_3, w0_3⟩ : ∃ zs, IsRow .i64 W a0_3 len0_3 cap0_3 zs := by
    have hf := h0_3
    rcases open_ints Try.underlying22 Try.underlying2 (by kernel_rfl) hf with ⟨hcs, _⟩ | ⟨x, l, c, zs, hcs, _, hl, hm, hz, _, hcell, hwz⟩
    · simp [Value.cells] at hcs
      obtain ⟨rfl, rfl, rfl⟩ := hcs
      exact ⟨[], .inl ⟨rfl, rfl, rfl, rfl⟩⟩
    · simp [Value.cells] at hcs
      obtain ⟨rfl, rfl, rfl⟩ := hcs
      exact ⟨zs, .inr ⟨_, rfl, hl, hm, by simpa using hz, hcell, hwz⟩⟩
  obtain ⟨a0_4, len0_4, cap0_4, e0_4⟩ := Joins.slice_form Try.underlying22 h0_4
  simp at e0_4
  subst e0_4
  obtain ⟨z0_4, w0_4⟩ : ∃ zs, IsRow .i64 W a0_4 len0_4 cap0_4 zs := by
    have hf := h0_4
    rcases open_ints Try.underlying22 Try.underlying2 (by kernel_rfl) hf with ⟨hcs, _⟩ | ⟨x, l, c, zs, hcs, _, hl, hm, hz, _, hcell, hwz⟩
    · simp [Value.cells] at hcs
      obtain ⟨rfl, rfl, rfl⟩ := hcs
      exact ⟨[], .inl ⟨rfl, rfl, rfl, rfl⟩⟩
    · simp [Value.cells] at hcs
      obtain ⟨rfl, rfl, rfl⟩ := hcs
      exact ⟨zs, .inr ⟨_, rfl, hl, hm, by simpa using hz, hcell, hwz⟩⟩
  obtain ⟨a0_5, len0_5, cap0_5, e0_5⟩ := Joins.slice_form Try.underlying22 h0_5
  simp at e0_5
  subst e0_5
  obtain ⟨z0_5, w0_5⟩ : ∃ zs, IsRow .i64 W a0_5 len0_5 cap0_5 zs := by
    have hf := h0_5
    rcases open_ints Try.underlying22 Try.underlying2 (by kernel_rfl) hf with ⟨hcs, _⟩ | ⟨x, l, c, zs, hcs, _, hl, hm, hz, _, hcell, hwz⟩
    · simp [Value.cells] at hcs
      obtain ⟨rfl, rfl, rfl⟩ := hcs
      exact ⟨[], .inl ⟨rfl, rfl, rfl, rfl⟩⟩
    · simp [Value.cells] at hcs
      obtain ⟨rfl, rfl, rfl⟩ := hcs
      exact ⟨zs, .inr ⟨_, rfl, hl, hm, by simpa using hz, hcell, hwz⟩⟩
  clear hA0 hval0
  refine (walk a0_0 a0_1 len0_1 cap0_1 z0_1 a0_2 a0_3 len0_3 cap0_3 z0_3 a0_4 len0_4 cap0_4 z0_4 a0_5 len0_5 cap0_5 z0_5 W w0_0 w0_1 w0_2 w0_3 w0_4 w0_5).mono fun e W' ⟨he, bel⟩ => ?_
  subst he
  exact ⟨_, rfl, _, _, _, [], _, [], hW', trodAll_mk1 (shut_bool Try.underlying4 _), (trodAll_cons_mk (Below.trod laidOut (by kernel_rfl) (of_decide_eq_true (by kernel_rfl)) k0 bel lt0) trodAll_mk0), rfl, bel.frame _, fun h => by cases h⟩

theorem over : Rows.fnExactIsDeskRow.holds Try.pinned (OpenSpec.ofChange Rows.fnExactIsDeskSpec) :=
  OpenClaim.holds_of_wide 4 Try.f4 rfl rfl rfl rfl rfl rfl rfl ⟨rfl, rfl, rfl, rfl, rfl⟩ rfl rfl rfl rfl rfl (by kernel_rfl) Try.func4 (by kernel_rfl)
    (of_decide_eq_true (by kernel_rfl)) (by unfold Func.isWrapper; first | (rw [if_pos (by decide +kernel)]; kernel_rfl) | (rw [if_neg (by decide +kernel)]; exact ⟨rfl, rfl⟩))
    (fun os started H enc _ => lifted os started H enc)

theorem proved : Rows.FnExactIsDeskSaid := over
#print axioms proved
end Go.Proofs.Ytpoabedlcljibaa.fnExactIsDesk

/- The law 'FnExactPairLists' returns true for every input and leaves its arguments as they were. Conditions: none. -/
import Derived.Test.YtgaafhcnfeipbaaRows
import Derived.WalkKit
import Derived.ProofKit
import Derived.OpenShut
import Derived.ShutString
import Derived.ChangeOld
import Derived.Lib.SmallJoins
import Derived.Below
import Derived.Test.YtgaafhcnfeipbaaBi
namespace Go.Proofs.Ytgaafhcnfeipbaa.fnExactPairLists
open Go.ChangeShapes Go.WideShapes Go.ChangeAt Go.RowKit
open Go.ChangeMaps (open_string shut_string)
set_option linter.unusedVariables false
set_option linter.unusedSimpArgs false

theorem own : ownKnob Try.prog.godebug = none := by kernel_rfl
theorem laidOut : laidOutB Try.prog = true := by kernel_rfl

/-- What the walk is told of a slice of integers that came in. -/
def IsRow (k : IntKind) (w : World) (a : Option Addr) (len cap : Nat) (zs : List Int) : Prop :=
  (a = none ∧ len = 0 ∧ cap = 0 ∧ zs = []) ∨
  ∃ x, a = some x ∧ len ≤ cap ∧ cap ≤ maxLen ∧ zs.length = cap ∧ (∀ i, i < zs.length → w.cell? (x.add i) = some (.int k (zs.getD i 0))) ∧ ∀ n ∈ zs, (Lit.int k n).wf = true

set_option maxRecDepth 100000 in
set_option maxHeartbeats 3000000 in
theorem walk (a0_0 : Int) (a0_1 : Option Addr) (len0_1 cap0_1 : Nat) (z0_1 : List Int) (a0_2 : Option Addr) (len0_2 cap0_2 : Nat) (z0_2 : List Int) (a1 : Option Addr) (len1 cap1 : Nat) (z1 : List Int) (a2 : Option Addr) (len2 cap2 : Nat) (z2 : List Int) (w : World) (w0_0 : (Lit.int .i64 a0_0).wf = true) (w0_1 : IsRow .i64 w a0_1 len0_1 cap0_1 z0_1) (w0_2 : IsRow .i64 w a0_2 len0_2 cap0_2 z0_2) (w1 : IsRow .i64 w a1 len1 cap1 z1) (w2 : IsRow .i64 w a2 len2 cap2 z2) :
    Calls Try.prog 5 #[.agg #[.int .i64 a0_0, .slice a0_1 len0_1 cap0_1, .slice a0_2 len0_2 cap0_2], .slice a1 len1 cap1, .slice a2 len2 cap2] w fun e w' => e = .returned (.bool true) ∧ Below w.heap.size w w' := by
  have s0_1 := sl_of_row w0_1
  have rs0_1 := row_len w0_1
  have s0_2 := sl_of_row w0_2
  have rs0_2 := row_len w0_2
  have s1 := sl_of_row w1
  have rs1 := row_len w1
  have s2 := sl_of_row w2
  have rs2 := row_len w2
  clear w0_0 w0_1 w0_2 w1 w2
  have b0 := bl1 w (.cells #[.int .i64 a0_0, .slice a0_1 len0_1 cap0_1, .slice a0_2 len0_2 cap0_2] 30)
  by_cases L1 : (1048576 : Int) < (len1 : Int)
  · go_enter Try.func5, Try.ntmps5
    go_wp2
    go_ret
    exact ⟨rfl, b0⟩
  by_cases L2 : (1048576 : Int) < (len2 : Int)
  · go_enter Try.func5, Try.ntmps5
    go_wp2
    go_ret
    exact ⟨rfl, b0⟩
  by_cases L0 : (1048576 : Int) < (len0_1 : Int) + (len0_2 : Int)
  · go_enter Try.func5, Try.ntmps5
    go_wp2_with fail
    refine (szJ_no _ _ _ _ _ _ _ _ _ rs0_1 rs0_2 (by omega) (by omega) (by omega)).mono ?_
    rintro e v ⟨rfl, y⟩
    go_wp2
    go_ret
    exact ⟨rfl, bnext b0 y⟩
  go_enter Try.func5, Try.ntmps5
  go_wp2_with fail
  refine (szJ _ _ _ _ _ _ _ _ _ (by omega) (by omega) (by omega) (by omega) (by omega)).mono ?_
  rintro e u1 ⟨rfl, t1⟩
  have B1 := bnext b0 t1
  have sz1 : w.heap.size + 1 ≤ u1.heap.size := by have := t1.size; (try simp at this); omega
  have f0_0 : u1.cell? ⟨w.heap.size, 0, none⟩ = some (.int .i64 a0_0) := cell_be t1 (by simp [go_sem])
  have f0_1 : u1.cell? ⟨w.heap.size, 1, none⟩ = some (.slice a0_1 len0_1 cap0_1) := cell_be t1 (by simp [go_sem])
  have f0_2 : u1.cell? ⟨w.heap.size, 2, none⟩ = some (.slice a0_2 len0_2 cap0_2) := cell_be t1 (by simp [go_sem])
  clear t1
  go_wp2_with fail
  refine (toJ _ _ _ _ _ _ _ _ _ _ (s0_1.below B1) (s0_2.below B1) (by omega) (by omega)).mono ?_
  rintro e u2 ⟨x1, y1, rfl, o1, t2⟩
  have B2 := bnext B1 t2
  replace f0_0 := cell_be t2 f0_0
  replace f0_1 := cell_be t2 f0_1
  replace f0_2 := cell_be t2 f0_2
  have sz2 := t2.size
  clear t2
  go_wp2_with fail
  refine (toI _ _ _ _ _ (s1.below B2) (by omega)).mono ?_
  rintro e u3 ⟨x2, rfl, o2, t3⟩
  have B3 := bnext B2 t3
  replace f0_0 := cell_be t3 f0_0
  replace f0_1 := cell_be t3 f0_1
  replace f0_2 := cell_be t3 f0_2
  have sz3 := t3.size
  replace o1 := o1.below t3
  replace o2 := OZ.of o2 s1.len.symm
  clear t3
  go_wp2_with fail
  refine (toI _ _ _ _ _ (s2.below B3) (by omega)).mono ?_
  rintro e u4 ⟨x3, rfl, o3, t4⟩
  have B4 := bnext B3 t4
  replace f0_0 := cell_be t4 f0_0
  replace f0_1 := cell_be t4 f0_1
  replace f0_2 := cell_be t4 f0_2
  have sz4 := t4.size
  replace o1 := o1.below t4
  replace o2 := o2.below t4
  replace o3 := OZ.of o3 s2.len.symm
  clear t4
  go_wp2_with fail
  refine (specPairLists _ _ _ _ _ _ _ _ _ _ _ _ _ _ _ _ _ _ (JZ.sl1 o1) (JZ.sl2 o1) (OZ.sl o2) (OZ.sl o3) (by omega) (by omega) (by omega) (by omega)).mono ?_
  rintro e u5 ⟨rfl, t5⟩
  have B5 := bnext B4 t5
  replace f0_0 := cell_be t5 f0_0
  replace f0_1 := cell_be t5 f0_1
  replace f0_2 := cell_be t5 f0_2
  have sz5 := t5.size
  replace o1 := o1.below t5
  replace o2 := o2.below t5
  replace o3 := o3.below t5
  clear t5
  clear o1
  clear o2
  clear o3
  go_wp2_with fail
  refine (toJ _ _ _ _ _ _ _ _ _ _ (s0_1.below B5) (s0_2.below B5) (by omega) (by omega)).mono ?_
  rintro e u6 ⟨x5, y5, rfl, o5, t6⟩
  have B6 := bnext B5 t6
  replace f0_0 := cell_be t6 f0_0
  replace f0_1 := cell_be t6 f0_1
  replace f0_2 := cell_be t6 f0_2
  have sz6 := t6.size
  clear t6
  have pa6 := bl1 u6 (.cells #[.int .i64 a0_0, .slice x5 len0_1 len0_1, .slice y5 len0_2 len0_2] 24)
  replace o5 := o5.below pa6
  replace f0_0 := cell_al f0_0 (.cells #[.int .i64 a0_0, .slice x5 len0_1 len0_1, .slice y5 len0_2 len0_2] 24)
  replace f0_1 := cell_al f0_1 (.cells #[.int .i64 a0_0, .slice x5 len0_1 len0_1, .slice y5 len0_2 len0_2] 24)
  replace f0_2 := cell_al f0_2 (.cells #[.int .i64 a0_0, .slice x5 len0_1 len0_1, .slice y5 len0_2 len0_2] 24)
  go_wp2_with fail
  refine (toI _ _ _ _ _ (s1.below (bnext B6 pa6)) (by omega)).mono ?_
  rintro e u7 ⟨x6, rfl, o6, t7⟩
  have B7 := bnext (bnext B6 pa6) t7
  replace f0_0 := cell_be t7 f0_0
  replace f0_1 := cell_be t7 f0_1
  replace f0_2 := cell_be t7 f0_2
  have sz7 : u6.heap.size + 1 ≤ u7.heap.size := by have := t7.size; simp at this; omega
  have ko5_0 : u7.cell? ⟨u6.heap.size, 0, none⟩ = some (.int .i64 a0_0) := cell_be t7 (by simp [go_sem])
  have ko5_1 : u7.cell? ⟨u6.heap.size, 1, none⟩ = some (.slice x5 len0_1 len0_1) := cell_be t7 (by simp [go_sem])
  have ko5_2 : u7.cell? ⟨u6.heap.size, 2, none⟩ = some (.slice y5 len0_2 len0_2) := cell_be t7 (by simp [go_sem])
  replace o5 := o5.below t7
  replace o6 := o6.mono (B' := u6.heap.size + 1) (by simp)
  replace o6 := OZ.of o6 s1.len.symm
  clear t7
  go_wp2_with fail
  refine (toI _ _ _ _ _ (s2.below B7) (by omega)).mono ?_
  rintro e u8 ⟨x7, rfl, o7, t8⟩
  have B8 := bnext B7 t8
  replace f0_0 := cell_be t8 f0_0
  replace f0_1 := cell_be t8 f0_1
  replace f0_2 := cell_be t8 f0_2
  replace ko5_0 := cell_be t8 ko5_0
  replace ko5_1 := cell_be t8 ko5_1
  replace ko5_2 := cell_be t8 ko5_2
  have sz8 := t8.size
  replace o5 := o5.below t8
  replace o6 := o6.below t8
  replace o7 := OZ.of o7 s2.len.symm
  clear t8
  go_wp2_with fail
  refine (implPairLists _ _ _ _ _ _ _ _ _ _ _ _ _ _ _ _ _ _ (JZ.sl1 o5) (JZ.sl2 o5) (OZ.sl o6) (OZ.sl o7) (by omega) (by omega) (by omega) (by omega)).mono ?_
  rintro e u9 ⟨rfl, t9⟩
  have B9 := bnext B8 t9
  replace f0_0 := cell_be t9 f0_0
  replace f0_1 := cell_be t9 f0_1
  replace f0_2 := cell_be t9 f0_2
  replace ko5_0 := cell_be t9 ko5_0
  replace ko5_1 := cell_be t9 ko5_1
  replace ko5_2 := cell_be t9 ko5_2
  have sz9 := t9.size
  replace o5 := o5.below t9
  replace o6 := o6.below t9
  replace o7 := o7.below t9
  clear t9
  have hbr10 := (Below.refl u9.heap.size u9).drew
  have F10 : ∀ w', Below u9.heap.size u9 w' → w'.cell? ⟨w.heap.size, 0, none⟩ = some (.int .i64 a0_0) ∧ w'.cell? ⟨w.heap.size, 1, none⟩ = some (.slice a0_1 len0_1 cap0_1) ∧ w'.cell? ⟨w.heap.size, 2, none⟩ = some (.slice a0_2 len0_2 cap0_2) ∧ w'.cell? ⟨u6.heap.size, 0, none⟩ = some (.int .i64 a0_0) ∧ w'.cell? ⟨u6.heap.size, 1, none⟩ = some (.slice x5 len0_1 len0_1) ∧ w'.cell? ⟨u6.heap.size, 2, none⟩ = some (.slice y5 len0_2 len0_2) := fun w' hb => ⟨cell_be hb f0_0, cell_be hb f0_1, cell_be hb f0_2, cell_be hb ko5_0, cell_be hb ko5_1, cell_be hb ko5_2⟩
  go_wp2_with fail
  go_region_held3 (fun w' => w'.cell? ⟨w.heap.size, 0, none⟩ = some (.int .i64 a0_0) ∧ w'.cell? ⟨w.heap.size, 1, none⟩ = some (.slice a0_1 len0_1 cap0_1) ∧ w'.cell? ⟨w.heap.size, 2, none⟩ = some (.slice a0_2 len0_2 cap0_2) ∧ w'.cell? ⟨u6.heap.size, 0, none⟩ = some (.int .i64 a0_0) ∧ w'.cell? ⟨u6.heap.size, 1, none⟩ = some (.slice x5 len0_1 len0_1) ∧ w'.cell? ⟨u6.heap.size, 2, none⟩ = some (.slice y5 len0_2 len0_2))
    (exact F10 _ (by assumption))
    (first
    | (go_at_call 20; refine (toJ _ _ _ _ _ _ _ _ _ _ ((s0_1.below B9).below hbr10) ((s0_2.below B9).below hbr10) (by omega) (by omega)).mono ?_; rintro e wn10 ⟨xn10, yn10, rfl, on10, hn10⟩; have hm10 := bnext hbr10 hn10)
    | (go_at_call 15; refine (eqJ _ _ _ _ _ _ _ _ _ _ _ _ _ _ ((JZ.sl1 o5).below hm10) on10.sl1 ((JZ.sl2 o5).below hm10) on10.sl2 (by omega) (by omega)).mono ?_; rintro e u10 ⟨rfl, hr10⟩; have t10 := bnext hm10 hr10))
  clear F10 on10 hn10 hm10 hr10 hbr10
  have B10 := bnext B9 t10
  have sz10 := t10.size
  replace f0_0 := cell_be t10 f0_0
  replace f0_1 := cell_be t10 f0_1
  replace f0_2 := cell_be t10 f0_2
  replace ko5_0 := cell_be t10 ko5_0
  replace ko5_1 := cell_be t10 ko5_1
  replace ko5_2 := cell_be t10 ko5_2
  replace o5 := o5.below t10
  replace o6 := o6.below t10
  replace o7 := o7.below t10
  clear t10
  go_wp2_with fail
  refine (toI _ _ _ _ _ (s1.below B10) (by omega)).mono ?_
  rintro e u11 ⟨x9, rfl, o9, t11⟩
  have B11 := bnext B10 t11
  replace f0_0 := cell_be t11 f0_0
  replace f0_1 := cell_be t11 f0_1
  replace f0_2 := cell_be t11 f0_2
  replace ko5_0 := cell_be t11 ko5_0
  replace ko5_1 := cell_be t11 ko5_1
  replace ko5_2 := cell_be t11 ko5_2
  have sz11 := t11.size
  replace o5 := o5.below t11
  replace o6 := o6.below t11
  replace o7 := o7.below t11
  replace o9 := OZ.of o9 s1.len.symm
  clear t11
  go_wp2_with fail
  refine (eqI _ _ _ _ _ _ _ (OZ.sl o6) (OZ.sl o9) (by omega)).mono ?_
  rintro e u12 ⟨rfl, t12⟩
  have B12 := bnext B11 t12
  replace f0_0 := cell_be t12 f0_0
  replace f0_1 := cell_be t12 f0_1
  replace f0_2 := cell_be t12 f0_2
  replace ko5_0 := cell_be t12 ko5_0
  replace ko5_1 := cell_be t12 ko5_1
  replace ko5_2 := cell_be t12 ko5_2
  have sz12 := t12.size
  replace o5 := o5.below t12
  replace o6 := o6.below t12
  replace o7 := o7.below t12
  replace o9 := o9.below t12
  clear t12
  clear o9
  go_wp2_with fail
  refine (toI _ _ _ _ _ (s2.below B12) (by omega)).mono ?_
  rintro e u13 ⟨x10, rfl, o10, t13⟩
  have B13 := bnext B12 t13
  replace f0_0 := cell_be t13 f0_0
  replace f0_1 := cell_be t13 f0_1
  replace f0_2 := cell_be t13 f0_2
  replace ko5_0 := cell_be t13 ko5_0
  replace ko5_1 := cell_be t13 ko5_1
  replace ko5_2 := cell_be t13 ko5_2
  have sz13 := t13.size
  replace o5 := o5.below t13
  replace o6 := o6.below t13
  replace o7 := o7.below t13
  replace o10 := OZ.of o10 s2.len.symm
  clear t13
  go_wp2_with fail
  refine (eqI _ _ _ _ _ _ _ (OZ.sl o7) (OZ.sl o10) (by omega)).mono ?_
  rintro e u14 ⟨rfl, t14⟩
  have B14 := bnext B13 t14
  replace f0_0 := cell_be t14 f0_0
  replace f0_1 := cell_be t14 f0_1
  replace f0_2 := cell_be t14 f0_2
  replace ko5_0 := cell_be t14 ko5_0
  replace ko5_1 := cell_be t14 ko5_1
  replace ko5_2 := cell_be t14 ko5_2
  have sz14 := t14.size
  replace o5 := o5.below t14
  replace o6 := o6.below t14
  replace o7 := o7.below t14
  replace o10 := o10.below t14
  clear t14
  clear o10
  go_wp2
  go_ret
  exact ⟨rfl, B14⟩

set_option maxRecDepth 100000 in
theorem lifted (os : Os) (started : os.Started) (H : Type) (enc : TypeId × Value → H) :
    ReturnsInHanded {} Try.checked os 5 .any (Rows.fnExactPairListsSpec.pre6 enc Try.prog Try.f5 Rows.fnExactPairListsRow.domain false) (Rows.fnExactPairListsSpec.post enc Try.prog Try.f5 false true false false) := by
  refine returnsInHanded_of_change (C := Try.checked) own started (by kernel_rfl) Try.func5
    (ChangeSpec.witness6 (enc := enc) (C := Try.checked) false ⟨#[], #[.agg #[.int .i64 0, .slice none 0 0, .slice none 0 0], .slice none 0 0, .slice none 0 0], []⟩ 8 (by kernel_rfl) (by kernel_rfl) (by kernel_rfl) (by kernel_rfl)) ?_
  intro W base args ds gs before hval0 hW hcnd _
  have hval : ∀ (j : Nat) t v, Try.f5.params[j]? = some t → args[j]? = some v → Value.okWide Try.prog W .any base t v := hval0
  have hW' := hW
  obtain ⟨p, q, hA0, hV, rfl, hfz, hnd⟩ := hW
  have hA : DataW.TrodAll enc Try.prog W 0 (fun _ => true) true Try.f5.params.toList args.toList ds p := hA0
  rw [Try.params5] at hA hval
  obtain ⟨v0, vs0, d0, ds0, p0, q0, hargs, rfl, rfl, h0, r0⟩ := trodAll_cons hA
  obtain ⟨v1, vs1, d1, ds1, p1, q1, rfl, rfl, rfl, h1, r1⟩ := trodAll_cons r0
  obtain ⟨v2, vs2, d2, ds2, p2, q2, rfl, rfl, rfl, h2, r2⟩ := trodAll_cons r1
  obtain ⟨rfl, rfl, rfl⟩ := trodAll_nil r2
  obtain rfl : args = #[v0, v1, v2] := by cases args; simp_all
  obtain ⟨rfl, rfl⟩ := trodVars_none hV
  have k0 := h0
  have lt0 : ∀ x ∈ p0, x.block < W.heap.size := by obtain ⟨m, hm⟩ := k0; exact DataW.trod_lt m _ _ _ hm
  obtain ⟨c0_0, c0_1, c0_2, y0_0, y0_1, y0_2, m0, rfl, rfl, rfl, h0_0, h0_1, h0_2⟩ := Joins.open_agg3 Try.underlying30 (by kernel_rfl) (by kernel_rfl) (hval 0 30 v0 rfl rfl) h0
  obtain ⟨a0_0, e0_0, g0_0, w0_0⟩ := DataW.trod_int Try.underlying2 h0_0
  simp at e0_0
  subst e0_0
  obtain ⟨a0_1, len0_1, cap0_1, e0_1⟩ := Joins.slice_form Try.underlying22 h0_1
  simp at e0_1
  subst e0_1
  obtain ⟨z0_1, w0_1⟩ : ∃ zs, IsRow .i64 W a0_1 len0_1 cap0_1 zs := by
    have hf := h0_1
    rcases open_ints Try.underlying22 Try.underlying2 (by kernel_rfl) hf with ⟨hcs, _⟩ | ⟨x, l, c, zs, hcs, _, hl, hm, hz, _, hcell, hwz⟩
    · simp [Value.cells] at hcs
      obtain ⟨rfl, rfl, rfl⟩ := hcs
      exact ⟨[], .inl ⟨rfl, rfl, rfl, rfl⟩⟩
    · simp [Value.cells] at hcs
      obtain ⟨rfl, rfl, rfl⟩ := hcs
      exact ⟨zs, .inr ⟨_, rfl, hl, hm, by simpa using hz, hcell, hwz⟩⟩
  obtain ⟨a0_2, len0_2, cap0_2, e0_2⟩ := Joins.slice_form Try.underlying22 h0_2
  simp at e0_2
  subst e0_2
  obtain ⟨z0_2, w0_2⟩ : ∃ zs, IsRow .i64 W a0_2 len0_2 cap0_2 zs := by
    have hf := h0_2
    rcases open_ints Try.underlying22 Try.underlying2 (by kernel_rfl) hf with ⟨hcs, _⟩ | ⟨x, l, c, zs, hcs, _, hl, hm, hz, _, hcell, hwz⟩
    · simp [Value.cells] at hcs
      obtain ⟨rfl, rfl, rfl⟩ := hcs
      exact ⟨[], .inl ⟨rfl, rfl, rfl, rfl⟩⟩
    · simp [Value.cells] at hcs
      obtain ⟨rfl, rfl, rfl⟩ := hcs
      exact ⟨zs, .inr ⟨_, rfl, hl, hm, by simpa using hz, hcell, hwz⟩⟩
  obtain ⟨a1, len1, cap1, rfl⟩ := okWide_slice Try.underlying22 (hval 1 22 v1 rfl rfl)
  have k1 := h1
  have lt1 : ∀ x ∈ p1, x.block < W.heap.size := by obtain ⟨m, hm⟩ := k1; exact DataW.trod_lt m _ _ _ hm
  obtain ⟨z1, w1⟩ : ∃ zs, IsRow .i64 W a1 len1 cap1 zs := by
    obtain ⟨fuel, hf⟩ := h1
    rcases open_ints Try.underlying22 Try.underlying2 (by kernel_rfl) hf with ⟨hcs, _⟩ | ⟨x, l, c, zs, hcs, _, hl, hm, hz, _, hcell, hwz⟩
    · simp [Value.cells] at hcs
      obtain ⟨rfl, rfl, rfl⟩ := hcs
      exact ⟨[], .inl ⟨rfl, rfl, rfl, rfl⟩⟩
    · simp [Value.cells] at hcs
      obtain ⟨rfl, rfl, rfl⟩ := hcs
      exact ⟨zs, .inr ⟨_, rfl, hl, hm, by simpa using hz, hcell, hwz⟩⟩
  obtain ⟨a2, len2, cap2, rfl⟩ := okWide_slice Try.underlying22 (hval 2 22 v2 rfl rfl)
  have k2 := h2
  have lt2 : ∀ x ∈ p2, x.block < W.heap.size := by obtain ⟨m, hm⟩ := k2; exact DataW.trod_lt m _ _ _ hm
  obtain ⟨z2, w2⟩ : ∃ zs, IsRow .i64 W a2 len2 cap2 zs := by
    obtain ⟨fuel, hf⟩ := h2
    rcases open_ints Try.underlying22 Try.underlying2 (by kernel_rfl) hf with ⟨hcs, _⟩ | ⟨x, l, c, zs, hcs, _, hl, hm, hz, _, hcell, hwz⟩
    · simp [Value.cells] at hcs
      obtain ⟨rfl, rfl, rfl⟩ := hcs
      exact ⟨[], .inl ⟨rfl, rfl, rfl, rfl⟩⟩
    · simp [Value.cells] at hcs
      obtain ⟨rfl, rfl, rfl⟩ := hcs
      exact ⟨zs, .inr ⟨_, rfl, hl, hm, by simpa using hz, hcell, hwz⟩⟩
  clear hA0 hval0
  refine (walk a0_0 a0_1 len0_1 cap0_1 z0_1 a0_2 len0_2 cap0_2 z0_2 a1 len1 cap1 z1 a2 len2 cap2 z2 W w0_0 w0_1 w0_2 w1 w2).mono fun e W' ⟨he, bel⟩ => ?_
  subst he
  exact ⟨_, rfl, _, _, _, [], _, [], hW', trodAll_mk1 (shut_bool Try.underlying4 _), (trodAll_cons_mk (Below.trod laidOut (by kernel_rfl) (of_decide_eq_true (by kernel_rfl)) k0 bel lt0) (trodAll_cons_mk (Below.trod laidOut (by kernel_rfl) (of_decide_eq_true (by kernel_rfl)) k1 bel lt1) (trodAll_cons_mk (Below.trod laidOut (by kernel_rfl) (of_decide_eq_true (by kernel_rfl)) k2 bel lt2) trodAll_mk0))), rfl, bel.frame _, fun h => by cases h⟩

theorem over : Rows.fnExactPairListsRow.holds Try.pinned (OpenSpec.ofChange Rows.fnExactPairListsSpec) :=
  OpenClaim.holds_of_wide 5 Try.f5 rfl rfl rfl rfl rfl rfl rfl ⟨rfl, rfl, rfl, rfl, rfl⟩ rfl rfl rfl rfl rfl (by kernel_rfl) Try.func5 (by kernel_rfl)
    (of_decide_eq_true (by kernel_rfl)) (by unfold Func.isWrapper; first | (rw [if_pos (by decide +kernel)]; kernel_rfl) | (rw [if_neg (by decide +kernel)]; exact ⟨rfl, rfl⟩))
    (fun os started H enc _ => lifted os started H enc)

theorem proved : Rows.FnExactPairListsSaid := over
#print axioms proved
end Go.Proofs.Ytgaafhcnfeipbaa.fnExactPairLists

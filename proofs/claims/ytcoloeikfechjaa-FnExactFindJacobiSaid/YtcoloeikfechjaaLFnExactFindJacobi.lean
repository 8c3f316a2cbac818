/- The law 'FnExactFindJacobi' returns true for every input and leaves its arguments as they were. Conditions: none. -/
import Derived.Test.YtcoloeikfechjaaRows
import Derived.WalkKit
import Derived.ProofKit
import Derived.OpenShut
import Derived.ShutString
import Derived.ChangeOld
import Derived.Below
import Derived.Test.YtcoloeikfechjaaFl
import Derived.Test.YtcoloeikfechjaaFm
namespace Go.Proofs.Ytcoloeikfechjaa.fnExactFindJacobi
open Go.ChangeShapes Go.WideShapes Go.ChangeAt Go.RowKit
open Go.ChangeMaps (open_string shut_string)
set_option linter.unusedVariables false
set_option linter.unusedSimpArgs false

theorem own : ownKnob Try.prog.godebug = none := by kernel_rfl
theorem laidOut : laidOutB Try.prog = true := by kernel_rfl

/-- WHAT THE WALK IS TOLD OF A SLICE OF INTEGERS THAT CAME IN: it is nil; or it leads to a row of 'cap' cells, the numbers 'zs' (the first 'len' are its elements, the rest its spare room), each fitting its kind. -/
def IsRow (k : IntKind) (w : World) (a : Option Addr) (len cap : Nat) (zs : List Int) : Prop :=
  (a = none ∧ len = 0 ∧ cap = 0 ∧ zs = []) ∨
  ∃ x, a = some x ∧ len ≤ cap ∧ cap ≤ maxLen ∧ zs.length = cap ∧ (∀ i, i < zs.length → w.cell? (x.add i) = some (.int k (zs.getD i 0))) ∧ ∀ n ∈ zs, (Lit.int k n).wf = true

/-! ### STEP 1: THE WALK: the Go text returns true, AND WRITES NOTHING THAT WAS THERE: 'Below w.heap.size w w'' (Derived/Below.lean: '.refl', '.alloc', '.drew', '.setCell' at a new block, '.trans'). Open each 'IsRow' by 'rcases' AHEAD of 'go_enter'; part every test ahead of the walk. -/
set_option maxRecDepth 100000 in
set_option maxHeartbeats 3000000 in
theorem walk (a0 : Int) (a1 : Option Addr) (len1 cap1 : Nat) (z1 : List Int) (a2 : Option Addr) (len2 cap2 : Nat) (z2 : List Int) (a3 : Int) (w : World) (w0 : (Lit.int .i64 a0).wf = true) (w1 : IsRow .i64 w a1 len1 cap1 z1) (w2 : IsRow .i64 w a2 len2 cap2 z2) (w3 : (Lit.int .i64 a3).wf = true) :
    Calls Try.prog 3 #[.int .i64 a0, .slice a1 len1 cap1, .slice a2 len2 cap2, .int .i64 a3] w fun e w' => e = .returned (.bool true) ∧ Below w.heap.size w w' := by
  have s1 := sl_of_row w1
  have rs1 := row_len w1
  have s2 := sl_of_row w2
  have rs2 := row_len w2
  clear w1 w2
  have b0 := Below.refl w.heap.size w
  by_cases L1 : (1048576 : Int) < (len1 : Int)
  · go_enter Try.func3, Try.ntmps3
    go_wp2
    go_ret
    exact ⟨rfl, b0⟩
  by_cases L2 : (1048576 : Int) < (len2 : Int)
  · go_enter Try.func3, Try.ntmps3
    go_wp2
    go_ret
    exact ⟨rfl, b0⟩
  have B0 := b0
  have sz0 := Nat.le_refl w.heap.size
  go_enter Try.func3, Try.ntmps3
  go_wp2_with fail
  refine (toI _ _ _ _ _ (s1.below b0) (by omega)).mono ?_
  rintro e u1 ⟨x1, rfl, o1, t1⟩
  have B1 := bnext b0 t1
  have sz1 : w.heap.size + 0 ≤ u1.heap.size := by have := t1.size; (try simp at this); omega
  replace o1 := OZ.of o1 s1.len.symm
  clear t1
  go_wp2_with fail
  refine (toI _ _ _ _ _ (s2.below B1) (by omega)).mono ?_
  rintro e u2 ⟨x2, rfl, o2, t2⟩
  have B2 := bnext B1 t2
  have sz2 := t2.size
  replace o1 := o1.below t2
  replace o2 := OZ.of o2 s2.len.symm
  clear t2
  go_wp2_with fail
  refine (specFindJacobi _ _ _ _ _ _ _ _ _ _ _ (OZ.sl o1) (OZ.sl o2) (by omega) (by omega)).mono ?_
  rintro e u3 ⟨ra3, rc3, rb3, rd3, rfl, o3, l3, t3⟩
  have B3 := bnext B2 t3
  have sz3 := t3.size
  replace o1 := o1.below t3
  replace o2 := o2.below t3
  clear t3
  obtain ⟨l3, m3⟩ := l3
  clear o1
  clear o2
  have pa3 := bl1 u3 (.cells #[.int .i64 (fjP a0 (List.take len1 z1) (List.take len2 z2) a3), .slice ra3 (fjV a0 (List.take len1 z1) (List.take len2 z2) a3).length rc3, .slice rb3 (fjU a0 (List.take len1 z1) (List.take len2 z2) a3).length rd3] 24)
  replace o3 := o3.below pa3
  go_wp2_with fail
  refine (toI _ _ _ _ _ (s1.below (bnext B3 pa3)) (by omega)).mono ?_
  rintro e u4 ⟨x4, rfl, o4, t4⟩
  have B4 := bnext (bnext B3 pa3) t4
  have sz4 : u3.heap.size + 1 ≤ u4.heap.size := by have := t4.size; simp at this; omega
  have ko3_0 : u4.cell? ⟨u3.heap.size, 0, none⟩ = some (.int .i64 (fjP a0 (List.take len1 z1) (List.take len2 z2) a3)) := cell_be t4 (by simp [go_sem])
  have ko3_1 : u4.cell? ⟨u3.heap.size, 1, none⟩ = some (.slice ra3 (fjV a0 (List.take len1 z1) (List.take len2 z2) a3).length rc3) := cell_be t4 (by simp [go_sem])
  have ko3_2 : u4.cell? ⟨u3.heap.size, 2, none⟩ = some (.slice rb3 (fjU a0 (List.take len1 z1) (List.take len2 z2) a3).length rd3) := cell_be t4 (by simp [go_sem])
  replace o3 := o3.below t4
  replace o4 := o4.mono (B' := u3.heap.size + 1) (by simp)
  replace o4 := OZ.of o4 s1.len.symm
  clear t4
  go_wp2_with fail
  refine (toI _ _ _ _ _ (s2.below B4) (by omega)).mono ?_
  rintro e u5 ⟨x5, rfl, o5, t5⟩
  have B5 := bnext B4 t5
  replace ko3_0 := cell_be t5 ko3_0
  replace ko3_1 := cell_be t5 ko3_1
  replace ko3_2 := cell_be t5 ko3_2
  have sz5 := t5.size
  replace o3 := o3.below t5
  replace o4 := o4.below t5
  replace o5 := OZ.of o5 s2.len.symm
  clear t5
  go_wp2_with fail
  refine (implFindJacobi _ _ _ _ _ _ _ _ _ _ _ (OZ.sl o4) (OZ.sl o5) (by omega) (by omega)).mono ?_
  rintro e u6 ⟨ra6, rc6, rb6, rd6, rfl, o6, l6, t6⟩
  have B6 := bnext B5 t6
  replace ko3_0 := cell_be t6 ko3_0
  replace ko3_1 := cell_be t6 ko3_1
  replace ko3_2 := cell_be t6 ko3_2
  have sz6 := t6.size
  replace o3 := o3.below t6
  replace o4 := o4.below t6
  replace o5 := o5.below t6
  clear t6
  obtain ⟨l6, m6⟩ := l6
  have pa6 := bl1 u6 (.cells #[.int .i64 (fjP a0 (List.take len1 z1) (List.take len2 z2) a3), .slice ra6 (fjV a0 (List.take len1 z1) (List.take len2 z2) a3).length rc6, .slice rb6 (fjU a0 (List.take len1 z1) (List.take len2 z2) a3).length rd6] 24)
  replace o3 := o3.below pa6
  replace o4 := o4.below pa6
  replace o5 := o5.below pa6
  replace o6 := o6.below pa6
  replace ko3_0 := cell_al ko3_0 (.cells #[.int .i64 (fjP a0 (List.take len1 z1) (List.take len2 z2) a3), .slice ra6 (fjV a0 (List.take len1 z1) (List.take len2 z2) a3).length rc6, .slice rb6 (fjU a0 (List.take len1 z1) (List.take len2 z2) a3).length rd6] 24)
  replace ko3_1 := cell_al ko3_1 (.cells #[.int .i64 (fjP a0 (List.take len1 z1) (List.take len2 z2) a3), .slice ra6 (fjV a0 (List.take len1 z1) (List.take len2 z2) a3).length rc6, .slice rb6 (fjU a0 (List.take len1 z1) (List.take len2 z2) a3).length rd6] 24)
  replace ko3_2 := cell_al ko3_2 (.cells #[.int .i64 (fjP a0 (List.take len1 z1) (List.take len2 z2) a3), .slice ra6 (fjV a0 (List.take len1 z1) (List.take len2 z2) a3).length rc6, .slice rb6 (fjU a0 (List.take len1 z1) (List.take len2 z2) a3).length rd6] 24)
  go_wp2_with fail
  refine (eqJ _ _ _ _ _ _ _ _ _ _ _ _ _ _ (JZ.sl1 o6) (JZ.sl1 o3) (JZ.sl2 o6) (JZ.sl2 o3) (by omega) (by omega)).mono ?_
  rintro e u7 ⟨rfl, t7⟩
  have B7 := bnext (bnext B6 pa6) t7
  replace ko3_0 := cell_be t7 ko3_0
  replace ko3_1 := cell_be t7 ko3_1
  replace ko3_2 := cell_be t7 ko3_2
  have sz7 : u6.heap.size + 1 ≤ u7.heap.size := by have := t7.size; simp at this; omega
  have ko6_0 : u7.cell? ⟨u6.heap.size, 0, none⟩ = some (.int .i64 (fjP a0 (List.take len1 z1) (List.take len2 z2) a3)) := cell_be t7 (by simp [go_sem])
  have ko6_1 : u7.cell? ⟨u6.heap.size, 1, none⟩ = some (.slice ra6 (fjV a0 (List.take len1 z1) (List.take len2 z2) a3).length rc6) := cell_be t7 (by simp [go_sem])
  have ko6_2 : u7.cell? ⟨u6.heap.size, 2, none⟩ = some (.slice rb6 (fjU a0 (List.take len1 z1) (List.take len2 z2) a3).length rd6) := cell_be t7 (by simp [go_sem])
  replace o3 := o3.below t7
  replace o4 := o4.below t7
  replace o5 := o5.below t7
  replace o6 := o6.below t7
  clear t7
  go_wp2_with fail
  refine (toI _ _ _ _ _ (s1.below B7) (by omega)).mono ?_
  rintro e u8 ⟨x7, rfl, o7, t8⟩
  have B8 := bnext B7 t8
  replace ko3_0 := cell_be t8 ko3_0
  replace ko3_1 := cell_be t8 ko3_1
  replace ko3_2 := cell_be t8 ko3_2
  replace ko6_0 := cell_be t8 ko6_0
  replace ko6_1 := cell_be t8 ko6_1
  replace ko6_2 := cell_be t8 ko6_2
  have sz8 := t8.size
  replace o3 := o3.below t8
  replace o4 := o4.below t8
  replace o5 := o5.below t8
  replace o6 := o6.below t8
  replace o7 := OZ.of o7 s1.len.symm
  clear t8
  go_wp2_with fail
  refine (eqI _ _ _ _ _ _ _ (OZ.sl o4) (OZ.sl o7) (by omega)).mono ?_
  rintro e u9 ⟨rfl, t9⟩
  have B9 := bnext B8 t9
  replace ko3_0 := cell_be t9 ko3_0
  replace ko3_1 := cell_be t9 ko3_1
  replace ko3_2 := cell_be t9 ko3_2
  replace ko6_0 := cell_be t9 ko6_0
  replace ko6_1 := cell_be t9 ko6_1
  replace ko6_2 := cell_be t9 ko6_2
  have sz9 := t9.size
  replace o3 := o3.below t9
  replace o4 := o4.below t9
  replace o5 := o5.below t9
  replace o6 := o6.below t9
  replace o7 := o7.below t9
  clear t9
  clear o7
  go_wp2_with fail
  refine (toI _ _ _ _ _ (s2.below B9) (by omega)).mono ?_
  rintro e u10 ⟨x8, rfl, o8, t10⟩
  have B10 := bnext B9 t10
  replace ko3_0 := cell_be t10 ko3_0
  replace ko3_1 := cell_be t10 ko3_1
  replace ko3_2 := cell_be t10 ko3_2
  replace ko6_0 := cell_be t10 ko6_0
  replace ko6_1 := cell_be t10 ko6_1
  replace ko6_2 := cell_be t10 ko6_2
  have sz10 := t10.size
  replace o3 := o3.below t10
  replace o4 := o4.below t10
  replace o5 := o5.below t10
  replace o6 := o6.below t10
  replace o8 := OZ.of o8 s2.len.symm
  clear t10
  go_wp2_with fail
  refine (eqI _ _ _ _ _ _ _ (OZ.sl o5) (OZ.sl o8) (by omega)).mono ?_
  rintro e u11 ⟨rfl, t11⟩
  have B11 := bnext B10 t11
  replace ko3_0 := cell_be t11 ko3_0
  replace ko3_1 := cell_be t11 ko3_1
  replace ko3_2 := cell_be t11 ko3_2
  replace ko6_0 := cell_be t11 ko6_0
  replace ko6_1 := cell_be t11 ko6_1
  replace ko6_2 := cell_be t11 ko6_2
  have sz11 := t11.size
  replace o3 := o3.below t11
  replace o4 := o4.below t11
  replace o5 := o5.below t11
  replace o6 := o6.below t11
  replace o8 := o8.below t11
  clear t11
  clear o8
  go_wp2_with fail
  refine (markZT _ _ _ _ _ _ _ _ o4 (by omega) (by omega) (by omega)).mono ?_
  rintro e u12 ⟨rfl, no4, gt⟩
  clear o4
  have o4 := no4
  clear no4
  have B12 := below_touch B11 gt (by omega) (by omega)
  have sz12 := gt.size
  replace o3 := o3.touch gt (by omega)
  replace o5 := o5.touch gt (by omega)
  replace o6 := o6.touch gt (by omega)
  replace ko3_0 := gt.cell ko3_0 (by omega)
  replace ko3_1 := gt.cell ko3_1 (by omega)
  replace ko3_2 := gt.cell ko3_2 (by omega)
  replace ko6_0 := gt.cell ko6_0 (by omega)
  replace ko6_1 := gt.cell ko6_1 (by omega)
  replace ko6_2 := gt.cell ko6_2 (by omega)
  clear gt
  clear o4
  go_wp2_with fail
  refine (markZT _ _ _ _ _ _ _ _ o5 (by omega) (by omega) (by omega)).mono ?_
  rintro e u13 ⟨rfl, no5, gt⟩
  clear o5
  have o5 := no5
  clear no5
  have B13 := below_touch B12 gt (by omega) (by omega)
  have sz13 := gt.size
  replace o3 := o3.touch gt (by omega)
  replace o6 := o6.touch gt (by omega)
  replace ko3_0 := gt.cell ko3_0 (by omega)
  replace ko3_1 := gt.cell ko3_1 (by omega)
  replace ko3_2 := gt.cell ko3_2 (by omega)
  replace ko6_0 := gt.cell ko6_0 (by omega)
  replace ko6_1 := gt.cell ko6_1 (by omega)
  replace ko6_2 := gt.cell ko6_2 (by omega)
  clear gt
  clear o5
  go_wp2_with fail
  refine (eqJ _ _ _ _ _ _ _ _ _ _ _ _ _ _ (JZ.sl1 o6) (JZ.sl1 o3) (JZ.sl2 o6) (JZ.sl2 o3) (by omega) (by omega)).mono ?_
  rintro e u14 ⟨rfl, t14⟩
  have B14 := bnext B13 t14
  replace ko3_0 := cell_be t14 ko3_0
  replace ko3_1 := cell_be t14 ko3_1
  replace ko3_2 := cell_be t14 ko3_2
  replace ko6_0 := cell_be t14 ko6_0
  replace ko6_1 := cell_be t14 ko6_1
  replace ko6_2 := cell_be t14 ko6_2
  have sz14 := t14.size
  replace o3 := o3.below t14
  replace o6 := o6.below t14
  clear t14
  go_wp2_with fail
  refine (markJ _ _ _ _ _ _ _ _ _ _ _ _ _ o6 (by omega) (by omega) (by omega) (by omega) (by omega) (by omega)).mono ?_
  rintro e u15 ⟨rfl, no6, gt⟩
  clear o6
  have o6 := no6
  clear no6
  have B15 := below_touch B14 gt (by omega) (by omega)
  have sz15 := gt.size
  replace o3 := o3.touch gt (by omega)
  replace ko3_0 := gt.cell ko3_0 (by omega)
  replace ko3_1 := gt.cell ko3_1 (by omega)
  replace ko3_2 := gt.cell ko3_2 (by omega)
  replace ko6_0 := gt.cell ko6_0 (by omega)
  replace ko6_1 := gt.cell ko6_1 (by omega)
  replace ko6_2 := gt.cell ko6_2 (by omega)
  clear gt
  go_wp2_with fail
  refine (heldJ _ _ _ _ _ _ _ _ _ (JZ.sl1 o6) (JZ.sl2 o6) (by omega) (by omega) (by omega) (by omega)).mono ?_
  rintro e u16 ⟨rfl, t16⟩
  have B16 := bnext B15 t16
  replace ko3_0 := cell_be t16 ko3_0
  replace ko3_1 := cell_be t16 ko3_1
  replace ko3_2 := cell_be t16 ko3_2
  replace ko6_0 := cell_be t16 ko6_0
  replace ko6_1 := cell_be t16 ko6_1
  replace ko6_2 := cell_be t16 ko6_2
  have sz16 := t16.size
  replace o3 := o3.below t16
  replace o6 := o6.below t16
  clear t16
  go_wp2_with fail
  refine (toI _ _ _ _ _ (s1.below B16) (by omega)).mono ?_
  rintro e u17 ⟨x9, rfl, o9, t17⟩
  have B17 := bnext B16 t17
  replace ko3_0 := cell_be t17 ko3_0
  replace ko3_1 := cell_be t17 ko3_1
  replace ko3_2 := cell_be t17 ko3_2
  replace ko6_0 := cell_be t17 ko6_0
  replace ko6_1 := cell_be t17 ko6_1
  replace ko6_2 := cell_be t17 ko6_2
  have sz17 := t17.size
  replace o3 := o3.below t17
  replace o6 := o6.below t17
  replace o9 := OZ.of o9 s1.len.symm
  clear t17
  go_wp2_with fail
  refine (toI _ _ _ _ _ (s2.below B17) (by omega)).mono ?_
  rintro e u18 ⟨x10, rfl, o10, t18⟩
  have B18 := bnext B17 t18
  replace ko3_0 := cell_be t18 ko3_0
  replace ko3_1 := cell_be t18 ko3_1
  replace ko3_2 := cell_be t18 ko3_2
  replace ko6_0 := cell_be t18 ko6_0
  replace ko6_1 := cell_be t18 ko6_1
  replace ko6_2 := cell_be t18 ko6_2
  have sz18 := t18.size
  replace o3 := o3.below t18
  replace o6 := o6.below t18
  replace o9 := o9.below t18
  replace o10 := OZ.of o10 s2.len.symm
  clear t18
  go_wp2_with fail
  refine (implFindJacobi _ _ _ _ _ _ _ _ _ _ _ (OZ.sl o9) (OZ.sl o10) (by omega) (by omega)).mono ?_
  rintro e u19 ⟨ra11, rc11, rb11, rd11, rfl, o11, l11, t19⟩
  have B19 := bnext B18 t19
  replace ko3_0 := cell_be t19 ko3_0
  replace ko3_1 := cell_be t19 ko3_1
  replace ko3_2 := cell_be t19 ko3_2
  replace ko6_0 := cell_be t19 ko6_0
  replace ko6_1 := cell_be t19 ko6_1
  replace ko6_2 := cell_be t19 ko6_2
  have sz19 := t19.size
  replace o3 := o3.below t19
  replace o6 := o6.below t19
  replace o9 := o9.below t19
  replace o10 := o10.below t19
  clear t19
  obtain ⟨l11, m11⟩ := l11
  clear o9
  clear o10
  have pa19 := bl1 u19 (.cells #[.int .i64 (fjP a0 (List.take len1 z1) (List.take len2 z2) a3), .slice ra11 (fjV a0 (List.take len1 z1) (List.take len2 z2) a3).length rc11, .slice rb11 (fjU a0 (List.take len1 z1) (List.take len2 z2) a3).length rd11] 24)
  replace o3 := o3.below pa19
  replace o6 := o6.below pa19
  replace o11 := o11.below pa19
  replace ko3_0 := cell_al ko3_0 (.cells #[.int .i64 (fjP a0 (List.take len1 z1) (List.take len2 z2) a3), .slice ra11 (fjV a0 (List.take len1 z1) (List.take len2 z2) a3).length rc11, .slice rb11 (fjU a0 (List.take len1 z1) (List.take len2 z2) a3).length rd11] 24)
  replace ko3_1 := cell_al ko3_1 (.cells #[.int .i64 (fjP a0 (List.take len1 z1) (List.take len2 z2) a3), .slice ra11 (fjV a0 (List.take len1 z1) (List.take len2 z2) a3).length rc11, .slice rb11 (fjU a0 (List.take len1 z1) (List.take len2 z2) a3).length rd11] 24)
  replace ko3_2 := cell_al ko3_2 (.cells #[.int .i64 (fjP a0 (List.take len1 z1) (List.take len2 z2) a3), .slice ra11 (fjV a0 (List.take len1 z1) (List.take len2 z2) a3).length rc11, .slice rb11 (fjU a0 (List.take len1 z1) (List.take len2 z2) a3).length rd11] 24)
  replace ko6_0 := cell_al ko6_0 (.cells #[.int .i64 (fjP a0 (List.take len1 z1) (List.take len2 z2) a3), .slice ra11 (fjV a0 (List.take len1 z1) (List.take len2 z2) a3).length rc11, .slice rb11 (fjU a0 (List.take len1 z1) (List.take len2 z2) a3).length rd11] 24)
  replace ko6_1 := cell_al ko6_1 (.cells #[.int .i64 (fjP a0 (List.take len1 z1) (List.take len2 z2) a3), .slice ra11 (fjV a0 (List.take len1 z1) (List.take len2 z2) a3).length rc11, .slice rb11 (fjU a0 (List.take len1 z1) (List.take len2 z2) a3).length rd11] 24)
  replace ko6_2 := cell_al ko6_2 (.cells #[.int .i64 (fjP a0 (List.take len1 z1) (List.take len2 z2) a3), .slice ra11 (fjV a0 (List.take len1 z1) (List.take len2 z2) a3).length rc11, .slice rb11 (fjU a0 (List.take len1 z1) (List.take len2 z2) a3).length rd11] 24)
  go_wp2_with fail
  refine (eqJ _ _ _ _ _ _ _ _ _ _ _ _ _ _ (JZ.sl1 o11) (JZ.sl1 o3) (JZ.sl2 o11) (JZ.sl2 o3) (by omega) (by omega)).mono ?_
  rintro e u20 ⟨rfl, t20⟩
  have B20 := bnext (bnext B19 pa19) t20
  replace ko3_0 := cell_be t20 ko3_0
  replace ko3_1 := cell_be t20 ko3_1
  replace ko3_2 := cell_be t20 ko3_2
  replace ko6_0 := cell_be t20 ko6_0
  replace ko6_1 := cell_be t20 ko6_1
  replace ko6_2 := cell_be t20 ko6_2
  have sz20 : u19.heap.size + 1 ≤ u20.heap.size := by have := t20.size; simp at this; omega
  have ko11_0 : u20.cell? ⟨u19.heap.size, 0, none⟩ = some (.int .i64 (fjP a0 (List.take len1 z1) (List.take len2 z2) a3)) := cell_be t20 (by simp [go_sem])
  have ko11_1 : u20.cell? ⟨u19.heap.size, 1, none⟩ = some (.slice ra11 (fjV a0 (List.take len1 z1) (List.take len2 z2) a3).length rc11) := cell_be t20 (by simp [go_sem])
  have ko11_2 : u20.cell? ⟨u19.heap.size, 2, none⟩ = some (.slice rb11 (fjU a0 (List.take len1 z1) (List.take len2 z2) a3).length rd11) := cell_be t20 (by simp [go_sem])
  replace o3 := o3.below t20
  replace o6 := o6.below t20
  replace o11 := o11.below t20
  clear t20
  clear o11
  clear ko11_0
  clear ko11_1
  clear ko11_2
  go_wp2_with fail
  refine (heldJ _ _ _ _ _ _ _ _ _ (JZ.sl1 o6) (JZ.sl2 o6) (by omega) (by omega) (by omega) (by omega)).mono ?_
  rintro e u21 ⟨rfl, t21⟩
  have B21 := bnext B20 t21
  replace ko3_0 := cell_be t21 ko3_0
  replace ko3_1 := cell_be t21 ko3_1
  replace ko3_2 := cell_be t21 ko3_2
  replace ko6_0 := cell_be t21 ko6_0
  replace ko6_1 := cell_be t21 ko6_1
  replace ko6_2 := cell_be t21 ko6_2
  have sz21 := t21.size
  replace o3 := o3.below t21
  replace o6 := o6.below t21
  clear t21
  go_wp2
  go_ret
  exact ⟨rfl, B21⟩

/-! ### THE ROW's STEP: WRITTEN OUT: LEAVE IT -/
set_option maxRecDepth 100000 in
theorem lifted (os : Os) (started : os.Started) (H : Type) (enc : TypeId × Value → H) :
    ReturnsInHanded {} Try.checked os 3 .any (Rows.fnExactFindJacobiSpec.pre6 enc Try.prog Try.f3 Rows.fnExactFindJacobiRow.domain false) (Rows.fnExactFindJacobiSpec.post enc Try.prog Try.f3 false true false false) := by
  refine returnsInHanded_of_change (C := Try.checked) own started (by kernel_rfl) Try.func3
    (ChangeSpec.witness6 (enc := enc) (C := Try.checked) false ⟨#[], #[.int .i64 0, .slice none 0 0, .slice none 0 0, .int .i64 0], []⟩ 8 (by kernel_rfl) (by kernel_rfl) (by kernel_rfl) (by kernel_rfl)) ?_
  intro W base args ds gs before hval0 hW hcnd _
  have hval : ∀ (j : Nat) t v, Try.f3.params[j]? = some t → args[j]? = some v → Value.okWide Try.prog W .any base t v := hval0
  have hW' := hW
  obtain ⟨p, q, hA0, hV, rfl, hfz, hnd⟩ := hW
  have hA : DataW.TrodAll enc Try.prog W 0 (fun _ => true) true Try.f3.params.toList args.toList ds p := hA0
  rw [Try.params3] at hA hval
  obtain ⟨v0, vs0, d0, ds0, p0, q0, hargs, rfl, rfl, h0, r0⟩ := trodAll_cons hA
  obtain ⟨v1, vs1, d1, ds1, p1, q1, rfl, rfl, rfl, h1, r1⟩ := trodAll_cons r0
  obtain ⟨v2, vs2, d2, ds2, p2, q2, rfl, rfl, rfl, h2, r2⟩ := trodAll_cons r1
  obtain ⟨v3, vs3, d3, ds3, p3, q3, rfl, rfl, rfl, h3, r3⟩ := trodAll_cons r2
  obtain ⟨rfl, rfl, rfl⟩ := trodAll_nil r3
  obtain rfl : args = #[v0, v1, v2, v3] := by cases args; simp_all
  obtain ⟨rfl, rfl⟩ := trodVars_none hV
  obtain ⟨a0, rfl, rfl, rfl, w0⟩ := open_int Try.underlying2 (hval 0 2 v0 rfl rfl) h0
  obtain ⟨a1, len1, cap1, rfl⟩ := okWide_slice Try.underlying22 (hval 1 22 v1 rfl rfl)
  have k1 := h1
  have lt1 : ∀ x ∈ p1, x.block < W.heap.size := by obtain ⟨m, hm⟩ := k1; exact DataW.trod_lt m _ _ _ hm
  obtain ⟨z1, w1⟩ : ∃ zs, IsRow .i64 W a1 len1 cap1 zs := by
    obtain ⟨fuel, hf⟩ := h1
    rcases open_ints Try.underlying22 Try.underlying2 (by kernel_rfl) hf with ⟨hcs, _⟩ | ⟨x, l, c, zs, hcs, _, hl, hm, hz, _, hcell, hwz⟩
    · simp [Value.cells] at hcs
      obtain ⟨rfl, rfl, rfl⟩ := hcs
      exact ⟨[], .inl ⟨rfl, rfl, rfl, rfl⟩⟩
    · simp [Value.cells] at hcs
      obtain ⟨rfl, rfl, rfl⟩ := hcs
      exact ⟨zs, .inr ⟨_, rfl, hl, hm, by simpa using hz, hcell, hwz⟩⟩
  obtain ⟨a2, len2, cap2, rfl⟩ := okWide_slice Try.underlying22 (hval 2 22 v2 rfl rfl)
  have k2 := h2
  have lt2 : ∀ x ∈ p2, x.block < W.heap.size := by obtain ⟨m, hm⟩ := k2; exact DataW.trod_lt m _ _ _ hm
  obtain ⟨z2, w2⟩ : ∃ zs, IsRow .i64 W a2 len2 cap2 zs := by
    obtain ⟨fuel, hf⟩ := h2
    rcases open_ints Try.underlying22 Try.underlying2 (by kernel_rfl) hf with ⟨hcs, _⟩ | ⟨x, l, c, zs, hcs, _, hl, hm, hz, _, hcell, hwz⟩
    · simp [Value.cells] at hcs
      obtain ⟨rfl, rfl, rfl⟩ := hcs
      exact ⟨[], .inl ⟨rfl, rfl, rfl, rfl⟩⟩
    · simp [Value.cells] at hcs
      obtain ⟨rfl, rfl, rfl⟩ := hcs
      exact ⟨zs, .inr ⟨_, rfl, hl, hm, by simpa using hz, hcell, hwz⟩⟩
  obtain ⟨a3, rfl, rfl, rfl, w3⟩ := open_int Try.underlying2 (hval 3 2 v3 rfl rfl) h3
  clear hA0 hval0
  refine (walk a0 a1 len1 cap1 z1 a2 len2 cap2 z2 a3 W w0 w1 w2 w3).mono fun e W' ⟨he, bel⟩ => ?_
  subst he
  exact ⟨_, rfl, _, _, _, [], _, [], hW', trodAll_mk1 (shut_bool Try.underlying4 _), (trodAll_cons_mk (shut_int Try.underlying2 w0) (trodAll_cons_mk (Below.trod laidOut (by kernel_rfl) (of_decide_eq_true (by kernel_rfl)) k1 bel lt1) (trodAll_cons_mk (Below.trod laidOut (by kernel_rfl) (of_decide_eq_true (by kernel_rfl)) k2 bel lt2) (trodAll_cons_mk (shut_int Try.underlying2 w3) trodAll_mk0)))), rfl, bel.frame _, fun h => by cases h⟩

theorem over : Rows.fnExactFindJacobiRow.holds Try.pinned (OpenSpec.ofChange Rows.fnExactFindJacobiSpec) :=
  OpenClaim.holds_of_wide 3 Try.f3 rfl rfl rfl rfl rfl rfl rfl ⟨rfl, rfl, rfl, rfl, rfl⟩ rfl rfl rfl rfl rfl (by kernel_rfl) Try.func3 (by kernel_rfl)
    (of_decide_eq_true (by kernel_rfl)) (by unfold Func.isWrapper; first | (rw [if_pos (by decide +kernel)]; kernel_rfl) | (rw [if_neg (by decide +kernel)]; exact ⟨rfl, rfl⟩))
    (fun os started H enc _ => lifted os started H enc)

/-- ████ THE STATEMENT ████ -/
theorem proved : Rows.FnExactFindJacobiSaid := over
#print axioms proved
end Go.Proofs.Ytcoloeikfechjaa.fnExactFindJacobi

/- The law 'FnExactConnectJacobi' returns true for every input and leaves its arguments as they were. Conditions: none. -/
import Derived.Test.YtgaafhcnfeipbaaRows
import Derived.WalkKit
import Derived.ProofKit
import Derived.OpenShut
import Derived.ShutString
import Derived.ChangeOld
import Derived.Lib.SmallJoins
import Derived.Below
import Derived.Test.YtgaafhcnfeipbaaBj
namespace Go.Proofs.Ytgaafhcnfeipbaa.fnExactConnectJacobi
open Go.ChangeShapes Go.WideShapes Go.ChangeAt Go.RowKit
open Go.ChangeMaps (open_string shut_string)
set_option linter.unusedVariables false
set_option linter.unusedSimpArgs false

theorem own : ownKnob Try.prog.godebug = none := by kernel_rfl
theorem laidOut : laidOutB Try.prog = true := by kernel_rfl

/-- What the walk is told of a slice of integers that came in. -/
def IsRow (k : IntKind) (w : World) (a : Option Addr) (len cap : Nat) (zs : List Int) : Prop :=
  (a = none ∧ len = 0 ∧ cap = 0 ∧ zs = []) ∨
  ∃ x, a = some x ∧ len ≤ cap ∧ cap ≤ maxLen ∧ zs.length = cap ∧ (∀ i, i < zs.length → w.cell? (x.add i) = some (.int k (zs.getD i 0))) ∧ ∀ n ∈ zs, (Lit.int k n).wf = true

set_option maxRecDepth 100000 in
set_option maxHeartbeats 3000000 in
theorem walk (a0_0 : Int) (a0_1 : Option Addr) (len0_1 cap0_1 : Nat) (z0_1 : List Int) (a0_2 : Option Addr) (len0_2 cap0_2 : Nat) (z0_2 : List Int) (a1_0 : Int) (a1_1 : Option Addr) (len1_1 cap1_1 : Nat) (z1_1 : List Int) (a1_2 : Option Addr) (len1_2 cap1_2 : Nat) (z1_2 : List Int) (a2 : Int) (w : World) (w0_0 : (Lit.int .i64 a0_0).wf = true) (w0_1 : IsRow .i64 w a0_1 len0_1 cap0_1 z0_1) (w0_2 : IsRow .i64 w a0_2 len0_2 cap0_2 z0_2) (w1_0 : (Lit.int .i64 a1_0).wf = true) (w1_1 : IsRow .i64 w a1_1 len1_1 cap1_1 z1_1) (w1_2 : IsRow .i64 w a1_2 len1_2 cap1_2 z1_2) (w2 : (Lit.int .i64 a2).wf = true) :
    Calls Try.prog 10 #[.agg #[.int .i64 a0_0, .slice a0_1 len0_1 cap0_1, .slice a0_2 len0_2 cap0_2], .agg #[.int .i64 a1_0, .slice a1_1 len1_1 cap1_1, .slice a1_2 len1_2 cap1_2], .int .i64 a2] w fun e w' => e = .returned (.bool true) ∧ Below w.heap.size w w' := by
  have s0_1 := sl_of_row w0_1
  have rs0_1 := row_len w0_1
  have s0_2 := sl_of_row w0_2
  have rs0_2 := row_len w0_2
  have s1_1 := sl_of_row w1_1
  have rs1_1 := row_len w1_1
  have s1_2 := sl_of_row w1_2
  have rs1_2 := row_len w1_2
  clear w0_0 w0_1 w0_2 w1_0 w1_1 w1_2
  have b0 := bl2 w (.cells #[.int .i64 a0_0, .slice a0_1 len0_1 cap0_1, .slice a0_2 len0_2 cap0_2] 30) (.cells #[.int .i64 a1_0, .slice a1_1 len1_1 cap1_1, .slice a1_2 len1_2 cap1_2] 30)
  by_cases L0 : (1048576 : Int) < (len0_1 : Int) + (len0_2 : Int)
  · go_enter Try.func10, Try.ntmps10
    go_wp2_with fail
    refine (szJ_no _ _ _ _ _ _ _ _ _ rs0_1 rs0_2 (by omega) (by omega) (by omega)).mono ?_
    rintro e v ⟨rfl, y⟩
    go_wp2
    go_ret
    exact ⟨rfl, bnext b0 y⟩
  by_cases L1 : (1048576 : Int) - (len0_1 : Int) - (len0_2 : Int) < (len1_1 : Int) + (len1_2 : Int)
  · go_enter Try.func10, Try.ntmps10
    go_wp2_with fail
    refine (szJ _ _ _ _ _ _ _ _ _ (by omega) (by omega) (by omega) (by omega) (by omega)).mono ?_
    rintro e v0 ⟨rfl, y0⟩
    have e1_0 : v0.cell? ⟨w.heap.size + 1, 0, none⟩ = some (.int .i64 a1_0) := cell_be y0 (by simp [go_sem])
    have e1_1 : v0.cell? ⟨w.heap.size + 1, 1, none⟩ = some (.slice a1_1 len1_1 cap1_1) := cell_be y0 (by simp [go_sem])
    have e1_2 : v0.cell? ⟨w.heap.size + 1, 2, none⟩ = some (.slice a1_2 len1_2 cap1_2) := cell_be y0 (by simp [go_sem])
    go_wp2_with fail
    refine (szJ_no _ _ _ _ _ _ _ _ _ rs1_1 rs1_2 (by omega) (by omega) (by omega)).mono ?_
    rintro e v ⟨rfl, y⟩
    go_wp2
    go_ret
    exact ⟨rfl, bnext (bnext b0 y0) y⟩
  go_enter Try.func10, Try.ntmps10
  go_wp2_with fail
  refine (szJ _ _ _ _ _ _ _ _ _ (by omega) (by omega) (by omega) (by omega) (by omega)).mono ?_
  rintro e u1 ⟨rfl, t1⟩
  have B1 := bnext b0 t1
  have sz1 : w.heap.size + 2 ≤ u1.heap.size := by have := t1.size; (try simp at this); omega
  have f0_0 : u1.cell? ⟨w.heap.size, 0, none⟩ = some (.int .i64 a0_0) := cell_be t1 (by simp [go_sem])
  have f0_1 : u1.cell? ⟨w.heap.size, 1, none⟩ = some (.slice a0_1 len0_1 cap0_1) := cell_be t1 (by simp [go_sem])
  have f0_2 : u1.cell? ⟨w.heap.size, 2, none⟩ = some (.slice a0_2 len0_2 cap0_2) := cell_be t1 (by simp [go_sem])
  have f1_0 : u1.cell? ⟨w.heap.size + 1, 0, none⟩ = some (.int .i64 a1_0) := cell_be t1 (by simp [go_sem])
  have f1_1 : u1.cell? ⟨w.heap.size + 1, 1, none⟩ = some (.slice a1_1 len1_1 cap1_1) := cell_be t1 (by simp [go_sem])
  have f1_2 : u1.cell? ⟨w.heap.size + 1, 2, none⟩ = some (.slice a1_2 len1_2 cap1_2) := cell_be t1 (by simp [go_sem])
  clear t1
  go_wp2_with fail
  refine (szJ _ _ _ _ _ _ _ _ _ (by omega) (by omega) (by omega) (by omega) (by omega)).mono ?_
  rintro e u2 ⟨rfl, t2⟩
  have B2 := bnext B1 t2
  replace f0_0 := cell_be t2 f0_0
  replace f0_1 := cell_be t2 f0_1
  replace f0_2 := cell_be t2 f0_2
  replace f1_0 := cell_be t2 f1_0
  replace f1_1 := cell_be t2 f1_1
  replace f1_2 := cell_be t2 f1_2
  have sz2 := t2.size
  clear t2
  have hd := (Below.refl u2.heap.size u2).drew
  have FK : ∀ w', Below u2.heap.size u2 w' → w'.cell? ⟨w.heap.size, 0, none⟩ = some (.int .i64 a0_0) ∧ w'.cell? ⟨w.heap.size, 1, none⟩ = some (.slice a0_1 len0_1 cap0_1) ∧ w'.cell? ⟨w.heap.size, 2, none⟩ = some (.slice a0_2 len0_2 cap0_2) ∧ w'.cell? ⟨w.heap.size + 1, 0, none⟩ = some (.int .i64 a1_0) ∧ w'.cell? ⟨w.heap.size + 1, 1, none⟩ = some (.slice a1_1 len1_1 cap1_1) ∧ w'.cell? ⟨w.heap.size + 1, 2, none⟩ = some (.slice a1_2 len1_2 cap1_2) := fun w' hb => ⟨cell_be hb f0_0, cell_be hb f0_1, cell_be hb f0_2, cell_be hb f1_0, cell_be hb f1_1, cell_be hb f1_2⟩
  go_wp2_with fail
  go_region_held3 (fun w' => w'.cell? ⟨w.heap.size, 0, none⟩ = some (.int .i64 a0_0) ∧ w'.cell? ⟨w.heap.size, 1, none⟩ = some (.slice a0_1 len0_1 cap0_1) ∧ w'.cell? ⟨w.heap.size, 2, none⟩ = some (.slice a0_2 len0_2 cap0_2) ∧ w'.cell? ⟨w.heap.size + 1, 0, none⟩ = some (.int .i64 a1_0) ∧ w'.cell? ⟨w.heap.size + 1, 1, none⟩ = some (.slice a1_1 len1_1 cap1_1) ∧ w'.cell? ⟨w.heap.size + 1, 2, none⟩ = some (.slice a1_2 len1_2 cap1_2))
    (exact FK _ (by assumption))
    (first
    | (go_at_call 36; refine (specConnectJacobi _ _ _ _ _ _ _ _ _ _ _ _ _ _ _ _ _ _ _ _ (JZ.sl1 oA) (JZ.sl2 oA) (JZ.sl1 oB) (JZ.sl2 oB) (by omega) (by omega) (by omega) (by omega)).mono ?_; rintro e u3 ⟨ra1, rc1, rfl, o1, l1, tt⟩; have hm := bnext hmB tt)
    | (go_at_call 20; refine (toJ _ _ _ _ _ _ _ _ _ _ ((s1_1.below B2).below hmA) ((s1_2.below B2).below hmA) (by omega) (by omega)).mono ?_; rintro e vB ⟨xB, yB, rfl, oB, tB⟩; have hmB := bnext hmA tB; replace oA := oA.below tB)
    | (go_at_call 20; refine (toJ _ _ _ _ _ _ _ _ _ _ ((s0_1.below B2).below hd) ((s0_2.below B2).below hd) (by omega) (by omega)).mono ?_; rintro e vA ⟨xA, yA, rfl, oA, tA⟩; have hmA := bnext hd tA))
  replace o1 := o1.mono (lo' := u2.heap.size) (by have := hmB.size; omega) (Nat.le_refl _)
  have B3 := bnext B2 hm
  replace f0_0 := cell_be hm f0_0
  replace f0_1 := cell_be hm f0_1
  replace f0_2 := cell_be hm f0_2
  replace f1_0 := cell_be hm f1_0
  replace f1_1 := cell_be hm f1_1
  replace f1_2 := cell_be hm f1_2
  have sz3 := hm.size
  clear hm hmA hmB hd FK oA oB tA tB tt
  go_wp2_with fail
  refine (toJ _ _ _ _ _ _ _ _ _ _ (s0_1.below B3) (s0_2.below B3) (by omega) (by omega)).mono ?_
  rintro e u4 ⟨x2, y2, rfl, o2, t4⟩
  have B4 := bnext B3 t4
  replace f0_0 := cell_be t4 f0_0
  replace f0_1 := cell_be t4 f0_1
  replace f0_2 := cell_be t4 f0_2
  replace f1_0 := cell_be t4 f1_0
  replace f1_1 := cell_be t4 f1_1
  replace f1_2 := cell_be t4 f1_2
  have sz4 := t4.size
  replace o1 := o1.below t4
  clear t4
  have pa4 := bl1 u4 (.cells #[.int .i64 a0_0, .slice x2 len0_1 len0_1, .slice y2 len0_2 len0_2] 24)
  replace o1 := o1.below pa4
  replace o2 := o2.below pa4
  replace f0_0 := cell_al f0_0 (.cells #[.int .i64 a0_0, .slice x2 len0_1 len0_1, .slice y2 len0_2 len0_2] 24)
  replace f0_1 := cell_al f0_1 (.cells #[.int .i64 a0_0, .slice x2 len0_1 len0_1, .slice y2 len0_2 len0_2] 24)
  replace f0_2 := cell_al f0_2 (.cells #[.int .i64 a0_0, .slice x2 len0_1 len0_1, .slice y2 len0_2 len0_2] 24)
  replace f1_0 := cell_al f1_0 (.cells #[.int .i64 a0_0, .slice x2 len0_1 len0_1, .slice y2 len0_2 len0_2] 24)
  replace f1_1 := cell_al f1_1 (.cells #[.int .i64 a0_0, .slice x2 len0_1 len0_1, .slice y2 len0_2 len0_2] 24)
  replace f1_2 := cell_al f1_2 (.cells #[.int .i64 a0_0, .slice x2 len0_1 len0_1, .slice y2 len0_2 len0_2] 24)
  go_wp2_with fail
  refine (toJ _ _ _ _ _ _ _ _ _ _ (s1_1.below (bnext B4 pa4)) (s1_2.below (bnext B4 pa4)) (by omega) (by omega)).mono ?_
  rintro e u5 ⟨x3, y3, rfl, o3, t5⟩
  have B5 := bnext (bnext B4 pa4) t5
  replace f0_0 := cell_be t5 f0_0
  replace f0_1 := cell_be t5 f0_1
  replace f0_2 := cell_be t5 f0_2
  replace f1_0 := cell_be t5 f1_0
  replace f1_1 := cell_be t5 f1_1
  replace f1_2 := cell_be t5 f1_2
  have sz5 : u4.heap.size + 1 ≤ u5.heap.size := by have := t5.size; simp at this; omega
  have ko2_0 : u5.cell? ⟨u4.heap.size, 0, none⟩ = some (.int .i64 a0_0) := cell_be t5 (by simp [go_sem])
  have ko2_1 : u5.cell? ⟨u4.heap.size, 1, none⟩ = some (.slice x2 len0_1 len0_1) := cell_be t5 (by simp [go_sem])
  have ko2_2 : u5.cell? ⟨u4.heap.size, 2, none⟩ = some (.slice y2 len0_2 len0_2) := cell_be t5 (by simp [go_sem])
  replace o1 := o1.below t5
  replace o2 := o2.below t5
  replace o3 := o3.mono (lo' := u4.heap.size + 1) (by simp) (Nat.le_refl _)
  clear t5
  have pa5 := bl1 u5 (.cells #[.int .i64 a1_0, .slice x3 len1_1 len1_1, .slice y3 len1_2 len1_2] 24)
  replace o1 := o1.below pa5
  replace o2 := o2.below pa5
  replace o3 := o3.below pa5
  replace f0_0 := cell_al f0_0 (.cells #[.int .i64 a1_0, .slice x3 len1_1 len1_1, .slice y3 len1_2 len1_2] 24)
  replace f0_1 := cell_al f0_1 (.cells #[.int .i64 a1_0, .slice x3 len1_1 len1_1, .slice y3 len1_2 len1_2] 24)
  replace f0_2 := cell_al f0_2 (.cells #[.int .i64 a1_0, .slice x3 len1_1 len1_1, .slice y3 len1_2 len1_2] 24)
  replace f1_0 := cell_al f1_0 (.cells #[.int .i64 a1_0, .slice x3 len1_1 len1_1, .slice y3 len1_2 len1_2] 24)
  replace f1_1 := cell_al f1_1 (.cells #[.int .i64 a1_0, .slice x3 len1_1 len1_1, .slice y3 len1_2 len1_2] 24)
  replace f1_2 := cell_al f1_2 (.cells #[.int .i64 a1_0, .slice x3 len1_1 len1_1, .slice y3 len1_2 len1_2] 24)
  replace ko2_0 := cell_al ko2_0 (.cells #[.int .i64 a1_0, .slice x3 len1_1 len1_1, .slice y3 len1_2 len1_2] 24)
  replace ko2_1 := cell_al ko2_1 (.cells #[.int .i64 a1_0, .slice x3 len1_1 len1_1, .slice y3 len1_2 len1_2] 24)
  replace ko2_2 := cell_al ko2_2 (.cells #[.int .i64 a1_0, .slice x3 len1_1 len1_1, .slice y3 len1_2 len1_2] 24)
  go_wp2_with fail
  refine (implConnectJacobi _ _ _ _ _ _ _ _ _ _ _ _ _ _ _ _ _ _ _ _ (JZ.sl1 o2) (JZ.sl2 o2) (JZ.sl1 o3) (JZ.sl2 o3) (by omega) (by omega) (by omega) (by omega)).mono ?_
  rintro e u6 ⟨ra4, rc4, rfl, o4, l4, t6⟩
  have B6 := bnext (bnext B5 pa5) t6
  replace f0_0 := cell_be t6 f0_0
  replace f0_1 := cell_be t6 f0_1
  replace f0_2 := cell_be t6 f0_2
  replace f1_0 := cell_be t6 f1_0
  replace f1_1 := cell_be t6 f1_1
  replace f1_2 := cell_be t6 f1_2
  replace ko2_0 := cell_be t6 ko2_0
  replace ko2_1 := cell_be t6 ko2_1
  replace ko2_2 := cell_be t6 ko2_2
  have sz6 : u5.heap.size + 1 ≤ u6.heap.size := by have := t6.size; simp at this; omega
  have ko3_0 : u6.cell? ⟨u5.heap.size, 0, none⟩ = some (.int .i64 a1_0) := cell_be t6 (by simp [go_sem])
  have ko3_1 : u6.cell? ⟨u5.heap.size, 1, none⟩ = some (.slice x3 len1_1 len1_1) := cell_be t6 (by simp [go_sem])
  have ko3_2 : u6.cell? ⟨u5.heap.size, 2, none⟩ = some (.slice y3 len1_2 len1_2) := cell_be t6 (by simp [go_sem])
  replace o1 := o1.below t6
  replace o2 := o2.below t6
  replace o3 := o3.below t6
  replace o4 := o4.mono (lo' := u5.heap.size + 1) (by simp) (Nat.le_refl _)
  clear t6
  go_wp2_with fail
  refine (eqI _ _ _ _ _ _ _ (OZ.sl o4) (OZ.sl o1) (by omega)).mono ?_
  rintro e u7 ⟨rfl, t7⟩
  have B7 := bnext B6 t7
  replace f0_0 := cell_be t7 f0_0
  replace f0_1 := cell_be t7 f0_1
  replace f0_2 := cell_be t7 f0_2
  replace f1_0 := cell_be t7 f1_0
  replace f1_1 := cell_be t7 f1_1
  replace f1_2 := cell_be t7 f1_2
  replace ko2_0 := cell_be t7 ko2_0
  replace ko2_1 := cell_be t7 ko2_1
  replace ko2_2 := cell_be t7 ko2_2
  replace ko3_0 := cell_be t7 ko3_0
  replace ko3_1 := cell_be t7 ko3_1
  replace ko3_2 := cell_be t7 ko3_2
  have sz7 := t7.size
  replace o1 := o1.below t7
  replace o2 := o2.below t7
  replace o3 := o3.below t7
  replace o4 := o4.below t7
  clear t7
  have hbr8 := (Below.refl u7.heap.size u7).drew
  have F8 : ∀ w', Below u7.heap.size u7 w' → w'.cell? ⟨w.heap.size, 0, none⟩ = some (.int .i64 a0_0) ∧ w'.cell? ⟨w.heap.size, 1, none⟩ = some (.slice a0_1 len0_1 cap0_1) ∧ w'.cell? ⟨w.heap.size, 2, none⟩ = some (.slice a0_2 len0_2 cap0_2) ∧ w'.cell? ⟨u4.heap.size, 0, none⟩ = some (.int .i64 a0_0) ∧ w'.cell? ⟨u4.heap.size, 1, none⟩ = some (.slice x2 len0_1 len0_1) ∧ w'.cell? ⟨u4.heap.size, 2, none⟩ = some (.slice y2 len0_2 len0_2) := fun w' hb => ⟨cell_be hb f0_0, cell_be hb f0_1, cell_be hb f0_2, cell_be hb ko2_0, cell_be hb ko2_1, cell_be hb ko2_2⟩
  go_wp2_with fail
  go_region_held3 (fun w' => w'.cell? ⟨w.heap.size, 0, none⟩ = some (.int .i64 a0_0) ∧ w'.cell? ⟨w.heap.size, 1, none⟩ = some (.slice a0_1 len0_1 cap0_1) ∧ w'.cell? ⟨w.heap.size, 2, none⟩ = some (.slice a0_2 len0_2 cap0_2) ∧ w'.cell? ⟨u4.heap.size, 0, none⟩ = some (.int .i64 a0_0) ∧ w'.cell? ⟨u4.heap.size, 1, none⟩ = some (.slice x2 len0_1 len0_1) ∧ w'.cell? ⟨u4.heap.size, 2, none⟩ = some (.slice y2 len0_2 len0_2))
    (exact F8 _ (by assumption))
    (first
    | (go_at_call 20; refine (toJ _ _ _ _ _ _ _ _ _ _ ((s0_1.below B7).below hbr8) ((s0_2.below B7).below hbr8) (by omega) (by omega)).mono ?_; rintro e wn8 ⟨xn8, yn8, rfl, on8, hn8⟩; have hm8 := bnext hbr8 hn8)
    | (go_at_call 15; refine (eqJ _ _ _ _ _ _ _ _ _ _ _ _ _ _ ((JZ.sl1 o2).below hm8) on8.sl1 ((JZ.sl2 o2).below hm8) on8.sl2 (by omega) (by omega)).mono ?_; rintro e u8 ⟨rfl, hr8⟩; have t8 := bnext hm8 hr8))
  clear F8 on8 hn8 hm8 hr8 hbr8
  have B8 := bnext B7 t8
  have sz8 := t8.size
  replace f0_0 := cell_be t8 f0_0
  replace f0_1 := cell_be t8 f0_1
  replace f0_2 := cell_be t8 f0_2
  replace f1_0 := cell_be t8 f1_0
  replace f1_1 := cell_be t8 f1_1
  replace f1_2 := cell_be t8 f1_2
  replace ko2_0 := cell_be t8 ko2_0
  replace ko2_1 := cell_be t8 ko2_1
  replace ko2_2 := cell_be t8 ko2_2
  replace ko3_0 := cell_be t8 ko3_0
  replace ko3_1 := cell_be t8 ko3_1
  replace ko3_2 := cell_be t8 ko3_2
  replace o1 := o1.below t8
  replace o2 := o2.below t8
  replace o3 := o3.below t8
  replace o4 := o4.below t8
  clear t8
  have hbr9 := (Below.refl u8.heap.size u8).drew
  have F9 : ∀ w', Below u8.heap.size u8 w' → w'.cell? ⟨w.heap.size + 1, 0, none⟩ = some (.int .i64 a1_0) ∧ w'.cell? ⟨w.heap.size + 1, 1, none⟩ = some (.slice a1_1 len1_1 cap1_1) ∧ w'.cell? ⟨w.heap.size + 1, 2, none⟩ = some (.slice a1_2 len1_2 cap1_2) ∧ w'.cell? ⟨u5.heap.size, 0, none⟩ = some (.int .i64 a1_0) ∧ w'.cell? ⟨u5.heap.size, 1, none⟩ = some (.slice x3 len1_1 len1_1) ∧ w'.cell? ⟨u5.heap.size, 2, none⟩ = some (.slice y3 len1_2 len1_2) := fun w' hb => ⟨cell_be hb f1_0, cell_be hb f1_1, cell_be hb f1_2, cell_be hb ko3_0, cell_be hb ko3_1, cell_be hb ko3_2⟩
  go_wp2_with fail
  go_region_held3 (fun w' => w'.cell? ⟨w.heap.size + 1, 0, none⟩ = some (.int .i64 a1_0) ∧ w'.cell? ⟨w.heap.size + 1, 1, none⟩ = some (.slice a1_1 len1_1 cap1_1) ∧ w'.cell? ⟨w.heap.size + 1, 2, none⟩ = some (.slice a1_2 len1_2 cap1_2) ∧ w'.cell? ⟨u5.heap.size, 0, none⟩ = some (.int .i64 a1_0) ∧ w'.cell? ⟨u5.heap.size, 1, none⟩ = some (.slice x3 len1_1 len1_1) ∧ w'.cell? ⟨u5.heap.size, 2, none⟩ = some (.slice y3 len1_2 len1_2))
    (exact F9 _ (by assumption))
    (first
    | (go_at_call 20; refine (toJ _ _ _ _ _ _ _ _ _ _ ((s1_1.below B8).below hbr9) ((s1_2.below B8).below hbr9) (by omega) (by omega)).mono ?_; rintro e wn9 ⟨xn9, yn9, rfl, on9, hn9⟩; have hm9 := bnext hbr9 hn9)
    | (go_at_call 15; refine (eqJ _ _ _ _ _ _ _ _ _ _ _ _ _ _ ((JZ.sl1 o3).below hm9) on9.sl1 ((JZ.sl2 o3).below hm9) on9.sl2 (by omega) (by omega)).mono ?_; rintro e u9 ⟨rfl, hr9⟩; have t9 := bnext hm9 hr9))
  clear F9 on9 hn9 hm9 hr9 hbr9
  have B9 := bnext B8 t9
  have sz9 := t9.size
  replace f0_0 := cell_be t9 f0_0
  replace f0_1 := cell_be t9 f0_1
  replace f0_2 := cell_be t9 f0_2
  replace f1_0 := cell_be t9 f1_0
  replace f1_1 := cell_be t9 f1_1
  replace f1_2 := cell_be t9 f1_2
  replace ko2_0 := cell_be t9 ko2_0
  replace ko2_1 := cell_be t9 ko2_1
  replace ko2_2 := cell_be t9 ko2_2
  replace ko3_0 := cell_be t9 ko3_0
  replace ko3_1 := cell_be t9 ko3_1
  replace ko3_2 := cell_be t9 ko3_2
  replace o1 := o1.below t9
  replace o2 := o2.below t9
  replace o3 := o3.below t9
  replace o4 := o4.below t9
  clear t9
  go_wp2_with fail
  refine (markJ _ _ _ _ _ _ _ _ _ _ _ _ _ o2 (by omega) (by omega) (by omega) (by omega) (by omega) (by omega)).mono ?_
  rintro e u10 ⟨rfl, no2, gt⟩
  clear o2
  have o2 := no2
  clear no2
  have B10 := below_touch B9 gt (by omega) (by omega)
  have sz10 := gt.size
  replace o1 := o1.touch gt (by omega)
  replace o3 := o3.touch gt (by omega)
  replace o4 := o4.touch gt (by omega)
  replace f0_0 := gt.cell f0_0 (by omega)
  replace f0_1 := gt.cell f0_1 (by omega)
  replace f0_2 := gt.cell f0_2 (by omega)
  replace f1_0 := gt.cell f1_0 (by omega)
  replace f1_1 := gt.cell f1_1 (by omega)
  replace f1_2 := gt.cell f1_2 (by omega)
  replace ko2_0 := gt.cell ko2_0 (by omega)
  replace ko2_1 := gt.cell ko2_1 (by omega)
  replace ko2_2 := gt.cell ko2_2 (by omega)
  replace ko3_0 := gt.cell ko3_0 (by omega)
  replace ko3_1 := gt.cell ko3_1 (by omega)
  replace ko3_2 := gt.cell ko3_2 (by omega)
  clear gt
  clear o2
  clear ko2_0
  clear ko2_1
  clear ko2_2
  go_wp2_with fail
  refine (markJ _ _ _ _ _ _ _ _ _ _ _ _ _ o3 (by omega) (by omega) (by omega) (by omega) (by omega) (by omega)).mono ?_
  rintro e u11 ⟨rfl, no3, gt⟩
  clear o3
  have o3 := no3
  clear no3
  have B11 := below_touch B10 gt (by omega) (by omega)
  have sz11 := gt.size
  replace o1 := o1.touch gt (by omega)
  replace o4 := o4.touch gt (by omega)
  replace f0_0 := gt.cell f0_0 (by omega)
  replace f0_1 := gt.cell f0_1 (by omega)
  replace f0_2 := gt.cell f0_2 (by omega)
  replace f1_0 := gt.cell f1_0 (by omega)
  replace f1_1 := gt.cell f1_1 (by omega)
  replace f1_2 := gt.cell f1_2 (by omega)
  replace ko3_0 := gt.cell ko3_0 (by omega)
  replace ko3_1 := gt.cell ko3_1 (by omega)
  replace ko3_2 := gt.cell ko3_2 (by omega)
  clear gt
  clear o3
  clear ko3_0
  clear ko3_1
  clear ko3_2
  go_wp2_with fail
  refine (eqI _ _ _ _ _ _ _ (OZ.sl o4) (OZ.sl o1) (by omega)).mono ?_
  rintro e u12 ⟨rfl, t12⟩
  have B12 := bnext B11 t12
  replace f0_0 := cell_be t12 f0_0
  replace f0_1 := cell_be t12 f0_1
  replace f0_2 := cell_be t12 f0_2
  replace f1_0 := cell_be t12 f1_0
  replace f1_1 := cell_be t12 f1_1
  replace f1_2 := cell_be t12 f1_2
  have sz12 := t12.size
  replace o1 := o1.below t12
  replace o4 := o4.below t12
  clear t12
  go_wp2_with fail
  refine (markZT _ _ _ _ _ _ _ _ o4 (by omega) (by omega) (by omega)).mono ?_
  rintro e u13 ⟨rfl, no4, gt⟩
  clear o4
  have o4 := no4
  clear no4
  have B13 := below_touch B12 gt (by omega) (by omega)
  have sz13 := gt.size
  replace o1 := o1.touch gt (by omega)
  replace f0_0 := gt.cell f0_0 (by omega)
  replace f0_1 := gt.cell f0_1 (by omega)
  replace f0_2 := gt.cell f0_2 (by omega)
  replace f1_0 := gt.cell f1_0 (by omega)
  replace f1_1 := gt.cell f1_1 (by omega)
  replace f1_2 := gt.cell f1_2 (by omega)
  clear gt
  go_wp2_with fail
  refine (heldI _ _ _ _ _ (OZ.sl o4) (by omega) (by omega) (by omega)).mono ?_
  rintro e w' ⟨rfl, rfl⟩
  have hd := (Below.refl u13.heap.size u13).drew
  have FK : ∀ w', Below u13.heap.size u13 w' → w'.cell? ⟨w.heap.size, 0, none⟩ = some (.int .i64 a0_0) ∧ w'.cell? ⟨w.heap.size, 1, none⟩ = some (.slice a0_1 len0_1 cap0_1) ∧ w'.cell? ⟨w.heap.size, 2, none⟩ = some (.slice a0_2 len0_2 cap0_2) ∧ w'.cell? ⟨w.heap.size + 1, 0, none⟩ = some (.int .i64 a1_0) ∧ w'.cell? ⟨w.heap.size + 1, 1, none⟩ = some (.slice a1_1 len1_1 cap1_1) ∧ w'.cell? ⟨w.heap.size + 1, 2, none⟩ = some (.slice a1_2 len1_2 cap1_2) := fun w' hb => ⟨cell_be hb f0_0, cell_be hb f0_1, cell_be hb f0_2, cell_be hb f1_0, cell_be hb f1_1, cell_be hb f1_2⟩
  go_wp2_with fail
  go_region_held3 (fun w' => w'.cell? ⟨w.heap.size, 0, none⟩ = some (.int .i64 a0_0) ∧ w'.cell? ⟨w.heap.size, 1, none⟩ = some (.slice a0_1 len0_1 cap0_1) ∧ w'.cell? ⟨w.heap.size, 2, none⟩ = some (.slice a0_2 len0_2 cap0_2) ∧ w'.cell? ⟨w.heap.size + 1, 0, none⟩ = some (.int .i64 a1_0) ∧ w'.cell? ⟨w.heap.size + 1, 1, none⟩ = some (.slice a1_1 len1_1 cap1_1) ∧ w'.cell? ⟨w.heap.size + 1, 2, none⟩ = some (.slice a1_2 len1_2 cap1_2))
    (exact FK _ (by assumption))
    (first
    | (go_at_call 37; refine (implConnectJacobi _ _ _ _ _ _ _ _ _ _ _ _ _ _ _ _ _ _ _ _ (JZ.sl1 oA) (JZ.sl2 oA) (JZ.sl1 oB) (JZ.sl2 oB) (by omega) (by omega) (by omega) (by omega)).mono ?_; rintro e u14 ⟨ra5, rc5, rfl, o5, l5, tt⟩; have hm := bnext hmB tt)
    | (go_at_call 20; refine (toJ _ _ _ _ _ _ _ _ _ _ ((s1_1.below B13).below hmA) ((s1_2.below B13).below hmA) (by omega) (by omega)).mono ?_; rintro e vB ⟨xB, yB, rfl, oB, tB⟩; have hmB := bnext hmA tB; replace oA := oA.below tB)
    | (go_at_call 20; refine (toJ _ _ _ _ _ _ _ _ _ _ ((s0_1.below B13).below hd) ((s0_2.below B13).below hd) (by omega) (by omega)).mono ?_; rintro e vA ⟨xA, yA, rfl, oA, tA⟩; have hmA := bnext hd tA))
  replace o5 := o5.mono (lo' := u13.heap.size) (by have := hmB.size; omega) (Nat.le_refl _)
  have B14 := bnext B13 hm
  replace f0_0 := cell_be hm f0_0
  replace f0_1 := cell_be hm f0_1
  replace f0_2 := cell_be hm f0_2
  replace f1_0 := cell_be hm f1_0
  replace f1_1 := cell_be hm f1_1
  replace f1_2 := cell_be hm f1_2
  have sz14 := hm.size
  replace o1 := o1.below hm
  replace o4 := o4.below hm
  clear hm hmA hmB hd FK oA oB tA tB tt
  go_wp2_with fail
  refine (eqI _ _ _ _ _ _ _ (OZ.sl o5) (OZ.sl o1) (by omega)).mono ?_
  rintro e u15 ⟨rfl, t15⟩
  have B15 := bnext B14 t15
  replace f0_0 := cell_be t15 f0_0
  replace f0_1 := cell_be t15 f0_1
  replace f0_2 := cell_be t15 f0_2
  replace f1_0 := cell_be t15 f1_0
  replace f1_1 := cell_be t15 f1_1
  replace f1_2 := cell_be t15 f1_2
  have sz15 := t15.size
  replace o1 := o1.below t15
  replace o4 := o4.below t15
  replace o5 := o5.below t15
  clear t15
  clear o5
  go_wp2_with fail
  refine (heldI _ _ _ _ _ (OZ.sl o4) (by omega) (by omega) (by omega)).mono ?_
  rintro e w' ⟨rfl, rfl⟩
  go_wp2
  go_ret
  exact ⟨rfl, B15⟩

set_option maxRecDepth 100000 in
theorem lifted (os : Os) (started : os.Started) (H : Type) (enc : TypeId × Value → H) :
    ReturnsInHanded {} Try.checked os 10 .any (Rows.fnExactConnectJacobiSpec.pre6 enc Try.prog Try.f10 Rows.fnExactConnectJacobiRow.domain false) (Rows.fnExactConnectJacobiSpec.post enc Try.prog Try.f10 false true false false) := by
  refine returnsInHanded_of_change (C := Try.checked) own started (by kernel_rfl) Try.func10
    (ChangeSpec.witness6 (enc := enc) (C := Try.checked) false ⟨#[], #[.agg #[.int .i64 0, .slice none 0 0, .slice none 0 0], .agg #[.int .i64 0, .slice none 0 0, .slice none 0 0], .int .i64 0], []⟩ 8 (by kernel_rfl) (by kernel_rfl) (by kernel_rfl) (by kernel_rfl)) ?_
  intro W base args ds gs before hval0 hW hcnd _
  have hval : ∀ (j : Nat) t v, Try.f10.params[j]? = some t → args[j]? = some v → Value.okWide Try.prog W .any base t v := hval0
  have hW' := hW
  obtain ⟨p, q, hA0, hV, rfl, hfz, hnd⟩ := hW
  have hA : DataW.TrodAll enc Try.prog W 0 (fun _ => true) true Try.f10.params.toList args.toList ds p := hA0
  rw [Try.params10] at hA hval
  obtain ⟨v0, vs0, d0, ds0, p0, q0, hargs, rfl, rfl, h0, r0⟩ := trodAll_cons hA
  obtain ⟨v1, vs1, d1, ds1, p1, q1, rfl, rfl, rfl, h1, r1⟩ := trodAll_cons r0
  obtain ⟨v2, vs2, d2, ds2, p2, q2, rfl, rfl, rfl, h2, r2⟩ := trodAll_cons r1
  obtain ⟨rfl, rfl, rfl⟩ := trodAll_nil r2
  obtain rfl : args = #[v0, v1, v2] := by cases args; simp_all
  obtain ⟨rfl, rfl⟩ := trodVars_none hV
  have k0 := h0
  have lt0 : ∀ x ∈ p0, x.block < W.heap.size := by obtain ⟨m, hm⟩ := k0; exact DataW.trod_lt m _ _ _ hm
  obtain ⟨c0_0, c0_1, c0_2, y0_0, y0_1, y0_2, m0, rfl, rfl, rfl, h0_0, h0_1, h0_2⟩ := Joins.open_agg3 Try.underlying30 (by kernel_rfl) (by kernel_rfl) (hval 0 30 v0 rfl rfl) h0
  obtain ⟨a0_0, e0_0, g0_0, w0_0⟩ := DataW.trod_int Try.underlying2 h0_0
  simp at e0_0
  subst e0_0
  obtain ⟨a0_1, len0_1, cap0_1, e0_1⟩ := Joins.slice_form Try.underlying22 h0_1
  simp at e0_1
  subst e0_1
  obtain ⟨z0_1, w0_1⟩ : ∃ zs, IsRow .i64 W a0_1 len0_1 cap0_1 zs := by
    have hf := h0_1
    rcases open_ints Try.underlying22 Try.underlying2 (by kernel_rfl) hf with ⟨hcs, _⟩ | ⟨x, l, c, zs, hcs, _, hl, hm, hz, _, hcell, hwz⟩
    · simp [Value.cells] at hcs
      obtain ⟨rfl, rfl, rfl⟩ := hcs
      exact ⟨[], .inl ⟨rfl, rfl, rfl, rfl⟩⟩
    · simp [Value.cells] at hcs
      obtain ⟨rfl, rfl, rfl⟩ := hcs
      exact ⟨zs, .inr ⟨_, rfl, hl, hm, by simpa using hz, hcell, hwz⟩⟩
  obtain ⟨a0_2, len0_2, cap0_2, e0_2⟩ := Joins.slice_form Try.underlying22 h0_2
  simp at e0_2
  subst e0_2
  obtain ⟨z0_2, w0_2⟩ : ∃ zs, IsRow .i64 W a0_2 len0_2 cap0_2 zs := by
    have hf := h0_2
    rcases open_ints Try.underlying22 Try.underlying2 (by kernel_rfl) hf with ⟨hcs, _⟩ | ⟨x, l, c, zs, hcs, _, hl, hm, hz, _, hcell, hwz⟩
    · simp [Value.cells] at hcs
      obtain ⟨rfl, rfl, rfl⟩ := hcs
      exact ⟨[], .inl ⟨rfl, rfl, rfl, rfl⟩⟩
    · simp [Value.cells] at hcs
      obtain ⟨rfl, rfl, rfl⟩ := hcs
      exact ⟨zs, .inr ⟨_, rfl, hl, hm, by simpa using hz, hcell, hwz⟩⟩
  have k1 := h1
  have lt1 : ∀ x ∈ p1, x.block < W.heap.size := by obtain ⟨m, hm⟩ := k1; exact DataW.trod_lt m _ _ _ hm
  obtain ⟨c1_0, c1_1, c1_2, y1_0, y1_1, y1_2, m1, rfl, rfl, rfl, h1_0, h1_1, h1_2⟩ := Joins.open_agg3 Try.underlying30 (by kernel_rfl) (by kernel_rfl) (hval 1 30 v1 rfl rfl) h1
  obtain ⟨a1_0, e1_0, g1_0, w1_0⟩ := DataW.trod_int Try.underlying2 h1_0
  simp at e1_0
  subst e1_0
  obtain ⟨a1_1, len1_1, cap1_1, e1_1⟩ := Joins.slice_form Try.underlying22 h1_1
  simp at e1_1
  subst e1_1
  obtain ⟨z1_1, w1_1⟩ : ∃ zs, IsRow .i64 W a1_1 len1_1 cap1_1 zs := by
    have hf := h1_1
    rcases open_ints Try.underlying22 Try.underlying2 (by kernel_rfl) hf with ⟨hcs, _⟩ | ⟨x, l, c, zs, hcs, _, hl, hm, hz, _, hcell, hwz⟩
    · simp [Value.cells] at hcs
      obtain ⟨rfl, rfl, rfl⟩ := hcs
      exact ⟨[], .inl ⟨rfl, rfl, rfl, rfl⟩⟩
    · simp [Value.cells] at hcs
      obtain ⟨rfl, rfl, rfl⟩ := hcs
      exact ⟨zs, .inr ⟨_, rfl, hl, hm, by simpa using hz, hcell, hwz⟩⟩
  obtain ⟨a1_2, len1_2, cap1_2, e1_2⟩ := Joins.slice_form Try.underlying22 h1_2
  simp at e1_2
  subst e1_2
  obtain ⟨z1_2, w1_2⟩ : ∃ zs, IsRow .i64 W a1_2 len1_2 cap1_2 zs := by
    have hf := h1_2
    rcases open_ints Try.underlying22 Try.underlying2 (by kernel_rfl) hf with ⟨hcs, _⟩ | ⟨x, l, c, zs, hcs, _, hl, hm, hz, _, hcell, hwz⟩
    · simp [Value.cells] at hcs
      obtain ⟨rfl, rfl, rfl⟩ := hcs
      exact ⟨[], .inl ⟨rfl, rfl, rfl, rfl⟩⟩
    · simp [Value.cells] at hcs
      obtain ⟨rfl, rfl, rfl⟩ := hcs
      exact ⟨zs, .inr ⟨_, rfl, hl, hm, by simpa using hz, hcell, hwz⟩⟩
  obtain ⟨a2, rfl, rfl, rfl, w2⟩ := open_int Try.underlying2 (hval 2 2 v2 rfl rfl) h2
  clear hA0 hval0
  refine (walk a0_0 a0_1 len0_1 cap0_1 z0_1 a0_2 len0_2 cap0_2 z0_2 a1_0 a1_1 len1_1 cap1_1 z1_1 a1_2 len1_2 cap1_2 z1_2 a2 W w0_0 w0_1 w0_2 w1_0 w1_1 w1_2 w2).mono fun e W' ⟨he, bel⟩ => ?_
  subst he
  exact ⟨_, rfl, _, _, _, [], _, [], hW', trodAll_mk1 (shut_bool Try.underlying4 _), (trodAll_cons_mk (Below.trod laidOut (by kernel_rfl) (of_decide_eq_true (by kernel_rfl)) k0 bel lt0) (trodAll_cons_mk (Below.trod laidOut (by kernel_rfl) (of_decide_eq_true (by kernel_rfl)) k1 bel lt1) (trodAll_cons_mk (shut_int Try.underlying2 w2) trodAll_mk0))), rfl, bel.frame _, fun h => by cases h⟩

theorem over : Rows.fnExactConnectJacobiRow.holds Try.pinned (OpenSpec.ofChange Rows.fnExactConnectJacobiSpec) :=
  OpenClaim.holds_of_wide 10 Try.f10 rfl rfl rfl rfl rfl rfl rfl ⟨rfl, rfl, rfl, rfl, rfl⟩ rfl rfl rfl rfl rfl (by kernel_rfl) Try.func10 (by kernel_rfl)
    (of_decide_eq_true (by kernel_rfl)) (by unfold Func.isWrapper; first | (rw [if_pos (by decide +kernel)]; kernel_rfl) | (rw [if_neg (by decide +kernel)]; exact ⟨rfl, rfl⟩))
    (fun os started H enc _ => lifted os started H enc)

theorem proved : Rows.FnExactConnectJacobiSaid := over
#print axioms proved
end Go.Proofs.Ytgaafhcnfeipbaa.fnExactConnectJacobi

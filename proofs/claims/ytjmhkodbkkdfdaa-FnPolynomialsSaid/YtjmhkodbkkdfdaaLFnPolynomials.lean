/- The law 'FnPolynomials' returns true for every input and leaves its arguments as they were. Conditions: none. -/
import Derived.Test.YtjmhkodbkkdfdaaRows
import Derived.WalkKit
import Derived.ProofKit
import Derived.OpenShut
import Derived.ShutString
import Derived.ChangeOld
import Derived.Below
import Derived.Test.YtjmhkodbkkdfdaaPm
namespace Go.Proofs.Ytjmhkodbkkdfdaa.fnPolynomials
open Go.ChangeShapes Go.WideShapes Go.ChangeAt Go.RowKit
open Go.ChangeMaps (open_string shut_string)
set_option linter.unusedVariables false
set_option linter.unusedSimpArgs false

theorem own : ownKnob Try.prog.godebug = none := by kernel_rfl
theorem laidOut : laidOutB Try.prog = true := by kernel_rfl

/-- WHAT THE WALK IS TOLD OF A SLICE OF INTEGERS THAT CAME IN: it is nil; or it leads to a row of 'cap' cells, the numbers 'zs' (the first 'len' are its elements, the rest its spare room), each fitting its kind. -/
def IsRow (k : IntKind) (w : World) (a : Option Addr) (len cap : Nat) (zs : List Int) : Prop :=
  (a = none ∧ len = 0 ∧ cap = 0 ∧ zs = []) ∨
  ∃ x, a = some x ∧ len ≤ cap ∧ cap ≤ maxLen ∧ zs.length = cap ∧ (∀ i, i < zs.length → w.cell? (x.add i) = some (.int k (zs.getD i 0))) ∧ ∀ n ∈ zs, (Lit.int k n).wf = true

/-! ### STEP 1: THE WALK: the Go text returns true, AND WRITES NOTHING THAT WAS THERE: 'Below w.heap.size w w'' (Derived/Below.lean: '.refl', '.alloc', '.drew', '.setCell' at a new block, '.trans'). Open each 'IsRow' by 'rcases' AHEAD of 'go_enter'; part every test ahead of the walk. -/
set_option maxRecDepth 100000 in
set_option maxHeartbeats 3000000 in
theorem walk (a0 : Option Addr) (len0 cap0 : Nat) (z0 : List Int) (w : World) (w0 : IsRow .u8 w a0 len0 cap0 z0) :
    Calls Try.prog 7 #[.slice a0 len0 cap0] w fun e w' => e = .returned (.bool true) ∧ Below w.heap.size w w' := by
  have s0 := sb_of_row w0
  clear w0
  by_cases L : 4096 < len0
  · go_enter Try.func7, Try.ntmps7
    go_wp2_with fail
    refine (big_yes _ _ _ _ L).mono ?_
    rintro e w' ⟨rfl, rfl⟩
    go_wp2
    go_ret
    exact ⟨rfl, Below.refl _ _⟩
  have L' : len0 ≤ 4096 := by omega
  clear L
  go_enter Try.func7, Try.ntmps7
  go_wp2_with fail
  refine (big_no _ _ _ _ L').mono ?_
  rintro e w' ⟨rfl, rfl⟩
  go_wp2_with fail
  refine (drawDivide_any _ _ _ _ s0 L').mono ?_
  rintro e u1 ⟨p, a1, c1, xs, a2, c2, ys, rfl, f1, lx, f2, ly, B1⟩
  go_wp2_with fail
  refine (implDividePolys _ _ _ _ _ _ _ _ _ _ f1 f2 (by omega) (by omega)).mono ?_
  rintro e u2 ⟨qa, qc, ra, rc, rfl, _, _, _, _, _, o2, p2, l2, m2, t2⟩
  have B2 := bnext B1 t2
  replace f1 := f1.below t2
  replace f2 := f2.below t2
  replace o2 := o2.sl
  replace p2 := p2.sl
  clear t2 B1
  go_wp2_with fail
  refine (specDividePolys _ _ _ _ _ _ _ _ _ _ f1 f2 (by omega) (by omega)).mono ?_
  rintro e u3 ⟨qa3, qc3, ra3, rc3, rfl, _, _, _, _, _, o3, p3, l3, m3, t3⟩
  have B3 := bnext B2 t3
  replace f1 := f1.below t3
  replace f2 := f2.below t3
  replace o2 := o2.below t3
  replace p2 := p2.below t3
  replace o3 := o3.sl
  replace p3 := p3.sl
  clear t3 B2
  go_wp2_with fail
  refine (likeI _ _ _ _ _ _ _ o2 o3 (by omega)).mono ?_
  rintro e u4 ⟨rfl, t4⟩
  have B4 := bnext B3 t4
  replace f1 := f1.below t4
  replace f2 := f2.below t4
  replace o2 := o2.below t4
  replace p2 := p2.below t4
  replace p3 := p3.below t4
  clear t4 B3 o3
  go_wp2_with fail
  refine (likeI _ _ _ _ _ _ _ p2 p3 (by omega)).mono ?_
  rintro e u5 ⟨rfl, t5⟩
  have B5 := bnext B4 t5
  replace f1 := f1.below t5
  replace f2 := f2.below t5
  replace o2 := o2.below t5
  replace p2 := p2.below t5
  clear t5 B4 p3
  go_wp2_with fail
  refine (isPoly_any _ _ _ _ _ _ f1 (by omega)).mono ?_
  rintro e u6 ⟨rfl, t6⟩
  have B6 := bnext B5 t6
  replace f1 := f1.below t6
  replace f2 := f2.below t6
  replace o2 := o2.below t6
  replace p2 := p2.below t6
  clear t6 B5
  go_wp2_with fail
  refine (specIsPoly _ _ _ _ _ _ f1 (by omega)).mono ?_
  rintro e u6' ⟨rfl, rfl⟩
  generalize polyB p xs = bx
  go_upto_if 114 with fail
  go_cut [2] (fun s2 wx => s2 = .bool false ∧ Below w.heap.size w wx)
  case first =>
    have key : divC p xs ys = 0 ∨ divC p xs ys ≠ 0 := Classical.em _
    rcases key with hz | hz
    · obtain ⟨g1, g2, g3, g4⟩ := div_facts hz
      have G1 := hide g1
      have G2 := hide g2
      have G3 := hide g3
      have hz' : (divC p xs ys == 0) = true := by simpa using hz
      have HZ := hide hz
      clear g1 g2 g3 hz
      go_wp2_with fail
      refine (implMultiplyPolys _ _ _ _ _ _ _ _ _ _ o2 f2 (by omega) (by omega)).mono ?_
      rintro e u7 ⟨a7, c7, rfl, o7, l7, t7⟩
      have B7 := bnext B6 t7
      replace f1 := f1.below t7
      replace f2 := f2.below t7
      replace p2 := p2.below t7
      replace o7 := OZ.sl o7
      clear t7 B6 o2
      have g1 := G1.out
      go_wp2_with fail
      refine (implAddPolys _ 1 _ _ _ _ _ _ _ _ _ o7 p2 (by omega) (by omega)).mono ?_
      rintro e u8 ⟨a8, c8, rfl, o8, l8, t8⟩
      have B8 := bnext B7 t8
      replace f1 := f1.below t8
      replace f2 := f2.below t8
      replace o8 := OZ.sl o8
      clear t8 B7 o7 p2
      rw [G3.out] at o8
      have g2 := G2.out
      have g3 := G3.out
      go_wp2_with fail
      refine (likeI _ _ _ _ _ _ _ o8 f1 (by omega)).mono ?_
      rintro e u9 ⟨rfl, t9⟩
      have B9 := bnext B8 t9
      clear t9 B8 o8 f1 f2
      have g4' : ¬ ((ys.length : Int) ≤ ((divU p xs ys).length : Int)) := by omega
      go_wp2
      go_meet
      exact ⟨rfl, B9⟩
    · have hz' : (divC p xs ys == 0) = false := by simpa using hz
      have HZ := hide hz
      clear hz
      go_wp2
      go_meet
      exact ⟨rfl, B6⟩
  case rest =>
    obtain ⟨rfl, B20⟩ := hcut
    clear B6 f1 f2 o2 p2
    go_wp2_with fail
    refine (drawGcd_any _ _ _ _ (s0.below B20) L').mono ?_
    rintro e u21 ⟨p2, a1, c1, xs2, a2, c2, ys2, rfl, f1, lx2, f2, ly2, t21⟩
    have B21 := bnext B20 t21
    clear t21 B20
    go_wp2_with fail
    refine (implGcdPolys _ _ _ _ _ _ _ _ _ _ f1 f2 (by omega) (by omega)).mono ?_
    rintro e u22 ⟨ga, gc, rfl, o2, gl, t22⟩
    have B22 := bnext B21 t22
    replace f1 := f1.below t22
    replace f2 := f2.below t22
    replace o2 := OZ.sl o2
    clear t22 B21
    go_wp2_with fail
    refine (specGcdPolys _ _ _ _ _ _ _ _ _ _ f1 f2 (by omega) (by omega)).mono ?_
    rintro e u23 ⟨ga3, gc3, rfl, o3, gl3, t23⟩
    have B23 := bnext B22 t23
    replace f1 := f1.below t23
    replace f2 := f2.below t23
    replace o2 := o2.below t23
    replace o3 := OZ.sl o3
    clear t23 B22
    go_wp2_with fail
    refine (likeI _ _ _ _ _ _ _ o2 o3 (by omega)).mono ?_
    rintro e u24 ⟨rfl, t24⟩
    have B24 := bnext B23 t24
    replace f1 := f1.below t24
    replace f2 := f2.below t24
    replace o2 := o2.below t24
    clear t24 B23 o3
    generalize hV : gcdV p2 xs2 ys2 = V at o2 gl ⊢
    generalize hC : gcdC p2 xs2 ys2 = C at *
    have HV := hide hV
    have HC := hide hC
    clear hV hC
    by_cases hz : C = 0
    · have hz' : (C == 0) = true := by simpa using hz
      have HZ := hide hz
      clear hz
      by_cases hl : V.length = 0
      · have hl3 : decide (0 < V.length) = false := by simpa using hl
        have HL := hide hl
        clear hl
        have B40 := B24
        clear B24 f1 f2 o2
        go_wp2_with fail
        refine (drawMultiply_any _ _ _ _ (s0.below B40) L').mono ?_
        rintro e u41 ⟨p3, a1, c1, xs3, a2, c2, ys3, rfl, f1, lx3, f2, ly3, t41⟩
        have B41 := bnext B40 t41
        clear t41 B40
        go_wp2_with fail
        refine (implMultiplyPolys _ _ _ _ _ _ _ _ _ _ f1 f2 (by omega) (by omega)).mono ?_
        rintro e u42 ⟨ma, mc, rfl, o2, ml, t42⟩
        have B42 := bnext B41 t42
        replace f1 := f1.below t42
        replace f2 := f2.below t42
        replace o2 := OZ.sl o2
        clear t42 B41
        go_wp2_with fail
        refine (specMultiplyPolys _ _ _ _ _ _ _ _ _ _ f1 f2 (by omega) (by omega)).mono ?_
        rintro e u43 ⟨ma3, mc3, rfl, o3, ml3, t43⟩
        have B43 := bnext B42 t43
        replace f1 := f1.below t43
        replace f2 := f2.below t43
        replace o2 := o2.below t43
        replace o3 := OZ.sl o3
        clear t43 B42
        go_wp2_with fail
        refine (likeI _ _ _ _ _ _ _ o2 o3 (by omega)).mono ?_
        rintro e u44 ⟨rfl, t44⟩
        have B44 := bnext B43 t44
        replace f1 := f1.below t44
        replace f2 := f2.below t44
        replace o2 := o2.below t44
        clear t44 B43 o3
        generalize hMV : mulV p3 xs3 ys3 = MV at o2 ml ⊢
        generalize hMC : mulC p3 xs3 ys3 = MC at *
        have HMV := hide hMV
        have HMC := hide hMC
        clear hMV hMC
        by_cases hz : MC = 0
        · obtain ⟨g1, g2⟩ := mul_facts (HMC.out.trans hz)
          rw [HMV.out] at g2
          have hz' : (MC == 0) = true := by simpa using hz
          have G1 := hide g1
          have G2 := hide g2
          have HZ := hide hz
          clear g1 g2 hz
          go_wp2_with fail
          refine (implMultiplyPolys _ _ _ _ _ _ _ _ _ _ f2 f1 (by omega) (by omega)).mono ?_
          rintro e u45 ⟨na, nc, rfl, o4, nl, t45⟩
          have B45 := bnext B44 t45
          replace f1 := f1.below t45
          replace f2 := f2.below t45
          replace o2 := o2.below t45
          replace o4 := OZ.sl o4
          clear t45 B44
          rw [G2.out] at o4
          rw [G1.out, G2.out]
          go_wp2_with fail
          refine (likeI _ _ _ _ _ _ _ o4 o2 (by omega)).mono ?_
          rintro e u46 ⟨rfl, t46⟩
          have B46 := bnext B45 t46
          replace f1 := f1.below t46
          replace f2 := f2.below t46
          clear t46 B45 o4 o2
          as_aux_lemma =>
            have B60 := B46
            clear B46 f1 f2
            go_wp2_with fail
            refine (drawPowerPoly_any _ _ _ _ (s0.below B60) L').mono ?_
            rintro e u61 ⟨p4, k4, a1, c1, xs4, rfl, f1, lx4, t61⟩
            have B61 := bnext B60 t61
            clear t61 B60
            go_wp2_with fail
            refine (implPowerPoly _ _ _ _ _ _ _ f1 (by omega)).mono ?_
            rintro e u62 ⟨pa, pc, rfl, o1, pl, t62⟩
            have B62 := bnext B61 t62
            replace f1 := f1.below t62
            replace o1 := OZ.sl o1
            clear t62 B61
            go_wp2_with fail
            refine (specPowerPoly _ _ _ _ _ _ _ f1 (by omega)).mono ?_
            rintro e u63 ⟨pa2, pc2, rfl, o2, pl2, t63⟩
            have B63 := bnext B62 t63
            replace o1 := o1.below t63
            replace o2 := OZ.sl o2
            clear t63 B62 f1
            go_wp2_with fail
            refine (drawMonic_any _ _ _ _ (s0.below B63) L').mono ?_
            rintro e u64 ⟨p5, a2, c2, xs5, rfl, f2, lx5, t64⟩
            have B64 := bnext B63 t64
            replace o1 := o1.below t64
            replace o2 := o2.below t64
            clear t64 B63
            go_wp2_with fail
            refine (implMonicPoly _ _ _ _ _ _ f2 (by omega)).mono ?_
            rintro e u65 ⟨qa, qc, rfl, o3, ql, t65⟩
            have B65 := bnext B64 t65
            replace o1 := o1.below t65
            replace o2 := o2.below t65
            replace f2 := f2.below t65
            replace o3 := OZ.sl o3
            clear t65 B64
            go_wp2_with fail
            refine (specMonicPoly _ _ _ _ _ _ f2 (by omega)).mono ?_
            rintro e u66 ⟨qa2, qc2, rfl, o4, ql2, t66⟩
            have B66 := bnext B65 t66
            replace o1 := o1.below t66
            replace o2 := o2.below t66
            replace o3 := o3.below t66
            replace o4 := OZ.sl o4
            clear t66 B65 f2
            go_wp2_with fail
            refine (drawAdd_any _ _ _ _ (s0.below B66) L').mono ?_
            rintro e u67 ⟨p6, k6, a3, c3, xs6, a4, c4, ys6, rfl, f3, lx6, f4, ly6, t67⟩
            have B67 := bnext B66 t67
            replace o1 := o1.below t67
            replace o2 := o2.below t67
            replace o3 := o3.below t67
            replace o4 := o4.below t67
            clear t67 B66
            go_wp2_with fail
            refine (implAddPolys _ _ _ _ _ _ _ _ _ _ _ f3 f4 (by omega) (by omega)).mono ?_
            rintro e u68 ⟨ra, rc, rfl, o5, rl, t68⟩
            have B68 := bnext B67 t68
            replace o1 := o1.below t68
            replace o2 := o2.below t68
            replace o3 := o3.below t68
            replace o4 := o4.below t68
            replace f3 := f3.below t68
            replace f4 := f4.below t68
            replace o5 := OZ.sl o5
            clear t68 B67
            go_wp2_with fail
            refine (specAddPolys _ _ _ _ _ _ _ _ _ _ _ f3 f4 (by omega) (by omega)).mono ?_
            rintro e u69 ⟨ra2, rc2, rfl, o6, rl2, t69⟩
            have B69 := bnext B68 t69
            replace o1 := o1.below t69
            replace o2 := o2.below t69
            replace o3 := o3.below t69
            replace o4 := o4.below t69
            replace o5 := o5.below t69
            replace o6 := OZ.sl o6
            clear t69 B68 f3 f4
            go_wp2_with fail
            refine (drawDerivative_any _ _ _ _ (s0.below B69) L').mono ?_
            rintro e u70 ⟨p7, a5, c5, xs7, rfl, f5, lx7, t70⟩
            have B70 := bnext B69 t70
            replace o1 := o1.below t70
            replace o2 := o2.below t70
            replace o3 := o3.below t70
            replace o4 := o4.below t70
            replace o5 := o5.below t70
            replace o6 := o6.below t70
            clear t70 B69
            go_wp2_with fail
            refine (implDerivativeOf _ _ _ _ _ _ f5 (by omega)).mono ?_
            rintro e u71 ⟨sa, sc, rfl, o7, sl, t71⟩
            have B71 := bnext B70 t71
            replace o1 := o1.below t71
            replace o2 := o2.below t71
            replace o3 := o3.below t71
            replace o4 := o4.below t71
            replace o5 := o5.below t71
            replace o6 := o6.below t71
            replace f5 := f5.below t71
            replace o7 := OZ.sl o7
            clear t71 B70
            go_wp2_with fail
            refine (specDerivativeOf _ _ _ _ _ _ f5 (by omega)).mono ?_
            rintro e u72 ⟨sa2, sc2, rfl, o8, sl2, t72⟩
            have B72 := bnext B71 t72
            replace o1 := o1.below t72
            replace o2 := o2.below t72
            replace o3 := o3.below t72
            replace o4 := o4.below t72
            replace o5 := o5.below t72
            replace o6 := o6.below t72
            replace o7 := o7.below t72
            replace o8 := OZ.sl o8
            clear t72 B71 f5
            go_wp2_with fail
            refine (likeI _ _ _ _ _ _ _ o1 o2 (by omega)).mono ?_
            rintro e u73 ⟨rfl, t73⟩
            have B73 := bnext B72 t73
            replace o3 := o3.below t73
            replace o4 := o4.below t73
            replace o5 := o5.below t73
            replace o6 := o6.below t73
            replace o7 := o7.below t73
            replace o8 := o8.below t73
            clear t73 B72 o1 o2
            go_wp2_with fail
            refine (likeI _ _ _ _ _ _ _ o3 o4 (by omega)).mono ?_
            rintro e u74 ⟨rfl, t74⟩
            have B74 := bnext B73 t74
            replace o5 := o5.below t74
            replace o6 := o6.below t74
            replace o7 := o7.below t74
            replace o8 := o8.below t74
            clear t74 B73 o3 o4
            go_wp2_with fail
            refine (likeI _ _ _ _ _ _ _ o5 o6 (by omega)).mono ?_
            rintro e u75 ⟨rfl, t75⟩
            have B75 := bnext B74 t75
            replace o7 := o7.below t75
            replace o8 := o8.below t75
            clear t75 B74 o5 o6
            go_wp2_with fail
            refine (likeI _ _ _ _ _ _ _ o7 o8 (by omega)).mono ?_
            rintro e u76 ⟨rfl, t76⟩
            have B76 := bnext B75 t76
            clear t76 B75 o7 o8
            go_wp2
            go_ret
            exact ⟨rfl, B76⟩
        · have hz' : (MC == 0) = false := by simpa using hz
          have HZ := hide hz
          clear hz
          as_aux_lemma =>
            have B60 := B44
            clear B44 f1 f2 o2
            go_wp2_with fail
            refine (drawPowerPoly_any _ _ _ _ (s0.below B60) L').mono ?_
            rintro e u61 ⟨p4, k4, a1, c1, xs4, rfl, f1, lx4, t61⟩
            have B61 := bnext B60 t61
            clear t61 B60
            go_wp2_with fail
            refine (implPowerPoly _ _ _ _ _ _ _ f1 (by omega)).mono ?_
            rintro e u62 ⟨pa, pc, rfl, o1, pl, t62⟩
            have B62 := bnext B61 t62
            replace f1 := f1.below t62
            replace o1 := OZ.sl o1
            clear t62 B61
            go_wp2_with fail
            refine (specPowerPoly _ _ _ _ _ _ _ f1 (by omega)).mono ?_
            rintro e u63 ⟨pa2, pc2, rfl, o2, pl2, t63⟩
            have B63 := bnext B62 t63
            replace o1 := o1.below t63
            replace o2 := OZ.sl o2
            clear t63 B62 f1
            go_wp2_with fail
            refine (drawMonic_any _ _ _ _ (s0.below B63) L').mono ?_
            rintro e u64 ⟨p5, a2, c2, xs5, rfl, f2, lx5, t64⟩
            have B64 := bnext B63 t64
            replace o1 := o1.below t64
            replace o2 := o2.below t64
            clear t64 B63
            go_wp2_with fail
            refine (implMonicPoly _ _ _ _ _ _ f2 (by omega)).mono ?_
            rintro e u65 ⟨qa, qc, rfl, o3, ql, t65⟩
            have B65 := bnext B64 t65
            replace o1 := o1.below t65
            replace o2 := o2.below t65
            replace f2 := f2.below t65
            replace o3 := OZ.sl o3
            clear t65 B64
            go_wp2_with fail
            refine (specMonicPoly _ _ _ _ _ _ f2 (by omega)).mono ?_
            rintro e u66 ⟨qa2, qc2, rfl, o4, ql2, t66⟩
            have B66 := bnext B65 t66
            replace o1 := o1.below t66
            replace o2 := o2.below t66
            replace o3 := o3.below t66
            replace o4 := OZ.sl o4
            clear t66 B65 f2
            go_wp2_with fail
            refine (drawAdd_any _ _ _ _ (s0.below B66) L').mono ?_
            rintro e u67 ⟨p6, k6, a3, c3, xs6, a4, c4, ys6, rfl, f3, lx6, f4, ly6, t67⟩
            have B67 := bnext B66 t67
            replace o1 := o1.below t67
            replace o2 := o2.below t67
            replace o3 := o3.below t67
            replace o4 := o4.below t67
            clear t67 B66
            go_wp2_with fail
            refine (implAddPolys _ _ _ _ _ _ _ _ _ _ _ f3 f4 (by omega) (by omega)).mono ?_
            rintro e u68 ⟨ra, rc, rfl, o5, rl, t68⟩
            have B68 := bnext B67 t68
            replace o1 := o1.below t68
            replace o2 := o2.below t68
            replace o3 := o3.below t68
            replace o4 := o4.below t68
            replace f3 := f3.below t68
            replace f4 := f4.below t68
            replace o5 := OZ.sl o5
            clear t68 B67
            go_wp2_with fail
            refine (specAddPolys _ _ _ _ _ _ _ _ _ _ _ f3 f4 (by omega) (by omega)).mono ?_
            rintro e u69 ⟨ra2, rc2, rfl, o6, rl2, t69⟩
            have B69 := bnext B68 t69
            replace o1 := o1.below t69
            replace o2 := o2.below t69
            replace o3 := o3.below t69
            replace o4 := o4.below t69
            replace o5 := o5.below t69
            replace o6 := OZ.sl o6
            clear t69 B68 f3 f4
            go_wp2_with fail
            refine (drawDerivative_any _ _ _ _ (s0.below B69) L').mono ?_
            rintro e u70 ⟨p7, a5, c5, xs7, rfl, f5, lx7, t70⟩
            have B70 := bnext B69 t70
            replace o1 := o1.below t70
            replace o2 := o2.below t70
            replace o3 := o3.below t70
            replace o4 := o4.below t70
            replace o5 := o5.below t70
            replace o6 := o6.below t70
            clear t70 B69
            go_wp2_with fail
            refine (implDerivativeOf _ _ _ _ _ _ f5 (by omega)).mono ?_
            rintro e u71 ⟨sa, sc, rfl, o7, sl, t71⟩
            have B71 := bnext B70 t71
            replace o1 := o1.below t71
            replace o2 := o2.below t71
            replace o3 := o3.below t71
            replace o4 := o4.below t71
            replace o5 := o5.below t71
            replace o6 := o6.below t71
            replace f5 := f5.below t71
            replace o7 := OZ.sl o7
            clear t71 B70
            go_wp2_with fail
            refine (specDerivativeOf _ _ _ _ _ _ f5 (by omega)).mono ?_
            rintro e u72 ⟨sa2, sc2, rfl, o8, sl2, t72⟩
            have B72 := bnext B71 t72
            replace o1 := o1.below t72
            replace o2 := o2.below t72
            replace o3 := o3.below t72
            replace o4 := o4.below t72
            replace o5 := o5.below t72
            replace o6 := o6.below t72
            replace o7 := o7.below t72
            replace o8 := OZ.sl o8
            clear t72 B71 f5
            go_wp2_with fail
            refine (likeI _ _ _ _ _ _ _ o1 o2 (by omega)).mono ?_
            rintro e u73 ⟨rfl, t73⟩
            have B73 := bnext B72 t73
            replace o3 := o3.below t73
            replace o4 := o4.below t73
            replace o5 := o5.below t73
            replace o6 := o6.below t73
            replace o7 := o7.below t73
            replace o8 := o8.below t73
            clear t73 B72 o1 o2
            go_wp2_with fail
            refine (likeI _ _ _ _ _ _ _ o3 o4 (by omega)).mono ?_
            rintro e u74 ⟨rfl, t74⟩
            have B74 := bnext B73 t74
            replace o5 := o5.below t74
            replace o6 := o6.below t74
            replace o7 := o7.below t74
            replace o8 := o8.below t74
            clear t74 B73 o3 o4
            go_wp2_with fail
            refine (likeI _ _ _ _ _ _ _ o5 o6 (by omega)).mono ?_
            rintro e u75 ⟨rfl, t75⟩
            have B75 := bnext B74 t75
            replace o7 := o7.below t75
            replace o8 := o8.below t75
            clear t75 B74 o5 o6
            go_wp2_with fail
            refine (likeI _ _ _ _ _ _ _ o7 o8 (by omega)).mono ?_
            rintro e u76 ⟨rfl, t76⟩
            have B76 := bnext B75 t76
            clear t76 B75 o7 o8
            go_wp2
            go_ret
            exact ⟨rfl, B76⟩
      · obtain ⟨g1, g2, g3, g4, g5⟩ := gcd_facts (HC.out.trans HZ.out) (by rw [HV.out]; exact hl)
        rw [HV.out] at g1 g2 g3 g4 g5
        have hl3 : decide (0 < V.length) = true := by simp; omega
        have hl' : 0 < V.length := by omega
        have hl2 : 0 < (V.length : Int) := by omega
        have G1 := hide g1
        have G2 := hide g2
        have G3 := hide g3
        have G4 := hide g4
        have G5 := hide g5
        have HL := hide hl
        clear g1 g2 g3 g4 g5 hl
        go_wp2_with fail
        refine (implDividePolys _ _ _ _ _ _ _ _ _ _ f1 o2 (by omega) (by omega)).mono ?_
        rintro e u25 ⟨qa25, qc25, ra25, rc25, rfl, _, _, _, _, _, v25, w25, l25, m25, t25⟩
        have B25 := bnext B24 t25
        replace f1 := f1.below t25
        replace f2 := f2.below t25
        replace o2 := o2.below t25
        clear t25 B24 v25 w25
        rw [G1.out, G2.out]
        go_wp2_with fail
        refine (implDividePolys _ _ _ _ _ _ _ _ _ _ f2 o2 (by omega) (by omega)).mono ?_
        rintro e u26 ⟨qa26, qc26, ra26, rc26, rfl, _, _, _, _, _, v26, w26, l26, m26, t26⟩
        have B26 := bnext B25 t26
        replace f1 := f1.below t26
        replace f2 := f2.below t26
        replace o2 := o2.below t26
        clear t26 B25 v26 w26
        rw [G3.out, G4.out]
        obtain ⟨bq, oq, hq, _, hcq⟩ := o2.at hl'
        subst hq
        have e5 := hcq (V.length - 1) (by omega)
        rw [G5.out] at e5
        have hidx : 0 ≤ (V.length : Int) - 1 := by omega
        have hidx2 : ((V.length : Int) - 1).toNat = V.length - 1 := by omega
        clear hcq
        have B40 := B26
        clear B26 f1 f2 o2
        go_wp2_with fail
        refine (drawMultiply_any _ _ _ _ (s0.below B40) L').mono ?_
        rintro e u41 ⟨p3, a1, c1, xs3, a2, c2, ys3, rfl, f1, lx3, f2, ly3, t41⟩
        have B41 := bnext B40 t41
        clear t41 B40
        go_wp2_with fail
        refine (implMultiplyPolys _ _ _ _ _ _ _ _ _ _ f1 f2 (by omega) (by omega)).mono ?_
        rintro e u42 ⟨ma, mc, rfl, o2, ml, t42⟩
        have B42 := bnext B41 t42
        replace f1 := f1.below t42
        replace f2 := f2.below t42
        replace o2 := OZ.sl o2
        clear t42 B41
        go_wp2_with fail
        refine (specMultiplyPolys _ _ _ _ _ _ _ _ _ _ f1 f2 (by omega) (by omega)).mono ?_
        rintro e u43 ⟨ma3, mc3, rfl, o3, ml3, t43⟩
        have B43 := bnext B42 t43
        replace f1 := f1.below t43
        replace f2 := f2.below t43
        replace o2 := o2.below t43
        replace o3 := OZ.sl o3
        clear t43 B42
        go_wp2_with fail
        refine (likeI _ _ _ _ _ _ _ o2 o3 (by omega)).mono ?_
        rintro e u44 ⟨rfl, t44⟩
        have B44 := bnext B43 t44
        replace f1 := f1.below t44
        replace f2 := f2.below t44
        replace o2 := o2.below t44
        clear t44 B43 o3
        generalize hMV : mulV p3 xs3 ys3 = MV at o2 ml ⊢
        generalize hMC : mulC p3 xs3 ys3 = MC at *
        have HMV := hide hMV
        have HMC := hide hMC
        clear hMV hMC
        by_cases hz : MC = 0
        · obtain ⟨g1, g2⟩ := mul_facts (HMC.out.trans hz)
          rw [HMV.out] at g2
          have hz' : (MC == 0) = true := by simpa using hz
          have G1 := hide g1
          have G2 := hide g2
          have HZ := hide hz
          clear g1 g2 hz
          go_wp2_with fail
          refine (implMultiplyPolys _ _ _ _ _ _ _ _ _ _ f2 f1 (by omega) (by omega)).mono ?_
          rintro e u45 ⟨na, nc, rfl, o4, nl, t45⟩
          have B45 := bnext B44 t45
          replace f1 := f1.below t45
          replace f2 := f2.below t45
          replace o2 := o2.below t45
          replace o4 := OZ.sl o4
          clear t45 B44
          rw [G2.out] at o4
          rw [G1.out, G2.out]
          go_wp2_with fail
          refine (likeI _ _ _ _ _ _ _ o4 o2 (by omega)).mono ?_
          rintro e u46 ⟨rfl, t46⟩
          have B46 := bnext B45 t46
          replace f1 := f1.below t46
          replace f2 := f2.below t46
          clear t46 B45 o4 o2
          as_aux_lemma =>
            have B60 := B46
            clear B46 f1 f2
            go_wp2_with fail
            refine (drawPowerPoly_any _ _ _ _ (s0.below B60) L').mono ?_
            rintro e u61 ⟨p4, k4, a1, c1, xs4, rfl, f1, lx4, t61⟩
            have B61 := bnext B60 t61
            clear t61 B60
            go_wp2_with fail
            refine (implPowerPoly _ _ _ _ _ _ _ f1 (by omega)).mono ?_
            rintro e u62 ⟨pa, pc, rfl, o1, pl, t62⟩
            have B62 := bnext B61 t62
            replace f1 := f1.below t62
            replace o1 := OZ.sl o1
            clear t62 B61
            go_wp2_with fail
            refine (specPowerPoly _ _ _ _ _ _ _ f1 (by omega)).mono ?_
            rintro e u63 ⟨pa2, pc2, rfl, o2, pl2, t63⟩
            have B63 := bnext B62 t63
            replace o1 := o1.below t63
            replace o2 := OZ.sl o2
            clear t63 B62 f1
            go_wp2_with fail
            refine (drawMonic_any _ _ _ _ (s0.below B63) L').mono ?_
            rintro e u64 ⟨p5, a2, c2, xs5, rfl, f2, lx5, t64⟩
            have B64 := bnext B63 t64
            replace o1 := o1.below t64
            replace o2 := o2.below t64
            clear t64 B63
            go_wp2_with fail
            refine (implMonicPoly _ _ _ _ _ _ f2 (by omega)).mono ?_
            rintro e u65 ⟨qa, qc, rfl, o3, ql, t65⟩
            have B65 := bnext B64 t65
            replace o1 := o1.below t65
            replace o2 := o2.below t65
            replace f2 := f2.below t65
            replace o3 := OZ.sl o3
            clear t65 B64
            go_wp2_with fail
            refine (specMonicPoly _ _ _ _ _ _ f2 (by omega)).mono ?_
            rintro e u66 ⟨qa2, qc2, rfl, o4, ql2, t66⟩
            have B66 := bnext B65 t66
            replace o1 := o1.below t66
            replace o2 := o2.below t66
            replace o3 := o3.below t66
            replace o4 := OZ.sl o4
            clear t66 B65 f2
            go_wp2_with fail
            refine (drawAdd_any _ _ _ _ (s0.below B66) L').mono ?_
            rintro e u67 ⟨p6, k6, a3, c3, xs6, a4, c4, ys6, rfl, f3, lx6, f4, ly6, t67⟩
            have B67 := bnext B66 t67
            replace o1 := o1.below t67
            replace o2 := o2.below t67
            replace o3 := o3.below t67
            replace o4 := o4.below t67
            clear t67 B66
            go_wp2_with fail
            refine (implAddPolys _ _ _ _ _ _ _ _ _ _ _ f3 f4 (by omega) (by omega)).mono ?_
            rintro e u68 ⟨ra, rc, rfl, o5, rl, t68⟩
            have B68 := bnext B67 t68
            replace o1 := o1.below t68
            replace o2 := o2.below t68
            replace o3 := o3.below t68
            replace o4 := o4.below t68
            replace f3 := f3.below t68
            replace f4 := f4.below t68
            replace o5 := OZ.sl o5
            clear t68 B67
            go_wp2_with fail
            refine (specAddPolys _ _ _ _ _ _ _ _ _ _ _ f3 f4 (by omega) (by omega)).mono ?_
            rintro e u69 ⟨ra2, rc2, rfl, o6, rl2, t69⟩
            have B69 := bnext B68 t69
            replace o1 := o1.below t69
            replace o2 := o2.below t69
            replace o3 := o3.below t69
            replace o4 := o4.below t69
            replace o5 := o5.below t69
            replace o6 := OZ.sl o6
            clear t69 B68 f3 f4
            go_wp2_with fail
            refine (drawDerivative_any _ _ _ _ (s0.below B69) L').mono ?_
            rintro e u70 ⟨p7, a5, c5, xs7, rfl, f5, lx7, t70⟩
            have B70 := bnext B69 t70
            replace o1 := o1.below t70
            replace o2 := o2.below t70
            replace o3 := o3.below t70
            replace o4 := o4.below t70
            replace o5 := o5.below t70
            replace o6 := o6.below t70
            clear t70 B69
            go_wp2_with fail
            refine (implDerivativeOf _ _ _ _ _ _ f5 (by omega)).mono ?_
            rintro e u71 ⟨sa, sc, rfl, o7, sl, t71⟩
            have B71 := bnext B70 t71
            replace o1 := o1.below t71
            replace o2 := o2.below t71
            replace o3 := o3.below t71
            replace o4 := o4.below t71
            replace o5 := o5.below t71
            replace o6 := o6.below t71
            replace f5 := f5.below t71
            replace o7 := OZ.sl o7
            clear t71 B70
            go_wp2_with fail
            refine (specDerivativeOf _ _ _ _ _ _ f5 (by omega)).mono ?_
            rintro e u72 ⟨sa2, sc2, rfl, o8, sl2, t72⟩
            have B72 := bnext B71 t72
            replace o1 := o1.below t72
            replace o2 := o2.below t72
            replace o3 := o3.below t72
            replace o4 := o4.below t72
            replace o5 := o5.below t72
            replace o6 := o6.below t72
            replace o7 := o7.below t72
            replace o8 := OZ.sl o8
            clear t72 B71 f5
            go_wp2_with fail
            refine (likeI _ _ _ _ _ _ _ o1 o2 (by omega)).mono ?_
            rintro e u73 ⟨rfl, t73⟩
            have B73 := bnext B72 t73
            replace o3 := o3.below t73
            replace o4 := o4.below t73
            replace o5 := o5.below t73
            replace o6 := o6.below t73
            replace o7 := o7.below t73
            replace o8 := o8.below t73
            clear t73 B72 o1 o2
            go_wp2_with fail
            refine (likeI _ _ _ _ _ _ _ o3 o4 (by omega)).mono ?_
            rintro e u74 ⟨rfl, t74⟩
            have B74 := bnext B73 t74
            replace o5 := o5.below t74
            replace o6 := o6.below t74
            replace o7 := o7.below t74
            replace o8 := o8.below t74
            clear t74 B73 o3 o4
            go_wp2_with fail
            refine (likeI _ _ _ _ _ _ _ o5 o6 (by omega)).mono ?_
            rintro e u75 ⟨rfl, t75⟩
            have B75 := bnext B74 t75
            replace o7 := o7.below t75
            replace o8 := o8.below t75
            clear t75 B74 o5 o6
            go_wp2_with fail
            refine (likeI _ _ _ _ _ _ _ o7 o8 (by omega)).mono ?_
            rintro e u76 ⟨rfl, t76⟩
            have B76 := bnext B75 t76
            clear t76 B75 o7 o8
            go_wp2
            go_ret
            exact ⟨rfl, B76⟩
        · have hz' : (MC == 0) = false := by simpa using hz
          have HZ := hide hz
          clear hz
          as_aux_lemma =>
            have B60 := B44
            clear B44 f1 f2 o2
            go_wp2_with fail
            refine (drawPowerPoly_any _ _ _ _ (s0.below B60) L').mono ?_
            rintro e u61 ⟨p4, k4, a1, c1, xs4, rfl, f1, lx4, t61⟩
            have B61 := bnext B60 t61
            clear t61 B60
            go_wp2_with fail
            refine (implPowerPoly _ _ _ _ _ _ _ f1 (by omega)).mono ?_
            rintro e u62 ⟨pa, pc, rfl, o1, pl, t62⟩
            have B62 := bnext B61 t62
            replace f1 := f1.below t62
            replace o1 := OZ.sl o1
            clear t62 B61
            go_wp2_with fail
            refine (specPowerPoly _ _ _ _ _ _ _ f1 (by omega)).mono ?_
            rintro e u63 ⟨pa2, pc2, rfl, o2, pl2, t63⟩
            have B63 := bnext B62 t63
            replace o1 := o1.below t63
            replace o2 := OZ.sl o2
            clear t63 B62 f1
            go_wp2_with fail
            refine (drawMonic_any _ _ _ _ (s0.below B63) L').mono ?_
            rintro e u64 ⟨p5, a2, c2, xs5, rfl, f2, lx5, t64⟩
            have B64 := bnext B63 t64
            replace o1 := o1.below t64
            replace o2 := o2.below t64
            clear t64 B63
            go_wp2_with fail
            refine (implMonicPoly _ _ _ _ _ _ f2 (by omega)).mono ?_
            rintro e u65 ⟨qa, qc, rfl, o3, ql, t65⟩
            have B65 := bnext B64 t65
            replace o1 := o1.below t65
            replace o2 := o2.below t65
            replace f2 := f2.below t65
            replace o3 := OZ.sl o3
            clear t65 B64
            go_wp2_with fail
            refine (specMonicPoly _ _ _ _ _ _ f2 (by omega)).mono ?_
            rintro e u66 ⟨qa2, qc2, rfl, o4, ql2, t66⟩
            have B66 := bnext B65 t66
            replace o1 := o1.below t66
            replace o2 := o2.below t66
            replace o3 := o3.below t66
            replace o4 := OZ.sl o4
            clear t66 B65 f2
            go_wp2_with fail
            refine (drawAdd_any _ _ _ _ (s0.below B66) L').mono ?_
            rintro e u67 ⟨p6, k6, a3, c3, xs6, a4, c4, ys6, rfl, f3, lx6, f4, ly6, t67⟩
            have B67 := bnext B66 t67
            replace o1 := o1.below t67
            replace o2 := o2.below t67
            replace o3 := o3.below t67
            replace o4 := o4.below t67
            clear t67 B66
            go_wp2_with fail
            refine (implAddPolys _ _ _ _ _ _ _ _ _ _ _ f3 f4 (by omega) (by omega)).mono ?_
            rintro e u68 ⟨ra, rc, rfl, o5, rl, t68⟩
            have B68 := bnext B67 t68
            replace o1 := o1.below t68
            replace o2 := o2.below t68
            replace o3 := o3.below t68
            replace o4 := o4.below t68
            replace f3 := f3.below t68
            replace f4 := f4.below t68
            replace o5 := OZ.sl o5
            clear t68 B67
            go_wp2_with fail
            refine (specAddPolys _ _ _ _ _ _ _ _ _ _ _ f3 f4 (by omega) (by omega)).mono ?_
            rintro e u69 ⟨ra2, rc2, rfl, o6, rl2, t69⟩
            have B69 := bnext B68 t69
            replace o1 := o1.below t69
            replace o2 := o2.below t69
            replace o3 := o3.below t69
            replace o4 := o4.below t69
            replace o5 := o5.below t69
            replace o6 := OZ.sl o6
            clear t69 B68 f3 f4
            go_wp2_with fail
            refine (drawDerivative_any _ _ _ _ (s0.below B69) L').mono ?_
            rintro e u70 ⟨p7, a5, c5, xs7, rfl, f5, lx7, t70⟩
            have B70 := bnext B69 t70
            replace o1 := o1.below t70
            replace o2 := o2.below t70
            replace o3 := o3.below t70
            replace o4 := o4.below t70
            replace o5 := o5.below t70
            replace o6 := o6.below t70
            clear t70 B69
            go_wp2_with fail
            refine (implDerivativeOf _ _ _ _ _ _ f5 (by omega)).mono ?_
            rintro e u71 ⟨sa, sc, rfl, o7, sl, t71⟩
            have B71 := bnext B70 t71
            replace o1 := o1.below t71
            replace o2 := o2.below t71
            replace o3 := o3.below t71
            replace o4 := o4.below t71
            replace o5 := o5.below t71
            replace o6 := o6.below t71
            replace f5 := f5.below t71
            replace o7 := OZ.sl o7
            clear t71 B70
            go_wp2_with fail
            refine (specDerivativeOf _ _ _ _ _ _ f5 (by omega)).mono ?_
            rintro e u72 ⟨sa2, sc2, rfl, o8, sl2, t72⟩
            have B72 := bnext B71 t72
            replace o1 := o1.below t72
            replace o2 := o2.below t72
            replace o3 := o3.below t72
            replace o4 := o4.below t72
            replace o5 := o5.below t72
            replace o6 := o6.below t72
            replace o7 := o7.below t72
            replace o8 := OZ.sl o8
            clear t72 B71 f5
            go_wp2_with fail
            refine (likeI _ _ _ _ _ _ _ o1 o2 (by omega)).mono ?_
            rintro e u73 ⟨rfl, t73⟩
            have B73 := bnext B72 t73
            replace o3 := o3.below t73
            replace o4 := o4.below t73
            replace o5 := o5.below t73
            replace o6 := o6.below t73
            replace o7 := o7.below t73
            replace o8 := o8.below t73
            clear t73 B72 o1 o2
            go_wp2_with fail
            refine (likeI _ _ _ _ _ _ _ o3 o4 (by omega)).mono ?_
            rintro e u74 ⟨rfl, t74⟩
            have B74 := bnext B73 t74
            replace o5 := o5.below t74
            replace o6 := o6.below t74
            replace o7 := o7.below t74
            replace o8 := o8.below t74
            clear t74 B73 o3 o4
            go_wp2_with fail
            refine (likeI _ _ _ _ _ _ _ o5 o6 (by omega)).mono ?_
            rintro e u75 ⟨rfl, t75⟩
            have B75 := bnext B74 t75
            replace o7 := o7.below t75
            replace o8 := o8.below t75
            clear t75 B74 o5 o6
            go_wp2_with fail
            refine (likeI _ _ _ _ _ _ _ o7 o8 (by omega)).mono ?_
            rintro e u76 ⟨rfl, t76⟩
            have B76 := bnext B75 t76
            clear t76 B75 o7 o8
            go_wp2
            go_ret
            exact ⟨rfl, B76⟩
    · have hz' : (C == 0) = false := by simpa using hz
      have HZ := hide hz
      clear hz
      have B40 := B24
      clear B24 f1 f2 o2
      go_wp2_with fail
      refine (drawMultiply_any _ _ _ _ (s0.below B40) L').mono ?_
      rintro e u41 ⟨p3, a1, c1, xs3, a2, c2, ys3, rfl, f1, lx3, f2, ly3, t41⟩
      have B41 := bnext B40 t41
      clear t41 B40
      go_wp2_with fail
      refine (implMultiplyPolys _ _ _ _ _ _ _ _ _ _ f1 f2 (by omega) (by omega)).mono ?_
      rintro e u42 ⟨ma, mc, rfl, o2, ml, t42⟩
      have B42 := bnext B41 t42
      replace f1 := f1.below t42
      replace f2 := f2.below t42
      replace o2 := OZ.sl o2
      clear t42 B41
      go_wp2_with fail
      refine (specMultiplyPolys _ _ _ _ _ _ _ _ _ _ f1 f2 (by omega) (by omega)).mono ?_
      rintro e u43 ⟨ma3, mc3, rfl, o3, ml3, t43⟩
      have B43 := bnext B42 t43
      replace f1 := f1.below t43
      replace f2 := f2.below t43
      replace o2 := o2.below t43
      replace o3 := OZ.sl o3
      clear t43 B42
      go_wp2_with fail
      refine (likeI _ _ _ _ _ _ _ o2 o3 (by omega)).mono ?_
      rintro e u44 ⟨rfl, t44⟩
      have B44 := bnext B43 t44
      replace f1 := f1.below t44
      replace f2 := f2.below t44
      replace o2 := o2.below t44
      clear t44 B43 o3
      generalize hMV : mulV p3 xs3 ys3 = MV at o2 ml ⊢
      generalize hMC : mulC p3 xs3 ys3 = MC at *
      have HMV := hide hMV
      have HMC := hide hMC
      clear hMV hMC
      by_cases hz : MC = 0
      · obtain ⟨g1, g2⟩ := mul_facts (HMC.out.trans hz)
        rw [HMV.out] at g2
        have hz' : (MC == 0) = true := by simpa using hz
        have G1 := hide g1
        have G2 := hide g2
        have HZ := hide hz
        clear g1 g2 hz
        go_wp2_with fail
        refine (implMultiplyPolys _ _ _ _ _ _ _ _ _ _ f2 f1 (by omega) (by omega)).mono ?_
        rintro e u45 ⟨na, nc, rfl, o4, nl, t45⟩
        have B45 := bnext B44 t45
        replace f1 := f1.below t45
        replace f2 := f2.below t45
        replace o2 := o2.below t45
        replace o4 := OZ.sl o4
        clear t45 B44
        rw [G2.out] at o4
        rw [G1.out, G2.out]
        go_wp2_with fail
        refine (likeI _ _ _ _ _ _ _ o4 o2 (by omega)).mono ?_
        rintro e u46 ⟨rfl, t46⟩
        have B46 := bnext B45 t46
        replace f1 := f1.below t46
        replace f2 := f2.below t46
        clear t46 B45 o4 o2
        as_aux_lemma =>
          have B60 := B46
          clear B46 f1 f2
          go_wp2_with fail
          refine (drawPowerPoly_any _ _ _ _ (s0.below B60) L').mono ?_
          rintro e u61 ⟨p4, k4, a1, c1, xs4, rfl, f1, lx4, t61⟩
          have B61 := bnext B60 t61
          clear t61 B60
          go_wp2_with fail
          refine (implPowerPoly _ _ _ _ _ _ _ f1 (by omega)).mono ?_
          rintro e u62 ⟨pa, pc, rfl, o1, pl, t62⟩
          have B62 := bnext B61 t62
          replace f1 := f1.below t62
          replace o1 := OZ.sl o1
          clear t62 B61
          go_wp2_with fail
          refine (specPowerPoly _ _ _ _ _ _ _ f1 (by omega)).mono ?_
          rintro e u63 ⟨pa2, pc2, rfl, o2, pl2, t63⟩
          have B63 := bnext B62 t63
          replace o1 := o1.below t63
          replace o2 := OZ.sl o2
          clear t63 B62 f1
          go_wp2_with fail
          refine (drawMonic_any _ _ _ _ (s0.below B63) L').mono ?_
          rintro e u64 ⟨p5, a2, c2, xs5, rfl, f2, lx5, t64⟩
          have B64 := bnext B63 t64
          replace o1 := o1.below t64
          replace o2 := o2.below t64
          clear t64 B63
          go_wp2_with fail
          refine (implMonicPoly _ _ _ _ _ _ f2 (by omega)).mono ?_
          rintro e u65 ⟨qa, qc, rfl, o3, ql, t65⟩
          have B65 := bnext B64 t65
          replace o1 := o1.below t65
          replace o2 := o2.below t65
          replace f2 := f2.below t65
          replace o3 := OZ.sl o3
          clear t65 B64
          go_wp2_with fail
          refine (specMonicPoly _ _ _ _ _ _ f2 (by omega)).mono ?_
          rintro e u66 ⟨qa2, qc2, rfl, o4, ql2, t66⟩
          have B66 := bnext B65 t66
          replace o1 := o1.below t66
          replace o2 := o2.below t66
          replace o3 := o3.below t66
          replace o4 := OZ.sl o4
          clear t66 B65 f2
          go_wp2_with fail
          refine (drawAdd_any _ _ _ _ (s0.below B66) L').mono ?_
          rintro e u67 ⟨p6, k6, a3, c3, xs6, a4, c4, ys6, rfl, f3, lx6, f4, ly6, t67⟩
          have B67 := bnext B66 t67
          replace o1 := o1.below t67
          replace o2 := o2.below t67
          replace o3 := o3.below t67
          replace o4 := o4.below t67
          clear t67 B66
          go_wp2_with fail
          refine (implAddPolys _ _ _ _ _ _ _ _ _ _ _ f3 f4 (by omega) (by omega)).mono ?_
          rintro e u68 ⟨ra, rc, rfl, o5, rl, t68⟩
          have B68 := bnext B67 t68
          replace o1 := o1.below t68
          replace o2 := o2.below t68
          replace o3 := o3.below t68
          replace o4 := o4.below t68
          replace f3 := f3.below t68
          replace f4 := f4.below t68
          replace o5 := OZ.sl o5
          clear t68 B67
          go_wp2_with fail
          refine (specAddPolys _ _ _ _ _ _ _ _ _ _ _ f3 f4 (by omega) (by omega)).mono ?_
          rintro e u69 ⟨ra2, rc2, rfl, o6, rl2, t69⟩
          have B69 := bnext B68 t69
          replace o1 := o1.below t69
          replace o2 := o2.below t69
          replace o3 := o3.below t69
          replace o4 := o4.below t69
          replace o5 := o5.below t69
          replace o6 := OZ.sl o6
          clear t69 B68 f3 f4
          go_wp2_with fail
          refine (drawDerivative_any _ _ _ _ (s0.below B69) L').mono ?_
          rintro e u70 ⟨p7, a5, c5, xs7, rfl, f5, lx7, t70⟩
          have B70 := bnext B69 t70
          replace o1 := o1.below t70
          replace o2 := o2.below t70
          replace o3 := o3.below t70
          replace o4 := o4.below t70
          replace o5 := o5.below t70
          replace o6 := o6.below t70
          clear t70 B69
          go_wp2_with fail
          refine (implDerivativeOf _ _ _ _ _ _ f5 (by omega)).mono ?_
          rintro e u71 ⟨sa, sc, rfl, o7, sl, t71⟩
          have B71 := bnext B70 t71
          replace o1 := o1.below t71
          replace o2 := o2.below t71
          replace o3 := o3.below t71
          replace o4 := o4.below t71
          replace o5 := o5.below t71
          replace o6 := o6.below t71
          replace f5 := f5.below t71
          replace o7 := OZ.sl o7
          clear t71 B70
          go_wp2_with fail
          refine (specDerivativeOf _ _ _ _ _ _ f5 (by omega)).mono ?_
          rintro e u72 ⟨sa2, sc2, rfl, o8, sl2, t72⟩
          have B72 := bnext B71 t72
          replace o1 := o1.below t72
          replace o2 := o2.below t72
          replace o3 := o3.below t72
          replace o4 := o4.below t72
          replace o5 := o5.below t72
          replace o6 := o6.below t72
          replace o7 := o7.below t72
          replace o8 := OZ.sl o8
          clear t72 B71 f5
          go_wp2_with fail
          refine (likeI _ _ _ _ _ _ _ o1 o2 (by omega)).mono ?_
          rintro e u73 ⟨rfl, t73⟩
          have B73 := bnext B72 t73
          replace o3 := o3.below t73
          replace o4 := o4.below t73
          replace o5 := o5.below t73
          replace o6 := o6.below t73
          replace o7 := o7.below t73
          replace o8 := o8.below t73
          clear t73 B72 o1 o2
          go_wp2_with fail
          refine (likeI _ _ _ _ _ _ _ o3 o4 (by omega)).mono ?_
          rintro e u74 ⟨rfl, t74⟩
          have B74 := bnext B73 t74
          replace o5 := o5.below t74
          replace o6 := o6.below t74
          replace o7 := o7.below t74
          replace o8 := o8.below t74
          clear t74 B73 o3 o4
          go_wp2_with fail
          refine (likeI _ _ _ _ _ _ _ o5 o6 (by omega)).mono ?_
          rintro e u75 ⟨rfl, t75⟩
          have B75 := bnext B74 t75
          replace o7 := o7.below t75
          replace o8 := o8.below t75
          clear t75 B74 o5 o6
          go_wp2_with fail
          refine (likeI _ _ _ _ _ _ _ o7 o8 (by omega)).mono ?_
          rintro e u76 ⟨rfl, t76⟩
          have B76 := bnext B75 t76
          clear t76 B75 o7 o8
          go_wp2
          go_ret
          exact ⟨rfl, B76⟩
      · have hz' : (MC == 0) = false := by simpa using hz
        have HZ := hide hz
        clear hz
        as_aux_lemma =>
          have B60 := B44
          clear B44 f1 f2 o2
          go_wp2_with fail
          refine (drawPowerPoly_any _ _ _ _ (s0.below B60) L').mono ?_
          rintro e u61 ⟨p4, k4, a1, c1, xs4, rfl, f1, lx4, t61⟩
          have B61 := bnext B60 t61
          clear t61 B60
          go_wp2_with fail
          refine (implPowerPoly _ _ _ _ _ _ _ f1 (by omega)).mono ?_
          rintro e u62 ⟨pa, pc, rfl, o1, pl, t62⟩
          have B62 := bnext B61 t62
          replace f1 := f1.below t62
          replace o1 := OZ.sl o1
          clear t62 B61
          go_wp2_with fail
          refine (specPowerPoly _ _ _ _ _ _ _ f1 (by omega)).mono ?_
          rintro e u63 ⟨pa2, pc2, rfl, o2, pl2, t63⟩
          have B63 := bnext B62 t63
          replace o1 := o1.below t63
          replace o2 := OZ.sl o2
          clear t63 B62 f1
          go_wp2_with fail
          refine (drawMonic_any _ _ _ _ (s0.below B63) L').mono ?_
          rintro e u64 ⟨p5, a2, c2, xs5, rfl, f2, lx5, t64⟩
          have B64 := bnext B63 t64
          replace o1 := o1.below t64
          replace o2 := o2.below t64
          clear t64 B63
          go_wp2_with fail
          refine (implMonicPoly _ _ _ _ _ _ f2 (by omega)).mono ?_
          rintro e u65 ⟨qa, qc, rfl, o3, ql, t65⟩
          have B65 := bnext B64 t65
          replace o1 := o1.below t65
          replace o2 := o2.below t65
          replace f2 := f2.below t65
          replace o3 := OZ.sl o3
          clear t65 B64
          go_wp2_with fail
          refine (specMonicPoly _ _ _ _ _ _ f2 (by omega)).mono ?_
          rintro e u66 ⟨qa2, qc2, rfl, o4, ql2, t66⟩
          have B66 := bnext B65 t66
          replace o1 := o1.below t66
          replace o2 := o2.below t66
          replace o3 := o3.below t66
          replace o4 := OZ.sl o4
          clear t66 B65 f2
          go_wp2_with fail
          refine (drawAdd_any _ _ _ _ (s0.below B66) L').mono ?_
          rintro e u67 ⟨p6, k6, a3, c3, xs6, a4, c4, ys6, rfl, f3, lx6, f4, ly6, t67⟩
          have B67 := bnext B66 t67
          replace o1 := o1.below t67
          replace o2 := o2.below t67
          replace o3 := o3.below t67
          replace o4 := o4.below t67
          clear t67 B66
          go_wp2_with fail
          refine (implAddPolys _ _ _ _ _ _ _ _ _ _ _ f3 f4 (by omega) (by omega)).mono ?_
          rintro e u68 ⟨ra, rc, rfl, o5, rl, t68⟩
          have B68 := bnext B67 t68
          replace o1 := o1.below t68
          replace o2 := o2.below t68
          replace o3 := o3.below t68
          replace o4 := o4.below t68
          replace f3 := f3.below t68
          replace f4 := f4.below t68
          replace o5 := OZ.sl o5
          clear t68 B67
          go_wp2_with fail
          refine (specAddPolys _ _ _ _ _ _ _ _ _ _ _ f3 f4 (by omega) (by omega)).mono ?_
          rintro e u69 ⟨ra2, rc2, rfl, o6, rl2, t69⟩
          have B69 := bnext B68 t69
          replace o1 := o1.below t69
          replace o2 := o2.below t69
          replace o3 := o3.below t69
          replace o4 := o4.below t69
          replace o5 := o5.below t69
          replace o6 := OZ.sl o6
          clear t69 B68 f3 f4
          go_wp2_with fail
          refine (drawDerivative_any _ _ _ _ (s0.below B69) L').mono ?_
          rintro e u70 ⟨p7, a5, c5, xs7, rfl, f5, lx7, t70⟩
          have B70 := bnext B69 t70
          replace o1 := o1.below t70
          replace o2 := o2.below t70
          replace o3 := o3.below t70
          replace o4 := o4.below t70
          replace o5 := o5.below t70
          replace o6 := o6.below t70
          clear t70 B69
          go_wp2_with fail
          refine (implDerivativeOf _ _ _ _ _ _ f5 (by omega)).mono ?_
          rintro e u71 ⟨sa, sc, rfl, o7, sl, t71⟩
          have B71 := bnext B70 t71
          replace o1 := o1.below t71
          replace o2 := o2.below t71
          replace o3 := o3.below t71
          replace o4 := o4.below t71
          replace o5 := o5.below t71
          replace o6 := o6.below t71
          replace f5 := f5.below t71
          replace o7 := OZ.sl o7
          clear t71 B70
          go_wp2_with fail
          refine (specDerivativeOf _ _ _ _ _ _ f5 (by omega)).mono ?_
          rintro e u72 ⟨sa2, sc2, rfl, o8, sl2, t72⟩
          have B72 := bnext B71 t72
          replace o1 := o1.below t72
          replace o2 := o2.below t72
          replace o3 := o3.below t72
          replace o4 := o4.below t72
          replace o5 := o5.below t72
          replace o6 := o6.below t72
          replace o7 := o7.below t72
          replace o8 := OZ.sl o8
          clear t72 B71 f5
          go_wp2_with fail
          refine (likeI _ _ _ _ _ _ _ o1 o2 (by omega)).mono ?_
          rintro e u73 ⟨rfl, t73⟩
          have B73 := bnext B72 t73
          replace o3 := o3.below t73
          replace o4 := o4.below t73
          replace o5 := o5.below t73
          replace o6 := o6.below t73
          replace o7 := o7.below t73
          replace o8 := o8.below t73
          clear t73 B72 o1 o2
          go_wp2_with fail
          refine (likeI _ _ _ _ _ _ _ o3 o4 (by omega)).mono ?_
          rintro e u74 ⟨rfl, t74⟩
          have B74 := bnext B73 t74
          replace o5 := o5.below t74
          replace o6 := o6.below t74
          replace o7 := o7.below t74
          replace o8 := o8.below t74
          clear t74 B73 o3 o4
          go_wp2_with fail
          refine (likeI _ _ _ _ _ _ _ o5 o6 (by omega)).mono ?_
          rintro e u75 ⟨rfl, t75⟩
          have B75 := bnext B74 t75
          replace o7 := o7.below t75
          replace o8 := o8.below t75
          clear t75 B74 o5 o6
          go_wp2_with fail
          refine (likeI _ _ _ _ _ _ _ o7 o8 (by omega)).mono ?_
          rintro e u76 ⟨rfl, t76⟩
          have B76 := bnext B75 t76
          clear t76 B75 o7 o8
          go_wp2
          go_ret
          exact ⟨rfl, B76⟩

/-! ### THE ROW's STEP: WRITTEN OUT: LEAVE IT -/
set_option maxRecDepth 100000 in
theorem lifted (os : Os) (started : os.Started) (H : Type) (enc : TypeId × Value → H) :
    ReturnsInHanded {} Try.checked os 7 .any (Rows.fnPolynomialsSpec.pre6 enc Try.prog Try.f7 Rows.fnPolynomialsRow.domain false) (Rows.fnPolynomialsSpec.post enc Try.prog Try.f7 false true false false) := by
  refine returnsInHanded_of_change (C := Try.checked) own started (by kernel_rfl) Try.func7
    (ChangeSpec.witness6 (enc := enc) (C := Try.checked) false ⟨#[], #[.slice none 0 0], []⟩ 8 (by kernel_rfl) (by kernel_rfl) (by kernel_rfl) (by kernel_rfl)) ?_
  intro W base args ds gs before hval0 hW hcnd _
  have hval : ∀ (j : Nat) t v, Try.f7.params[j]? = some t → args[j]? = some v → Value.okWide Try.prog W .any base t v := hval0
  have hW' := hW
  obtain ⟨p, q, hA0, hV, rfl, hfz, hnd⟩ := hW
  have hA : DataW.TrodAll enc Try.prog W 0 (fun _ => true) true Try.f7.params.toList args.toList ds p := hA0
  rw [Try.params7] at hA hval
  obtain ⟨v0, vs0, d0, ds0, p0, q0, hargs, rfl, rfl, h0, r0⟩ := trodAll_cons hA
  obtain ⟨rfl, rfl, rfl⟩ := trodAll_nil r0
  obtain rfl : args = #[v0] := by cases args; simp_all
  obtain ⟨rfl, rfl⟩ := trodVars_none hV
  obtain ⟨a0, len0, cap0, rfl⟩ := okWide_slice Try.underlying31 (hval 0 31 v0 rfl rfl)
  have k0 := h0
  have lt0 : ∀ x ∈ p0, x.block < W.heap.size := by obtain ⟨m, hm⟩ := k0; exact DataW.trod_lt m _ _ _ hm
  obtain ⟨z0, w0⟩ : ∃ zs, IsRow .u8 W a0 len0 cap0 zs := by
    obtain ⟨fuel, hf⟩ := h0
    rcases open_ints Try.underlying31 Try.underlying5 (by kernel_rfl) hf with ⟨hcs, _⟩ | ⟨x, l, c, zs, hcs, _, hl, hm, hz, _, hcell, hwz⟩
    · simp [Value.cells] at hcs
      obtain ⟨rfl, rfl, rfl⟩ := hcs
      exact ⟨[], .inl ⟨rfl, rfl, rfl, rfl⟩⟩
    · simp [Value.cells] at hcs
      obtain ⟨rfl, rfl, rfl⟩ := hcs
      exact ⟨zs, .inr ⟨_, rfl, hl, hm, by simpa using hz, hcell, hwz⟩⟩
  clear hA0 hval0
  refine (walk a0 len0 cap0 z0 W w0).mono fun e W' ⟨he, bel⟩ => ?_
  subst he
  exact ⟨_, rfl, _, _, _, [], _, [], hW', trodAll_mk1 (shut_bool Try.underlying4 _), (trodAll_cons_mk (Below.trod laidOut (by kernel_rfl) (of_decide_eq_true (by kernel_rfl)) k0 bel lt0) trodAll_mk0), rfl, bel.frame _, fun h => by cases h⟩

theorem over : Rows.fnPolynomialsRow.holds Try.pinned (OpenSpec.ofChange Rows.fnPolynomialsSpec) :=
  OpenClaim.holds_of_wide 7 Try.f7 rfl rfl rfl rfl rfl rfl rfl ⟨rfl, rfl, rfl, rfl, rfl⟩ rfl rfl rfl rfl rfl (by kernel_rfl) Try.func7 (by kernel_rfl)
    (of_decide_eq_true (by kernel_rfl)) (by unfold Func.isWrapper; first | (rw [if_pos (by decide +kernel)]; kernel_rfl) | (rw [if_neg (by decide +kernel)]; exact ⟨rfl, rfl⟩))
    (fun os started H enc _ => lifted os started H enc)

/-- ████ THE STATEMENT ████ -/
theorem proved : Rows.FnPolynomialsSaid := over
#print axioms proved
end Go.Proofs.Ytjmhkodbkkdfdaa.fnPolynomials

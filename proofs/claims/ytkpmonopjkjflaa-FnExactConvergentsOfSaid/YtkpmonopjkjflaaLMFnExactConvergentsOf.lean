/- The law 'FnExactConvergentsOf' returns true for every input and leaves its arguments as they were. Conditions: none. -/
import Derived.Test.YtkpmonopjkjflaaRows
import Derived.WalkKit
import Derived.ProofKit
import Derived.OpenShut
import Derived.ShutString
import Derived.ChangeOld
import Derived.Lib.SmallJoins
import Derived.Below
import Derived.Test.YtkpmonopjkjflaaYC130
import Derived.Deep.Matrix
namespace Go.Proofs.Ytkpmonopjkjflaa.fnExactConvergentsOf
open Go.ChangeShapes Go.WideShapes Go.ChangeAt Go.RowKit
open Go.ChangeMaps (open_string shut_string)
set_option linter.unusedVariables false
set_option linter.unusedSimpArgs false

theorem own : ownKnob Try.prog.godebug = none := by kernel_rfl
theorem laidOut : laidOutB Try.prog = true := by kernel_rfl

/-- What the walk is told of a slice of integers that came in. -/
def IsRow (k : IntKind) (w : World) (a : Option Addr) (len cap : Nat) (zs : List Int) : Prop :=
  (a = none ∧ len = 0 ∧ cap = 0 ∧ zs = []) ∨
  ∃ x, a = some x ∧ len ≤ cap ∧ cap ≤ maxLen ∧ zs.length = cap ∧ (∀ i, i < zs.length → w.cell? (x.add i) = some (.int k (zs.getD i 0))) ∧ ∀ n ∈ zs, (Lit.int k n).wf = true

/-- What the walk is told of a slice of slices of integers that came in. -/
def IsGrid (k : IntKind) (w : World) (a : Option Addr) (len cap : Nat) (A : Nat → Option Addr) (L C : Nat → Nat) (Z : Nat → List Int) : Prop :=
  (a = none ∧ len = 0 ∧ cap = 0) ∨
  ∃ x, a = some x ∧ len ≤ cap ∧ cap ≤ maxLen ∧ ∀ r, r < cap → w.cell? (x.add r) = some (.slice (A r) (L r) (C r)) ∧ L r ≤ C r ∧ C r ≤ maxLen ∧ (Z r).length = C r ∧ (A r = none → C r = 0) ∧
    ∀ a', A r = some a' → ∀ c, c < C r → w.cell? (a'.add c) = some (.int k ((Z r).getD c 0))

set_option maxRecDepth 100000 in
set_option maxHeartbeats 3000000 in
theorem walk (a0 : Int) (a1 : Option Addr) (len1 cap1 : Nat) (A1 : Nat → Option Addr) (L1 C1 : Nat → Nat) (Z1 : Nat → List Int) (w : World) (w0 : (Lit.int .i64 a0).wf = true) (w1 : IsGrid .i64 w a1 len1 cap1 A1 L1 C1 Z1) :
    Calls Try.prog 5 #[.int .i64 a0, .slice a1 len1 cap1] w fun e w' => e = .returned (.bool true) ∧ Below w.heap.size w w' := by
  obtain ⟨hlen, hL, hG0⟩ := grid_rows w1
  obtain ⟨X, hX⟩ : ∃ X, (fun i => (Z1 i).take (L1 i)) = X := ⟨_, rfl⟩
  rw [hX] at hG0
  have hm : maxLen = 9223372036854775807 := by decide
  have HlX := hide (show ∀ i, i < len1 → (X i).length ≤ 9223372036854775807 from fun i hi => by rw [← hX, ← hm]; simp only; rw [(hL i hi).1]; exact (hL i hi).2)
  have hlen2 : len1 ≤ 9223372036854775807 := by omega
  have G0 := hide hG0
  clear hX hG0 hL hm hlen w0 w1
  obtain ⟨z, hz⟩ : ∃ z, szF len1 X 1048576 = z := ⟨_, rfl⟩
  have HZ := hide hz
  by_cases hneg : z < 0
  · clear hz
    go_enter Try.func5, Try.ntmps5
    go_wp2_with fail
    refine (szSSa a1 len1 cap1 A1 C1 X 1048576 _ G0.out hlen2 HlX.out (by omega) (by omega)).mono ?_
    rintro e v ⟨rfl, rfl⟩
    rw [HZ.out]
    go_wp2
    go_ret
    exact ⟨rfl, Below.refl _ _⟩
  have hT := szF_ok (by rw [hz]; exact hneg)
  have HT := hide (show tot X len1 ≤ 1048576 by omega)
  have hn : len1 ≤ 1048576 := by omega
  have HXl := hide (show ∀ i, i < len1 → (X i).length ≤ 1048576 from fun i hi => Nat.le_trans (len_tot X hi) HT.out)
  clear hz hT
  obtain ⟨RA, hA⟩ : ∃ RA, cvA a0 X = RA := ⟨_, rfl⟩
  obtain ⟨RD, hD⟩ : ∃ RD, cvD a0 X = RD := ⟨_, rfl⟩
  obtain ⟨N, hN⟩ : ∃ N, cvN a0 X len1 = N := ⟨_, rfl⟩
  obtain ⟨c, hC⟩ : ∃ c, cvC a0 X len1 = c := ⟨_, rfl⟩
  have hS := cv_short (p := a0) (X := X) (n := len1)
  rw [hA, hD, hN] at hS
  obtain ⟨hN24, hSA, hSD⟩ := hS
  have HA := hide hA
  have HD := hide hD
  have HN := hide hN
  have HC := hide hC
  have HSA := hide hSA
  have HSD := hide hSD
  clear hA hD hN hC hSA hSD
  have B0 := Below.refl w.heap.size w
  have z0 := Nat.le_refl w.heap.size
  go_enter Try.func5, Try.ntmps5
  go_wp2_with fail
  refine (szSSa a1 len1 cap1 A1 C1 X 1048576 _ G0.out hlen2 HlX.out (by omega) (by omega)).mono ?_
  rintro e v ⟨rfl, rfl⟩
  rw [HZ.out]
  go_wp2_with fail
  refine (toSSa a1 len1 cap1 A1 C1 X _ (GridR.below G0.out B0) hn HXl.out).mono ?_
  rintro e u1 ⟨rfl, o1, t1⟩
  have B1 := bnext B0 t1
  have z1 := t1.size
  clear t1
  obtain ⟨QA1, QC1, ql1⟩ := o1.listsAt HXl.out
  have QL1 := hide ql1
  clear ql1
  go_wp2_with fail
  refine (specCv HA.out HD.out HN.out HC.out QL1.out (by omega)).mono ?_
  rintro e u2 ⟨as1, cs1, as2, cs2, rfl, s1, s2, t2⟩
  have B2 := bnext B1 t2
  have z2 := t2.size
  replace o1 := o1.below t2
  clear t2 QL1
  clear o1
  go_wp2_with fail
  refine (toSSa a1 len1 cap1 A1 C1 X _ (GridR.below G0.out B2) hn HXl.out).mono ?_
  rintro e u3 ⟨rfl, o2, t3⟩
  have B3 := bnext B2 t3
  have z3 := t3.size
  replace s1 := s1.below t3
  replace s2 := s2.below t3
  clear t3
  obtain ⟨QA3, QC3, ql3⟩ := o2.listsAt HXl.out
  have QL3 := hide ql3
  clear ql3
  go_wp2_with fail
  refine (implCv HA.out HD.out HN.out HC.out QL3.out (by omega)).mono ?_
  rintro e u4 ⟨ag1, cg1, ag2, cg2, mg1, rfl, lg1, hg1, g1, g2, t4⟩
  have B4 := bnext B3 t4
  have z4 := t4.size
  replace s1 := s1.below t4
  replace s2 := s2.below t4
  replace o2 := o2.below t4
  clear t4 QL3
  go_wp2_with fail
  refine (eqZ _ g1 s1 (by omega) HSA.out).mono ?_
  rintro e u5 ⟨rfl, t5⟩
  have B5 := bnext B4 t5
  have z5 := t5.size
  replace s1 := s1.below t5
  replace s2 := s2.below t5
  replace o2 := o2.below t5
  replace g1 := g1.below t5
  replace g2 := g2.below t5
  clear t5
  go_wp2_with fail
  refine (eqZ _ g2 s2 (by omega) HSD.out).mono ?_
  rintro e u6 ⟨rfl, t6⟩
  have B6 := bnext B5 t6
  have z6 := t6.size
  replace s1 := s1.below t6
  replace s2 := s2.below t6
  replace o2 := o2.below t6
  replace g1 := g1.below t6
  replace g2 := g2.below t6
  clear t6
  go_wp2_with fail
  refine (toSSa a1 len1 cap1 A1 C1 X _ (GridR.below G0.out B6) hn HXl.out).mono ?_
  rintro e u7 ⟨rfl, o3, t7⟩
  have B7 := bnext B6 t7
  have z7 := t7.size
  replace s1 := s1.below t7
  replace s2 := s2.below t7
  replace o2 := o2.below t7
  replace g1 := g1.below t7
  replace g2 := g2.below t7
  clear t7
  go_wp2_with fail
  refine (eqZN _ o2 o3 hn HXl.out).mono ?_
  rintro e u8 ⟨rfl, t8⟩
  have B8 := bnext B7 t8
  have z8 := t8.size
  replace s1 := s1.below t8
  replace s2 := s2.below t8
  replace o2 := o2.below t8
  replace g1 := g1.below t8
  replace g2 := g2.below t8
  replace o3 := o3.below t8
  clear t8
  clear o3
  go_wp2_with fail
  refine (markSSN _ _ _ _ _ _ 1 _ o2 hn HT.out (by omega) (by omega)).mono ?_
  rintro e u9 ⟨rfl, no, gt⟩
  clear o2
  have o2 := no
  clear no
  have B9 := below_touch B8 gt (by omega) (by omega)
  have z9 := gt.size
  replace s1 := s1.touch gt (by omega)
  replace s2 := s2.touch gt (by omega)
  replace g1 := g1.touch gt (by omega)
  replace g2 := g2.touch gt (by omega)
  clear gt
  clear o2
  go_wp2_with fail
  refine (eqZ _ g1 s1 (by omega) HSA.out).mono ?_
  rintro e u10 ⟨rfl, t10⟩
  have B10 := bnext B9 t10
  have z10 := t10.size
  replace s1 := s1.below t10
  replace s2 := s2.below t10
  replace g1 := g1.below t10
  replace g2 := g2.below t10
  clear t10
  go_wp2_with fail
  refine (eqZ _ g2 s2 (by omega) HSD.out).mono ?_
  rintro e u11 ⟨rfl, t11⟩
  have B11 := bnext B10 t11
  have z11 := t11.size
  replace s1 := s1.below t11
  replace s2 := s2.below t11
  replace g1 := g1.below t11
  replace g2 := g2.below t11
  clear t11
  go_wp2_with fail
  refine (markSS _ _ _ _ _ _ 1 _ g1 (by omega) HSA.out (by omega) (by omega)).mono ?_
  rintro e u12 ⟨rfl, no, gt⟩
  clear g1
  have g1 := no
  clear no
  have B12 := below_touch B11 gt (by omega) (by omega)
  have z12 := gt.size
  replace s1 := s1.touch gt (by omega)
  replace s2 := s2.touch gt (by omega)
  replace g2 := g2.touch gt (by omega)
  clear gt
  have HtA := tot_le HSA.out N (Nat.le_refl _)
  have HtD := tot_le HSD.out N (Nat.le_refl _)
  go_wp2_with fail
  refine (markSS _ _ _ _ _ _ _ _ g2 (by omega) HSD.out (by omega) (by omega)).mono ?_
  rintro e u13 ⟨rfl, no, gt⟩
  clear g2
  have g2 := no
  clear no
  have B13 := below_touch B12 gt (by omega) (by omega)
  have z13 := gt.size
  replace s1 := s1.touch gt (by omega)
  replace s2 := s2.touch gt (by omega)
  replace g1 := g1.touch gt (by omega)
  clear gt
  go_wp2_with fail
  refine (heldSS _ _ _ _ _ _ 1 _ g1 (by omega) HSA.out (by omega) (by omega)).mono ?_
  rintro e w' ⟨rfl, rfl⟩
  go_wp2_with fail
  refine (heldSS _ _ _ _ _ _ _ _ g2 (by omega) HSD.out (by omega) (by omega)).mono ?_
  rintro e w' ⟨rfl, rfl⟩
  go_wp2_with fail
  refine (toSSa a1 len1 cap1 A1 C1 X _ (GridR.below G0.out B13) hn HXl.out).mono ?_
  rintro e u14 ⟨rfl, o4, t14⟩
  have B14 := bnext B13 t14
  have z14 := t14.size
  replace s1 := s1.below t14
  replace s2 := s2.below t14
  replace g1 := g1.below t14
  replace g2 := g2.below t14
  clear t14
  obtain ⟨QA14, QC14, ql14⟩ := o4.listsAt HXl.out
  have QL14 := hide ql14
  clear ql14
  go_wp2_with fail
  refine (implCv HA.out HD.out HN.out HC.out QL14.out (by omega)).mono ?_
  rintro e u15 ⟨ar1, cr1, ar2, cr2, mr1, rfl, lr1, hr1, r1, r2, t15⟩
  have B15 := bnext B14 t15
  have z15 := t15.size
  replace s1 := s1.below t15
  replace s2 := s2.below t15
  replace g1 := g1.below t15
  replace g2 := g2.below t15
  replace o4 := o4.below t15
  clear t15 QL14
  clear o4
  go_wp2_with fail
  refine (eqZ _ r1 s1 (by omega) HSA.out).mono ?_
  rintro e u16 ⟨rfl, t16⟩
  have B16 := bnext B15 t16
  have z16 := t16.size
  replace s1 := s1.below t16
  replace s2 := s2.below t16
  replace g1 := g1.below t16
  replace g2 := g2.below t16
  replace r1 := r1.below t16
  replace r2 := r2.below t16
  clear t16
  go_wp2_with fail
  refine (eqZ _ r2 s2 (by omega) HSD.out).mono ?_
  rintro e u17 ⟨rfl, t17⟩
  have B17 := bnext B16 t17
  have z17 := t17.size
  replace s1 := s1.below t17
  replace s2 := s2.below t17
  replace g1 := g1.below t17
  replace g2 := g2.below t17
  replace r1 := r1.below t17
  replace r2 := r2.below t17
  clear t17
  go_wp2_with fail
  refine (heldSS _ _ _ _ _ _ 1 _ g1 (by omega) HSA.out (by omega) (by omega)).mono ?_
  rintro e w' ⟨rfl, rfl⟩
  go_wp2_with fail
  refine (heldSS _ _ _ _ _ _ _ _ g2 (by omega) HSD.out (by omega) (by omega)).mono ?_
  rintro e w' ⟨rfl, rfl⟩
  go_wp2
  go_ret
  exact ⟨rfl, B17⟩

set_option maxRecDepth 100000 in
theorem lifted (os : Os) (started : os.Started) (H : Type) (enc : TypeId × Value → H) :
    ReturnsInHanded {} Try.checked os 5 .any (Rows.fnExactConvergentsOfSpec.pre6 enc Try.prog Try.f5 Rows.fnExactConvergentsOfRow.domain false) (Rows.fnExactConvergentsOfSpec.post enc Try.prog Try.f5 false true false false) := by
  refine returnsInHanded_of_change (C := Try.checked) own started (by kernel_rfl) Try.func5
    (ChangeSpec.witness6 (enc := enc) (C := Try.checked) false ⟨#[], #[.int .i64 0, .slice none 0 0], []⟩ 8 (by kernel_rfl) (by kernel_rfl) (by kernel_rfl) (by kernel_rfl)) ?_
  intro W base args ds gs before hval0 hW hcnd _
  have hval : ∀ (j : Nat) t v, Try.f5.params[j]? = some t → args[j]? = some v → Value.okWide Try.prog W .any base t v := hval0
  have hW' := hW
  obtain ⟨p, q, hA0, hV, rfl, hfz, hnd⟩ := hW
  have hA : DataW.TrodAll enc Try.prog W 0 (fun _ => true) true Try.f5.params.toList args.toList ds p := hA0
  rw [Try.params5] at hA hval
  obtain ⟨v0, vs0, d0, ds0, p0, q0, hargs, rfl, rfl, h0, r0⟩ := trodAll_cons hA
  obtain ⟨v1, vs1, d1, ds1, p1, q1, rfl, rfl, rfl, h1, r1⟩ := trodAll_cons r0
  obtain ⟨rfl, rfl, rfl⟩ := trodAll_nil r1
  obtain rfl : args = #[v0, v1] := by cases args; simp_all
  obtain ⟨rfl, rfl⟩ := trodVars_none hV
  obtain ⟨a0, rfl, rfl, rfl, w0⟩ := open_int Try.underlying2 (hval 0 2 v0 rfl rfl) h0
  obtain ⟨a1, len1, cap1, rfl⟩ := okWide_slice Try.underlying33 (hval 1 33 v1 rfl rfl)
  have k1 := h1
  have lt1 : ∀ x ∈ p1, x.block < W.heap.size := by obtain ⟨m, hm⟩ := k1; exact DataW.trod_lt m _ _ _ hm
  obtain ⟨A1, L1, C1, Z1, w1⟩ : ∃ A L C Z, IsGrid .i64 W a1 len1 cap1 A L C Z := by
    obtain ⟨fuel, hf⟩ := h1
    rcases Go.Deep.open_int_rows Try.underlying33 Try.underlying22 Try.underlying2 (by kernel_rfl) (by kernel_rfl) hf with ⟨hcs, _⟩ | ⟨x, l, c, A', L', C', Z', hcs, _, hl, hm, _, hr⟩
    · simp [Value.cells] at hcs
      obtain ⟨rfl, rfl, rfl⟩ := hcs
      exact ⟨fun _ => none, fun _ => 0, fun _ => 0, fun _ => [], .inl ⟨rfl, rfl, rfl⟩⟩
    · simp [Value.cells] at hcs
      obtain ⟨rfl, rfl, rfl⟩ := hcs
      exact ⟨A', L', C', Z', .inr ⟨_, rfl, hl, hm, fun r hr' => by
        obtain ⟨q1, q2, q3, q4, _, q6, q7⟩ := hr r hr'
        exact ⟨q1, q2, q3, q4, q6, fun a' ha => (q7 a' ha).2⟩⟩⟩
  clear hA0 hval0
  refine (walk a0 a1 len1 cap1 A1 L1 C1 Z1 W w0 w1).mono fun e W' ⟨he, bel⟩ => ?_
  subst he
  exact ⟨_, rfl, _, _, _, [], _, [], hW', trodAll_mk1 (shut_bool Try.underlying4 _), (trodAll_cons_mk (shut_int Try.underlying2 w0) (trodAll_cons_mk (Below.trod laidOut (by kernel_rfl) (of_decide_eq_true (by kernel_rfl)) k1 bel lt1) trodAll_mk0)), rfl, bel.frame _, fun h => by cases h⟩

theorem over : Rows.fnExactConvergentsOfRow.holds Try.pinned (OpenSpec.ofChange Rows.fnExactConvergentsOfSpec) :=
  OpenClaim.holds_of_wide 5 Try.f5 rfl rfl rfl rfl rfl rfl rfl ⟨rfl, rfl, rfl, rfl, rfl⟩ rfl rfl rfl rfl rfl (by kernel_rfl) Try.func5 (by kernel_rfl)
    (of_decide_eq_true (by kernel_rfl)) (by unfold Func.isWrapper; first | (rw [if_pos (by decide +kernel)]; kernel_rfl) | (rw [if_neg (by decide +kernel)]; exact ⟨rfl, rfl⟩))
    (fun os started H enc _ => lifted os started H enc)

theorem proved : Rows.FnExactConvergentsOfSaid := over
#print axioms proved
end Go.Proofs.Ytkpmonopjkjflaa.fnExactConvergentsOf

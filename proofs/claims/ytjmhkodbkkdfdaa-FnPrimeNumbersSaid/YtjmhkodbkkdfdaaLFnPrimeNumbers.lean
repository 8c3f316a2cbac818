/- The law 'FnPrimeNumbers' returns true for every input and leaves its arguments as they were. Conditions: none. -/
import Derived.Test.YtjmhkodbkkdfdaaRows
import Derived.WalkKit
import Derived.ProofKit
import Derived.OpenShut
import Derived.ShutString
import Derived.ChangeOld
import Derived.Below
import Derived.Test.YtjmhkodbkkdfdaaPq
namespace Go.Proofs.Ytjmhkodbkkdfdaa.fnPrimeNumbers
open Go.ChangeShapes Go.WideShapes Go.ChangeAt Go.RowKit
open Go.ChangeMaps (open_string shut_string)
set_option linter.unusedVariables false
set_option linter.unusedSimpArgs false

theorem own : ownKnob Try.prog.godebug = none := by kernel_rfl
theorem laidOut : laidOutB Try.prog = true := by kernel_rfl

/-- WHAT THE WALK IS TOLD OF A SLICE OF INTEGERS THAT CAME IN: it is nil; or it leads to a row of 'cap' cells, the numbers 'zs' (the first 'len' are its elements, the rest its spare room), each fitting its kind. -/
def IsRow (k : IntKind) (w : World) (a : Option Addr) (len cap : Nat) (zs : List Int) : Prop :=
  (a = none ∧ len = 0 ∧ cap = 0 ∧ zs = []) ∨
  ∃ x, a = some x ∧ len ≤ cap ∧ cap ≤ maxLen ∧ zs.length = cap ∧ (∀ i, i < zs.length → w.cell? (x.add i) = some (.int k (zs.getD i 0))) ∧ ∀ n ∈ zs, (Lit.int k n).wf = true

/-! ### STEP 1: THE WALK: the Go text returns true, AND WRITES NOTHING THAT WAS THERE: 'Below w.heap.size w w'' (Derived/Below.lean: '.refl', '.alloc', '.drew', '.setCell' at a new block, '.trans'). Open each 'IsRow' by 'rcases' AHEAD of 'go_enter'; part every test ahead of the walk. -/
set_option maxRecDepth 100000 in
set_option maxHeartbeats 3000000 in
theorem walk (a0 : Option Addr) (len0 cap0 : Nat) (z0 : List Int) (w : World) (w0 : IsRow .u8 w a0 len0 cap0 z0) :
    Calls Try.prog 8 #[.slice a0 len0 cap0] w fun e w' => e = .returned (.bool true) ∧ Below w.heap.size w w' := by
  have s0 := sb_of_row w0
  clear w0
  by_cases L : 4096 < len0
  · go_enter Try.func8, Try.ntmps8
    go_wp2_with fail
    refine (big_yes _ _ _ _ L).mono ?_
    rintro e w' ⟨rfl, rfl⟩
    go_wp2
    go_ret
    exact ⟨rfl, Below.refl _ _⟩
  have L' : len0 ≤ 4096 := by omega
  clear L
  go_enter Try.func8, Try.ntmps8
  go_wp2_with fail
  refine (big_no _ _ _ _ L').mono ?_
  rintro e w' ⟨rfl, rfl⟩
  go_wp2_with fail
  refine (drawInverse_any _ _ _ _ s0 L').mono ?_
  rintro e u1 ⟨p, x, rfl, ⟨p0, p1⟩, ⟨x0, x1⟩, B1⟩
  go_wp2_with fail
  refine (implInverseOf _ _ _).mono ?_
  rintro e u2 ⟨rfl, t2⟩
  have B2 := bnext B1 t2
  clear t2 B1
  go_wp2_with fail
  refine (specInverseOf _ _ _).mono ?_
  rintro e u3 ⟨rfl, rfl⟩
  have key : (invOk p x = true) ∨ (invOk p x = false) := by cases invOk p x <;> simp
  rcases key with hok | hok
  · obtain ⟨f1, f2, f3, f4, f5, ⟨f6, f7⟩, ⟨f8, f9⟩, ⟨f10, f11⟩⟩ := inv_facts hok
    obtain ⟨m1, m2⟩ := mulb (show 0 ≤ x by omega) f9 f10 f11 f7
    have h3 := hide f3
    have h4 := hide f4
    rw [f1, f2]
    generalize invM p x = iv at *
    clear f1 f2 f3 f4 hok
    have hp0 : ¬ p = 0 := by omega
    have q5 : (x * iv % p == 1) = true := by simpa using f5
    have h5 := hide f5
    clear f5
    go_wp2_with fail
    refine (implPowerOf _ _ _ _).mono ?_
    rintro e u4 ⟨rfl, t4⟩
    have B4 := bnext B2 t4
    rw [h3.out, h4.out]
    have f5 := h5.out
    clear t4 B2 h3 h4
    go_wp2_with fail
    refine (drawPower_any _ _ _ _ (s0.below B4) L').mono ?_
    rintro e u5 ⟨q, y, k, rfl, ⟨q0, q1⟩, ⟨y0, y1⟩, ⟨k0, k1⟩, t5⟩
    have B5 := bnext B4 t5
    clear t5 B4 f5 h5 q5
    go_wp2_with fail
    refine (implPowerOf _ _ _ _).mono ?_
    rintro e u6 ⟨rfl, t6⟩
    have B6 := bnext B5 t6
    clear t6 B5
    go_wp2_with fail
    refine (specPowerOf _ _ _ _).mono ?_
    rintro e u7 ⟨rfl, rfl⟩
    have key2 : (powOk q y k = true ∧ k < 1000000000) ∨ (powOk q y k = true ∧ ¬ k < 1000000000) ∨ (powOk q y k = false) := by
      cases powOk q y k <;> simp
      omega
    rcases key2 with ⟨ho, hk⟩ | ⟨ho, hk⟩ | ho
    · obtain ⟨g1, g2, g3, ⟨g4, g5⟩, ⟨g6, g7⟩, ⟨g8, g9⟩⟩ := pow_facts ho hk
      obtain ⟨n1, n2⟩ := mulb g8 g9 g6 g7 g5
      have G2 := hide g2
      have G3 := hide g3
      rw [g1]
      generalize powOfV q y k = pv at *
      have hq0 : ¬ q = 0 := by omega
      clear g1 g2 g3 ho
      go_wp2_with fail
      refine (implPowerOf _ _ _ _).mono ?_
      rintro e u8 ⟨rfl, t8⟩
      have B8 := bnext B6 t8
      rw [G2.out, G3.out]
      clear t8 B6 G2 G3
      go_wp2_with fail
      refine (drawIsPrime_any _ _ _ _ (s0.below B8) L').mono ?_
      rintro e u9 ⟨z, rfl, t9⟩
      have B9 := bnext B8 t9
      clear t9 B8
      go_wp2_with fail
      refine (isPrime_any _ _).mono ?_
      rintro e u10 ⟨rfl, rfl⟩
      go_wp2_with fail
      refine (specIsPrime _ _).mono ?_
      rintro e u11 ⟨rfl, rfl⟩
      generalize primeB z = bz
      cases bz
      all_goals
        go_wp2
        go_ret
        exact ⟨rfl, B9⟩
    · have g1 := pow_yes ho
      rw [g1]
      generalize powOfV q y k = pv
      clear g1 ho
      go_wp2_with fail
      refine (drawIsPrime_any _ _ _ _ (s0.below B6) L').mono ?_
      rintro e u9 ⟨z, rfl, t9⟩
      have B9 := bnext B6 t9
      clear t9 B6
      go_wp2_with fail
      refine (isPrime_any _ _).mono ?_
      rintro e u10 ⟨rfl, rfl⟩
      go_wp2_with fail
      refine (specIsPrime _ _).mono ?_
      rintro e u11 ⟨rfl, rfl⟩
      generalize primeB z = bz
      cases bz
      all_goals
        go_wp2
        go_ret
        exact ⟨rfl, B9⟩
    · have g1 := pow_no ho
      rw [g1]
      generalize powOfV q y k = pv
      clear g1 ho
      go_wp2_with fail
      refine (drawIsPrime_any _ _ _ _ (s0.below B6) L').mono ?_
      rintro e u9 ⟨z, rfl, t9⟩
      have B9 := bnext B6 t9
      clear t9 B6
      go_wp2_with fail
      refine (isPrime_any _ _).mono ?_
      rintro e u10 ⟨rfl, rfl⟩
      go_wp2_with fail
      refine (specIsPrime _ _).mono ?_
      rintro e u11 ⟨rfl, rfl⟩
      generalize primeB z = bz
      cases bz
      all_goals
        go_wp2
        go_ret
        exact ⟨rfl, B9⟩
  · have f1 := inv_no hok
    have F1 := hide f1
    rw [F1.out]
    clear hok f1
    go_wp2_with fail
    refine (drawPower_any _ _ _ _ (s0.below B2) L').mono ?_
    rintro e u5 ⟨q, y, k, rfl, ⟨q0, q1⟩, ⟨y0, y1⟩, ⟨k0, k1⟩, t5⟩
    have B5 := bnext B2 t5
    clear t5 B2 F1
    go_wp2_with fail
    refine (implPowerOf _ _ _ _).mono ?_
    rintro e u6 ⟨rfl, t6⟩
    have B6 := bnext B5 t6
    clear t6 B5
    go_wp2_with fail
    refine (specPowerOf _ _ _ _).mono ?_
    rintro e u7 ⟨rfl, rfl⟩
    have key2 : (powOk q y k = true ∧ k < 1000000000) ∨ (powOk q y k = true ∧ ¬ k < 1000000000) ∨ (powOk q y k = false) := by
      cases powOk q y k <;> simp
      omega
    rcases key2 with ⟨ho, hk⟩ | ⟨ho, hk⟩ | ho
    · obtain ⟨g1, g2, g3, ⟨g4, g5⟩, ⟨g6, g7⟩, ⟨g8, g9⟩⟩ := pow_facts ho hk
      obtain ⟨n1, n2⟩ := mulb g8 g9 g6 g7 g5
      have G2 := hide g2
      have G3 := hide g3
      rw [g1]
      generalize powOfV q y k = pv at *
      have hq0 : ¬ q = 0 := by omega
      clear g1 g2 g3 ho
      go_wp2_with fail
      refine (implPowerOf _ _ _ _).mono ?_
      rintro e u8 ⟨rfl, t8⟩
      have B8 := bnext B6 t8
      rw [G2.out, G3.out]
      clear t8 B6 G2 G3
      go_wp2_with fail
      refine (drawIsPrime_any _ _ _ _ (s0.below B8) L').mono ?_
      rintro e u9 ⟨z, rfl, t9⟩
      have B9 := bnext B8 t9
      clear t9 B8
      go_wp2_with fail
      refine (isPrime_any _ _).mono ?_
      rintro e u10 ⟨rfl, rfl⟩
      go_wp2_with fail
      refine (specIsPrime _ _).mono ?_
      rintro e u11 ⟨rfl, rfl⟩
      generalize primeB z = bz
      cases bz
      all_goals
        go_wp2
        go_ret
        exact ⟨rfl, B9⟩
    · have g1 := pow_yes ho
      rw [g1]
      generalize powOfV q y k = pv
      clear g1 ho
      go_wp2_with fail
      refine (drawIsPrime_any _ _ _ _ (s0.below B6) L').mono ?_
      rintro e u9 ⟨z, rfl, t9⟩
      have B9 := bnext B6 t9
      clear t9 B6
      go_wp2_with fail
      refine (isPrime_any _ _).mono ?_
      rintro e u10 ⟨rfl, rfl⟩
      go_wp2_with fail
      refine (specIsPrime _ _).mono ?_
      rintro e u11 ⟨rfl, rfl⟩
      generalize primeB z = bz
      cases bz
      all_goals
        go_wp2
        go_ret
        exact ⟨rfl, B9⟩
    · have g1 := pow_no ho
      rw [g1]
      generalize powOfV q y k = pv
      clear g1 ho
      go_wp2_with fail
      refine (drawIsPrime_any _ _ _ _ (s0.below B6) L').mono ?_
      rintro e u9 ⟨z, rfl, t9⟩
      have B9 := bnext B6 t9
      clear t9 B6
      go_wp2_with fail
      refine (isPrime_any _ _).mono ?_
      rintro e u10 ⟨rfl, rfl⟩
      go_wp2_with fail
      refine (specIsPrime _ _).mono ?_
      rintro e u11 ⟨rfl, rfl⟩
      generalize primeB z = bz
      cases bz
      all_goals
        go_wp2
        go_ret
        exact ⟨rfl, B9⟩

/-! ### THE ROW's STEP: WRITTEN OUT: LEAVE IT -/
set_option maxRecDepth 100000 in
theorem lifted (os : Os) (started : os.Started) (H : Type) (enc : TypeId × Value → H) :
    ReturnsInHanded {} Try.checked os 8 .any (Rows.fnPrimeNumbersSpec.pre6 enc Try.prog Try.f8 Rows.fnPrimeNumbersRow.domain false) (Rows.fnPrimeNumbersSpec.post enc Try.prog Try.f8 false true false false) := by
  refine returnsInHanded_of_change (C := Try.checked) own started (by kernel_rfl) Try.func8
    (ChangeSpec.witness6 (enc := enc) (C := Try.checked) false ⟨#[], #[.slice none 0 0], []⟩ 8 (by kernel_rfl) (by kernel_rfl) (by kernel_rfl) (by kernel_rfl)) ?_
  intro W base args ds gs before hval0 hW hcnd _
  have hval : ∀ (j : Nat) t v, Try.f8.params[j]? = some t → args[j]? = some v → Value.okWide Try.prog W .any base t v := hval0
  have hW' := hW
  obtain ⟨p, q, hA0, hV, rfl, hfz, hnd⟩ := hW
  have hA : DataW.TrodAll enc Try.prog W 0 (fun _ => true) true Try.f8.params.toList args.toList ds p := hA0
  rw [Try.params8] at hA hval
  obtain ⟨v0, vs0, d0, ds0, p0, q0, hargs, rfl, rfl, h0, r0⟩ := trodAll_cons hA
  obtain ⟨rfl, rfl, rfl⟩ := trodAll_nil r0
  obtain rfl : args = #[v0] := by cases args; simp_all
  obtain ⟨rfl, rfl⟩ := trodVars_none hV
  obtain ⟨a0, len0, cap0, rfl⟩ := okWide_slice Try.underlying31 (hval 0 31 v0 rfl rfl)
  have k0 := h0
  have lt0 : ∀ x ∈ p0, x.block < W.heap.size := by obtain ⟨m, hm⟩ := k0; exact DataW.trod_lt m _ _ _ hm
  obtain ⟨z0, w0⟩ : ∃ zs, IsRow .u8 W a0 len0 cap0 zs := by
    obtain ⟨fuel, hf⟩ := h0
    rcases open_ints Try.underlying31 Try.underlying5 (by kernel_rfl) hf with ⟨hcs, _⟩ | ⟨x, l, c, zs, hcs, _, hl, hm, hz, _, hcell, hwz⟩
    · simp [Value.cells] at hcs
      obtain ⟨rfl, rfl, rfl⟩ := hcs
      exact ⟨[], .inl ⟨rfl, rfl, rfl, rfl⟩⟩
    · simp [Value.cells] at hcs
      obtain ⟨rfl, rfl, rfl⟩ := hcs
      exact ⟨zs, .inr ⟨_, rfl, hl, hm, by simpa using hz, hcell, hwz⟩⟩
  clear hA0 hval0
  refine (walk a0 len0 cap0 z0 W w0).mono fun e W' ⟨he, bel⟩ => ?_
  subst he
  exact ⟨_, rfl, _, _, _, [], _, [], hW', trodAll_mk1 (shut_bool Try.underlying4 _), (trodAll_cons_mk (Below.trod laidOut (by kernel_rfl) (of_decide_eq_true (by kernel_rfl)) k0 bel lt0) trodAll_mk0), rfl, bel.frame _, fun h => by cases h⟩

theorem over : Rows.fnPrimeNumbersRow.holds Try.pinned (OpenSpec.ofChange Rows.fnPrimeNumbersSpec) :=
  OpenClaim.holds_of_wide 8 Try.f8 rfl rfl rfl rfl rfl rfl rfl ⟨rfl, rfl, rfl, rfl, rfl⟩ rfl rfl rfl rfl rfl (by kernel_rfl) Try.func8 (by kernel_rfl)
    (of_decide_eq_true (by kernel_rfl)) (by unfold Func.isWrapper; first | (rw [if_pos (by decide +kernel)]; kernel_rfl) | (rw [if_neg (by decide +kernel)]; exact ⟨rfl, rfl⟩))
    (fun os started H enc _ => lifted os started H enc)

/-- ████ THE STATEMENT ████ -/
theorem proved : Rows.FnPrimeNumbersSaid := over
#print axioms proved
end Go.Proofs.Ytjmhkodbkkdfdaa.fnPrimeNumbers

/- The law 'FnExactSumOfExpansion' returns true for every input and leaves its arguments as they were. Conditions: none. -/
import Derived.Test.YtdjifjlgllohmaaDoorRows
import Derived.WalkKit
import Derived.ProofKit
import Derived.OpenShut
import Derived.ShutString
import Derived.ChangeOld
import Derived.Lib.SmallJoins
import Derived.Below
import Derived.Test.YtdjifjlgllohmaaDoorYDS38
import Derived.Test.YtdjifjlgllohmaaDoorYDS39
import Derived.Test.YtdjifjlgllohmaaDoorTie
import Derived.Test.YtdjifjlgllohmaaDoorCards
import Derived.Stop.LaidErr
import Derived.JoinedOf
import Derived.SevenTiedAt
namespace Go.Proofs.YtdjifjlgllohmaaDoor.fnExactSumOfExpansion
open Go.ChangeShapes Go.WideShapes Go.ChangeAt Go.RowKit
open Go.ChangeMaps (open_string shut_string)
set_option linter.unusedVariables false
set_option linter.unusedSimpArgs false

theorem own : ownKnob Tryd.prog.godebug = none := by kernel_rfl
theorem laidOut : laidOutB Tryd.prog = true := by kernel_rfl

/-- What the walk is told of a slice of integers that came in. -/
def IsRow (k : IntKind) (w : World) (a : Option Addr) (len cap : Nat) (zs : List Int) : Prop :=
  (a = none ∧ len = 0 ∧ cap = 0 ∧ zs = []) ∨
  ∃ x, a = some x ∧ len ≤ cap ∧ cap ≤ maxLen ∧ zs.length = cap ∧ (∀ i, i < zs.length → w.cell? (x.add i) = some (.int k (zs.getD i 0))) ∧ ∀ n ∈ zs, (Lit.int k n).wf = true

set_option maxRecDepth 100000 in
set_option maxHeartbeats 3000000 in
theorem walk (a0_0 : Int) (a0_1 : Option Addr) (len0_1 cap0_1 : Nat) (z0_1 : List Int) (a1 : Option Addr) (len1 cap1 : Nat) (z1 : List Int) (w : World) (w0_0 : (Lit.int .i64 a0_0).wf = true) (w0_1 : IsRow .i64 w a0_1 len0_1 cap0_1 z0_1) (w1 : IsRow .i64 w a1 len1 cap1 z1) (ae : Addr) (he : ErrV w ae) :
    Calls Tryd.prog 8 #[.agg #[.int .i64 a0_0, .slice a0_1 len0_1 cap0_1], .slice a1 len1 cap1] w fun e w' => e = .returned (.bool true) ∧ Below w.heap.size w w' := by
  have s0 := sl_of_row w0_1
  have rs0 := row_len w0_1
  have s1 := sl_of_row w1
  have rs1 := row_len w1
  clear w0_0 w0_1 w1
  have b0 := bl1 w (.cells #[.int .i64 a0_0, .slice a0_1 len0_1 cap0_1] 24)
  by_cases L1 : (1048576 : Int) < (len1 : Int)
  · go_enter Tryd.func8, Tryd.ntmps8
    go_wp2
    go_ret
    exact ⟨rfl, b0⟩
  by_cases L0 : (1048576 : Int) < (len0_1 : Int)
  · go_enter Tryd.func8, Tryd.ntmps8
    go_wp2_with fail
    refine (szM_no _ _ _ _ _ _ rs0 (by omega) (by omega) (by omega)).mono ?_
    rintro e v ⟨rfl, y⟩
    go_wp2
    go_ret
    exact ⟨rfl, bnext b0 y⟩
  go_enter Tryd.func8, Tryd.ntmps8
  go_wp2_with fail
  refine (szM _ _ _ _ _ _ (by omega) (by omega) (by omega) (by omega)).mono ?_
  rintro e u1 ⟨rfl, t1⟩
  have B1 := bnext b0 t1
  have sz1 : w.heap.size + 1 ≤ u1.heap.size := by have := t1.size; (try simp at this); omega
  have f0_0 : u1.cell? ⟨w.heap.size, 0, none⟩ = some (.int .i64 a0_0) := cell_be t1 (by simp [go_sem])
  have f0_1 : u1.cell? ⟨w.heap.size, 1, none⟩ = some (.slice a0_1 len0_1 cap0_1) := cell_be t1 (by simp [go_sem])
  clear t1
  go_wp2_with fail
  refine (toM _ _ _ _ _ _ (s0.below B1) (by omega)).mono ?_
  rintro e u2 ⟨x1, rfl, o1, t2⟩
  have B2 := bnext B1 t2
  replace f0_0 := cell_be t2 f0_0
  replace f0_1 := cell_be t2 f0_1
  have sz2 := t2.size
  replace o1 := OZ.of o1 s0.len.symm
  clear t2
  go_wp2_with fail
  refine (toI _ _ _ _ _ (s1.below B2) (by omega)).mono ?_
  rintro e u3 ⟨x2, rfl, o2, t3⟩
  have B3 := bnext B2 t3
  replace f0_0 := cell_be t3 f0_0
  replace f0_1 := cell_be t3 f0_1
  have sz3 := t3.size
  replace o1 := o1.below t3
  replace o2 := OZ.of o2 s1.len.symm
  clear t3
  go_wp2_with fail
  refine (specSumOfExpansion _ _ _ _ _ _ _ _ _ _ (OZ.sl o1) (OZ.sl o2) (by omega) (by omega)).mono ?_
  rintro e u4 ⟨ra3, rc3, rfl, o3, l3, t4⟩
  have B4 := bnext B3 t4
  replace f0_0 := cell_be t4 f0_0
  replace f0_1 := cell_be t4 f0_1
  have sz4 := t4.size
  replace o1 := o1.below t4
  replace o2 := o2.below t4
  clear t4
  clear o1
  clear o2
  go_wp2_with fail
  refine (toM _ _ _ _ _ _ (s0.below B4) (by omega)).mono ?_
  rintro e u5 ⟨x4, rfl, o4, t5⟩
  have B5 := bnext B4 t5
  replace f0_0 := cell_be t5 f0_0
  replace f0_1 := cell_be t5 f0_1
  have sz5 := t5.size
  replace o3 := o3.below t5
  replace o4 := OZ.of o4 s0.len.symm
  clear t5
  have pa5 := bl1 u5 (.cells #[.int .i64 a0_0, .slice x4 len0_1 len0_1] 30)
  replace o3 := o3.below pa5
  replace o4 := o4.below pa5
  replace f0_0 := cell_al f0_0 (.cells #[.int .i64 a0_0, .slice x4 len0_1 len0_1] 30)
  replace f0_1 := cell_al f0_1 (.cells #[.int .i64 a0_0, .slice x4 len0_1 len0_1] 30)
  go_wp2_with fail
  refine (toI _ _ _ _ _ (s1.below (bnext B5 pa5)) (by omega)).mono ?_
  rintro e u6 ⟨x5, rfl, o5, t6⟩
  have B6 := bnext (bnext B5 pa5) t6
  replace f0_0 := cell_be t6 f0_0
  replace f0_1 := cell_be t6 f0_1
  have sz6 : u5.heap.size + 1 ≤ u6.heap.size := by have := t6.size; simp at this; omega
  have ko4_0 : u6.cell? ⟨u5.heap.size, 0, none⟩ = some (.int .i64 a0_0) := cell_be t6 (by simp [go_sem])
  have ko4_1 : u6.cell? ⟨u5.heap.size, 1, none⟩ = some (.slice x4 len0_1 len0_1) := cell_be t6 (by simp [go_sem])
  replace o3 := o3.below t6
  replace o4 := o4.below t6
  replace o5 := o5.mono (B' := u5.heap.size + 1) (by simp)
  replace o5 := OZ.of o5 s1.len.symm
  clear t6
  go_wp2_with fail
  refine (implSumOfExpansion _ _ _ _ _ _ _ _ _ ae _ (he.below B6) (OZ.sl o4) (OZ.sl o5) (by omega) (by omega)).mono ?_
  rintro e u7 ⟨ra6, rc6, rfl, o6, l6, t7⟩
  have B7 := bnext B6 t7
  replace f0_0 := cell_be t7 f0_0
  replace f0_1 := cell_be t7 f0_1
  replace ko4_0 := cell_be t7 ko4_0
  replace ko4_1 := cell_be t7 ko4_1
  have sz7 := t7.size
  replace o3 := o3.below t7
  replace o4 := o4.below t7
  replace o5 := o5.below t7
  clear t7
  go_wp2_with fail
  refine (eqI _ _ _ _ _ _ _ (OZ.sl o6) (OZ.sl o3) (by omega)).mono ?_
  rintro e u8 ⟨rfl, t8⟩
  have B8 := bnext B7 t8
  replace f0_0 := cell_be t8 f0_0
  replace f0_1 := cell_be t8 f0_1
  replace ko4_0 := cell_be t8 ko4_0
  replace ko4_1 := cell_be t8 ko4_1
  have sz8 := t8.size
  replace o3 := o3.below t8
  replace o4 := o4.below t8
  replace o5 := o5.below t8
  replace o6 := o6.below t8
  clear t8
  have hbr9 := (Below.refl u8.heap.size u8).drew
  have F9 : ∀ w', Below u8.heap.size u8 w' → w'.cell? ⟨w.heap.size, 0, none⟩ = some (.int .i64 a0_0) ∧ w'.cell? ⟨w.heap.size, 1, none⟩ = some (.slice a0_1 len0_1 cap0_1) ∧ w'.cell? ⟨u5.heap.size, 0, none⟩ = some (.int .i64 a0_0) ∧ w'.cell? ⟨u5.heap.size, 1, none⟩ = some (.slice x4 len0_1 len0_1) := fun w' hb => ⟨cell_be hb f0_0, cell_be hb f0_1, cell_be hb ko4_0, cell_be hb ko4_1⟩
  go_wp2_with fail
  go_region_held3 (fun w' => w'.cell? ⟨w.heap.size, 0, none⟩ = some (.int .i64 a0_0) ∧ w'.cell? ⟨w.heap.size, 1, none⟩ = some (.slice a0_1 len0_1 cap0_1) ∧ w'.cell? ⟨u5.heap.size, 0, none⟩ = some (.int .i64 a0_0) ∧ w'.cell? ⟨u5.heap.size, 1, none⟩ = some (.slice x4 len0_1 len0_1))
    (exact F9 _ (by assumption))
    (first
    | (go_at_call 14; refine (toM _ _ _ _ _ _ ((s0.below B8).below hbr9) (by omega)).mono ?_; rintro e wn9 ⟨xn9, rfl, on9, hn9⟩; have hm9 := bnext hbr9 hn9)
    | (go_at_call 17; refine (eqM _ _ _ _ _ _ _ _ ((OZ.sl o4).below hm9) (OZ.of on9 s0.len.symm).sl (by omega)).mono ?_; rintro e u9 ⟨rfl, hr9⟩; have t9 := bnext hm9 hr9))
  clear F9 on9 hn9 hm9 hr9 hbr9
  have B9 := bnext B8 t9
  have sz9 := t9.size
  replace f0_0 := cell_be t9 f0_0
  replace f0_1 := cell_be t9 f0_1
  replace ko4_0 := cell_be t9 ko4_0
  replace ko4_1 := cell_be t9 ko4_1
  replace o3 := o3.below t9
  replace o4 := o4.below t9
  replace o5 := o5.below t9
  replace o6 := o6.below t9
  clear t9
  go_wp2_with fail
  refine (toI _ _ _ _ _ (s1.below B9) (by omega)).mono ?_
  rintro e u10 ⟨x7, rfl, o7, t10⟩
  have B10 := bnext B9 t10
  replace f0_0 := cell_be t10 f0_0
  replace f0_1 := cell_be t10 f0_1
  replace ko4_0 := cell_be t10 ko4_0
  replace ko4_1 := cell_be t10 ko4_1
  have sz10 := t10.size
  replace o3 := o3.below t10
  replace o4 := o4.below t10
  replace o5 := o5.below t10
  replace o6 := o6.below t10
  replace o7 := OZ.of o7 s1.len.symm
  clear t10
  go_wp2_with fail
  refine (eqI _ _ _ _ _ _ _ (OZ.sl o5) (OZ.sl o7) (by omega)).mono ?_
  rintro e u11 ⟨rfl, t11⟩
  have B11 := bnext B10 t11
  replace f0_0 := cell_be t11 f0_0
  replace f0_1 := cell_be t11 f0_1
  replace ko4_0 := cell_be t11 ko4_0
  replace ko4_1 := cell_be t11 ko4_1
  have sz11 := t11.size
  replace o3 := o3.below t11
  replace o4 := o4.below t11
  replace o5 := o5.below t11
  replace o6 := o6.below t11
  replace o7 := o7.below t11
  clear t11
  clear o7
  go_wp2_with fail
  refine (markMT _ _ _ _ _ _ _ _ _ o4 (by omega) (by omega) (by omega)).mono ?_
  rintro e u12 ⟨rfl, no4, gt⟩
  clear o4
  have o4 := no4
  clear no4
  have B12 := below_touch B11 gt (by omega) (by omega)
  have sz12 := gt.size
  replace o3 := o3.touch gt (by omega)
  replace o5 := o5.touch gt (by omega)
  replace o6 := o6.touch gt (by omega)
  replace f0_0 := gt.cell f0_0 (by omega)
  replace f0_1 := gt.cell f0_1 (by omega)
  replace ko4_0 := gt.cell ko4_0 (by omega)
  replace ko4_1 := gt.cell ko4_1 (by omega)
  clear gt
  clear o4
  clear ko4_0
  clear ko4_1
  go_wp2_with fail
  refine (markZT _ _ _ _ _ _ _ _ o5 (by omega) (by omega) (by omega)).mono ?_
  rintro e u13 ⟨rfl, no5, gt⟩
  clear o5
  have o5 := no5
  clear no5
  have B13 := below_touch B12 gt (by omega) (by omega)
  have sz13 := gt.size
  replace o3 := o3.touch gt (by omega)
  replace o6 := o6.touch gt (by omega)
  replace f0_0 := gt.cell f0_0 (by omega)
  replace f0_1 := gt.cell f0_1 (by omega)
  clear gt
  clear o5
  go_wp2_with fail
  refine (eqI _ _ _ _ _ _ _ (OZ.sl o6) (OZ.sl o3) (by omega)).mono ?_
  rintro e u14 ⟨rfl, t14⟩
  have B14 := bnext B13 t14
  replace f0_0 := cell_be t14 f0_0
  replace f0_1 := cell_be t14 f0_1
  have sz14 := t14.size
  replace o3 := o3.below t14
  replace o6 := o6.below t14
  clear t14
  go_wp2_with fail
  refine (markZT _ _ _ _ _ _ _ _ o6 (by omega) (by omega) (by omega)).mono ?_
  rintro e u15 ⟨rfl, no6, gt⟩
  clear o6
  have o6 := no6
  clear no6
  have B15 := below_touch B14 gt (by omega) (by omega)
  have sz15 := gt.size
  replace o3 := o3.touch gt (by omega)
  replace f0_0 := gt.cell f0_0 (by omega)
  replace f0_1 := gt.cell f0_1 (by omega)
  clear gt
  go_wp2_with fail
  refine (heldI _ _ _ _ _ (OZ.sl o6) (by omega) (by omega) (by omega)).mono ?_
  rintro e w' ⟨rfl, rfl⟩
  go_wp2_with fail
  refine (toM _ _ _ _ _ _ (s0.below B15) (by omega)).mono ?_
  rintro e u16 ⟨x8, rfl, o8, t16⟩
  have B16 := bnext B15 t16
  replace f0_0 := cell_be t16 f0_0
  replace f0_1 := cell_be t16 f0_1
  have sz16 := t16.size
  replace o3 := o3.below t16
  replace o6 := o6.below t16
  replace o8 := OZ.of o8 s0.len.symm
  clear t16
  go_wp2_with fail
  refine (toI _ _ _ _ _ (s1.below B16) (by omega)).mono ?_
  rintro e u17 ⟨x9, rfl, o9, t17⟩
  have B17 := bnext B16 t17
  replace f0_0 := cell_be t17 f0_0
  replace f0_1 := cell_be t17 f0_1
  have sz17 := t17.size
  replace o3 := o3.below t17
  replace o6 := o6.below t17
  replace o8 := o8.below t17
  replace o9 := OZ.of o9 s1.len.symm
  clear t17
  go_wp2_with fail
  refine (implSumOfExpansion _ _ _ _ _ _ _ _ _ ae _ (he.below B17) (OZ.sl o8) (OZ.sl o9) (by omega) (by omega)).mono ?_
  rintro e u18 ⟨ra10, rc10, rfl, o10, l10, t18⟩
  have B18 := bnext B17 t18
  replace f0_0 := cell_be t18 f0_0
  replace f0_1 := cell_be t18 f0_1
  have sz18 := t18.size
  replace o3 := o3.below t18
  replace o6 := o6.below t18
  replace o8 := o8.below t18
  replace o9 := o9.below t18
  clear t18
  clear o8
  clear o9
  go_wp2_with fail
  refine (eqI _ _ _ _ _ _ _ (OZ.sl o10) (OZ.sl o3) (by omega)).mono ?_
  rintro e u19 ⟨rfl, t19⟩
  have B19 := bnext B18 t19
  replace f0_0 := cell_be t19 f0_0
  replace f0_1 := cell_be t19 f0_1
  have sz19 := t19.size
  replace o3 := o3.below t19
  replace o6 := o6.below t19
  replace o10 := o10.below t19
  clear t19
  clear o10
  go_wp2_with fail
  refine (heldI _ _ _ _ _ (OZ.sl o6) (by omega) (by omega) (by omega)).mono ?_
  rintro e w' ⟨rfl, rfl⟩
  go_wp2
  go_ret
  exact ⟨rfl, B19⟩

theorem gE : Tryd.prog.globalNamed "loop.example/g01283/impl.errIrregular" = some 0 := by kernel_rfl
theorem gEType : (Tryd.prog.globals[0]?).map (·.type) = some 87 := by kernel_rfl
theorem cellsS : Tryd.prog.cellsOf 135 = 1 := by kernel_rfl
theorem cellsT : Tryd.prog.cellsOf 9 = 1 := by kernel_rfl
theorem star : "*" ++ "errors.errorString" = "*errors.errorString" := by decide
theorem rowP (u : TypeId) (h : Tryd.prog.typeName? 3 u = some "*errors.errorString") : u = 117 :=
  typeName_ptr_named (nm := "errors.errorString") (by rw [star]; kernel_rfl) (by kernel_rfl) (by decide) u (by rw [star]; exact h)
abbrev zeroS : ByteArray := { data := #[116, 104, 101, 32, 109, 111, 109, 101, 110, 116, 115, 32, 100, 111, 32, 110, 111, 116, 32, 116, 101, 108, 108, 32, 116, 104, 105, 115, 32, 111, 114, 116, 104, 111, 103, 111, 110, 97, 108, 32, 112, 111, 108, 121, 110, 111, 109, 105, 97, 108, 32, 111, 114, 32, 110, 111, 114, 109] }
noncomputable def low : Nat := (World.holding Tryd.prog default ⟨#[], #[], []⟩).heap.size
noncomputable def laidWorld (os : Os) : World :=
  let w0 := World.holding Tryd.prog os ⟨#[.cells #[.string zeroS] 135], #[], []⟩
  { w0 with heap := w0.heap.modify 0 fun
      | .cells _ t frozen => .cells #[.iface 117 (.pointer (some ⟨low, 0, none⟩))] t frozen
      | o => o }
theorem laidWorld_met (os : Os) (args : Array Value) : laidMet Tryd.prog Rows.fnExactSumOfExpansionRow.laid ((laidWorld os).forCall (fun _ _ => 0) ⟨#[], args, []⟩).memory :=
  laidMet_of_run (ps := [.cell 0 0, .cell low 0]) 8 (by kernel_rfl) (by kernel_rfl) (by kernel_rfl)
theorem var_below {W W' : World} {cs : Array Value} (h : W.var? Tryd.prog "loop.example/g01283/impl.errIrregular" = some cs) (hb : Below W.heap.size W W') : W'.var? Tryd.prog "loop.example/g01283/impl.errIrregular" = some cs := by
  unfold World.var? at h ⊢
  rw [gE] at h ⊢
  simp only [Option.bind_some] at h ⊢
  have hlt : 0 < W.heap.size := by
    rcases Nat.lt_or_ge 0 W.heap.size with h' | h'
    · exact h'
    · rw [Array.getElem?_eq_none h'] at h; cases h
  rw [hb.block 0 hlt]
  exact h

set_option maxRecDepth 100000 in
theorem lifted (os : Os) (started : os.Started) (H : Type) (enc : TypeId × Value → H) :
    ReturnsInHanded {} Tryd.checked os 8 .any (fun w args => (Rows.fnExactSumOfExpansionSpec.pre enc Tryd.prog Tryd.f8 [] false w args ∧ laidMet Tryd.prog Rows.fnExactSumOfExpansionRow.laid w) ∧ sizedMet enc Tryd.prog Tryd.f8 (OpenSpec.ofChange Rows.fnExactSumOfExpansionSpec) false w args)
      (Rows.fnExactSumOfExpansionSpec.post enc Tryd.prog Tryd.f8 false true false false) := by
  refine returnsInHanded_of_change_and (C := Tryd.checked) (X := fun w _ => laidMet Tryd.prog Rows.fnExactSumOfExpansionRow.laid w) (fun _ _ _ hh h => h.of_heap hh) own started (by kernel_rfl) Tryd.func8
    (ChangeSpec.witness_at (enc := enc) (C := Tryd.checked) (os := os) (X := fun w _ => laidMet Tryd.prog Rows.fnExactSumOfExpansionRow.laid w) false (laidWorld os) #[.agg #[.int .i64 0, .slice none 0 0], .slice none 0 0] 8 rfl (by kernel_rfl) (by kernel_rfl) (by kernel_rfl) (by kernel_rfl) (by kernel_rfl) (laidWorld_met os _)) ?_
  intro W base args ds gs before hval0 hW hcnd _ hL _
  have hval : ∀ (j : Nat) t v, Tryd.f8.params[j]? = some t → args[j]? = some v → Value.okWide Tryd.prog W .any base t v := hval0
  have hW' := hW
  obtain ⟨p, q, hA0, hV0, rfl, hfz, hnd⟩ := hW
  have hA : DataW.TrodAll enc Tryd.prog W 0 (fun _ => true) true Tryd.f8.params.toList args.toList ds p := hA0
  have hV : DataW.TrodVars enc Tryd.prog W (fun _ => true) ["loop.example/g01283/impl.errIrregular"] gs q := hV0
  rw [Tryd.params8] at hA hval
  obtain ⟨v0, vs0, d0, ds0, p0, q0, hargs, rfl, rfl, h0, r0⟩ := trodAll_cons hA
  obtain ⟨v1, vs1, d1, ds1, p1, q1, rfl, rfl, rfl, h1, r1⟩ := trodAll_cons r0
  obtain ⟨rfl, rfl, rfl⟩ := trodAll_nil r1
  obtain rfl : args = #[v0, v1] := by cases args; simp_all
  have k0 := h0
  have lt0 : ∀ x ∈ p0, x.block < W.heap.size := by obtain ⟨m, hm⟩ := k0; exact DataW.trod_lt m _ _ _ hm
  obtain ⟨c0_0, c0_1, y0_0, y0_1, m0, rfl, rfl, rfl, h0_0, h0_1⟩ := Joins.open_agg2 Tryd.underlying24 (by kernel_rfl) (by kernel_rfl) (hval 0 24 v0 rfl rfl) h0
  obtain ⟨a0_0, e0_0, g0_0, w0_0⟩ := DataW.trod_int Tryd.underlying2 h0_0
  simp at e0_0
  subst e0_0
  obtain ⟨a0_1, len0_1, cap0_1, e0_1⟩ := Joins.slice_form Tryd.underlying22 h0_1
  simp at e0_1
  subst e0_1
  obtain ⟨z0_1, w0_1⟩ : ∃ zs, IsRow .i64 W a0_1 len0_1 cap0_1 zs := by
    have hf := h0_1
    rcases open_ints Tryd.underlying22 Tryd.underlying2 (by kernel_rfl) hf with ⟨hcs, _⟩ | ⟨x, l, c, zs, hcs, _, hl, hm, hz, _, hcell, hwz⟩
    · simp [Value.cells] at hcs
      obtain ⟨rfl, rfl, rfl⟩ := hcs
      exact ⟨[], .inl ⟨rfl, rfl, rfl, rfl⟩⟩
    · simp [Value.cells] at hcs
      obtain ⟨rfl, rfl, rfl⟩ := hcs
      exact ⟨zs, .inr ⟨_, rfl, hl, hm, by simpa using hz, hcell, hwz⟩⟩
  obtain ⟨a1, len1, cap1, rfl⟩ := okWide_slice Tryd.underlying22 (hval 1 22 v1 rfl rfl)
  have k1 := h1
  have lt1 : ∀ x ∈ p1, x.block < W.heap.size := by obtain ⟨m, hm⟩ := k1; exact DataW.trod_lt m _ _ _ hm
  obtain ⟨z1, w1⟩ : ∃ zs, IsRow .i64 W a1 len1 cap1 zs := by
    obtain ⟨fuel, hf⟩ := h1
    rcases open_ints Tryd.underlying22 Tryd.underlying2 (by kernel_rfl) hf with ⟨hcs, _⟩ | ⟨x, l, c, zs, hcs, _, hl, hm, hz, _, hcell, hwz⟩
    · simp [Value.cells] at hcs
      obtain ⟨rfl, rfl, rfl⟩ := hcs
      exact ⟨[], .inl ⟨rfl, rfl, rfl, rfl⟩⟩
    · simp [Value.cells] at hcs
      obtain ⟨rfl, rfl, rfl⟩ := hcs
      exact ⟨zs, .inr ⟨_, rfl, hl, hm, by simpa using hz, hcell, hwz⟩⟩
  obtain ⟨ae, es, hv0, hc0, hs0, hz0⟩ := laid_sentinel hL gE gEType Tryd.underlying87 rowP Tryd.underlying117 Tryd.underlying135 rfl rfl Tryd.underlying9 cellsS cellsT
  obtain ⟨rfl, rfl⟩ := hV.unique (vars_read1 enc gE gEType Tryd.underlying87 hv0 trivial _)
  clear hA0 hV0 hval0
  have hg0 : ErrV W ae := by
    have := World.var?_cell gE hv0 0
    simpa [ErrV] using this
  refine (walk a0_0 a0_1 len0_1 cap0_1 z0_1 a1 len1 cap1 z1 W w0_0 w0_1 w1 ae hg0).mono fun e W' ⟨he, bel⟩ => ?_
  subst he
  exact ⟨_, rfl, _, _, _, [], _, [.cell 0 0], hW', trodAll_mk1 (shut_bool Tryd.underlying4 _), (trodAll_cons_mk (Below.trod laidOut (by kernel_rfl) (of_decide_eq_true (by kernel_rfl)) k0 bel lt0) (trodAll_cons_mk (Below.trod laidOut (by kernel_rfl) (of_decide_eq_true (by kernel_rfl)) k1 bel lt1) trodAll_mk0)), vars_read1 enc gE gEType Tryd.underlying87 (var_below hv0 bel) trivial _, bel.frame _, fun h => by cases h⟩

theorem over : Rows.fnExactSumOfExpansionRow.holds Tryd.pinned (OpenSpec.ofChange Rows.fnExactSumOfExpansionSpec) :=
  OpenClaim.holds_of_wide 8 Tryd.f8 rfl rfl rfl rfl rfl rfl rfl ⟨rfl, rfl, rfl, rfl, rfl⟩ rfl rfl rfl rfl rfl (by kernel_rfl) Tryd.func8 (by kernel_rfl)
    (of_decide_eq_true (by kernel_rfl)) (by unfold Func.isWrapper; first | (rw [if_pos (by decide +kernel)]; kernel_rfl) | (rw [if_neg (by decide +kernel)]; exact ⟨rfl, rfl⟩))
    (fun os started H enc _ => lifted os started H enc)

theorem proved : Rows.FnExactSumOfExpansionCardSaid :=
  Claim7.holds_tied_plain_at .later [] [.sentinel] true (true, "385789fbb5d993c93e7e41f819cb6bbb473c086b3033b9651b7b135bdecca464") true
    over (fun _ h => by cases h) (by kernel_rfl) (fun _ h => by cases h) fnExactSumOfExpansion_row_tie rfl ⟨rfl, rfl⟩ (by kernel_rfl) rfl
    (fun f fn hf hfn => by
      obtain rfl : f = 8 := Option.some.inj ((show Tryd.prog.funcNamed "loop.example/g01283/laws.FnExactSumOfExpansion" = some 8 by kernel_rfl).symm.trans hf) |>.symm
      obtain rfl : fn = Tryd.f8 := (Option.some.inj (Tryd.func8.symm.trans hfn)).symm
      exact ⟨by kernel_rfl, fun j t ht => by
        rw [Tryd.params8] at ht
        rcases j with _ | _ | j
        · obtain rfl : t = 24 := by simpa using ht.symm
          exact (show Tryd.prog.wantsStandIn 24 = false by kernel_rfl)
        · obtain rfl : t = 22 := by simpa using ht.symm
          exact (show Tryd.prog.wantsStandIn 22 = false by kernel_rfl)
        · simp at ht⟩)
    (by kernel_rfl)
#print axioms proved
end Go.Proofs.YtdjifjlgllohmaaDoor.fnExactSumOfExpansion

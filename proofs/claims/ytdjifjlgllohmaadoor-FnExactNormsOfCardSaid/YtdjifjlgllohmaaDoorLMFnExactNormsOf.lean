/- The law 'FnExactNormsOf' returns true for every input and leaves its arguments as they were. Conditions: none. -/
import Derived.Test.YtdjifjlgllohmaaDoorRows
import Derived.WalkKit
import Derived.ProofKit
import Derived.OpenShut
import Derived.ShutString
import Derived.ChangeOld
import Derived.Lib.SmallJoins
import Derived.Below
import Derived.Test.YtdjifjlgllohmaaDoorYDN39
import Derived.Test.YtdjifjlgllohmaaDoorTie
import Derived.Test.YtdjifjlgllohmaaDoorCards
import Derived.Stop.LaidErr
import Derived.JoinedOf
import Derived.SevenTiedAt
namespace Go.Proofs.YtdjifjlgllohmaaDoor.fnExactNormsOf
open Go.ChangeShapes Go.WideShapes Go.ChangeAt Go.RowKit
open Go.ChangeMaps (open_string shut_string)
set_option linter.unusedVariables false
set_option linter.unusedSimpArgs false

theorem own : ownKnob Tryd.prog.godebug = none := by kernel_rfl
theorem laidOut : laidOutB Tryd.prog = true := by kernel_rfl

/-- What the walk is told of a slice of integers that came in. -/
def IsRow (k : IntKind) (w : World) (a : Option Addr) (len cap : Nat) (zs : List Int) : Prop :=
  (a = none ∧ len = 0 ∧ cap = 0 ∧ zs = []) ∨
  ∃ x, a = some x ∧ len ≤ cap ∧ cap ≤ maxLen ∧ zs.length = cap ∧ (∀ i, i < zs.length → w.cell? (x.add i) = some (.int k (zs.getD i 0))) ∧ ∀ n ∈ zs, (Lit.int k n).wf = true

set_option maxRecDepth 100000 in
set_option maxHeartbeats 3000000 in
theorem walk (a0_0 : Int) (a0_1 : Option Addr) (len0_1 cap0_1 : Nat) (z0_1 : List Int) (w : World) (w0_0 : (Lit.int .i64 a0_0).wf = true) (w0_1 : IsRow .i64 w a0_1 len0_1 cap0_1 z0_1) (ae : Addr) (he : ErrV w ae) :
    Calls Tryd.prog 6 #[.agg #[.int .i64 a0_0, .slice a0_1 len0_1 cap0_1]] w fun e w' => e = .returned (.bool true) ∧ Below w.heap.size w w' := by
  have s0 := sl_of_row w0_1
  have rs0 := row_len w0_1
  clear w0_0 w0_1
  have b0 := bl1 w (.cells #[.int .i64 a0_0, .slice a0_1 len0_1 cap0_1] 24)
  by_cases L0 : (1048576 : Int) < (len0_1 : Int)
  · go_enter Tryd.func6, Tryd.ntmps6
    go_wp2_with fail
    refine (szM_no _ _ _ _ _ _ rs0 (by omega) (by omega) (by omega)).mono ?_
    rintro e v ⟨rfl, y⟩
    go_wp2
    go_ret
    exact ⟨rfl, bnext b0 y⟩
  go_enter Tryd.func6, Tryd.ntmps6
  go_wp2_with fail
  refine (szM _ _ _ _ _ _ (by omega) (by omega) (by omega) (by omega)).mono ?_
  rintro e u1 ⟨rfl, t1⟩
  have B1 := bnext b0 t1
  have sz1 : w.heap.size + 1 ≤ u1.heap.size := by have := t1.size; (try simp at this); omega
  have f0_0 : u1.cell? ⟨w.heap.size, 0, none⟩ = some (.int .i64 a0_0) := cell_be t1 (by simp [go_sem])
  have f0_1 : u1.cell? ⟨w.heap.size, 1, none⟩ = some (.slice a0_1 len0_1 cap0_1) := cell_be t1 (by simp [go_sem])
  clear t1
  go_wp2_with fail
  refine (toM _ _ _ _ _ _ (s0.below B1) (by omega)).mono ?_
  rintro e u2 ⟨x1, rfl, o1, t2⟩
  have B2 := bnext B1 t2
  replace f0_0 := cell_be t2 f0_0
  replace f0_1 := cell_be t2 f0_1
  have sz2 := t2.size
  replace o1 := OZ.of o1 s0.len.symm
  clear t2
  go_wp2_with fail
  refine (specNormsOf _ _ _ _ _ _ (OZ.sl o1) (by omega)).mono ?_
  rintro e u3 ⟨ra2, rc2, rfl, o2, l2, t3⟩
  have B3 := bnext B2 t3
  replace f0_0 := cell_be t3 f0_0
  replace f0_1 := cell_be t3 f0_1
  have sz3 := t3.size
  replace o1 := o1.below t3
  clear t3
  clear o1
  go_wp2_with fail
  refine (toM _ _ _ _ _ _ (s0.below B3) (by omega)).mono ?_
  rintro e u4 ⟨x3, rfl, o3, t4⟩
  have B4 := bnext B3 t4
  replace f0_0 := cell_be t4 f0_0
  replace f0_1 := cell_be t4 f0_1
  have sz4 := t4.size
  replace o2 := o2.below t4
  replace o3 := OZ.of o3 s0.len.symm
  clear t4
  have pa4 := bl1 u4 (.cells #[.int .i64 a0_0, .slice x3 len0_1 len0_1] 30)
  replace o2 := o2.below pa4
  replace o3 := o3.below pa4
  replace f0_0 := cell_al f0_0 (.cells #[.int .i64 a0_0, .slice x3 len0_1 len0_1] 30)
  replace f0_1 := cell_al f0_1 (.cells #[.int .i64 a0_0, .slice x3 len0_1 len0_1] 30)
  go_wp2_with fail
  refine (implNormsOf _ _ _ _ _ ae _ (he.below (bnext B4 pa4)) (OZ.sl o3) (by omega)).mono ?_
  rintro e u5 ⟨ra4, rc4, rfl, o4, l4, t5⟩
  have B5 := bnext (bnext B4 pa4) t5
  replace f0_0 := cell_be t5 f0_0
  replace f0_1 := cell_be t5 f0_1
  have sz5 : u4.heap.size + 1 ≤ u5.heap.size := by have := t5.size; simp at this; omega
  have ko3_0 : u5.cell? ⟨u4.heap.size, 0, none⟩ = some (.int .i64 a0_0) := cell_be t5 (by simp [go_sem])
  have ko3_1 : u5.cell? ⟨u4.heap.size, 1, none⟩ = some (.slice x3 len0_1 len0_1) := cell_be t5 (by simp [go_sem])
  replace o2 := o2.below t5
  replace o3 := o3.below t5
  replace o4 := o4.mono (lo' := u4.heap.size + 1) (by simp) (Nat.le_refl _)
  clear t5
  go_wp2_with fail
  refine (eqI _ _ _ _ _ _ _ (OZ.sl o4) (OZ.sl o2) (by omega)).mono ?_
  rintro e u6 ⟨rfl, t6⟩
  have B6 := bnext B5 t6
  replace f0_0 := cell_be t6 f0_0
  replace f0_1 := cell_be t6 f0_1
  replace ko3_0 := cell_be t6 ko3_0
  replace ko3_1 := cell_be t6 ko3_1
  have sz6 := t6.size
  replace o2 := o2.below t6
  replace o3 := o3.below t6
  replace o4 := o4.below t6
  clear t6
  have hbr7 := (Below.refl u6.heap.size u6).drew
  have F7 : ∀ w', Below u6.heap.size u6 w' → w'.cell? ⟨w.heap.size, 0, none⟩ = some (.int .i64 a0_0) ∧ w'.cell? ⟨w.heap.size, 1, none⟩ = some (.slice a0_1 len0_1 cap0_1) ∧ w'.cell? ⟨u4.heap.size, 0, none⟩ = some (.int .i64 a0_0) ∧ w'.cell? ⟨u4.heap.size, 1, none⟩ = some (.slice x3 len0_1 len0_1) := fun w' hb => ⟨cell_be hb f0_0, cell_be hb f0_1, cell_be hb ko3_0, cell_be hb ko3_1⟩
  go_wp2_with fail
  go_region_held3 (fun w' => w'.cell? ⟨w.heap.size, 0, none⟩ = some (.int .i64 a0_0) ∧ w'.cell? ⟨w.heap.size, 1, none⟩ = some (.slice a0_1 len0_1 cap0_1) ∧ w'.cell? ⟨u4.heap.size, 0, none⟩ = some (.int .i64 a0_0) ∧ w'.cell? ⟨u4.heap.size, 1, none⟩ = some (.slice x3 len0_1 len0_1))
    (exact F7 _ (by assumption))
    (first
    | (go_at_call 14; refine (toM _ _ _ _ _ _ ((s0.below B6).below hbr7) (by omega)).mono ?_; rintro e wn7 ⟨xn7, rfl, on7, hn7⟩; have hm7 := bnext hbr7 hn7)
    | (go_at_call 17; refine (eqM _ _ _ _ _ _ _ _ ((OZ.sl o3).below hm7) (OZ.of on7 s0.len.symm).sl (by omega)).mono ?_; rintro e u7 ⟨rfl, hr7⟩; have t7 := bnext hm7 hr7))
  clear F7 on7 hn7 hm7 hr7 hbr7
  have B7 := bnext B6 t7
  have sz7 := t7.size
  replace f0_0 := cell_be t7 f0_0
  replace f0_1 := cell_be t7 f0_1
  replace ko3_0 := cell_be t7 ko3_0
  replace ko3_1 := cell_be t7 ko3_1
  replace o2 := o2.below t7
  replace o3 := o3.below t7
  replace o4 := o4.below t7
  clear t7
  go_wp2_with fail
  refine (markMT _ _ _ _ _ _ _ _ _ o3 (by omega) (by omega) (by omega)).mono ?_
  rintro e u8 ⟨rfl, no3, gt⟩
  clear o3
  have o3 := no3
  clear no3
  have B8 := below_touch B7 gt (by omega) (by omega)
  have sz8 := gt.size
  replace o2 := o2.touch gt (by omega)
  replace o4 := o4.touch gt (by omega)
  replace f0_0 := gt.cell f0_0 (by omega)
  replace f0_1 := gt.cell f0_1 (by omega)
  replace ko3_0 := gt.cell ko3_0 (by omega)
  replace ko3_1 := gt.cell ko3_1 (by omega)
  clear gt
  clear o3
  clear ko3_0
  clear ko3_1
  go_wp2_with fail
  refine (eqI _ _ _ _ _ _ _ (OZ.sl o4) (OZ.sl o2) (by omega)).mono ?_
  rintro e u9 ⟨rfl, t9⟩
  have B9 := bnext B8 t9
  replace f0_0 := cell_be t9 f0_0
  replace f0_1 := cell_be t9 f0_1
  have sz9 := t9.size
  replace o2 := o2.below t9
  replace o4 := o4.below t9
  clear t9
  go_wp2_with fail
  refine (markZT _ _ _ _ _ _ _ _ o4 (by omega) (by omega) (by omega)).mono ?_
  rintro e u10 ⟨rfl, no4, gt⟩
  clear o4
  have o4 := no4
  clear no4
  have B10 := below_touch B9 gt (by omega) (by omega)
  have sz10 := gt.size
  replace o2 := o2.touch gt (by omega)
  replace f0_0 := gt.cell f0_0 (by omega)
  replace f0_1 := gt.cell f0_1 (by omega)
  clear gt
  go_wp2_with fail
  refine (heldI _ _ _ _ _ (OZ.sl o4) (by omega) (by omega) (by omega)).mono ?_
  rintro e w' ⟨rfl, rfl⟩
  go_wp2_with fail
  refine (toM _ _ _ _ _ _ (s0.below B10) (by omega)).mono ?_
  rintro e u11 ⟨x5, rfl, o5, t11⟩
  have B11 := bnext B10 t11
  replace f0_0 := cell_be t11 f0_0
  replace f0_1 := cell_be t11 f0_1
  have sz11 := t11.size
  replace o2 := o2.below t11
  replace o4 := o4.below t11
  replace o5 := OZ.of o5 s0.len.symm
  clear t11
  go_wp2_with fail
  refine (implNormsOf _ _ _ _ _ ae _ (he.below B11) (OZ.sl o5) (by omega)).mono ?_
  rintro e u12 ⟨ra6, rc6, rfl, o6, l6, t12⟩
  have B12 := bnext B11 t12
  replace f0_0 := cell_be t12 f0_0
  replace f0_1 := cell_be t12 f0_1
  have sz12 := t12.size
  replace o2 := o2.below t12
  replace o4 := o4.below t12
  replace o5 := o5.below t12
  clear t12
  clear o5
  go_wp2_with fail
  refine (eqI _ _ _ _ _ _ _ (OZ.sl o6) (OZ.sl o2) (by omega)).mono ?_
  rintro e u13 ⟨rfl, t13⟩
  have B13 := bnext B12 t13
  replace f0_0 := cell_be t13 f0_0
  replace f0_1 := cell_be t13 f0_1
  have sz13 := t13.size
  replace o2 := o2.below t13
  replace o4 := o4.below t13
  replace o6 := o6.below t13
  clear t13
  clear o6
  go_wp2_with fail
  refine (heldI _ _ _ _ _ (OZ.sl o4) (by omega) (by omega) (by omega)).mono ?_
  rintro e w' ⟨rfl, rfl⟩
  go_wp2
  go_ret
  exact ⟨rfl, B13⟩

theorem gE : Tryd.prog.globalNamed "loop.example/g01283/impl.errIrregular" = some 0 := by kernel_rfl
theorem gEType : (Tryd.prog.globals[0]?).map (·.type) = some 87 := by kernel_rfl
theorem cellsS : Tryd.prog.cellsOf 135 = 1 := by kernel_rfl
theorem cellsT : Tryd.prog.cellsOf 9 = 1 := by kernel_rfl
theorem star : "*" ++ "errors.errorString" = "*errors.errorString" := by decide
theorem rowP (u : TypeId) (h : Tryd.prog.typeName? 3 u = some "*errors.errorString") : u = 117 :=
  typeName_ptr_named (nm := "errors.errorString") (by rw [star]; kernel_rfl) (by kernel_rfl) (by decide) u (by rw [star]; exact h)
abbrev zeroS : ByteArray := { data := #[116, 104, 101, 32, 109, 111, 109, 101, 110, 116, 115, 32, 100, 111, 32, 110, 111, 116, 32, 116, 101, 108, 108, 32, 116, 104, 105, 115, 32, 111, 114, 116, 104, 111, 103, 111, 110, 97, 108, 32, 112, 111, 108, 121, 110, 111, 109, 105, 97, 108, 32, 111, 114, 32, 110, 111, 114, 109] }
noncomputable def low : Nat := (World.holding Tryd.prog default ⟨#[], #[], []⟩).heap.size
noncomputable def laidWorld (os : Os) : World :=
  let w0 := World.holding Tryd.prog os ⟨#[.cells #[.string zeroS] 135], #[], []⟩
  { w0 with heap := w0.heap.modify 0 fun
      | .cells _ t frozen => .cells #[.iface 117 (.pointer (some ⟨low, 0, none⟩))] t frozen
      | o => o }
theorem laidWorld_met (os : Os) (args : Array Value) : laidMet Tryd.prog Rows.fnExactNormsOfRow.laid ((laidWorld os).forCall (fun _ _ => 0) ⟨#[], args, []⟩).memory :=
  laidMet_of_run (ps := [.cell 0 0, .cell low 0]) 8 (by kernel_rfl) (by kernel_rfl) (by kernel_rfl)
theorem var_below {W W' : World} {cs : Array Value} (h : W.var? Tryd.prog "loop.example/g01283/impl.errIrregular" = some cs) (hb : Below W.heap.size W W') : W'.var? Tryd.prog "loop.example/g01283/impl.errIrregular" = some cs := by
  unfold World.var? at h ⊢
  rw [gE] at h ⊢
  simp only [Option.bind_some] at h ⊢
  have hlt : 0 < W.heap.size := by
    rcases Nat.lt_or_ge 0 W.heap.size with h' | h'
    · exact h'
    · rw [Array.getElem?_eq_none h'] at h; cases h
  rw [hb.block 0 hlt]
  exact h

set_option maxRecDepth 100000 in
theorem lifted (os : Os) (started : os.Started) (H : Type) (enc : TypeId × Value → H) :
    ReturnsInHanded {} Tryd.checked os 6 .any (fun w args => (Rows.fnExactNormsOfSpec.pre enc Tryd.prog Tryd.f6 [] false w args ∧ laidMet Tryd.prog Rows.fnExactNormsOfRow.laid w) ∧ sizedMet enc Tryd.prog Tryd.f6 (OpenSpec.ofChange Rows.fnExactNormsOfSpec) false w args)
      (Rows.fnExactNormsOfSpec.post enc Tryd.prog Tryd.f6 false true false false) := by
  refine returnsInHanded_of_change_and (C := Tryd.checked) (X := fun w _ => laidMet Tryd.prog Rows.fnExactNormsOfRow.laid w) (fun _ _ _ hh h => h.of_heap hh) own started (by kernel_rfl) Tryd.func6
    (ChangeSpec.witness_at (enc := enc) (C := Tryd.checked) (os := os) (X := fun w _ => laidMet Tryd.prog Rows.fnExactNormsOfRow.laid w) false (laidWorld os) #[.agg #[.int .i64 0, .slice none 0 0]] 8 rfl (by kernel_rfl) (by kernel_rfl) (by kernel_rfl) (by kernel_rfl) (by kernel_rfl) (laidWorld_met os _)) ?_
  intro W base args ds gs before hval0 hW hcnd _ hL _
  have hval : ∀ (j : Nat) t v, Tryd.f6.params[j]? = some t → args[j]? = some v → Value.okWide Tryd.prog W .any base t v := hval0
  have hW' := hW
  obtain ⟨p, q, hA0, hV0, rfl, hfz, hnd⟩ := hW
  have hA : DataW.TrodAll enc Tryd.prog W 0 (fun _ => true) true Tryd.f6.params.toList args.toList ds p := hA0
  have hV : DataW.TrodVars enc Tryd.prog W (fun _ => true) ["loop.example/g01283/impl.errIrregular"] gs q := hV0
  rw [Tryd.params6] at hA hval
  obtain ⟨v0, vs0, d0, ds0, p0, q0, hargs, rfl, rfl, h0, r0⟩ := trodAll_cons hA
  obtain ⟨rfl, rfl, rfl⟩ := trodAll_nil r0
  obtain rfl : args = #[v0] := by cases args; simp_all
  have k0 := h0
  have lt0 : ∀ x ∈ p0, x.block < W.heap.size := by obtain ⟨m, hm⟩ := k0; exact DataW.trod_lt m _ _ _ hm
  obtain ⟨c0_0, c0_1, y0_0, y0_1, m0, rfl, rfl, rfl, h0_0, h0_1⟩ := Joins.open_agg2 Tryd.underlying24 (by kernel_rfl) (by kernel_rfl) (hval 0 24 v0 rfl rfl) h0
  obtain ⟨a0_0, e0_0, g0_0, w0_0⟩ := DataW.trod_int Tryd.underlying2 h0_0
  simp at e0_0
  subst e0_0
  obtain ⟨a0_1, len0_1, cap0_1, e0_1⟩ := Joins.slice_form Tryd.underlying22 h0_1
  simp at e0_1
  subst e0_1
  obtain ⟨z0_1, w0_1⟩ : ∃ zs, IsRow .i64 W a0_1 len0_1 cap0_1 zs := by
    have hf := h0_1
    rcases open_ints Tryd.underlying22 Tryd.underlying2 (by kernel_rfl) hf with ⟨hcs, _⟩ | ⟨x, l, c, zs, hcs, _, hl, hm, hz, _, hcell, hwz⟩
    · simp [Value.cells] at hcs
      obtain ⟨rfl, rfl, rfl⟩ := hcs
      exact ⟨[], .inl ⟨rfl, rfl, rfl, rfl⟩⟩
    · simp [Value.cells] at hcs
      obtain ⟨rfl, rfl, rfl⟩ := hcs
      exact ⟨zs, .inr ⟨_, rfl, hl, hm, by simpa using hz, hcell, hwz⟩⟩
  obtain ⟨ae, es, hv0, hc0, hs0, hz0⟩ := laid_sentinel hL gE gEType Tryd.underlying87 rowP Tryd.underlying117 Tryd.underlying135 rfl rfl Tryd.underlying9 cellsS cellsT
  obtain ⟨rfl, rfl⟩ := hV.unique (vars_read1 enc gE gEType Tryd.underlying87 hv0 trivial _)
  clear hA0 hV0 hval0
  have hg0 : ErrV W ae := by
    have := World.var?_cell gE hv0 0
    simpa [ErrV] using this
  refine (walk a0_0 a0_1 len0_1 cap0_1 z0_1 W w0_0 w0_1 ae hg0).mono fun e W' ⟨he, bel⟩ => ?_
  subst he
  exact ⟨_, rfl, _, _, _, [], _, [.cell 0 0], hW', trodAll_mk1 (shut_bool Tryd.underlying4 _), (trodAll_cons_mk (Below.trod laidOut (by kernel_rfl) (of_decide_eq_true (by kernel_rfl)) k0 bel lt0) trodAll_mk0), vars_read1 enc gE gEType Tryd.underlying87 (var_below hv0 bel) trivial _, bel.frame _, fun h => by cases h⟩

theorem over : Rows.fnExactNormsOfRow.holds Tryd.pinned (OpenSpec.ofChange Rows.fnExactNormsOfSpec) :=
  OpenClaim.holds_of_wide 6 Tryd.f6 rfl rfl rfl rfl rfl rfl rfl ⟨rfl, rfl, rfl, rfl, rfl⟩ rfl rfl rfl rfl rfl (by kernel_rfl) Tryd.func6 (by kernel_rfl)
    (of_decide_eq_true (by kernel_rfl)) (by unfold Func.isWrapper; first | (rw [if_pos (by decide +kernel)]; kernel_rfl) | (rw [if_neg (by decide +kernel)]; exact ⟨rfl, rfl⟩))
    (fun os started H enc _ => lifted os started H enc)

theorem proved : Rows.FnExactNormsOfCardSaid :=
  Claim7.holds_tied_plain_at .later [] [.sentinel] true (true, "385789fbb5d993c93e7e41f819cb6bbb473c086b3033b9651b7b135bdecca464") true
    over (fun _ h => by cases h) (by kernel_rfl) (fun _ h => by cases h) fnExactNormsOf_row_tie rfl ⟨rfl, rfl⟩ (by kernel_rfl) rfl
    (fun f fn hf hfn => by
      obtain rfl : f = 6 := Option.some.inj ((show Tryd.prog.funcNamed "loop.example/g01283/laws.FnExactNormsOf" = some 6 by kernel_rfl).symm.trans hf) |>.symm
      obtain rfl : fn = Tryd.f6 := (Option.some.inj (Tryd.func6.symm.trans hfn)).symm
      exact ⟨by kernel_rfl, fun j t ht => by
        rw [Tryd.params6] at ht
        rcases j with _ | j
        · obtain rfl : t = 24 := by simpa using ht.symm
          exact (show Tryd.prog.wantsStandIn 24 = false by kernel_rfl)
        · simp at ht⟩)
    (by kernel_rfl)
#print axioms proved
end Go.Proofs.YtdjifjlgllohmaaDoor.fnExactNormsOf

/- The law 'FnExactAddMoments' returns true for every input and leaves its arguments as they were. Conditions: none. -/
import Derived.Test.YtjilggjldnlkpaaRows
import Derived.WalkKit
import Derived.ProofKit
import Derived.OpenShut
import Derived.ShutString
import Derived.ChangeOld
import Derived.Lib.SmallJoins
import Derived.Below
import Derived.Deep.DeepFit
import Derived.Test.YtjilggjldnlkpaaAx
import Derived.Test.YtjilggjldnlkpaaAy
namespace Go.Proofs.Ytjilggjldnlkpaa.fnExactAddMoments
open Go.ChangeShapes Go.WideShapes Go.ChangeAt Go.RowKit
open Go.ChangeMaps (open_string shut_string)
set_option linter.unusedVariables false
set_option linter.unusedSimpArgs false

theorem own : ownKnob Try.prog.godebug = none := by kernel_rfl
theorem laidOut : laidOutB Try.prog = true := by kernel_rfl

/-- What the walk is told of a slice of integers that came in. -/
def IsRow (k : IntKind) (w : World) (a : Option Addr) (len cap : Nat) (zs : List Int) : Prop :=
  (a = none ∧ len = 0 ∧ cap = 0 ∧ zs = []) ∨
  ∃ x, a = some x ∧ len ≤ cap ∧ cap ≤ maxLen ∧ zs.length = cap ∧ (∀ i, i < zs.length → w.cell? (x.add i) = some (.int k (zs.getD i 0))) ∧ ∀ n ∈ zs, (Lit.int k n).wf = true

set_option maxRecDepth 100000 in
set_option maxHeartbeats 3000000 in
theorem walk (a0_0 : Int) (a0_1 : Option Addr) (len0_1 cap0_1 : Nat) (z0_1 : List Int) (a1_0 : Int) (a1_1 : Option Addr) (len1_1 cap1_1 : Nat) (z1_1 : List Int) (a2 : Int) (w : World) (w0_0 : (Lit.int .i64 a0_0).wf = true) (w0_1 : IsRow .i64 w a0_1 len0_1 cap0_1 z0_1) (w1_0 : (Lit.int .i64 a1_0).wf = true) (w1_1 : IsRow .i64 w a1_1 len1_1 cap1_1 z1_1) (w2 : (Lit.int .i64 a2).wf = true) :
    Calls Try.prog 13 #[.agg #[.int .i64 a0_0, .slice a0_1 len0_1 cap0_1], .agg #[.int .i64 a1_0, .slice a1_1 len1_1 cap1_1], .int .i64 a2] w fun e w' => e = .returned (.bool true) ∧ Below w.heap.size w w' := by
  have s0 := sl_of_row w0_1
  have rs0 := row_len w0_1
  have s1 := sl_of_row w1_1
  have rs1 := row_len w1_1
  clear w0_0 w0_1 w1_0 w1_1
  have b0 := bl2 w (.cells #[.int .i64 a0_0, .slice a0_1 len0_1 cap0_1] 48) (.cells #[.int .i64 a1_0, .slice a1_1 len1_1 cap1_1] 48)
  by_cases L0 : (1048576 : Int) < (len0_1 : Int)
  · go_enter Try.func13, Try.ntmps13
    go_wp2_with fail
    refine (szM_no _ _ _ _ _ _ rs0 (by omega) (by omega) (by omega)).mono ?_
    rintro e v ⟨rfl, y⟩
    go_wp2
    go_ret
    exact ⟨rfl, bnext b0 y⟩
  by_cases L1 : (1048576 : Int) - (len0_1 : Int) < (len1_1 : Int)
  · go_enter Try.func13, Try.ntmps13
    go_wp2_with fail
    refine (szM _ _ _ _ _ _ (by omega) (by omega) (by omega) (by omega)).mono ?_
    rintro e v0 ⟨rfl, y0⟩
    have e1_0 : v0.cell? ⟨w.heap.size + 1, 0, none⟩ = some (.int .i64 a1_0) := cell_be y0 (by simp [go_sem])
    have e1_1 : v0.cell? ⟨w.heap.size + 1, 1, none⟩ = some (.slice a1_1 len1_1 cap1_1) := cell_be y0 (by simp [go_sem])
    go_wp2_with fail
    refine (szM_no _ _ _ _ _ _ rs1 (by omega) (by omega) (by omega)).mono ?_
    rintro e v ⟨rfl, y⟩
    go_wp2
    go_ret
    exact ⟨rfl, bnext (bnext b0 y0) y⟩
  go_enter Try.func13, Try.ntmps13
  go_wp2_with fail
  refine (szM _ _ _ _ _ _ (by omega) (by omega) (by omega) (by omega)).mono ?_
  rintro e u1 ⟨rfl, t1⟩
  have B1 := bnext b0 t1
  have z1 : w.heap.size + 2 ≤ u1.heap.size := by have := t1.size; simp at this; omega
  have f0_0 : u1.cell? ⟨w.heap.size, 0, none⟩ = some (.int .i64 a0_0) := cell_be t1 (by simp [go_sem])
  have f0_1 : u1.cell? ⟨w.heap.size, 1, none⟩ = some (.slice a0_1 len0_1 cap0_1) := cell_be t1 (by simp [go_sem])
  have f1_0 : u1.cell? ⟨w.heap.size + 1, 0, none⟩ = some (.int .i64 a1_0) := cell_be t1 (by simp [go_sem])
  have f1_1 : u1.cell? ⟨w.heap.size + 1, 1, none⟩ = some (.slice a1_1 len1_1 cap1_1) := cell_be t1 (by simp [go_sem])
  clear t1
  go_wp2_with fail
  refine (szM _ _ _ _ _ _ (by omega) (by omega) (by omega) (by omega)).mono ?_
  rintro e u2 ⟨rfl, t2⟩
  have B2 := bnext B1 t2
  replace f0_0 := cell_be t2 f0_0
  replace f0_1 := cell_be t2 f0_1
  replace f1_0 := cell_be t2 f1_0
  replace f1_1 := cell_be t2 f1_1
  have z2 := t2.size
  clear t2
  have FK : ∀ w', Below u2.heap.size u2 w' → Below u2.heap.size u2 w' ∧ w'.cell? ⟨w.heap.size, 0, none⟩ = some (.int .i64 a0_0) ∧ w'.cell? ⟨w.heap.size, 1, none⟩ = some (.slice a0_1 len0_1 cap0_1) ∧ w'.cell? ⟨w.heap.size + 1, 0, none⟩ = some (.int .i64 a1_0) ∧ w'.cell? ⟨w.heap.size + 1, 1, none⟩ = some (.slice a1_1 len1_1 cap1_1) := fun w' hb => ⟨hb, cell_be hb f0_0, cell_be hb f0_1, cell_be hb f1_0, cell_be hb f1_1⟩
  have GK : ∀ w', Below u2.heap.size u2 w' ∧ w'.cell? ⟨w.heap.size, 0, none⟩ = some (.int .i64 a0_0) ∧ w'.cell? ⟨w.heap.size, 1, none⟩ = some (.slice a0_1 len0_1 cap0_1) ∧ w'.cell? ⟨w.heap.size + 1, 0, none⟩ = some (.int .i64 a1_0) ∧ w'.cell? ⟨w.heap.size + 1, 1, none⟩ = some (.slice a1_1 len1_1 cap1_1) → Below u2.heap.size u2 w' := fun w' h => h.1
  go_wp2_with fail
  go_cut [8, 9] (fun sa sb wx => ∃ (q : Nat) (a' : Option Addr) (c' : Nat), sa = .pointer (some ⟨q, 0, none⟩) ∧ sb = .int .i64 (adC a0_0 (List.take len0_1 z0_1) a1_0 (List.take len1_1 z1_1) a2) ∧ Hid (wx.cell? ⟨q, 0, none⟩ = some (.int .i64 (adP a0_0 (List.take len0_1 z0_1) a1_0 (List.take len1_1 z1_1) a2))) ∧ Hid (wx.cell? ⟨q, 1, none⟩ = some (.slice a' (adV a0_0 (List.take len0_1 z0_1) a1_0 (List.take len1_1 z1_1) a2).length c')) ∧ q < wx.heap.size ∧ Hid (OZ u2.heap.size wx.heap.size wx a' (adV a0_0 (List.take len0_1 z0_1) a1_0 (List.take len1_1 z1_1) a2).length c' (adV a0_0 (List.take len0_1 z0_1) a1_0 (List.take len1_1 z1_1) a2)) ∧ (adV a0_0 (List.take len0_1 z0_1) a1_0 (List.take len1_1 z1_1) a2).length ≤ 100000 ∧ Hid (Below u2.heap.size u2 wx))
  case first =>
    go_region_held3 (fun w' => Below u2.heap.size u2 w' ∧ w'.cell? ⟨w.heap.size, 0, none⟩ = some (.int .i64 a0_0) ∧ w'.cell? ⟨w.heap.size, 1, none⟩ = some (.slice a0_1 len0_1 cap0_1) ∧ w'.cell? ⟨w.heap.size + 1, 0, none⟩ = some (.int .i64 a1_0) ∧ w'.cell? ⟨w.heap.size + 1, 1, none⟩ = some (.slice a1_1 len1_1 cap1_1))
      (first | exact FK _ (by assumption) | exact FK _ (((Below.refl _ _).alloc (Nat.le_refl _) _).drew) | exact FK _ ((Below.refl _ _).drew) | exact FK _ (Below.alloc (by assumption) (Below.size (by assumption)) _) | exact FK _ (Below.setCell (Below.setCell (by assumption) (by simp <;> omega) _) (by simp <;> omega) _) | exact FK _ (Below.setCell (Below.setCell (Below.alloc (by assumption) (Below.size (by assumption)) _) (by simp <;> omega) _) (by simp <;> omega) _))
      (first
      | (go_at_call 46; go_fit (toM _ _ _ _ _ _ (s0.below (bnext B2 (GK _ (by assumption)))) (by omega)); rintro e v0 ⟨x0, rfl, oo0, tt0⟩; have hm0 := bnext (GK _ (by assumption)) tt0; have zz0 := Below.size hm0; have ts0 := Below.size tt0; (try simp at ts0); have q0 : SL v0 _ _ _ (List.take len0_1 z0_1) := (OZ.of oo0 s0.len.symm).sl; first | (with_reducible have alx := alc tt0; have al0 := alx.1; have al1 := alx.2.1; have af0 := alx.2.2.1; have af1 := alx.2.2.2; clear alx) | (with_reducible have alx := alcD tt0; have al0 := alx.1; have al1 := alx.2.1; have af0 := alx.2.2.1; have af1 := alx.2.2.2; clear alx) | (have af0 := (Below.frozen tt0 (World.block_lt_of_cell? _ _ al0)).trans af0; have af1 := (Below.frozen tt0 (World.block_lt_of_cell? _ _ al1)).trans af1; have al0 := cell_be tt0 al0; have al1 := cell_be tt0 al1) | skip)
      | (go_at_call 46; go_fit (toM _ _ _ _ _ _ (s1.below (bnext B2 (GK _ (by assumption)))) (by omega)); rintro e v1 ⟨x1, rfl, oo1, tt1⟩; have hm1 := bnext (GK _ (by assumption)) tt1; have zz1 := Below.size hm1; have ts1 := Below.size tt1; (try simp at ts1); have q1 : SL v1 _ _ _ (List.take len1_1 z1_1) := (OZ.of oo1 s1.len.symm).sl; have q0 := SL.below q0 (by first | exact tt1 | exact bthen (bl1 _ _) tt1 (by simp)); first | (with_reducible have alx := alc tt1; have al0 := alx.1; have al1 := alx.2.1; have af0 := alx.2.2.1; have af1 := alx.2.2.2; clear alx) | (with_reducible have alx := alcD tt1; have al0 := alx.1; have al1 := alx.2.1; have af0 := alx.2.2.1; have af1 := alx.2.2.2; clear alx) | (have af0 := (Below.frozen tt1 (World.block_lt_of_cell? _ _ al0)).trans af0; have af1 := (Below.frozen tt1 (World.block_lt_of_cell? _ _ al1)).trans af1; have al0 := cell_be tt1 al0; have al1 := cell_be tt1 al1) | skip)
      | (go_at_call 45; go_fit (specAddMoments _ _ _ _ _ _ _ _ _ _ _ _ (by first | exact q0 | exact SL.below q0 (bl1 _ _)) (by first | exact q1 | exact SL.below q1 (bl1 _ _)) (by omega) (by omega)); rintro e v2 ⟨ra, rc, rfl, ro, rl, rt⟩; have hm2 := bnext (GK _ (by assumption)) rt; have zz2 := Below.size hm2; have rz := Below.size rt; (try simp at rz); first | (with_reducible have alx := alc rt; have al0 := alx.1; have al1 := alx.2.1; have af0 := alx.2.2.1; have af1 := alx.2.2.2; clear alx) | (with_reducible have alx := alcD rt; have al0 := alx.1; have al1 := alx.2.1; have af0 := alx.2.2.1; have af1 := alx.2.2.2; clear alx) | (have af0 := (Below.frozen rt (World.block_lt_of_cell? _ _ al0)).trans af0; have af1 := (Below.frozen rt (World.block_lt_of_cell? _ _ al1)).trans af1; have al0 := cell_be rt al0; have al1 := cell_be rt al1) | skip))
    all_goals go_wp2_with fail
    all_goals go_meet
    all_goals first
      | exact ⟨_, ra, rc, rfl, rfl, hide (cell_set2' (World.cell?_setCell_same _ _ _ al0) (by simp) _), hide (World.cell?_setCell_same _ _ _ (cell_set2' al1 (by simp) _)), (by first | omega | (simp; done) | (simp; omega)), hide (((ro.setLow (by first | omega | (simp; done) | (simp; omega)) _).setLow (by first | omega | (simp; done) | (simp; omega)) _).mono (by first | omega | (simp; done) | (simp; omega)) (by first | omega | (simp; done) | (simp; omega))), rl, hide ((hm2.setCell (by first | omega | (simp; done) | (simp; omega)) _).setCell (by first | omega | (simp; done) | (simp; omega)) _)⟩
      | exact ⟨_, ra, rc, rfl, rfl, hide (by simp [go_sem]), hide (by simp [go_sem]), (by first | omega | (simp; done) | (simp; omega)), hide ((ro.below (bl1 _ _)).mono (by first | omega | (simp; done) | (simp; omega)) (by first | omega | (simp; done) | (simp; omega))), rl, hide (hm2.alloc (Below.size hm2) _)⟩
  case rest =>
    obtain ⟨q3, a1, c1, rfl, rfl, k0, k1, kq3, ho, l1, hB⟩ := hcut
    obtain ⟨u3, hu⟩ : ∃ u, u = wc := ⟨wc, rfl⟩
    subst hu
    clear FK GK
    have t3 := hB.out
    have o1 := ho.out
    have ko1_0 := k0.out
    have ko1_1 := k1.out
    clear hB ho k0 k1
    have B3 := bnext B2 t3
    have z3 := t3.size
    replace f0_0 := cell_be t3 f0_0
    replace f0_1 := cell_be t3 f0_1
    replace f1_0 := cell_be t3 f1_0
    replace f1_1 := cell_be t3 f1_1
    clear t3
    go_wp2_with fail
    refine (toM _ _ _ _ _ _ (s0.below B3) (by omega)).mono ?_
    rintro e u4 ⟨x2, rfl, o2, t4⟩
    have B4 := bnext B3 t4
    replace f0_0 := cell_be t4 f0_0
    replace f0_1 := cell_be t4 f0_1
    replace f1_0 := cell_be t4 f1_0
    replace f1_1 := cell_be t4 f1_1
    replace ko1_0 := cell_be t4 ko1_0
    replace ko1_1 := cell_be t4 ko1_1
    have z4 := t4.size
    replace o1 := o1.below t4
    replace o2 := OZ.of o2 s0.len.symm
    clear t4
    have pa4 := bl1 u4 (.cells #[.int .i64 a0_0, .slice x2 len0_1 len0_1] 50)
    replace o1 := o1.below pa4
    replace o2 := o2.below pa4
    replace f0_0 := cell_al f0_0 (.cells #[.int .i64 a0_0, .slice x2 len0_1 len0_1] 50)
    replace f0_1 := cell_al f0_1 (.cells #[.int .i64 a0_0, .slice x2 len0_1 len0_1] 50)
    replace f1_0 := cell_al f1_0 (.cells #[.int .i64 a0_0, .slice x2 len0_1 len0_1] 50)
    replace f1_1 := cell_al f1_1 (.cells #[.int .i64 a0_0, .slice x2 len0_1 len0_1] 50)
    replace ko1_0 := cell_al ko1_0 (.cells #[.int .i64 a0_0, .slice x2 len0_1 len0_1] 50)
    replace ko1_1 := cell_al ko1_1 (.cells #[.int .i64 a0_0, .slice x2 len0_1 len0_1] 50)
    go_wp2_with fail
    refine (toM _ _ _ _ _ _ (s1.below (bnext B4 pa4)) (by omega)).mono ?_
    rintro e u5 ⟨x3, rfl, o3, t5⟩
    have B5 := bnext (bnext B4 pa4) t5
    replace f0_0 := cell_be t5 f0_0
    replace f0_1 := cell_be t5 f0_1
    replace f1_0 := cell_be t5 f1_0
    replace f1_1 := cell_be t5 f1_1
    replace ko1_0 := cell_be t5 ko1_0
    replace ko1_1 := cell_be t5 ko1_1
    have z5 : u4.heap.size + 1 ≤ u5.heap.size := by have := t5.size; simp at this; omega
    have ko2_0 : u5.cell? ⟨u4.heap.size, 0, none⟩ = some (.int .i64 a0_0) := cell_be t5 (by simp [go_sem])
    have ko2_1 : u5.cell? ⟨u4.heap.size, 1, none⟩ = some (.slice x2 len0_1 len0_1) := cell_be t5 (by simp [go_sem])
    replace o1 := o1.below t5
    replace o2 := o2.below t5
    replace o3 := o3.mono (B' := u4.heap.size + 1) (by simp)
    replace o3 := OZ.of o3 s1.len.symm
    clear t5
    have pa5 := bl1 u5 (.cells #[.int .i64 a1_0, .slice x3 len1_1 len1_1] 50)
    replace o1 := o1.below pa5
    replace o2 := o2.below pa5
    replace o3 := o3.below pa5
    replace f0_0 := cell_al f0_0 (.cells #[.int .i64 a1_0, .slice x3 len1_1 len1_1] 50)
    replace f0_1 := cell_al f0_1 (.cells #[.int .i64 a1_0, .slice x3 len1_1 len1_1] 50)
    replace f1_0 := cell_al f1_0 (.cells #[.int .i64 a1_0, .slice x3 len1_1 len1_1] 50)
    replace f1_1 := cell_al f1_1 (.cells #[.int .i64 a1_0, .slice x3 len1_1 len1_1] 50)
    replace ko1_0 := cell_al ko1_0 (.cells #[.int .i64 a1_0, .slice x3 len1_1 len1_1] 50)
    replace ko1_1 := cell_al ko1_1 (.cells #[.int .i64 a1_0, .slice x3 len1_1 len1_1] 50)
    replace ko2_0 := cell_al ko2_0 (.cells #[.int .i64 a1_0, .slice x3 len1_1 len1_1] 50)
    replace ko2_1 := cell_al ko2_1 (.cells #[.int .i64 a1_0, .slice x3 len1_1 len1_1] 50)
    go_wp2_with fail
    refine (implAddMoments _ _ _ _ _ _ _ _ _ _ _ _ (OZ.sl o2) (OZ.sl o3) (by omega) (by omega)).mono ?_
    rintro e u6 ⟨a4, c4, rfl, o4, l4, t6⟩
    have B6 := bnext (bnext B5 pa5) t6
    replace f0_0 := cell_be t6 f0_0
    replace f0_1 := cell_be t6 f0_1
    replace f1_0 := cell_be t6 f1_0
    replace f1_1 := cell_be t6 f1_1
    replace ko1_0 := cell_be t6 ko1_0
    replace ko1_1 := cell_be t6 ko1_1
    replace ko2_0 := cell_be t6 ko2_0
    replace ko2_1 := cell_be t6 ko2_1
    have z6 : u5.heap.size + 1 ≤ u6.heap.size := by have := t6.size; simp at this; omega
    have ko3_0 : u6.cell? ⟨u5.heap.size, 0, none⟩ = some (.int .i64 a1_0) := cell_be t6 (by simp [go_sem])
    have ko3_1 : u6.cell? ⟨u5.heap.size, 1, none⟩ = some (.slice x3 len1_1 len1_1) := cell_be t6 (by simp [go_sem])
    replace o1 := o1.below t6
    replace o2 := o2.below t6
    replace o3 := o3.below t6
    replace o4 := o4.mono (lo' := u5.heap.size + 1) (by simp) (Nat.le_refl _)
    clear t6
    have pa6 := bl1 u6 (.cells #[.int .i64 (adP a0_0 (List.take len0_1 z0_1) a1_0 (List.take len1_1 z1_1) a2), .slice a4 (adV a0_0 (List.take len0_1 z0_1) a1_0 (List.take len1_1 z1_1) a2).length c4] 50)
    replace o1 := o1.below pa6
    replace o2 := o2.below pa6
    replace o3 := o3.below pa6
    replace o4 := o4.below pa6
    replace f0_0 := cell_al f0_0 (.cells #[.int .i64 (adP a0_0 (List.take len0_1 z0_1) a1_0 (List.take len1_1 z1_1) a2), .slice a4 (adV a0_0 (List.take len0_1 z0_1) a1_0 (List.take len1_1 z1_1) a2).length c4] 50)
    replace f0_1 := cell_al f0_1 (.cells #[.int .i64 (adP a0_0 (List.take len0_1 z0_1) a1_0 (List.take len1_1 z1_1) a2), .slice a4 (adV a0_0 (List.take len0_1 z0_1) a1_0 (List.take len1_1 z1_1) a2).length c4] 50)
    replace f1_0 := cell_al f1_0 (.cells #[.int .i64 (adP a0_0 (List.take len0_1 z0_1) a1_0 (List.take len1_1 z1_1) a2), .slice a4 (adV a0_0 (List.take len0_1 z0_1) a1_0 (List.take len1_1 z1_1) a2).length c4] 50)
    replace f1_1 := cell_al f1_1 (.cells #[.int .i64 (adP a0_0 (List.take len0_1 z0_1) a1_0 (List.take len1_1 z1_1) a2), .slice a4 (adV a0_0 (List.take len0_1 z0_1) a1_0 (List.take len1_1 z1_1) a2).length c4] 50)
    replace ko1_0 := cell_al ko1_0 (.cells #[.int .i64 (adP a0_0 (List.take len0_1 z0_1) a1_0 (List.take len1_1 z1_1) a2), .slice a4 (adV a0_0 (List.take len0_1 z0_1) a1_0 (List.take len1_1 z1_1) a2).length c4] 50)
    replace ko1_1 := cell_al ko1_1 (.cells #[.int .i64 (adP a0_0 (List.take len0_1 z0_1) a1_0 (List.take len1_1 z1_1) a2), .slice a4 (adV a0_0 (List.take len0_1 z0_1) a1_0 (List.take len1_1 z1_1) a2).length c4] 50)
    replace ko2_0 := cell_al ko2_0 (.cells #[.int .i64 (adP a0_0 (List.take len0_1 z0_1) a1_0 (List.take len1_1 z1_1) a2), .slice a4 (adV a0_0 (List.take len0_1 z0_1) a1_0 (List.take len1_1 z1_1) a2).length c4] 50)
    replace ko2_1 := cell_al ko2_1 (.cells #[.int .i64 (adP a0_0 (List.take len0_1 z0_1) a1_0 (List.take len1_1 z1_1) a2), .slice a4 (adV a0_0 (List.take len0_1 z0_1) a1_0 (List.take len1_1 z1_1) a2).length c4] 50)
    replace ko3_0 := cell_al ko3_0 (.cells #[.int .i64 (adP a0_0 (List.take len0_1 z0_1) a1_0 (List.take len1_1 z1_1) a2), .slice a4 (adV a0_0 (List.take len0_1 z0_1) a1_0 (List.take len1_1 z1_1) a2).length c4] 50)
    replace ko3_1 := cell_al ko3_1 (.cells #[.int .i64 (adP a0_0 (List.take len0_1 z0_1) a1_0 (List.take len1_1 z1_1) a2), .slice a4 (adV a0_0 (List.take len0_1 z0_1) a1_0 (List.take len1_1 z1_1) a2).length c4] 50)
    go_wp2_with fail
    refine (eqM _ _ _ _ _ _ _ _ (OZ.sl o4) (OZ.sl o1) (by omega)).mono ?_
    rintro e u7 ⟨rfl, t7⟩
    have B7 := bnext (bnext B6 pa6) t7
    replace f0_0 := cell_be t7 f0_0
    replace f0_1 := cell_be t7 f0_1
    replace f1_0 := cell_be t7 f1_0
    replace f1_1 := cell_be t7 f1_1
    replace ko1_0 := cell_be t7 ko1_0
    replace ko1_1 := cell_be t7 ko1_1
    replace ko2_0 := cell_be t7 ko2_0
    replace ko2_1 := cell_be t7 ko2_1
    replace ko3_0 := cell_be t7 ko3_0
    replace ko3_1 := cell_be t7 ko3_1
    have z7 : u6.heap.size + 1 ≤ u7.heap.size := by have := t7.size; simp at this; omega
    have ko4_0 : u7.cell? ⟨u6.heap.size, 0, none⟩ = some (.int .i64 (adP a0_0 (List.take len0_1 z0_1) a1_0 (List.take len1_1 z1_1) a2)) := cell_be t7 (by simp [go_sem])
    have ko4_1 : u7.cell? ⟨u6.heap.size, 1, none⟩ = some (.slice a4 (adV a0_0 (List.take len0_1 z0_1) a1_0 (List.take len1_1 z1_1) a2).length c4) := cell_be t7 (by simp [go_sem])
    replace o1 := o1.below t7
    replace o2 := o2.below t7
    replace o3 := o3.below t7
    replace o4 := o4.below t7
    clear t7
    have hbr8 := (Below.refl u7.heap.size u7).drew
    have F8 : ∀ w', Below u7.heap.size u7 w' → w'.cell? ⟨w.heap.size, 0, none⟩ = some (.int .i64 a0_0) ∧ w'.cell? ⟨w.heap.size, 1, none⟩ = some (.slice a0_1 len0_1 cap0_1) ∧ w'.cell? ⟨u4.heap.size, 0, none⟩ = some (.int .i64 a0_0) ∧ w'.cell? ⟨u4.heap.size, 1, none⟩ = some (.slice x2 len0_1 len0_1) := fun w' hb => ⟨cell_be hb f0_0, cell_be hb f0_1, cell_be hb ko2_0, cell_be hb ko2_1⟩
    go_wp2_with fail
    go_region_held3 (fun w' => w'.cell? ⟨w.heap.size, 0, none⟩ = some (.int .i64 a0_0) ∧ w'.cell? ⟨w.heap.size, 1, none⟩ = some (.slice a0_1 len0_1 cap0_1) ∧ w'.cell? ⟨u4.heap.size, 0, none⟩ = some (.int .i64 a0_0) ∧ w'.cell? ⟨u4.heap.size, 1, none⟩ = some (.slice x2 len0_1 len0_1))
      (exact F8 _ (by assumption))
      (first
      | (go_at_call 46; refine (toM _ _ _ _ _ _ ((s0.below B7).below hbr8) (by omega)).mono ?_; rintro e wn8 ⟨xn8, rfl, on8, hn8⟩; have hm8 := bnext hbr8 hn8)
      | (go_at_call 48; refine (eqM _ _ _ _ _ _ _ _ ((OZ.sl o2).below hm8) (OZ.of on8 s0.len.symm).sl (by omega)).mono ?_; rintro e u8 ⟨rfl, hr8⟩; have t8 := bnext hm8 hr8))
    clear F8 on8 hn8 hm8 hr8 hbr8
    have B8 := bnext B7 t8
    have z8 := t8.size
    replace f0_0 := cell_be t8 f0_0
    replace f0_1 := cell_be t8 f0_1
    replace f1_0 := cell_be t8 f1_0
    replace f1_1 := cell_be t8 f1_1
    replace ko1_0 := cell_be t8 ko1_0
    replace ko1_1 := cell_be t8 ko1_1
    replace ko2_0 := cell_be t8 ko2_0
    replace ko2_1 := cell_be t8 ko2_1
    replace ko3_0 := cell_be t8 ko3_0
    replace ko3_1 := cell_be t8 ko3_1
    replace ko4_0 := cell_be t8 ko4_0
    replace ko4_1 := cell_be t8 ko4_1
    replace o1 := o1.below t8
    replace o2 := o2.below t8
    replace o3 := o3.below t8
    replace o4 := o4.below t8
    clear t8
    have hbr9 := (Below.refl u8.heap.size u8).drew
    have F9 : ∀ w', Below u8.heap.size u8 w' → w'.cell? ⟨w.heap.size + 1, 0, none⟩ = some (.int .i64 a1_0) ∧ w'.cell? ⟨w.heap.size + 1, 1, none⟩ = some (.slice a1_1 len1_1 cap1_1) ∧ w'.cell? ⟨u5.heap.size, 0, none⟩ = some (.int .i64 a1_0) ∧ w'.cell? ⟨u5.heap.size, 1, none⟩ = some (.slice x3 len1_1 len1_1) := fun w' hb => ⟨cell_be hb f1_0, cell_be hb f1_1, cell_be hb ko3_0, cell_be hb ko3_1⟩
    go_wp2_with fail
    go_region_held3 (fun w' => w'.cell? ⟨w.heap.size + 1, 0, none⟩ = some (.int .i64 a1_0) ∧ w'.cell? ⟨w.heap.size + 1, 1, none⟩ = some (.slice a1_1 len1_1 cap1_1) ∧ w'.cell? ⟨u5.heap.size, 0, none⟩ = some (.int .i64 a1_0) ∧ w'.cell? ⟨u5.heap.size, 1, none⟩ = some (.slice x3 len1_1 len1_1))
      (exact F9 _ (by assumption))
      (first
      | (go_at_call 46; refine (toM _ _ _ _ _ _ ((s1.below B8).below hbr9) (by omega)).mono ?_; rintro e wn9 ⟨xn9, rfl, on9, hn9⟩; have hm9 := bnext hbr9 hn9)
      | (go_at_call 48; refine (eqM _ _ _ _ _ _ _ _ ((OZ.sl o3).below hm9) (OZ.of on9 s1.len.symm).sl (by omega)).mono ?_; rintro e u9 ⟨rfl, hr9⟩; have t9 := bnext hm9 hr9))
    clear F9 on9 hn9 hm9 hr9 hbr9
    have B9 := bnext B8 t9
    have z9 := t9.size
    replace f0_0 := cell_be t9 f0_0
    replace f0_1 := cell_be t9 f0_1
    replace f1_0 := cell_be t9 f1_0
    replace f1_1 := cell_be t9 f1_1
    replace ko1_0 := cell_be t9 ko1_0
    replace ko1_1 := cell_be t9 ko1_1
    replace ko2_0 := cell_be t9 ko2_0
    replace ko2_1 := cell_be t9 ko2_1
    replace ko3_0 := cell_be t9 ko3_0
    replace ko3_1 := cell_be t9 ko3_1
    replace ko4_0 := cell_be t9 ko4_0
    replace ko4_1 := cell_be t9 ko4_1
    replace o1 := o1.below t9
    replace o2 := o2.below t9
    replace o3 := o3.below t9
    replace o4 := o4.below t9
    clear t9
    go_wp2_with fail
    refine (markMT _ _ _ _ _ _ _ _ _ o2 (by omega) (by omega) (by omega)).mono ?_
    rintro e u10 ⟨rfl, no2, gt⟩
    clear o2
    have o2 := no2
    clear no2
    have B10 := below_touch B9 gt (by omega) (by omega)
    have z10 := gt.size
    replace o1 := o1.touch gt (by omega)
    replace o3 := o3.touch gt (by omega)
    replace o4 := o4.touch gt (by omega)
    replace f0_0 := gt.cell f0_0 (by omega)
    replace f0_1 := gt.cell f0_1 (by omega)
    replace f1_0 := gt.cell f1_0 (by omega)
    replace f1_1 := gt.cell f1_1 (by omega)
    replace ko1_0 := gt.cell ko1_0 (by omega)
    replace ko1_1 := gt.cell ko1_1 (by omega)
    replace ko2_0 := gt.cell ko2_0 (by omega)
    replace ko2_1 := gt.cell ko2_1 (by omega)
    replace ko3_0 := gt.cell ko3_0 (by omega)
    replace ko3_1 := gt.cell ko3_1 (by omega)
    replace ko4_0 := gt.cell ko4_0 (by omega)
    replace ko4_1 := gt.cell ko4_1 (by omega)
    clear gt
    clear o2
    clear ko2_0
    clear ko2_1
    go_wp2_with fail
    refine (markMT _ _ _ _ _ _ _ _ _ o3 (by omega) (by omega) (by omega)).mono ?_
    rintro e u11 ⟨rfl, no3, gt⟩
    clear o3
    have o3 := no3
    clear no3
    have B11 := below_touch B10 gt (by omega) (by omega)
    have z11 := gt.size
    replace o1 := o1.touch gt (by omega)
    replace o4 := o4.touch gt (by omega)
    replace f0_0 := gt.cell f0_0 (by omega)
    replace f0_1 := gt.cell f0_1 (by omega)
    replace f1_0 := gt.cell f1_0 (by omega)
    replace f1_1 := gt.cell f1_1 (by omega)
    replace ko1_0 := gt.cell ko1_0 (by omega)
    replace ko1_1 := gt.cell ko1_1 (by omega)
    replace ko3_0 := gt.cell ko3_0 (by omega)
    replace ko3_1 := gt.cell ko3_1 (by omega)
    replace ko4_0 := gt.cell ko4_0 (by omega)
    replace ko4_1 := gt.cell ko4_1 (by omega)
    clear gt
    clear o3
    clear ko3_0
    clear ko3_1
    go_wp2_with fail
    refine (eqM _ _ _ _ _ _ _ _ (OZ.sl o4) (OZ.sl o1) (by omega)).mono ?_
    rintro e u12 ⟨rfl, t12⟩
    have B12 := bnext B11 t12
    replace f0_0 := cell_be t12 f0_0
    replace f0_1 := cell_be t12 f0_1
    replace f1_0 := cell_be t12 f1_0
    replace f1_1 := cell_be t12 f1_1
    replace ko1_0 := cell_be t12 ko1_0
    replace ko1_1 := cell_be t12 ko1_1
    replace ko4_0 := cell_be t12 ko4_0
    replace ko4_1 := cell_be t12 ko4_1
    have z12 := t12.size
    replace o1 := o1.below t12
    replace o4 := o4.below t12
    clear t12
    go_wp2_with fail
    refine (markMT _ _ _ _ _ _ _ _ _ o4 (by omega) (by omega) (by omega)).mono ?_
    rintro e u13 ⟨rfl, no4, gt⟩
    clear o4
    have o4 := no4
    clear no4
    have B13 := below_touch B12 gt (by omega) (by omega)
    have z13 := gt.size
    replace o1 := o1.touch gt (by omega)
    replace f0_0 := gt.cell f0_0 (by omega)
    replace f0_1 := gt.cell f0_1 (by omega)
    replace f1_0 := gt.cell f1_0 (by omega)
    replace f1_1 := gt.cell f1_1 (by omega)
    replace ko1_0 := gt.cell ko1_0 (by omega)
    replace ko1_1 := gt.cell ko1_1 (by omega)
    replace ko4_0 := gt.cell ko4_0 (by omega)
    replace ko4_1 := gt.cell ko4_1 (by omega)
    clear gt
    go_wp2_with fail
    refine (heldM _ _ _ _ _ _ (OZ.sl o4) (by omega) (by omega) (by omega)).mono ?_
    rintro e u14 ⟨rfl, t14⟩
    have B14 := bnext B13 t14
    replace f0_0 := cell_be t14 f0_0
    replace f0_1 := cell_be t14 f0_1
    replace f1_0 := cell_be t14 f1_0
    replace f1_1 := cell_be t14 f1_1
    replace ko1_0 := cell_be t14 ko1_0
    replace ko1_1 := cell_be t14 ko1_1
    replace ko4_0 := cell_be t14 ko4_0
    replace ko4_1 := cell_be t14 ko4_1
    have z14 := t14.size
    replace o1 := o1.below t14
    replace o4 := o4.below t14
    clear t14
    have FK : ∀ w', Below u14.heap.size u14 w' → Below u14.heap.size u14 w' ∧ w'.cell? ⟨w.heap.size, 0, none⟩ = some (.int .i64 a0_0) ∧ w'.cell? ⟨w.heap.size, 1, none⟩ = some (.slice a0_1 len0_1 cap0_1) ∧ w'.cell? ⟨w.heap.size + 1, 0, none⟩ = some (.int .i64 a1_0) ∧ w'.cell? ⟨w.heap.size + 1, 1, none⟩ = some (.slice a1_1 len1_1 cap1_1) := fun w' hb => ⟨hb, cell_be hb f0_0, cell_be hb f0_1, cell_be hb f1_0, cell_be hb f1_1⟩
    have GK : ∀ w', Below u14.heap.size u14 w' ∧ w'.cell? ⟨w.heap.size, 0, none⟩ = some (.int .i64 a0_0) ∧ w'.cell? ⟨w.heap.size, 1, none⟩ = some (.slice a0_1 len0_1 cap0_1) ∧ w'.cell? ⟨w.heap.size + 1, 0, none⟩ = some (.int .i64 a1_0) ∧ w'.cell? ⟨w.heap.size + 1, 1, none⟩ = some (.slice a1_1 len1_1 cap1_1) → Below u14.heap.size u14 w' := fun w' h => h.1
    go_wp2_with fail
    go_cut [17, 18] (fun sa sb wx => ∃ (q : Nat) (a' : Option Addr) (c' : Nat), sa = .pointer (some ⟨q, 0, none⟩) ∧ sb = .int .i64 (adC a0_0 (List.take len0_1 z0_1) a1_0 (List.take len1_1 z1_1) a2) ∧ Hid (wx.cell? ⟨q, 0, none⟩ = some (.int .i64 (adP a0_0 (List.take len0_1 z0_1) a1_0 (List.take len1_1 z1_1) a2))) ∧ Hid (wx.cell? ⟨q, 1, none⟩ = some (.slice a' (adV a0_0 (List.take len0_1 z0_1) a1_0 (List.take len1_1 z1_1) a2).length c')) ∧ q < wx.heap.size ∧ Hid (OZ u14.heap.size wx.heap.size wx a' (adV a0_0 (List.take len0_1 z0_1) a1_0 (List.take len1_1 z1_1) a2).length c' (adV a0_0 (List.take len0_1 z0_1) a1_0 (List.take len1_1 z1_1) a2)) ∧ (adV a0_0 (List.take len0_1 z0_1) a1_0 (List.take len1_1 z1_1) a2).length ≤ 100000 ∧ Hid (Below u14.heap.size u14 wx))
    case first =>
      go_region_held3 (fun w' => Below u14.heap.size u14 w' ∧ w'.cell? ⟨w.heap.size, 0, none⟩ = some (.int .i64 a0_0) ∧ w'.cell? ⟨w.heap.size, 1, none⟩ = some (.slice a0_1 len0_1 cap0_1) ∧ w'.cell? ⟨w.heap.size + 1, 0, none⟩ = some (.int .i64 a1_0) ∧ w'.cell? ⟨w.heap.size + 1, 1, none⟩ = some (.slice a1_1 len1_1 cap1_1))
        (first | exact FK _ (by assumption) | exact FK _ (((Below.refl _ _).alloc (Nat.le_refl _) _).drew) | exact FK _ ((Below.refl _ _).drew) | exact FK _ (Below.alloc (by assumption) (Below.size (by assumption)) _) | exact FK _ (Below.setCell (Below.setCell (by assumption) (by simp <;> omega) _) (by simp <;> omega) _) | exact FK _ (Below.setCell (Below.setCell (Below.alloc (by assumption) (Below.size (by assumption)) _) (by simp <;> omega) _) (by simp <;> omega) _))
        (first
        | (go_at_call 46; go_fit (toM _ _ _ _ _ _ (s0.below (bnext B14 (GK _ (by assumption)))) (by omega)); rintro e v0 ⟨x0, rfl, oo0, tt0⟩; have hm0 := bnext (GK _ (by assumption)) tt0; have zz0 := Below.size hm0; have ts0 := Below.size tt0; (try simp at ts0); have q0 : SL v0 _ _ _ (List.take len0_1 z0_1) := (OZ.of oo0 s0.len.symm).sl; first | (with_reducible have alx := alc tt0; have al0 := alx.1; have al1 := alx.2.1; have af0 := alx.2.2.1; have af1 := alx.2.2.2; clear alx) | (with_reducible have alx := alcD tt0; have al0 := alx.1; have al1 := alx.2.1; have af0 := alx.2.2.1; have af1 := alx.2.2.2; clear alx) | (have af0 := (Below.frozen tt0 (World.block_lt_of_cell? _ _ al0)).trans af0; have af1 := (Below.frozen tt0 (World.block_lt_of_cell? _ _ al1)).trans af1; have al0 := cell_be tt0 al0; have al1 := cell_be tt0 al1) | skip)
        | (go_at_call 46; go_fit (toM _ _ _ _ _ _ (s1.below (bnext B14 (GK _ (by assumption)))) (by omega)); rintro e v1 ⟨x1, rfl, oo1, tt1⟩; have hm1 := bnext (GK _ (by assumption)) tt1; have zz1 := Below.size hm1; have ts1 := Below.size tt1; (try simp at ts1); have q1 : SL v1 _ _ _ (List.take len1_1 z1_1) := (OZ.of oo1 s1.len.symm).sl; have q0 := SL.below q0 (by first | exact tt1 | exact bthen (bl1 _ _) tt1 (by simp)); first | (with_reducible have alx := alc tt1; have al0 := alx.1; have al1 := alx.2.1; have af0 := alx.2.2.1; have af1 := alx.2.2.2; clear alx) | (with_reducible have alx := alcD tt1; have al0 := alx.1; have al1 := alx.2.1; have af0 := alx.2.2.1; have af1 := alx.2.2.2; clear alx) | (have af0 := (Below.frozen tt1 (World.block_lt_of_cell? _ _ al0)).trans af0; have af1 := (Below.frozen tt1 (World.block_lt_of_cell? _ _ al1)).trans af1; have al0 := cell_be tt1 al0; have al1 := cell_be tt1 al1) | skip)
        | (go_at_call 47; go_fit (implAddMoments _ _ _ _ _ _ _ _ _ _ _ _ (by first | exact q0 | exact SL.below q0 (bl1 _ _)) (by first | exact q1 | exact SL.below q1 (bl1 _ _)) (by omega) (by omega)); rintro e v2 ⟨ra, rc, rfl, ro, rl, rt⟩; have hm2 := bnext (GK _ (by assumption)) rt; have zz2 := Below.size hm2; have rz := Below.size rt; (try simp at rz); first | (with_reducible have alx := alc rt; have al0 := alx.1; have al1 := alx.2.1; have af0 := alx.2.2.1; have af1 := alx.2.2.2; clear alx) | (with_reducible have alx := alcD rt; have al0 := alx.1; have al1 := alx.2.1; have af0 := alx.2.2.1; have af1 := alx.2.2.2; clear alx) | (have af0 := (Below.frozen rt (World.block_lt_of_cell? _ _ al0)).trans af0; have af1 := (Below.frozen rt (World.block_lt_of_cell? _ _ al1)).trans af1; have al0 := cell_be rt al0; have al1 := cell_be rt al1) | skip))
      all_goals go_wp2_with fail
      all_goals go_meet
      all_goals first
        | exact ⟨_, ra, rc, rfl, rfl, hide (cell_set2' (World.cell?_setCell_same _ _ _ al0) (by simp) _), hide (World.cell?_setCell_same _ _ _ (cell_set2' al1 (by simp) _)), (by first | omega | (simp; done) | (simp; omega)), hide (((ro.setLow (by first | omega | (simp; done) | (simp; omega)) _).setLow (by first | omega | (simp; done) | (simp; omega)) _).mono (by first | omega | (simp; done) | (simp; omega)) (by first | omega | (simp; done) | (simp; omega))), rl, hide ((hm2.setCell (by first | omega | (simp; done) | (simp; omega)) _).setCell (by first | omega | (simp; done) | (simp; omega)) _)⟩
        | exact ⟨_, ra, rc, rfl, rfl, hide (by simp [go_sem]), hide (by simp [go_sem]), (by first | omega | (simp; done) | (simp; omega)), hide ((ro.below (bl1 _ _)).mono (by first | omega | (simp; done) | (simp; omega)) (by first | omega | (simp; done) | (simp; omega))), rl, hide (hm2.alloc (Below.size hm2) _)⟩
    case rest =>
      obtain ⟨q15, a5, c5, rfl, rfl, k0, k1, kq15, ho, l5, hB⟩ := hcut
      obtain ⟨u15, hu⟩ : ∃ u, u = wc := ⟨wc, rfl⟩
      subst hu
      clear FK GK
      have t15 := hB.out
      have o5 := ho.out
      have ko5_0 := k0.out
      have ko5_1 := k1.out
      clear hB ho k0 k1
      have B15 := bnext B14 t15
      have z15 := t15.size
      replace f0_0 := cell_be t15 f0_0
      replace f0_1 := cell_be t15 f0_1
      replace f1_0 := cell_be t15 f1_0
      replace f1_1 := cell_be t15 f1_1
      replace ko1_0 := cell_be t15 ko1_0
      replace ko1_1 := cell_be t15 ko1_1
      replace ko4_0 := cell_be t15 ko4_0
      replace ko4_1 := cell_be t15 ko4_1
      replace o1 := o1.below t15
      replace o4 := o4.below t15
      clear t15
      go_wp2_with fail
      refine (eqM _ _ _ _ _ _ _ _ (OZ.sl o5) (OZ.sl o1) (by omega)).mono ?_
      rintro e u16 ⟨rfl, t16⟩
      have B16 := bnext B15 t16
      replace f0_0 := cell_be t16 f0_0
      replace f0_1 := cell_be t16 f0_1
      replace f1_0 := cell_be t16 f1_0
      replace f1_1 := cell_be t16 f1_1
      replace ko1_0 := cell_be t16 ko1_0
      replace ko1_1 := cell_be t16 ko1_1
      replace ko4_0 := cell_be t16 ko4_0
      replace ko4_1 := cell_be t16 ko4_1
      replace ko5_0 := cell_be t16 ko5_0
      replace ko5_1 := cell_be t16 ko5_1
      have z16 := t16.size
      replace o1 := o1.below t16
      replace o4 := o4.below t16
      replace o5 := o5.below t16
      clear t16
      clear o5
      clear ko5_0
      clear ko5_1
      go_wp2_with fail
      refine (heldM _ _ _ _ _ _ (OZ.sl o4) (by omega) (by omega) (by omega)).mono ?_
      rintro e u17 ⟨rfl, t17⟩
      have B17 := bnext B16 t17
      replace f0_0 := cell_be t17 f0_0
      replace f0_1 := cell_be t17 f0_1
      replace f1_0 := cell_be t17 f1_0
      replace f1_1 := cell_be t17 f1_1
      replace ko1_0 := cell_be t17 ko1_0
      replace ko1_1 := cell_be t17 ko1_1
      replace ko4_0 := cell_be t17 ko4_0
      replace ko4_1 := cell_be t17 ko4_1
      have z17 := t17.size
      replace o1 := o1.below t17
      replace o4 := o4.below t17
      clear t17
      go_wp2
      go_ret
      exact ⟨rfl, B17⟩

set_option maxRecDepth 100000 in
theorem lifted (os : Os) (started : os.Started) (H : Type) (enc : TypeId × Value → H) :
    ReturnsInHanded {} Try.checked os 13 .any (Rows.fnExactAddMomentsSpec.pre6 enc Try.prog Try.f13 Rows.fnExactAddMomentsRow.domain false) (Rows.fnExactAddMomentsSpec.post enc Try.prog Try.f13 false true false false) := by
  refine returnsInHanded_of_change (C := Try.checked) own started (by kernel_rfl) Try.func13
    (ChangeSpec.witness6 (enc := enc) (C := Try.checked) false ⟨#[], #[.agg #[.int .i64 0, .slice none 0 0], .agg #[.int .i64 0, .slice none 0 0], .int .i64 0], []⟩ 8 (by kernel_rfl) (by kernel_rfl) (by kernel_rfl) (by kernel_rfl)) ?_
  intro W base args ds gs before hval0 hW hcnd _
  have hval : ∀ (j : Nat) t v, Try.f13.params[j]? = some t → args[j]? = some v → Value.okWide Try.prog W .any base t v := hval0
  have hW' := hW
  obtain ⟨p, q, hA0, hV, rfl, hfz, hnd⟩ := hW
  have hA : DataW.TrodAll enc Try.prog W 0 (fun _ => true) true Try.f13.params.toList args.toList ds p := hA0
  rw [Try.params13] at hA hval
  obtain ⟨v0, vs0, d0, ds0, p0, q0, hargs, rfl, rfl, h0, r0⟩ := trodAll_cons hA
  obtain ⟨v1, vs1, d1, ds1, p1, q1, rfl, rfl, rfl, h1, r1⟩ := trodAll_cons r0
  obtain ⟨v2, vs2, d2, ds2, p2, q2, rfl, rfl, rfl, h2, r2⟩ := trodAll_cons r1
  obtain ⟨rfl, rfl, rfl⟩ := trodAll_nil r2
  obtain rfl : args = #[v0, v1, v2] := by cases args; simp_all
  obtain ⟨rfl, rfl⟩ := trodVars_none hV
  have k0 := h0
  have lt0 : ∀ x ∈ p0, x.block < W.heap.size := by obtain ⟨m, hm⟩ := k0; exact DataW.trod_lt m _ _ _ hm
  obtain ⟨c0_0, c0_1, y0_0, y0_1, m0, rfl, rfl, rfl, h0_0, h0_1⟩ := Joins.open_agg2 Try.underlying48 (by kernel_rfl) (by kernel_rfl) (hval 0 48 v0 rfl rfl) h0
  obtain ⟨a0_0, e0_0, g0_0, w0_0⟩ := DataW.trod_int Try.underlying2 h0_0
  simp at e0_0
  subst e0_0
  obtain ⟨a0_1, len0_1, cap0_1, e0_1⟩ := Joins.slice_form Try.underlying22 h0_1
  simp at e0_1
  subst e0_1
  obtain ⟨z0_1, w0_1⟩ : ∃ zs, IsRow .i64 W a0_1 len0_1 cap0_1 zs := by
    have hf := h0_1
    rcases open_ints Try.underlying22 Try.underlying2 (by kernel_rfl) hf with ⟨hcs, _⟩ | ⟨x, l, c, zs, hcs, _, hl, hm, hz, _, hcell, hwz⟩
    · simp [Value.cells] at hcs
      obtain ⟨rfl, rfl, rfl⟩ := hcs
      exact ⟨[], .inl ⟨rfl, rfl, rfl, rfl⟩⟩
    · simp [Value.cells] at hcs
      obtain ⟨rfl, rfl, rfl⟩ := hcs
      exact ⟨zs, .inr ⟨_, rfl, hl, hm, by simpa using hz, hcell, hwz⟩⟩
  have k1 := h1
  have lt1 : ∀ x ∈ p1, x.block < W.heap.size := by obtain ⟨m, hm⟩ := k1; exact DataW.trod_lt m _ _ _ hm
  obtain ⟨c1_0, c1_1, y1_0, y1_1, m1, rfl, rfl, rfl, h1_0, h1_1⟩ := Joins.open_agg2 Try.underlying48 (by kernel_rfl) (by kernel_rfl) (hval 1 48 v1 rfl rfl) h1
  obtain ⟨a1_0, e1_0, g1_0, w1_0⟩ := DataW.trod_int Try.underlying2 h1_0
  simp at e1_0
  subst e1_0
  obtain ⟨a1_1, len1_1, cap1_1, e1_1⟩ := Joins.slice_form Try.underlying22 h1_1
  simp at e1_1
  subst e1_1
  obtain ⟨z1_1, w1_1⟩ : ∃ zs, IsRow .i64 W a1_1 len1_1 cap1_1 zs := by
    have hf := h1_1
    rcases open_ints Try.underlying22 Try.underlying2 (by kernel_rfl) hf with ⟨hcs, _⟩ | ⟨x, l, c, zs, hcs, _, hl, hm, hz, _, hcell, hwz⟩
    · simp [Value.cells] at hcs
      obtain ⟨rfl, rfl, rfl⟩ := hcs
      exact ⟨[], .inl ⟨rfl, rfl, rfl, rfl⟩⟩
    · simp [Value.cells] at hcs
      obtain ⟨rfl, rfl, rfl⟩ := hcs
      exact ⟨zs, .inr ⟨_, rfl, hl, hm, by simpa using hz, hcell, hwz⟩⟩
  obtain ⟨a2, rfl, rfl, rfl, w2⟩ := open_int Try.underlying2 (hval 2 2 v2 rfl rfl) h2
  clear hA0 hval0
  refine (walk a0_0 a0_1 len0_1 cap0_1 z0_1 a1_0 a1_1 len1_1 cap1_1 z1_1 a2 W w0_0 w0_1 w1_0 w1_1 w2).mono fun e W' ⟨he, bel⟩ => ?_
  subst he
  exact ⟨_, rfl, _, _, _, [], _, [], hW', trodAll_mk1 (shut_bool Try.underlying4 _), (trodAll_cons_mk (Below.trod laidOut (by kernel_rfl) (of_decide_eq_true (by kernel_rfl)) k0 bel lt0) (trodAll_cons_mk (Below.trod laidOut (by kernel_rfl) (of_decide_eq_true (by kernel_rfl)) k1 bel lt1) (trodAll_cons_mk (shut_int Try.underlying2 w2) trodAll_mk0))), rfl, bel.frame _, fun h => by cases h⟩

theorem over : Rows.fnExactAddMomentsRow.holds Try.pinned (OpenSpec.ofChange Rows.fnExactAddMomentsSpec) :=
  OpenClaim.holds_of_wide 13 Try.f13 rfl rfl rfl rfl rfl rfl rfl ⟨rfl, rfl, rfl, rfl, rfl⟩ rfl rfl rfl rfl rfl (by kernel_rfl) Try.func13 (by kernel_rfl)
    (of_decide_eq_true (by kernel_rfl)) (by unfold Func.isWrapper; first | (rw [if_pos (by decide +kernel)]; kernel_rfl) | (rw [if_neg (by decide +kernel)]; exact ⟨rfl, rfl⟩))
    (fun os started H enc _ => lifted os started H enc)

theorem proved : Rows.FnExactAddMomentsSaid := over
#print axioms proved
end Go.Proofs.Ytjilggjldnlkpaa.fnExactAddMoments

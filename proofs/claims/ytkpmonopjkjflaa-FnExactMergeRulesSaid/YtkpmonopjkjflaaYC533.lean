/- Merged texts. -/
import Derived.Test.YtkpmonopjkjflaaYC532
import Derived.Test.YtkpmonopjkjflaaRows
import Derived.WalkKit
import Derived.ProofKit
import Derived.OpenShut
import Derived.ShutString
import Derived.ChangeOld
import Derived.Lib.SmallJoins
import Derived.Below
/- What the law of MergeRules wants besides the contracts. -/
namespace Go.Proofs.Ytkpmonopjkjflaa
open Go.RowKit
theorem touch_cell (w : World) (q o : Nat) (v : Value) : Touch q (q + 1) w (w.setCell ⟨q, o, none⟩ v) :=
  ⟨rfl, rfl, rfl, by simp [World.setCell], fun k hk hd => Below.heap_setCell _ _ _ _ (fun e => by have e2 : k = q := e; omega)⟩
end Go.Proofs.Ytkpmonopjkjflaa
/- The walk of the law FnExactMergeRules, in a text of its own (the memory of one text adds up). -/
namespace Go.Proofs.Ytkpmonopjkjflaa.fnExactMergeRules
open Go.ChangeShapes Go.WideShapes Go.ChangeAt Go.RowKit
open Go.ChangeMaps (open_string shut_string)
set_option linter.unusedVariables false
set_option linter.unusedSimpArgs false

theorem own : ownKnob Try.prog.godebug = none := by kernel_rfl
theorem laidOut : laidOutB Try.prog = true := by kernel_rfl

/-- What the walk is told of a slice of integers that came in. -/
def IsRow (k : IntKind) (w : World) (a : Option Addr) (len cap : Nat) (zs : List Int) : Prop :=
  (a = none ∧ len = 0 ∧ cap = 0 ∧ zs = []) ∨
  ∃ x, a = some x ∧ len ≤ cap ∧ cap ≤ maxLen ∧ zs.length = cap ∧ (∀ i, i < zs.length → w.cell? (x.add i) = some (.int k (zs.getD i 0))) ∧ ∀ n ∈ zs, (Lit.int k n).wf = true

set_option maxRecDepth 100000 in
set_option maxHeartbeats 3000000 in
theorem walk (a0_0 : Int) (a0_1 : Option Addr) (len0_1 cap0_1 : Nat) (z0_1 : List Int) (a0_2 : Option Addr) (len0_2 cap0_2 : Nat) (z0_2 : List Int) (a1_0 : Int) (a1_1 : Option Addr) (len1_1 cap1_1 : Nat) (z1_1 : List Int) (a1_2 : Option Addr) (len1_2 cap1_2 : Nat) (z1_2 : List Int) (a2 : Int) (w : World) (w0_0 : (Lit.int .i64 a0_0).wf = true) (w0_1 : IsRow .i64 w a0_1 len0_1 cap0_1 z0_1) (w0_2 : IsRow .i64 w a0_2 len0_2 cap0_2 z0_2) (w1_0 : (Lit.int .i64 a1_0).wf = true) (w1_1 : IsRow .i64 w a1_1 len1_1 cap1_1 z1_1) (w1_2 : IsRow .i64 w a1_2 len1_2 cap1_2 z1_2) (w2 : (Lit.int .i64 a2).wf = true) :
    Calls Try.prog 11 #[.agg #[.int .i64 a0_0, .slice a0_1 len0_1 cap0_1, .slice a0_2 len0_2 cap0_2], .agg #[.int .i64 a1_0, .slice a1_1 len1_1 cap1_1, .slice a1_2 len1_2 cap1_2], .int .i64 a2] w fun e w' => e = .returned (.bool true) ∧ Below w.heap.size w w' := by
  have s0_1 := sl_of_row w0_1
  have rs0_1 := row_len w0_1
  have s0_2 := sl_of_row w0_2
  have rs0_2 := row_len w0_2
  have s1_1 := sl_of_row w1_1
  have rs1_1 := row_len w1_1
  have s1_2 := sl_of_row w1_2
  have rs1_2 := row_len w1_2
  clear w0_0 w0_1 w0_2 w1_0 w1_1 w1_2
  have b0 := bl2 w (.cells #[.int .i64 a0_0, .slice a0_1 len0_1 cap0_1, .slice a0_2 len0_2 cap0_2] 49) (.cells #[.int .i64 a1_0, .slice a1_1 len1_1 cap1_1, .slice a1_2 len1_2 cap1_2] 49)
  by_cases L0 : (1048576 : Int) < (len0_1 : Int) + (len0_2 : Int)
  · go_enter Try.func11, Try.ntmps11
    go_wp2_with fail
    refine (szU_no _ _ _ _ _ _ _ _ _ rs0_1 rs0_2 (by omega) (by omega) (by omega)).mono ?_
    rintro e v ⟨rfl, y⟩
    go_wp2
    go_ret
    exact ⟨rfl, bnext b0 y⟩
  by_cases L1 : (1048576 : Int) - (len0_1 : Int) - (len0_2 : Int) < (len1_1 : Int) + (len1_2 : Int)
  · go_enter Try.func11, Try.ntmps11
    go_wp2_with fail
    refine (szU _ _ _ _ _ _ _ _ _ (by omega) (by omega) (by omega) (by omega) (by omega)).mono ?_
    rintro e v0 ⟨rfl, y0⟩
    have e1_0 : v0.cell? ⟨w.heap.size + 1, 0, none⟩ = some (.int .i64 a1_0) := cell_be y0 (by simp [go_sem])
    have e1_1 : v0.cell? ⟨w.heap.size + 1, 1, none⟩ = some (.slice a1_1 len1_1 cap1_1) := cell_be y0 (by simp [go_sem])
    have e1_2 : v0.cell? ⟨w.heap.size + 1, 2, none⟩ = some (.slice a1_2 len1_2 cap1_2) := cell_be y0 (by simp [go_sem])
    go_wp2_with fail
    refine (szU_no _ _ _ _ _ _ _ _ _ rs1_1 rs1_2 (by omega) (by omega) (by omega)).mono ?_
    rintro e v ⟨rfl, y⟩
    go_wp2
    go_ret
    exact ⟨rfl, bnext (bnext b0 y0) y⟩
  go_enter Try.func11, Try.ntmps11
  go_wp2_with fail
  refine (szU _ _ _ _ _ _ _ _ _ (by omega) (by omega) (by omega) (by omega) (by omega)).mono ?_
  rintro e u1 ⟨rfl, t1⟩
  have B1 := bnext b0 t1
  have sz1 : w.heap.size + 2 ≤ u1.heap.size := by have := t1.size; (try simp at this); omega
  have f0_0 : u1.cell? ⟨w.heap.size, 0, none⟩ = some (.int .i64 a0_0) := cell_be t1 (by simp [go_sem])
  have f0_1 : u1.cell? ⟨w.heap.size, 1, none⟩ = some (.slice a0_1 len0_1 cap0_1) := cell_be t1 (by simp [go_sem])
  have f0_2 : u1.cell? ⟨w.heap.size, 2, none⟩ = some (.slice a0_2 len0_2 cap0_2) := cell_be t1 (by simp [go_sem])
  have f1_0 : u1.cell? ⟨w.heap.size + 1, 0, none⟩ = some (.int .i64 a1_0) := cell_be t1 (by simp [go_sem])
  have f1_1 : u1.cell? ⟨w.heap.size + 1, 1, none⟩ = some (.slice a1_1 len1_1 cap1_1) := cell_be t1 (by simp [go_sem])
  have f1_2 : u1.cell? ⟨w.heap.size + 1, 2, none⟩ = some (.slice a1_2 len1_2 cap1_2) := cell_be t1 (by simp [go_sem])
  clear t1
  go_wp2_with fail
  refine (szU _ _ _ _ _ _ _ _ _ (by omega) (by omega) (by omega) (by omega) (by omega)).mono ?_
  rintro e u2 ⟨rfl, t2⟩
  have B2 := bnext B1 t2
  replace f0_0 := cell_be t2 f0_0
  replace f0_1 := cell_be t2 f0_1
  replace f0_2 := cell_be t2 f0_2
  replace f1_0 := cell_be t2 f1_0
  replace f1_1 := cell_be t2 f1_1
  replace f1_2 := cell_be t2 f1_2
  have sz2 := t2.size
  clear t2
  have FK : ∀ w', Below u2.heap.size u2 w' → w'.cell? ⟨w.heap.size, 0, none⟩ = some (.int .i64 a0_0) ∧ w'.cell? ⟨w.heap.size, 1, none⟩ = some (.slice a0_1 len0_1 cap0_1) ∧ w'.cell? ⟨w.heap.size, 2, none⟩ = some (.slice a0_2 len0_2 cap0_2) ∧ w'.cell? ⟨w.heap.size + 1, 0, none⟩ = some (.int .i64 a1_0) ∧ w'.cell? ⟨w.heap.size + 1, 1, none⟩ = some (.slice a1_1 len1_1 cap1_1) ∧ w'.cell? ⟨w.heap.size + 1, 2, none⟩ = some (.slice a1_2 len1_2 cap1_2) := fun w' hb => ⟨cell_be hb f0_0, cell_be hb f0_1, cell_be hb f0_2, cell_be hb f1_0, cell_be hb f1_1, cell_be hb f1_2⟩
  go_wp2_with fail
  go_cut [8, 9] (fun sa sb wx => ∃ (q : Nat) (a' : Option Addr) (c' : Nat) (b' : Option Addr) (d' : Nat), sa = .pointer (some ⟨q, 0, none⟩) ∧ sb = .int .i64 (mrgC a0_0 (List.take len0_1 z0_1) (List.take len0_2 z0_2) a1_0 (List.take len1_1 z1_1) (List.take len1_2 z1_2) a2) ∧ Hid (wx.cell? ⟨q, 0, none⟩ = some (.int .i64 (mrgP a0_0 (List.take len0_1 z0_1) (List.take len0_2 z0_2) a1_0 (List.take len1_1 z1_1) (List.take len1_2 z1_2) a2))) ∧ Hid (wx.cell? ⟨q, 1, none⟩ = some (.slice a' (mrgV a0_0 (List.take len0_1 z0_1) (List.take len0_2 z0_2) a1_0 (List.take len1_1 z1_1) (List.take len1_2 z1_2) a2).length c')) ∧ Hid (wx.cell? ⟨q, 2, none⟩ = some (.slice b' (mrgU a0_0 (List.take len0_1 z0_1) (List.take len0_2 z0_2) a1_0 (List.take len1_1 z1_1) (List.take len1_2 z1_2) a2).length d')) ∧ q < wx.heap.size ∧ Hid (JZ u2.heap.size wx.heap.size wx a' (mrgV a0_0 (List.take len0_1 z0_1) (List.take len0_2 z0_2) a1_0 (List.take len1_1 z1_1) (List.take len1_2 z1_2) a2).length c' (mrgV a0_0 (List.take len0_1 z0_1) (List.take len0_2 z0_2) a1_0 (List.take len1_1 z1_1) (List.take len1_2 z1_2) a2) b' (mrgU a0_0 (List.take len0_1 z0_1) (List.take len0_2 z0_2) a1_0 (List.take len1_1 z1_1) (List.take len1_2 z1_2) a2).length d' (mrgU a0_0 (List.take len0_1 z0_1) (List.take len0_2 z0_2) a1_0 (List.take len1_1 z1_1) (List.take len1_2 z1_2) a2)) ∧ (mrgV a0_0 (List.take len0_1 z0_1) (List.take len0_2 z0_2) a1_0 (List.take len1_1 z1_1) (List.take len1_2 z1_2) a2).length ≤ 100000 ∧ (mrgU a0_0 (List.take len0_1 z0_1) (List.take len0_2 z0_2) a1_0 (List.take len1_1 z1_1) (List.take len1_2 z1_2) a2).length ≤ 100000 ∧ Hid (Below u2.heap.size u2 wx))
  case first =>
    have hm := (Below.refl u2.heap.size u2).drew
    refine region_E (fun w' => w'.cell? ⟨w.heap.size, 0, none⟩ = some (.int .i64 a0_0) ∧ w'.cell? ⟨w.heap.size, 1, none⟩ = some (.slice a0_1 len0_1 cap0_1) ∧ w'.cell? ⟨w.heap.size, 2, none⟩ = some (.slice a0_2 len0_2 cap0_2) ∧ w'.cell? ⟨w.heap.size + 1, 0, none⟩ = some (.int .i64 a1_0) ∧ w'.cell? ⟨w.heap.size + 1, 1, none⟩ = some (.slice a1_1 len1_1 cap1_1) ∧ w'.cell? ⟨w.heap.size + 1, 2, none⟩ = some (.slice a1_2 len1_2 cap1_2)) 100 (by kernel_rfl) (FK _ hm) ?_
    intro hS
    refine anyE_takeH 0 rfl (by kernel_rfl) (fun _ _ _ h => h) hS (by rfl) (v := ?_) ?_ ?_
    rotate_left
    · intro w' hSw; (try dsimp only at hSw); go_simp; (try with_reducible rfl)
    try simp only [Act.put, List.setIfInBounds_toArray, List.set_cons_zero, List.set_cons_succ]
    refine anyE_takeH 2 rfl (by kernel_rfl) (fun _ _ _ h => h) hS (by rfl) (v := ?_) ?_ ?_
    rotate_left
    · intro w' hSw; (try dsimp only at hSw); go_simp; (try with_reducible rfl)
    try simp only [Act.put, List.setIfInBounds_toArray, List.set_cons_zero, List.set_cons_succ]
    refine anyE_takeH 4 rfl (by kernel_rfl) (fun _ _ _ h => h) hS (by rfl) (v := ?_) ?_ ?_
    rotate_left
    · intro w' hSw; (try dsimp only at hSw); go_simp; (try with_reducible rfl)
    try simp only [Act.put, List.setIfInBounds_toArray, List.set_cons_zero, List.set_cons_succ]
    clear hS
    obtain ⟨v0, hv0⟩ : ∃ v, v = u2.drew := ⟨_, rfl⟩
    have zz0 : u2.heap.size ≤ v0.heap.size := by rw [hv0]; simp
    rw [← hv0] at hm ⊢
    clear hv0
    refine anyE_2L 1 9 (by kernel_rfl) rfl rfl (fun K' hK' => ?_) (fun K' hK' => ?_)
    · go_simp
      refine (toU _ _ _ _ _ _ _ _ _ _ ((s0_1.below B2).below hm) ((s0_2.below B2).below hm) (by omega) (by omega)).mono ?_
      rintro e v1 ⟨xx0, yy0, rfl, oo0, lx⟩
      dsimp only
      have zz1 := lx.size
      have hm := bnext hm lx
      clear lx
      refine hK'.out _ _ (FK _ hm) ?_
      clear hK' K'
      try simp only [Act.put, List.setIfInBounds_toArray, List.set_cons_zero, List.set_cons_succ]
      refine anyE_2L 3 9 (by kernel_rfl) rfl rfl (fun K' hK' => ?_) (fun K' hK' => ?_)
      · go_simp
        refine (toU _ _ _ _ _ _ _ _ _ _ ((s1_1.below B2).below hm) ((s1_2.below B2).below hm) (by omega) (by omega)).mono ?_
        rintro e v2 ⟨xx1, yy1, rfl, oo1, lx⟩
        dsimp only
        have zz2 := lx.size
        replace oo0 := oo0.below lx
        have hm := bnext hm lx
        clear lx
        refine hK'.out _ _ (FK _ hm) ?_
        clear hK' K'
        try simp only [Act.put, List.setIfInBounds_toArray, List.set_cons_zero, List.set_cons_succ]
        refine anyE_2L 5 9 (by kernel_rfl) rfl rfl (fun K' hK' => ?_) (fun K' hK' => ?_)
        · go_simp
          refine (specMergeRules _ _ _ _ _ _ _ _ _ _ _ _ _ _ _ _ _ _ _ _ (JZ.sl1 oo0) (JZ.sl2 oo0) (JZ.sl1 oo1) (JZ.sl2 oo1) (by omega) (by omega) (by omega) (by omega)).mono ?_
          rintro e v3 ⟨ra1, rc1, rb1, rd1, rfl, ro, rl, lx⟩
          dsimp only
          have zz3 := lx.size
          clear oo0 oo1
          have hm := bnext hm lx
          clear lx
          refine hK'.out _ _ (FK _ hm) ?_
          clear hK' K'
          try simp only [Act.put, List.setIfInBounds_toArray, List.set_cons_zero, List.set_cons_succ]
          have hS := FK _ hm
          refine anyE_takeH 6 rfl (by kernel_rfl) (fun _ _ _ h => h) hS (by rfl) (v := ?_) ?_ ?_
          rotate_left
          · intro w' hSw; (try dsimp only at hSw); go_simp; (try with_reducible rfl)
          try simp only [Act.put, List.setIfInBounds_toArray, List.set_cons_zero, List.set_cons_succ]
          refine anyE_takeH 7 rfl (by kernel_rfl) (fun _ _ _ h => h) hS (by rfl) (v := ?_) ?_ ?_
          rotate_left
          · intro w' hSw; (try dsimp only at hSw); go_simp; (try with_reducible rfl)
          try simp only [Act.put, List.setIfInBounds_toArray, List.set_cons_zero, List.set_cons_succ]
          refine anyE_takeH 8 rfl (by kernel_rfl) (fun _ _ _ h => h) hS (by rfl) (v := ?_) ?_ ?_
          rotate_left
          · intro w' hSw; (try dsimp only at hSw); go_simp; (try with_reducible rfl)
          try simp only [Act.put, List.setIfInBounds_toArray, List.set_cons_zero, List.set_cons_succ]
          clear hS
          refine anyE_oneL 9 (by kernel_rfl) rfl (fun K' hK' => ?_)
          go_simp
          obtain ⟨v4, hu⟩ : ∃ v, v = v3.alloc (.cells #[.int .i64 0, .slice none 0 0, .slice none 0 0] 52) := ⟨_, rfl⟩
          have lx : Below v3.heap.size v3 v4 := by rw [hu]; exact bl1 _ _
          have zq : ZR v4 v3.heap.size := by rw [hu]; exact heap_alloc_new _ _
          have zz4 : v3.heap.size + 1 ≤ v4.heap.size := by rw [hu]; simp
          rw [← hu]
          clear hu
          replace ro := ro.below lx
          have hq2 : u2.heap.size ≤ v3.heap.size := hm.size
          have hm := bnext hm lx
          clear lx
          refine hK'.out _ _ (FK _ hm) ?_
          clear hK' K'
          try simp only [Act.put, List.setIfInBounds_toArray, List.set_cons_zero, List.set_cons_succ]
          refine anyE_oneL 10 (by kernel_rfl) rfl (fun K' hK' => ?_)
          have z0 := zq.c0
          have x0 := zq.fr 0
          have z1 := zq.c1
          have x1 := zq.fr 1
          have z2 := zq.c2
          have x2 := zq.fr 2
          have hql := zq.lt
          have rj := hide (((ro.touch (touch_cell v4 v3.heap.size 0 (.int .i64 (mrgP a0_0 (List.take len0_1 z0_1) (List.take len0_2 z0_2) a1_0 (List.take len1_1 z1_1) (List.take len1_2 z1_2) a2))) (by omega)).touch (touch_cell _ v3.heap.size 1 (.slice ra1 (mrgV a0_0 (List.take len0_1 z0_1) (List.take len0_2 z0_2) a1_0 (List.take len1_1 z1_1) (List.take len1_2 z1_2) a2).length rc1)) (by omega)).touch (touch_cell _ v3.heap.size 2 (.slice rb1 (mrgU a0_0 (List.take len0_1 z0_1) (List.take len0_2 z0_2) a1_0 (List.take len1_1 z1_1) (List.take len1_2 z1_2) a2).length rd1)) (by omega))
          have hm2 := hide (((hm.setCell (p := ⟨v3.heap.size, 0, none⟩) hq2 (.int .i64 (mrgP a0_0 (List.take len0_1 z0_1) (List.take len0_2 z0_2) a1_0 (List.take len1_1 z1_1) (List.take len1_2 z1_2) a2))).setCell (p := ⟨v3.heap.size, 1, none⟩) hq2 (.slice ra1 (mrgV a0_0 (List.take len0_1 z0_1) (List.take len0_2 z0_2) a1_0 (List.take len1_1 z1_1) (List.take len1_2 z1_2) a2).length rc1)).setCell (p := ⟨v3.heap.size, 2, none⟩) hq2 (.slice rb1 (mrgU a0_0 (List.take len0_1 z0_1) (List.take len0_2 z0_2) a1_0 (List.take len1_1 z1_1) (List.take len1_2 z1_2) a2).length rd1))
          have j0 := hide (cell_set2' (cell_set2' (World.cell?_setCell_same _ _ (.int .i64 (mrgP a0_0 (List.take len0_1 z0_1) (List.take len0_2 z0_2) a1_0 (List.take len1_1 z1_1) (List.take len1_2 z1_2) a2)) z0) (show (1 : Nat) ≠ 0 by omega) (.slice ra1 (mrgV a0_0 (List.take len0_1 z0_1) (List.take len0_2 z0_2) a1_0 (List.take len1_1 z1_1) (List.take len1_2 z1_2) a2).length rc1)) (show (2 : Nat) ≠ 0 by omega) (.slice rb1 (mrgU a0_0 (List.take len0_1 z0_1) (List.take len0_2 z0_2) a1_0 (List.take len1_1 z1_1) (List.take len1_2 z1_2) a2).length rd1))
          have j1 := hide (cell_set2' (World.cell?_setCell_same _ _ (.slice ra1 (mrgV a0_0 (List.take len0_1 z0_1) (List.take len0_2 z0_2) a1_0 (List.take len1_1 z1_1) (List.take len1_2 z1_2) a2).length rc1) (cell_set2' z1 (show (0 : Nat) ≠ 1 by omega) (.int .i64 (mrgP a0_0 (List.take len0_1 z0_1) (List.take len0_2 z0_2) a1_0 (List.take len1_1 z1_1) (List.take len1_2 z1_2) a2)))) (show (2 : Nat) ≠ 1 by omega) (.slice rb1 (mrgU a0_0 (List.take len0_1 z0_1) (List.take len0_2 z0_2) a1_0 (List.take len1_1 z1_1) (List.take len1_2 z1_2) a2).length rd1))
          have j2 := hide (World.cell?_setCell_same _ _ (.slice rb1 (mrgU a0_0 (List.take len0_1 z0_1) (List.take len0_2 z0_2) a1_0 (List.take len1_1 z1_1) (List.take len1_2 z1_2) a2).length rd1) (cell_set2' (cell_set2' z2 (show (0 : Nat) ≠ 2 by omega) (.int .i64 (mrgP a0_0 (List.take len0_1 z0_1) (List.take len0_2 z0_2) a1_0 (List.take len1_1 z1_1) (List.take len1_2 z1_2) a2))) (show (1 : Nat) ≠ 2 by omega) (.slice ra1 (mrgV a0_0 (List.take len0_1 z0_1) (List.take len0_2 z0_2) a1_0 (List.take len1_1 z1_1) (List.take len1_2 z1_2) a2).length rc1)))
          have FF := hide (FK _ hm2.out)
          go_simp
          refine hK'.out _ _ FF.out ?_
          clear hK' K'
          try simp only [Act.put, List.setIfInBounds_toArray, List.set_cons_zero, List.set_cons_succ]
          refine anyE_oneL 11 (by kernel_rfl) rfl (fun K' hK' => ?_)
          go_simp
          refine hK'.out _ _ FF.out (anyE_doneL (by kernel_rfl) ?_)
          clear hK' K'
          try simp only [Act.put, List.setIfInBounds_toArray, List.set_cons_zero, List.set_cons_succ]
          go_wp2_with fail
          go_meet
          exact ⟨v3.heap.size, ra1, rc1, rb1, rd1, rfl, rfl, j0, j1, j2, (by first | omega | (simp; done) | (simp; omega)), hide (rj.out.mono (by omega) (by first | omega | (simp; done) | (simp; omega))), rl.1, rl.2, hm2⟩
        · go_simp
          obtain ⟨v7, hu⟩ : ∃ v, v = v2.alloc (.cells #[.int .i64 0, .slice none 0 0, .slice none 0 0] 52) := ⟨_, rfl⟩
          have lx : Below v2.heap.size v2 v7 := by rw [hu]; exact bl1 _ _
          have zq : ZR v7 v2.heap.size := by rw [hu]; exact heap_alloc_new _ _
          have zz7 : v2.heap.size + 1 ≤ v7.heap.size := by rw [hu]; simp
          rw [← hu]
          clear hu
          replace oo0 := oo0.below lx
          replace oo1 := oo1.below lx
          have hq2 : u2.heap.size ≤ v2.heap.size := hm.size
          have hm := bnext hm lx
          clear lx
          refine hK'.out _ _ (FK _ hm) ?_
          clear hK' K'
          try simp only [Act.put, List.setIfInBounds_toArray, List.set_cons_zero, List.set_cons_succ]
          refine anyE_oneL 5 (by kernel_rfl) rfl (fun K' hK' => ?_)
          go_simp
          refine (specMergeRules _ _ _ _ _ _ _ _ _ _ _ _ _ _ _ _ _ _ _ _ (JZ.sl1 oo0) (JZ.sl2 oo0) (JZ.sl1 oo1) (JZ.sl2 oo1) (by omega) (by omega) (by omega) (by omega)).mono ?_
          rintro e v8 ⟨ra1, rc1, rb1, rd1, rfl, ro, rl, lx⟩
          dsimp only
          have zz8 := lx.size
          clear oo0 oo1
          replace zq := zq.next lx
          have hm := bnext hm lx
          clear lx
          refine hK'.out _ _ (FK _ hm) ?_
          clear hK' K'
          try simp only [Act.put, List.setIfInBounds_toArray, List.set_cons_zero, List.set_cons_succ]
          have hS := FK _ hm
          refine anyE_takeH 6 rfl (by kernel_rfl) (fun _ _ _ h => h) hS (by rfl) (v := ?_) ?_ ?_
          rotate_left
          · intro w' hSw; (try dsimp only at hSw); go_simp; (try with_reducible rfl)
          try simp only [Act.put, List.setIfInBounds_toArray, List.set_cons_zero, List.set_cons_succ]
          refine anyE_takeH 7 rfl (by kernel_rfl) (fun _ _ _ h => h) hS (by rfl) (v := ?_) ?_ ?_
          rotate_left
          · intro w' hSw; (try dsimp only at hSw); go_simp; (try with_reducible rfl)
          try simp only [Act.put, List.setIfInBounds_toArray, List.set_cons_zero, List.set_cons_succ]
          refine anyE_takeH 8 rfl (by kernel_rfl) (fun _ _ _ h => h) hS (by rfl) (v := ?_) ?_ ?_
          rotate_left
          · intro w' hSw; (try dsimp only at hSw); go_simp; (try with_reducible rfl)
          try simp only [Act.put, List.setIfInBounds_toArray, List.set_cons_zero, List.set_cons_succ]
          clear hS
          refine anyE_oneL 10 (by kernel_rfl) rfl (fun K' hK' => ?_)
          have z0 := zq.c0
          have x0 := zq.fr 0
          have z1 := zq.c1
          have x1 := zq.fr 1
          have z2 := zq.c2
          have x2 := zq.fr 2
          have hql := zq.lt
          have rj := hide (((ro.touch (touch_cell v8 v2.heap.size 0 (.int .i64 (mrgP a0_0 (List.take len0_1 z0_1) (List.take len0_2 z0_2) a1_0 (List.take len1_1 z1_1) (List.take len1_2 z1_2) a2))) (by omega)).touch (touch_cell _ v2.heap.size 1 (.slice ra1 (mrgV a0_0 (List.take len0_1 z0_1) (List.take len0_2 z0_2) a1_0 (List.take len1_1 z1_1) (List.take len1_2 z1_2) a2).length rc1)) (by omega)).touch (touch_cell _ v2.heap.size 2 (.slice rb1 (mrgU a0_0 (List.take len0_1 z0_1) (List.take len0_2 z0_2) a1_0 (List.take len1_1 z1_1) (List.take len1_2 z1_2) a2).length rd1)) (by omega))
          have hm2 := hide (((hm.setCell (p := ⟨v2.heap.size, 0, none⟩) hq2 (.int .i64 (mrgP a0_0 (List.take len0_1 z0_1) (List.take len0_2 z0_2) a1_0 (List.take len1_1 z1_1) (List.take len1_2 z1_2) a2))).setCell (p := ⟨v2.heap.size, 1, none⟩) hq2 (.slice ra1 (mrgV a0_0 (List.take len0_1 z0_1) (List.take len0_2 z0_2) a1_0 (List.take len1_1 z1_1) (List.take len1_2 z1_2) a2).length rc1)).setCell (p := ⟨v2.heap.size, 2, none⟩) hq2 (.slice rb1 (mrgU a0_0 (List.take len0_1 z0_1) (List.take len0_2 z0_2) a1_0 (List.take len1_1 z1_1) (List.take len1_2 z1_2) a2).length rd1))
          have j0 := hide (cell_set2' (cell_set2' (World.cell?_setCell_same _ _ (.int .i64 (mrgP a0_0 (List.take len0_1 z0_1) (List.take len0_2 z0_2) a1_0 (List.take len1_1 z1_1) (List.take len1_2 z1_2) a2)) z0) (show (1 : Nat) ≠ 0 by omega) (.slice ra1 (mrgV a0_0 (List.take len0_1 z0_1) (List.take len0_2 z0_2) a1_0 (List.take len1_1 z1_1) (List.take len1_2 z1_2) a2).length rc1)) (show (2 : Nat) ≠ 0 by omega) (.slice rb1 (mrgU a0_0 (List.take len0_1 z0_1) (List.take len0_2 z0_2) a1_0 (List.take len1_1 z1_1) (List.take len1_2 z1_2) a2).length rd1))
          have j1 := hide (cell_set2' (World.cell?_setCell_same _ _ (.slice ra1 (mrgV a0_0 (List.take len0_1 z0_1) (List.take len0_2 z0_2) a1_0 (List.take len1_1 z1_1) (List.take len1_2 z1_2) a2).length rc1) (cell_set2' z1 (show (0 : Nat) ≠ 1 by omega) (.int .i64 (mrgP a0_0 (List.take len0_1 z0_1) (List.take len0_2 z0_2) a1_0 (List.take len1_1 z1_1) (List.take len1_2 z1_2) a2)))) (show (2 : Nat) ≠ 1 by omega) (.slice rb1 (mrgU a0_0 (List.take len0_1 z0_1) (List.take len0_2 z0_2) a1_0 (List.take len1_1 z1_1) (List.take len1_2 z1_2) a2).length rd1))
          have j2 := hide (World.cell?_setCell_same _ _ (.slice rb1 (mrgU a0_0 (List.take len0_1 z0_1) (List.take len0_2 z0_2) a1_0 (List.take len1_1 z1_1) (List.take len1_2 z1_2) a2).length rd1) (cell_set2' (cell_set2' z2 (show (0 : Nat) ≠ 2 by omega) (.int .i64 (mrgP a0_0 (List.take len0_1 z0_1) (List.take len0_2 z0_2) a1_0 (List.take len1_1 z1_1) (List.take len1_2 z1_2) a2))) (show (1 : Nat) ≠ 2 by omega) (.slice ra1 (mrgV a0_0 (List.take len0_1 z0_1) (List.take len0_2 z0_2) a1_0 (List.take len1_1 z1_1) (List.take len1_2 z1_2) a2).length rc1)))
          have FF := hide (FK _ hm2.out)
          go_simp
          refine hK'.out _ _ FF.out ?_
          clear hK' K'
          try simp only [Act.put, List.setIfInBounds_toArray, List.set_cons_zero, List.set_cons_succ]
          refine anyE_oneL 11 (by kernel_rfl) rfl (fun K' hK' => ?_)
          go_simp
          refine hK'.out _ _ FF.out (anyE_doneL (by kernel_rfl) ?_)
          clear hK' K'
          try simp only [Act.put, List.setIfInBounds_toArray, List.set_cons_zero, List.set_cons_succ]
          go_wp2_with fail
          go_meet
          exact ⟨v2.heap.size, ra1, rc1, rb1, rd1, rfl, rfl, j0, j1, j2, (by first | omega | (simp; done) | (simp; omega)), hide (rj.out.mono (by omega) (by first | omega | (simp; done) | (simp; omega))), rl.1, rl.2, hm2⟩
      · go_simp
        obtain ⟨v11, hu⟩ : ∃ v, v = v1.alloc (.cells #[.int .i64 0, .slice none 0 0, .slice none 0 0] 52) := ⟨_, rfl⟩
        have lx : Below v1.heap.size v1 v11 := by rw [hu]; exact bl1 _ _
        have zq : ZR v11 v1.heap.size := by rw [hu]; exact heap_alloc_new _ _
        have zz11 : v1.heap.size + 1 ≤ v11.heap.size := by rw [hu]; simp
        rw [← hu]
        clear hu
        replace oo0 := oo0.below lx
        have hq2 : u2.heap.size ≤ v1.heap.size := hm.size
        have hm := bnext hm lx
        clear lx
        refine hK'.out _ _ (FK _ hm) ?_
        clear hK' K'
        try simp only [Act.put, List.setIfInBounds_toArray, List.set_cons_zero, List.set_cons_succ]
        refine anyE_oneL 3 (by kernel_rfl) rfl (fun K' hK' => ?_)
        go_simp
        refine (toU _ _ _ _ _ _ _ _ _ _ ((s1_1.below B2).below hm) ((s1_2.below B2).below hm) (by omega) (by omega)).mono ?_
        rintro e v12 ⟨xx1, yy1, rfl, oo1, lx⟩
        dsimp only
        have zz12 := lx.size
        replace oo0 := oo0.below lx
        replace zq := zq.next lx
        have hm := bnext hm lx
        clear lx
        refine hK'.out _ _ (FK _ hm) ?_
        clear hK' K'
        try simp only [Act.put, List.setIfInBounds_toArray, List.set_cons_zero, List.set_cons_succ]
        refine anyE_oneL 5 (by kernel_rfl) rfl (fun K' hK' => ?_)
        go_simp
        refine (specMergeRules _ _ _ _ _ _ _ _ _ _ _ _ _ _ _ _ _ _ _ _ (JZ.sl1 oo0) (JZ.sl2 oo0) (JZ.sl1 oo1) (JZ.sl2 oo1) (by omega) (by omega) (by omega) (by omega)).mono ?_
        rintro e v13 ⟨ra1, rc1, rb1, rd1, rfl, ro, rl, lx⟩
        dsimp only
        have zz13 := lx.size
        clear oo0 oo1
        replace zq := zq.next lx
        have hm := bnext hm lx
        clear lx
        refine hK'.out _ _ (FK _ hm) ?_
        clear hK' K'
        try simp only [Act.put, List.setIfInBounds_toArray, List.set_cons_zero, List.set_cons_succ]
        have hS := FK _ hm
        refine anyE_takeH 6 rfl (by kernel_rfl) (fun _ _ _ h => h) hS (by rfl) (v := ?_) ?_ ?_
        rotate_left
        · intro w' hSw; (try dsimp only at hSw); go_simp; (try with_reducible rfl)
        try simp only [Act.put, List.setIfInBounds_toArray, List.set_cons_zero, List.set_cons_succ]
        refine anyE_takeH 7 rfl (by kernel_rfl) (fun _ _ _ h => h) hS (by rfl) (v := ?_) ?_ ?_
        rotate_left
        · intro w' hSw; (try dsimp only at hSw); go_simp; (try with_reducible rfl)
        try simp only [Act.put, List.setIfInBounds_toArray, List.set_cons_zero, List.set_cons_succ]
        refine anyE_takeH 8 rfl (by kernel_rfl) (fun _ _ _ h => h) hS (by rfl) (v := ?_) ?_ ?_
        rotate_left
        · intro w' hSw; (try dsimp only at hSw); go_simp; (try with_reducible rfl)
        try simp only [Act.put, List.setIfInBounds_toArray, List.set_cons_zero, List.set_cons_succ]
        clear hS
        refine anyE_oneL 10 (by kernel_rfl) rfl (fun K' hK' => ?_)
        have z0 := zq.c0
        have x0 := zq.fr 0
        have z1 := zq.c1
        have x1 := zq.fr 1
        have z2 := zq.c2
        have x2 := zq.fr 2
        have hql := zq.lt
        have rj := hide (((ro.touch (touch_cell v13 v1.heap.size 0 (.int .i64 (mrgP a0_0 (List.take len0_1 z0_1) (List.take len0_2 z0_2) a1_0 (List.take len1_1 z1_1) (List.take len1_2 z1_2) a2))) (by omega)).touch (touch_cell _ v1.heap.size 1 (.slice ra1 (mrgV a0_0 (List.take len0_1 z0_1) (List.take len0_2 z0_2) a1_0 (List.take len1_1 z1_1) (List.take len1_2 z1_2) a2).length rc1)) (by omega)).touch (touch_cell _ v1.heap.size 2 (.slice rb1 (mrgU a0_0 (List.take len0_1 z0_1) (List.take len0_2 z0_2) a1_0 (List.take len1_1 z1_1) (List.take len1_2 z1_2) a2).length rd1)) (by omega))
        have hm2 := hide (((hm.setCell (p := ⟨v1.heap.size, 0, none⟩) hq2 (.int .i64 (mrgP a0_0 (List.take len0_1 z0_1) (List.take len0_2 z0_2) a1_0 (List.take len1_1 z1_1) (List.take len1_2 z1_2) a2))).setCell (p := ⟨v1.heap.size, 1, none⟩) hq2 (.slice ra1 (mrgV a0_0 (List.take len0_1 z0_1) (List.take len0_2 z0_2) a1_0 (List.take len1_1 z1_1) (List.take len1_2 z1_2) a2).length rc1)).setCell (p := ⟨v1.heap.size, 2, none⟩) hq2 (.slice rb1 (mrgU a0_0 (List.take len0_1 z0_1) (List.take len0_2 z0_2) a1_0 (List.take len1_1 z1_1) (List.take len1_2 z1_2) a2).length rd1))
        have j0 := hide (cell_set2' (cell_set2' (World.cell?_setCell_same _ _ (.int .i64 (mrgP a0_0 (List.take len0_1 z0_1) (List.take len0_2 z0_2) a1_0 (List.take len1_1 z1_1) (List.take len1_2 z1_2) a2)) z0) (show (1 : Nat) ≠ 0 by omega) (.slice ra1 (mrgV a0_0 (List.take len0_1 z0_1) (List.take len0_2 z0_2) a1_0 (List.take len1_1 z1_1) (List.take len1_2 z1_2) a2).length rc1)) (show (2 : Nat) ≠ 0 by omega) (.slice rb1 (mrgU a0_0 (List.take len0_1 z0_1) (List.take len0_2 z0_2) a1_0 (List.take len1_1 z1_1) (List.take len1_2 z1_2) a2).length rd1))
        have j1 := hide (cell_set2' (World.cell?_setCell_same _ _ (.slice ra1 (mrgV a0_0 (List.take len0_1 z0_1) (List.take len0_2 z0_2) a1_0 (List.take len1_1 z1_1) (List.take len1_2 z1_2) a2).length rc1) (cell_set2' z1 (show (0 : Nat) ≠ 1 by omega) (.int .i64 (mrgP a0_0 (List.take len0_1 z0_1) (List.take len0_2 z0_2) a1_0 (List.take len1_1 z1_1) (List.take len1_2 z1_2) a2)))) (show (2 : Nat) ≠ 1 by omega) (.slice rb1 (mrgU a0_0 (List.take len0_1 z0_1) (List.take len0_2 z0_2) a1_0 (List.take len1_1 z1_1) (List.take len1_2 z1_2) a2).length rd1))
        have j2 := hide (World.cell?_setCell_same _ _ (.slice rb1 (mrgU a0_0 (List.take len0_1 z0_1) (List.take len0_2 z0_2) a1_0 (List.take len1_1 z1_1) (List.take len1_2 z1_2) a2).length rd1) (cell_set2' (cell_set2' z2 (show (0 : Nat) ≠ 2 by omega) (.int .i64 (mrgP a0_0 (List.take len0_1 z0_1) (List.take len0_2 z0_2) a1_0 (List.take len1_1 z1_1) (List.take len1_2 z1_2) a2))) (show (1 : Nat) ≠ 2 by omega) (.slice ra1 (mrgV a0_0 (List.take len0_1 z0_1) (List.take len0_2 z0_2) a1_0 (List.take len1_1 z1_1) (List.take len1_2 z1_2) a2).length rc1)))
        have FF := hide (FK _ hm2.out)
        go_simp
        refine hK'.out _ _ FF.out ?_
        clear hK' K'
        try simp only [Act.put, List.setIfInBounds_toArray, List.set_cons_zero, List.set_cons_succ]
        refine anyE_oneL 11 (by kernel_rfl) rfl (fun K' hK' => ?_)
        go_simp
        refine hK'.out _ _ FF.out (anyE_doneL (by kernel_rfl) ?_)
        clear hK' K'
        try simp only [Act.put, List.setIfInBounds_toArray, List.set_cons_zero, List.set_cons_succ]
        go_wp2_with fail
        go_meet
        exact ⟨v1.heap.size, ra1, rc1, rb1, rd1, rfl, rfl, j0, j1, j2, (by first | omega | (simp; done) | (simp; omega)), hide (rj.out.mono (by omega) (by first | omega | (simp; done) | (simp; omega))), rl.1, rl.2, hm2⟩
    · go_simp
      obtain ⟨v16, hu⟩ : ∃ v, v = v0.alloc (.cells #[.int .i64 0, .slice none 0 0, .slice none 0 0] 52) := ⟨_, rfl⟩
      have lx : Below v0.heap.size v0 v16 := by rw [hu]; exact bl1 _ _
      have zq : ZR v16 v0.heap.size := by rw [hu]; exact heap_alloc_new _ _
      have zz16 : v0.heap.size + 1 ≤ v16.heap.size := by rw [hu]; simp
      rw [← hu]
      clear hu
      have hq2 : u2.heap.size ≤ v0.heap.size := hm.size
      have hm := bnext hm lx
      clear lx
      refine hK'.out _ _ (FK _ hm) ?_
      clear hK' K'
      try simp only [Act.put, List.setIfInBounds_toArray, List.set_cons_zero, List.set_cons_succ]
      refine anyE_oneL 1 (by kernel_rfl) rfl (fun K' hK' => ?_)
      go_simp
      refine (toU _ _ _ _ _ _ _ _ _ _ ((s0_1.below B2).below hm) ((s0_2.below B2).below hm) (by omega) (by omega)).mono ?_
      rintro e v17 ⟨xx0, yy0, rfl, oo0, lx⟩
      dsimp only
      have zz17 := lx.size
      replace zq := zq.next lx
      have hm := bnext hm lx
      clear lx
      refine hK'.out _ _ (FK _ hm) ?_
      clear hK' K'
      try simp only [Act.put, List.setIfInBounds_toArray, List.set_cons_zero, List.set_cons_succ]
      refine anyE_oneL 3 (by kernel_rfl) rfl (fun K' hK' => ?_)
      go_simp
      refine (toU _ _ _ _ _ _ _ _ _ _ ((s1_1.below B2).below hm) ((s1_2.below B2).below hm) (by omega) (by omega)).mono ?_
      rintro e v18 ⟨xx1, yy1, rfl, oo1, lx⟩
      dsimp only
      have zz18 := lx.size
      replace oo0 := oo0.below lx
      replace zq := zq.next lx
      have hm := bnext hm lx
      clear lx
      refine hK'.out _ _ (FK _ hm) ?_
      clear hK' K'
      try simp only [Act.put, List.setIfInBounds_toArray, List.set_cons_zero, List.set_cons_succ]
      refine anyE_oneL 5 (by kernel_rfl) rfl (fun K' hK' => ?_)
      go_simp
      refine (specMergeRules _ _ _ _ _ _ _ _ _ _ _ _ _ _ _ _ _ _ _ _ (JZ.sl1 oo0) (JZ.sl2 oo0) (JZ.sl1 oo1) (JZ.sl2 oo1) (by omega) (by omega) (by omega) (by omega)).mono ?_
      rintro e v19 ⟨ra1, rc1, rb1, rd1, rfl, ro, rl, lx⟩
      dsimp only
      have zz19 := lx.size
      clear oo0 oo1
      replace zq := zq.next lx
      have hm := bnext hm lx
      clear lx
      refine hK'.out _ _ (FK _ hm) ?_
      clear hK' K'
      try simp only [Act.put, List.setIfInBounds_toArray, List.set_cons_zero, List.set_cons_succ]
      have hS := FK _ hm
      refine anyE_takeH 6 rfl (by kernel_rfl) (fun _ _ _ h => h) hS (by rfl) (v := ?_) ?_ ?_
      rotate_left
      · intro w' hSw; (try dsimp only at hSw); go_simp; (try with_reducible rfl)
      try simp only [Act.put, List.setIfInBounds_toArray, List.set_cons_zero, List.set_cons_succ]
      refine anyE_takeH 7 rfl (by kernel_rfl) (fun _ _ _ h => h) hS (by rfl) (v := ?_) ?_ ?_
      rotate_left
      · intro w' hSw; (try dsimp only at hSw); go_simp; (try with_reducible rfl)
      try simp only [Act.put, List.setIfInBounds_toArray, List.set_cons_zero, List.set_cons_succ]
      refine anyE_takeH 8 rfl (by kernel_rfl) (fun _ _ _ h => h) hS (by rfl) (v := ?_) ?_ ?_
      rotate_left
      · intro w' hSw; (try dsimp only at hSw); go_simp; (try with_reducible rfl)
      try simp only [Act.put, List.setIfInBounds_toArray, List.set_cons_zero, List.set_cons_succ]
      clear hS
      refine anyE_oneL 10 (by kernel_rfl) rfl (fun K' hK' => ?_)
      have z0 := zq.c0
      have x0 := zq.fr 0
      have z1 := zq.c1
      have x1 := zq.fr 1
      have z2 := zq.c2
      have x2 := zq.fr 2
      have hql := zq.lt
      have rj := hide (((ro.touch (touch_cell v19 v0.heap.size 0 (.int .i64 (mrgP a0_0 (List.take len0_1 z0_1) (List.take len0_2 z0_2) a1_0 (List.take len1_1 z1_1) (List.take len1_2 z1_2) a2))) (by omega)).touch (touch_cell _ v0.heap.size 1 (.slice ra1 (mrgV a0_0 (List.take len0_1 z0_1) (List.take len0_2 z0_2) a1_0 (List.take len1_1 z1_1) (List.take len1_2 z1_2) a2).length rc1)) (by omega)).touch (touch_cell _ v0.heap.size 2 (.slice rb1 (mrgU a0_0 (List.take len0_1 z0_1) (List.take len0_2 z0_2) a1_0 (List.take len1_1 z1_1) (List.take len1_2 z1_2) a2).length rd1)) (by omega))
      have hm2 := hide (((hm.setCell (p := ⟨v0.heap.size, 0, none⟩) hq2 (.int .i64 (mrgP a0_0 (List.take len0_1 z0_1) (List.take len0_2 z0_2) a1_0 (List.take len1_1 z1_1) (List.take len1_2 z1_2) a2))).setCell (p := ⟨v0.heap.size, 1, none⟩) hq2 (.slice ra1 (mrgV a0_0 (List.take len0_1 z0_1) (List.take len0_2 z0_2) a1_0 (List.take len1_1 z1_1) (List.take len1_2 z1_2) a2).length rc1)).setCell (p := ⟨v0.heap.size, 2, none⟩) hq2 (.slice rb1 (mrgU a0_0 (List.take len0_1 z0_1) (List.take len0_2 z0_2) a1_0 (List.take len1_1 z1_1) (List.take len1_2 z1_2) a2).length rd1))
      have j0 := hide (cell_set2' (cell_set2' (World.cell?_setCell_same _ _ (.int .i64 (mrgP a0_0 (List.take len0_1 z0_1) (List.take len0_2 z0_2) a1_0 (List.take len1_1 z1_1) (List.take len1_2 z1_2) a2)) z0) (show (1 : Nat) ≠ 0 by omega) (.slice ra1 (mrgV a0_0 (List.take len0_1 z0_1) (List.take len0_2 z0_2) a1_0 (List.take len1_1 z1_1) (List.take len1_2 z1_2) a2).length rc1)) (show (2 : Nat) ≠ 0 by omega) (.slice rb1 (mrgU a0_0 (List.take len0_1 z0_1) (List.take len0_2 z0_2) a1_0 (List.take len1_1 z1_1) (List.take len1_2 z1_2) a2).length rd1))
      have j1 := hide (cell_set2' (World.cell?_setCell_same _ _ (.slice ra1 (mrgV a0_0 (List.take len0_1 z0_1) (List.take len0_2 z0_2) a1_0 (List.take len1_1 z1_1) (List.take len1_2 z1_2) a2).length rc1) (cell_set2' z1 (show (0 : Nat) ≠ 1 by omega) (.int .i64 (mrgP a0_0 (List.take len0_1 z0_1) (List.take len0_2 z0_2) a1_0 (List.take len1_1 z1_1) (List.take len1_2 z1_2) a2)))) (show (2 : Nat) ≠ 1 by omega) (.slice rb1 (mrgU a0_0 (List.take len0_1 z0_1) (List.take len0_2 z0_2) a1_0 (List.take len1_1 z1_1) (List.take len1_2 z1_2) a2).length rd1))
      have j2 := hide (World.cell?_setCell_same _ _ (.slice rb1 (mrgU a0_0 (List.take len0_1 z0_1) (List.take len0_2 z0_2) a1_0 (List.take len1_1 z1_1) (List.take len1_2 z1_2) a2).length rd1) (cell_set2' (cell_set2' z2 (show (0 : Nat) ≠ 2 by omega) (.int .i64 (mrgP a0_0 (List.take len0_1 z0_1) (List.take len0_2 z0_2) a1_0 (List.take len1_1 z1_1) (List.take len1_2 z1_2) a2))) (show (1 : Nat) ≠ 2 by omega) (.slice ra1 (mrgV a0_0 (List.take len0_1 z0_1) (List.take len0_2 z0_2) a1_0 (List.take len1_1 z1_1) (List.take len1_2 z1_2) a2).length rc1)))
      have FF := hide (FK _ hm2.out)
      go_simp
      refine hK'.out _ _ FF.out ?_
      clear hK' K'
      try simp only [Act.put, List.setIfInBounds_toArray, List.set_cons_zero, List.set_cons_succ]
      refine anyE_oneL 11 (by kernel_rfl) rfl (fun K' hK' => ?_)
      go_simp
      refine hK'.out _ _ FF.out (anyE_doneL (by kernel_rfl) ?_)
      clear hK' K'
      try simp only [Act.put, List.setIfInBounds_toArray, List.set_cons_zero, List.set_cons_succ]
      go_wp2_with fail
      go_meet
      exact ⟨v0.heap.size, ra1, rc1, rb1, rd1, rfl, rfl, j0, j1, j2, (by first | omega | (simp; done) | (simp; omega)), hide (rj.out.mono (by omega) (by first | omega | (simp; done) | (simp; omega))), rl.1, rl.2, hm2⟩
  case rest =>
    obtain ⟨q3, ra1, rc1, rb1, rd1, rfl, rfl, k0, k1, k2, kq3, ho, l1, m1, hB⟩ := hcut
    obtain ⟨u3, hu⟩ : ∃ u, u = wc := ⟨wc, rfl⟩
    subst hu
    clear FK
    have t3 := hB.out
    have o1 := ho.out
    have ko1_0 := k0.out
    have ko1_1 := k1.out
    have ko1_2 := k2.out
    clear hB ho k0 k1 k2
    have B3 := bnext B2 t3
    have sz3 := t3.size
    replace f0_0 := cell_be t3 f0_0
    replace f0_1 := cell_be t3 f0_1
    replace f0_2 := cell_be t3 f0_2
    replace f1_0 := cell_be t3 f1_0
    replace f1_1 := cell_be t3 f1_1
    replace f1_2 := cell_be t3 f1_2
    clear t3
    go_wp2_with fail
    refine (toU _ _ _ _ _ _ _ _ _ _ (s0_1.below B3) (s0_2.below B3) (by omega) (by omega)).mono ?_
    rintro e u4 ⟨x2, y2, rfl, o2, t4⟩
    have B4 := bnext B3 t4
    replace f0_0 := cell_be t4 f0_0
    replace f0_1 := cell_be t4 f0_1
    replace f0_2 := cell_be t4 f0_2
    replace f1_0 := cell_be t4 f1_0
    replace f1_1 := cell_be t4 f1_1
    replace f1_2 := cell_be t4 f1_2
    replace ko1_0 := cell_be t4 ko1_0
    replace ko1_1 := cell_be t4 ko1_1
    replace ko1_2 := cell_be t4 ko1_2
    have sz4 := t4.size
    replace o1 := o1.below t4
    clear t4
    have pa4 := bl1 u4 (.cells #[.int .i64 a0_0, .slice x2 len0_1 len0_1, .slice y2 len0_2 len0_2] 52)
    replace o1 := o1.below pa4
    replace o2 := o2.below pa4
    replace f0_0 := cell_al f0_0 (.cells #[.int .i64 a0_0, .slice x2 len0_1 len0_1, .slice y2 len0_2 len0_2] 52)
    replace f0_1 := cell_al f0_1 (.cells #[.int .i64 a0_0, .slice x2 len0_1 len0_1, .slice y2 len0_2 len0_2] 52)
    replace f0_2 := cell_al f0_2 (.cells #[.int .i64 a0_0, .slice x2 len0_1 len0_1, .slice y2 len0_2 len0_2] 52)
    replace f1_0 := cell_al f1_0 (.cells #[.int .i64 a0_0, .slice x2 len0_1 len0_1, .slice y2 len0_2 len0_2] 52)
    replace f1_1 := cell_al f1_1 (.cells #[.int .i64 a0_0, .slice x2 len0_1 len0_1, .slice y2 len0_2 len0_2] 52)
    replace f1_2 := cell_al f1_2 (.cells #[.int .i64 a0_0, .slice x2 len0_1 len0_1, .slice y2 len0_2 len0_2] 52)
    replace ko1_0 := cell_al ko1_0 (.cells #[.int .i64 a0_0, .slice x2 len0_1 len0_1, .slice y2 len0_2 len0_2] 52)
    replace ko1_1 := cell_al ko1_1 (.cells #[.int .i64 a0_0, .slice x2 len0_1 len0_1, .slice y2 len0_2 len0_2] 52)
    replace ko1_2 := cell_al ko1_2 (.cells #[.int .i64 a0_0, .slice x2 len0_1 len0_1, .slice y2 len0_2 len0_2] 52)
    go_wp2_with fail
    refine (toU _ _ _ _ _ _ _ _ _ _ (s1_1.below (bnext B4 pa4)) (s1_2.below (bnext B4 pa4)) (by omega) (by omega)).mono ?_
    rintro e u5 ⟨x3, y3, rfl, o3, t5⟩
    have B5 := bnext (bnext B4 pa4) t5
    replace f0_0 := cell_be t5 f0_0
    replace f0_1 := cell_be t5 f0_1
    replace f0_2 := cell_be t5 f0_2
    replace f1_0 := cell_be t5 f1_0
    replace f1_1 := cell_be t5 f1_1
    replace f1_2 := cell_be t5 f1_2
    replace ko1_0 := cell_be t5 ko1_0
    replace ko1_1 := cell_be t5 ko1_1
    replace ko1_2 := cell_be t5 ko1_2
    have sz5 : u4.heap.size + 1 ≤ u5.heap.size := by have := t5.size; simp at this; omega
    have ko2_0 : u5.cell? ⟨u4.heap.size, 0, none⟩ = some (.int .i64 a0_0) := cell_be t5 (by simp [go_sem])
    have ko2_1 : u5.cell? ⟨u4.heap.size, 1, none⟩ = some (.slice x2 len0_1 len0_1) := cell_be t5 (by simp [go_sem])
    have ko2_2 : u5.cell? ⟨u4.heap.size, 2, none⟩ = some (.slice y2 len0_2 len0_2) := cell_be t5 (by simp [go_sem])
    replace o1 := o1.below t5
    replace o2 := o2.below t5
    replace o3 := o3.mono (lo' := u4.heap.size + 1) (by simp) (Nat.le_refl _)
    clear t5
    have pa5 := bl1 u5 (.cells #[.int .i64 a1_0, .slice x3 len1_1 len1_1, .slice y3 len1_2 len1_2] 52)
    replace o1 := o1.below pa5
    replace o2 := o2.below pa5
    replace o3 := o3.below pa5
    replace f0_0 := cell_al f0_0 (.cells #[.int .i64 a1_0, .slice x3 len1_1 len1_1, .slice y3 len1_2 len1_2] 52)
    replace f0_1 := cell_al f0_1 (.cells #[.int .i64 a1_0, .slice x3 len1_1 len1_1, .slice y3 len1_2 len1_2] 52)
    replace f0_2 := cell_al f0_2 (.cells #[.int .i64 a1_0, .slice x3 len1_1 len1_1, .slice y3 len1_2 len1_2] 52)
    replace f1_0 := cell_al f1_0 (.cells #[.int .i64 a1_0, .slice x3 len1_1 len1_1, .slice y3 len1_2 len1_2] 52)
    replace f1_1 := cell_al f1_1 (.cells #[.int .i64 a1_0, .slice x3 len1_1 len1_1, .slice y3 len1_2 len1_2] 52)
    replace f1_2 := cell_al f1_2 (.cells #[.int .i64 a1_0, .slice x3 len1_1 len1_1, .slice y3 len1_2 len1_2] 52)
    replace ko1_0 := cell_al ko1_0 (.cells #[.int .i64 a1_0, .slice x3 len1_1 len1_1, .slice y3 len1_2 len1_2] 52)
    replace ko1_1 := cell_al ko1_1 (.cells #[.int .i64 a1_0, .slice x3 len1_1 len1_1, .slice y3 len1_2 len1_2] 52)
    replace ko1_2 := cell_al ko1_2 (.cells #[.int .i64 a1_0, .slice x3 len1_1 len1_1, .slice y3 len1_2 len1_2] 52)
    replace ko2_0 := cell_al ko2_0 (.cells #[.int .i64 a1_0, .slice x3 len1_1 len1_1, .slice y3 len1_2 len1_2] 52)
    replace ko2_1 := cell_al ko2_1 (.cells #[.int .i64 a1_0, .slice x3 len1_1 len1_1, .slice y3 len1_2 len1_2] 52)
    replace ko2_2 := cell_al ko2_2 (.cells #[.int .i64 a1_0, .slice x3 len1_1 len1_1, .slice y3 len1_2 len1_2] 52)
    go_wp2_with fail
    refine (implMergeRules _ _ _ _ _ _ _ _ _ _ _ _ _ _ _ _ _ _ _ _ (JZ.sl1 o2) (JZ.sl2 o2) (JZ.sl1 o3) (JZ.sl2 o3) (by omega) (by omega) (by omega) (by omega)).mono ?_
    rintro e u6 ⟨ra4, rc4, rb4, rd4, rfl, o4, l4, t6⟩
    have B6 := bnext (bnext B5 pa5) t6
    replace f0_0 := cell_be t6 f0_0
    replace f0_1 := cell_be t6 f0_1
    replace f0_2 := cell_be t6 f0_2
    replace f1_0 := cell_be t6 f1_0
    replace f1_1 := cell_be t6 f1_1
    replace f1_2 := cell_be t6 f1_2
    replace ko1_0 := cell_be t6 ko1_0
    replace ko1_1 := cell_be t6 ko1_1
    replace ko1_2 := cell_be t6 ko1_2
    replace ko2_0 := cell_be t6 ko2_0
    replace ko2_1 := cell_be t6 ko2_1
    replace ko2_2 := cell_be t6 ko2_2
    have sz6 : u5.heap.size + 1 ≤ u6.heap.size := by have := t6.size; simp at this; omega
    have ko3_0 : u6.cell? ⟨u5.heap.size, 0, none⟩ = some (.int .i64 a1_0) := cell_be t6 (by simp [go_sem])
    have ko3_1 : u6.cell? ⟨u5.heap.size, 1, none⟩ = some (.slice x3 len1_1 len1_1) := cell_be t6 (by simp [go_sem])
    have ko3_2 : u6.cell? ⟨u5.heap.size, 2, none⟩ = some (.slice y3 len1_2 len1_2) := cell_be t6 (by simp [go_sem])
    replace o1 := o1.below t6
    replace o2 := o2.below t6
    replace o3 := o3.below t6
    replace o4 := o4.mono (lo' := u5.heap.size + 1) (by simp) (Nat.le_refl _)
    clear t6
    obtain ⟨l4, m4⟩ := l4
    have pa6 := bl1 u6 (.cells #[.int .i64 (mrgP a0_0 (List.take len0_1 z0_1) (List.take len0_2 z0_2) a1_0 (List.take len1_1 z1_1) (List.take len1_2 z1_2) a2), .slice ra4 (mrgV a0_0 (List.take len0_1 z0_1) (List.take len0_2 z0_2) a1_0 (List.take len1_1 z1_1) (List.take len1_2 z1_2) a2).length rc4, .slice rb4 (mrgU a0_0 (List.take len0_1 z0_1) (List.take len0_2 z0_2) a1_0 (List.take len1_1 z1_1) (List.take len1_2 z1_2) a2).length rd4] 52)
    replace o1 := o1.below pa6
    replace o2 := o2.below pa6
    replace o3 := o3.below pa6
    replace o4 := o4.below pa6
    replace f0_0 := cell_al f0_0 (.cells #[.int .i64 (mrgP a0_0 (List.take len0_1 z0_1) (List.take len0_2 z0_2) a1_0 (List.take len1_1 z1_1) (List.take len1_2 z1_2) a2), .slice ra4 (mrgV a0_0 (List.take len0_1 z0_1) (List.take len0_2 z0_2) a1_0 (List.take len1_1 z1_1) (List.take len1_2 z1_2) a2).length rc4, .slice rb4 (mrgU a0_0 (List.take len0_1 z0_1) (List.take len0_2 z0_2) a1_0 (List.take len1_1 z1_1) (List.take len1_2 z1_2) a2).length rd4] 52)
    replace f0_1 := cell_al f0_1 (.cells #[.int .i64 (mrgP a0_0 (List.take len0_1 z0_1) (List.take len0_2 z0_2) a1_0 (List.take len1_1 z1_1) (List.take len1_2 z1_2) a2), .slice ra4 (mrgV a0_0 (List.take len0_1 z0_1) (List.take len0_2 z0_2) a1_0 (List.take len1_1 z1_1) (List.take len1_2 z1_2) a2).length rc4, .slice rb4 (mrgU a0_0 (List.take len0_1 z0_1) (List.take len0_2 z0_2) a1_0 (List.take len1_1 z1_1) (List.take len1_2 z1_2) a2).length rd4] 52)
    replace f0_2 := cell_al f0_2 (.cells #[.int .i64 (mrgP a0_0 (List.take len0_1 z0_1) (List.take len0_2 z0_2) a1_0 (List.take len1_1 z1_1) (List.take len1_2 z1_2) a2), .slice ra4 (mrgV a0_0 (List.take len0_1 z0_1) (List.take len0_2 z0_2) a1_0 (List.take len1_1 z1_1) (List.take len1_2 z1_2) a2).length rc4, .slice rb4 (mrgU a0_0 (List.take len0_1 z0_1) (List.take len0_2 z0_2) a1_0 (List.take len1_1 z1_1) (List.take len1_2 z1_2) a2).length rd4] 52)
    replace f1_0 := cell_al f1_0 (.cells #[.int .i64 (mrgP a0_0 (List.take len0_1 z0_1) (List.take len0_2 z0_2) a1_0 (List.take len1_1 z1_1) (List.take len1_2 z1_2) a2), .slice ra4 (mrgV a0_0 (List.take len0_1 z0_1) (List.take len0_2 z0_2) a1_0 (List.take len1_1 z1_1) (List.take len1_2 z1_2) a2).length rc4, .slice rb4 (mrgU a0_0 (List.take len0_1 z0_1) (List.take len0_2 z0_2) a1_0 (List.take len1_1 z1_1) (List.take len1_2 z1_2) a2).length rd4] 52)
    replace f1_1 := cell_al f1_1 (.cells #[.int .i64 (mrgP a0_0 (List.take len0_1 z0_1) (List.take len0_2 z0_2) a1_0 (List.take len1_1 z1_1) (List.take len1_2 z1_2) a2), .slice ra4 (mrgV a0_0 (List.take len0_1 z0_1) (List.take len0_2 z0_2) a1_0 (List.take len1_1 z1_1) (List.take len1_2 z1_2) a2).length rc4, .slice rb4 (mrgU a0_0 (List.take len0_1 z0_1) (List.take len0_2 z0_2) a1_0 (List.take len1_1 z1_1) (List.take len1_2 z1_2) a2).length rd4] 52)
    replace f1_2 := cell_al f1_2 (.cells #[.int .i64 (mrgP a0_0 (List.take len0_1 z0_1) (List.take len0_2 z0_2) a1_0 (List.take len1_1 z1_1) (List.take len1_2 z1_2) a2), .slice ra4 (mrgV a0_0 (List.take len0_1 z0_1) (List.take len0_2 z0_2) a1_0 (List.take len1_1 z1_1) (List.take len1_2 z1_2) a2).length rc4, .slice rb4 (mrgU a0_0 (List.take len0_1 z0_1) (List.take len0_2 z0_2) a1_0 (List.take len1_1 z1_1) (List.take len1_2 z1_2) a2).length rd4] 52)
    replace ko1_0 := cell_al ko1_0 (.cells #[.int .i64 (mrgP a0_0 (List.take len0_1 z0_1) (List.take len0_2 z0_2) a1_0 (List.take len1_1 z1_1) (List.take len1_2 z1_2) a2), .slice ra4 (mrgV a0_0 (List.take len0_1 z0_1) (List.take len0_2 z0_2) a1_0 (List.take len1_1 z1_1) (List.take len1_2 z1_2) a2).length rc4, .slice rb4 (mrgU a0_0 (List.take len0_1 z0_1) (List.take len0_2 z0_2) a1_0 (List.take len1_1 z1_1) (List.take len1_2 z1_2) a2).length rd4] 52)
    replace ko1_1 := cell_al ko1_1 (.cells #[.int .i64 (mrgP a0_0 (List.take len0_1 z0_1) (List.take len0_2 z0_2) a1_0 (List.take len1_1 z1_1) (List.take len1_2 z1_2) a2), .slice ra4 (mrgV a0_0 (List.take len0_1 z0_1) (List.take len0_2 z0_2) a1_0 (List.take len1_1 z1_1) (List.take len1_2 z1_2) a2).length rc4, .slice rb4 (mrgU a0_0 (List.take len0_1 z0_1) (List.take len0_2 z0_2) a1_0 (List.take len1_1 z1_1) (List.take len1_2 z1_2) a2).length rd4] 52)
    replace ko1_2 := cell_al ko1_2 (.cells #[.int .i64 (mrgP a0_0 (List.take len0_1 z0_1) (List.take len0_2 z0_2) a1_0 (List.take len1_1 z1_1) (List.take len1_2 z1_2) a2), .slice ra4 (mrgV a0_0 (List.take len0_1 z0_1) (List.take len0_2 z0_2) a1_0 (List.take len1_1 z1_1) (List.take len1_2 z1_2) a2).length rc4, .slice rb4 (mrgU a0_0 (List.take len0_1 z0_1) (List.take len0_2 z0_2) a1_0 (List.take len1_1 z1_1) (List.take len1_2 z1_2) a2).length rd4] 52)
    replace ko2_0 := cell_al ko2_0 (.cells #[.int .i64 (mrgP a0_0 (List.take len0_1 z0_1) (List.take len0_2 z0_2) a1_0 (List.take len1_1 z1_1) (List.take len1_2 z1_2) a2), .slice ra4 (mrgV a0_0 (List.take len0_1 z0_1) (List.take len0_2 z0_2) a1_0 (List.take len1_1 z1_1) (List.take len1_2 z1_2) a2).length rc4, .slice rb4 (mrgU a0_0 (List.take len0_1 z0_1) (List.take len0_2 z0_2) a1_0 (List.take len1_1 z1_1) (List.take len1_2 z1_2) a2).length rd4] 52)
    replace ko2_1 := cell_al ko2_1 (.cells #[.int .i64 (mrgP a0_0 (List.take len0_1 z0_1) (List.take len0_2 z0_2) a1_0 (List.take len1_1 z1_1) (List.take len1_2 z1_2) a2), .slice ra4 (mrgV a0_0 (List.take len0_1 z0_1) (List.take len0_2 z0_2) a1_0 (List.take len1_1 z1_1) (List.take len1_2 z1_2) a2).length rc4, .slice rb4 (mrgU a0_0 (List.take len0_1 z0_1) (List.take len0_2 z0_2) a1_0 (List.take len1_1 z1_1) (List.take len1_2 z1_2) a2).length rd4] 52)
    replace ko2_2 := cell_al ko2_2 (.cells #[.int .i64 (mrgP a0_0 (List.take len0_1 z0_1) (List.take len0_2 z0_2) a1_0 (List.take len1_1 z1_1) (List.take len1_2 z1_2) a2), .slice ra4 (mrgV a0_0 (List.take len0_1 z0_1) (List.take len0_2 z0_2) a1_0 (List.take len1_1 z1_1) (List.take len1_2 z1_2) a2).length rc4, .slice rb4 (mrgU a0_0 (List.take len0_1 z0_1) (List.take len0_2 z0_2) a1_0 (List.take len1_1 z1_1) (List.take len1_2 z1_2) a2).length rd4] 52)
    replace ko3_0 := cell_al ko3_0 (.cells #[.int .i64 (mrgP a0_0 (List.take len0_1 z0_1) (List.take len0_2 z0_2) a1_0 (List.take len1_1 z1_1) (List.take len1_2 z1_2) a2), .slice ra4 (mrgV a0_0 (List.take len0_1 z0_1) (List.take len0_2 z0_2) a1_0 (List.take len1_1 z1_1) (List.take len1_2 z1_2) a2).length rc4, .slice rb4 (mrgU a0_0 (List.take len0_1 z0_1) (List.take len0_2 z0_2) a1_0 (List.take len1_1 z1_1) (List.take len1_2 z1_2) a2).length rd4] 52)
    replace ko3_1 := cell_al ko3_1 (.cells #[.int .i64 (mrgP a0_0 (List.take len0_1 z0_1) (List.take len0_2 z0_2) a1_0 (List.take len1_1 z1_1) (List.take len1_2 z1_2) a2), .slice ra4 (mrgV a0_0 (List.take len0_1 z0_1) (List.take len0_2 z0_2) a1_0 (List.take len1_1 z1_1) (List.take len1_2 z1_2) a2).length rc4, .slice rb4 (mrgU a0_0 (List.take len0_1 z0_1) (List.take len0_2 z0_2) a1_0 (List.take len1_1 z1_1) (List.take len1_2 z1_2) a2).length rd4] 52)
    replace ko3_2 := cell_al ko3_2 (.cells #[.int .i64 (mrgP a0_0 (List.take len0_1 z0_1) (List.take len0_2 z0_2) a1_0 (List.take len1_1 z1_1) (List.take len1_2 z1_2) a2), .slice ra4 (mrgV a0_0 (List.take len0_1 z0_1) (List.take len0_2 z0_2) a1_0 (List.take len1_1 z1_1) (List.take len1_2 z1_2) a2).length rc4, .slice rb4 (mrgU a0_0 (List.take len0_1 z0_1) (List.take len0_2 z0_2) a1_0 (List.take len1_1 z1_1) (List.take len1_2 z1_2) a2).length rd4] 52)
    go_wp2_with fail
    refine (eqU _ _ _ _ _ _ _ _ _ _ _ _ _ _ (JZ.sl1 o4) (JZ.sl1 o1) (JZ.sl2 o4) (JZ.sl2 o1) (by omega) (by omega)).mono ?_
    rintro e u7 ⟨rfl, t7⟩
    have B7 := bnext (bnext B6 pa6) t7
    replace f0_0 := cell_be t7 f0_0
    replace f0_1 := cell_be t7 f0_1
    replace f0_2 := cell_be t7 f0_2
    replace f1_0 := cell_be t7 f1_0
    replace f1_1 := cell_be t7 f1_1
    replace f1_2 := cell_be t7 f1_2
    replace ko1_0 := cell_be t7 ko1_0
    replace ko1_1 := cell_be t7 ko1_1
    replace ko1_2 := cell_be t7 ko1_2
    replace ko2_0 := cell_be t7 ko2_0
    replace ko2_1 := cell_be t7 ko2_1
    replace ko2_2 := cell_be t7 ko2_2
    replace ko3_0 := cell_be t7 ko3_0
    replace ko3_1 := cell_be t7 ko3_1
    replace ko3_2 := cell_be t7 ko3_2
    have sz7 : u6.heap.size + 1 ≤ u7.heap.size := by have := t7.size; simp at this; omega
    have ko4_0 : u7.cell? ⟨u6.heap.size, 0, none⟩ = some (.int .i64 (mrgP a0_0 (List.take len0_1 z0_1) (List.take len0_2 z0_2) a1_0 (List.take len1_1 z1_1) (List.take len1_2 z1_2) a2)) := cell_be t7 (by simp [go_sem])
    have ko4_1 : u7.cell? ⟨u6.heap.size, 1, none⟩ = some (.slice ra4 (mrgV a0_0 (List.take len0_1 z0_1) (List.take len0_2 z0_2) a1_0 (List.take len1_1 z1_1) (List.take len1_2 z1_2) a2).length rc4) := cell_be t7 (by simp [go_sem])
    have ko4_2 : u7.cell? ⟨u6.heap.size, 2, none⟩ = some (.slice rb4 (mrgU a0_0 (List.take len0_1 z0_1) (List.take len0_2 z0_2) a1_0 (List.take len1_1 z1_1) (List.take len1_2 z1_2) a2).length rd4) := cell_be t7 (by simp [go_sem])
    replace o1 := o1.below t7
    replace o2 := o2.below t7
    replace o3 := o3.below t7
    replace o4 := o4.below t7
    clear t7
    have hbr8 := (Below.refl u7.heap.size u7).drew
    have F8 : ∀ w', Below u7.heap.size u7 w' → w'.cell? ⟨w.heap.size, 0, none⟩ = some (.int .i64 a0_0) ∧ w'.cell? ⟨w.heap.size, 1, none⟩ = some (.slice a0_1 len0_1 cap0_1) ∧ w'.cell? ⟨w.heap.size, 2, none⟩ = some (.slice a0_2 len0_2 cap0_2) ∧ w'.cell? ⟨u4.heap.size, 0, none⟩ = some (.int .i64 a0_0) ∧ w'.cell? ⟨u4.heap.size, 1, none⟩ = some (.slice x2 len0_1 len0_1) ∧ w'.cell? ⟨u4.heap.size, 2, none⟩ = some (.slice y2 len0_2 len0_2) := fun w' hb => ⟨cell_be hb f0_0, cell_be hb f0_1, cell_be hb f0_2, cell_be hb ko2_0, cell_be hb ko2_1, cell_be hb ko2_2⟩
    go_wp2_with fail
    go_region_held3 (fun w' => w'.cell? ⟨w.heap.size, 0, none⟩ = some (.int .i64 a0_0) ∧ w'.cell? ⟨w.heap.size, 1, none⟩ = some (.slice a0_1 len0_1 cap0_1) ∧ w'.cell? ⟨w.heap.size, 2, none⟩ = some (.slice a0_2 len0_2 cap0_2) ∧ w'.cell? ⟨u4.heap.size, 0, none⟩ = some (.int .i64 a0_0) ∧ w'.cell? ⟨u4.heap.size, 1, none⟩ = some (.slice x2 len0_1 len0_1) ∧ w'.cell? ⟨u4.heap.size, 2, none⟩ = some (.slice y2 len0_2 len0_2))
      (exact F8 _ (by assumption))
      (first
      | (go_at_call 39; refine (toU _ _ _ _ _ _ _ _ _ _ ((s0_1.below B7).below hbr8) ((s0_2.below B7).below hbr8) (by omega) (by omega)).mono ?_; rintro e wn8 ⟨xn8, yn8, rfl, on8, hn8⟩; have hm8 := bnext hbr8 hn8)
      | (go_at_call 41; refine (eqU _ _ _ _ _ _ _ _ _ _ _ _ _ _ ((JZ.sl1 o2).below hm8) on8.sl1 ((JZ.sl2 o2).below hm8) on8.sl2 (by omega) (by omega)).mono ?_; rintro e u8 ⟨rfl, hr8⟩; have t8 := bnext hm8 hr8))
    clear F8 on8 hn8 hm8 hr8 hbr8
    have B8 := bnext B7 t8
    have sz8 := t8.size
    replace f0_0 := cell_be t8 f0_0
    replace f0_1 := cell_be t8 f0_1
    replace f0_2 := cell_be t8 f0_2
    replace f1_0 := cell_be t8 f1_0
    replace f1_1 := cell_be t8 f1_1
    replace f1_2 := cell_be t8 f1_2
    replace ko1_0 := cell_be t8 ko1_0
    replace ko1_1 := cell_be t8 ko1_1
    replace ko1_2 := cell_be t8 ko1_2
    replace ko2_0 := cell_be t8 ko2_0
    replace ko2_1 := cell_be t8 ko2_1
    replace ko2_2 := cell_be t8 ko2_2
    replace ko3_0 := cell_be t8 ko3_0
    replace ko3_1 := cell_be t8 ko3_1
    replace ko3_2 := cell_be t8 ko3_2
    replace ko4_0 := cell_be t8 ko4_0
    replace ko4_1 := cell_be t8 ko4_1
    replace ko4_2 := cell_be t8 ko4_2
    replace o1 := o1.below t8
    replace o2 := o2.below t8
    replace o3 := o3.below t8
    replace o4 := o4.below t8
    clear t8
    have hbr9 := (Below.refl u8.heap.size u8).drew
    have F9 : ∀ w', Below u8.heap.size u8 w' → w'.cell? ⟨w.heap.size + 1, 0, none⟩ = some (.int .i64 a1_0) ∧ w'.cell? ⟨w.heap.size + 1, 1, none⟩ = some (.slice a1_1 len1_1 cap1_1) ∧ w'.cell? ⟨w.heap.size + 1, 2, none⟩ = some (.slice a1_2 len1_2 cap1_2) ∧ w'.cell? ⟨u5.heap.size, 0, none⟩ = some (.int .i64 a1_0) ∧ w'.cell? ⟨u5.heap.size, 1, none⟩ = some (.slice x3 len1_1 len1_1) ∧ w'.cell? ⟨u5.heap.size, 2, none⟩ = some (.slice y3 len1_2 len1_2) := fun w' hb => ⟨cell_be hb f1_0, cell_be hb f1_1, cell_be hb f1_2, cell_be hb ko3_0, cell_be hb ko3_1, cell_be hb ko3_2⟩
    go_wp2_with fail
    go_region_held3 (fun w' => w'.cell? ⟨w.heap.size + 1, 0, none⟩ = some (.int .i64 a1_0) ∧ w'.cell? ⟨w.heap.size + 1, 1, none⟩ = some (.slice a1_1 len1_1 cap1_1) ∧ w'.cell? ⟨w.heap.size + 1, 2, none⟩ = some (.slice a1_2 len1_2 cap1_2) ∧ w'.cell? ⟨u5.heap.size, 0, none⟩ = some (.int .i64 a1_0) ∧ w'.cell? ⟨u5.heap.size, 1, none⟩ = some (.slice x3 len1_1 len1_1) ∧ w'.cell? ⟨u5.heap.size, 2, none⟩ = some (.slice y3 len1_2 len1_2))
      (exact F9 _ (by assumption))
      (first
      | (go_at_call 39; refine (toU _ _ _ _ _ _ _ _ _ _ ((s1_1.below B8).below hbr9) ((s1_2.below B8).below hbr9) (by omega) (by omega)).mono ?_; rintro e wn9 ⟨xn9, yn9, rfl, on9, hn9⟩; have hm9 := bnext hbr9 hn9)
      | (go_at_call 41; refine (eqU _ _ _ _ _ _ _ _ _ _ _ _ _ _ ((JZ.sl1 o3).below hm9) on9.sl1 ((JZ.sl2 o3).below hm9) on9.sl2 (by omega) (by omega)).mono ?_; rintro e u9 ⟨rfl, hr9⟩; have t9 := bnext hm9 hr9))
    clear F9 on9 hn9 hm9 hr9 hbr9
    have B9 := bnext B8 t9
    have sz9 := t9.size
    replace f0_0 := cell_be t9 f0_0
    replace f0_1 := cell_be t9 f0_1
    replace f0_2 := cell_be t9 f0_2
    replace f1_0 := cell_be t9 f1_0
    replace f1_1 := cell_be t9 f1_1
    replace f1_2 := cell_be t9 f1_2
    replace ko1_0 := cell_be t9 ko1_0
    replace ko1_1 := cell_be t9 ko1_1
    replace ko1_2 := cell_be t9 ko1_2
    replace ko2_0 := cell_be t9 ko2_0
    replace ko2_1 := cell_be t9 ko2_1
    replace ko2_2 := cell_be t9 ko2_2
    replace ko3_0 := cell_be t9 ko3_0
    replace ko3_1 := cell_be t9 ko3_1
    replace ko3_2 := cell_be t9 ko3_2
    replace ko4_0 := cell_be t9 ko4_0
    replace ko4_1 := cell_be t9 ko4_1
    replace ko4_2 := cell_be t9 ko4_2
    replace o1 := o1.below t9
    replace o2 := o2.below t9
    replace o3 := o3.below t9
    replace o4 := o4.below t9
    clear t9
    go_wp2_with fail
    refine (markU _ _ _ _ _ _ _ _ _ _ _ _ _ o2 (by omega) (by omega) (by omega) (by omega) (by omega) (by omega)).mono ?_
    rintro e u10 ⟨rfl, no2, gt⟩
    clear o2
    have o2 := no2
    clear no2
    have B10 := below_touch B9 gt (by omega) (by omega)
    have sz10 := gt.size
    replace o1 := o1.touch gt (by omega)
    replace o3 := o3.touch gt (by omega)
    replace o4 := o4.touch gt (by omega)
    replace f0_0 := gt.cell f0_0 (by omega)
    replace f0_1 := gt.cell f0_1 (by omega)
    replace f0_2 := gt.cell f0_2 (by omega)
    replace f1_0 := gt.cell f1_0 (by omega)
    replace f1_1 := gt.cell f1_1 (by omega)
    replace f1_2 := gt.cell f1_2 (by omega)
    replace ko1_0 := gt.cell ko1_0 (by omega)
    replace ko1_1 := gt.cell ko1_1 (by omega)
    replace ko1_2 := gt.cell ko1_2 (by omega)
    replace ko2_0 := gt.cell ko2_0 (by omega)
    replace ko2_1 := gt.cell ko2_1 (by omega)
    replace ko2_2 := gt.cell ko2_2 (by omega)
    replace ko3_0 := gt.cell ko3_0 (by omega)
    replace ko3_1 := gt.cell ko3_1 (by omega)
    replace ko3_2 := gt.cell ko3_2 (by omega)
    replace ko4_0 := gt.cell ko4_0 (by omega)
    replace ko4_1 := gt.cell ko4_1 (by omega)
    replace ko4_2 := gt.cell ko4_2 (by omega)
    clear gt
    clear o2
    clear ko2_0
    clear ko2_1
    clear ko2_2
    go_wp2_with fail
    refine (markU _ _ _ _ _ _ _ _ _ _ _ _ _ o3 (by omega) (by omega) (by omega) (by omega) (by omega) (by omega)).mono ?_
    rintro e u11 ⟨rfl, no3, gt⟩
    clear o3
    have o3 := no3
    clear no3
    have B11 := below_touch B10 gt (by omega) (by omega)
    have sz11 := gt.size
    replace o1 := o1.touch gt (by omega)
    replace o4 := o4.touch gt (by omega)
    replace f0_0 := gt.cell f0_0 (by omega)
    replace f0_1 := gt.cell f0_1 (by omega)
    replace f0_2 := gt.cell f0_2 (by omega)
    replace f1_0 := gt.cell f1_0 (by omega)
    replace f1_1 := gt.cell f1_1 (by omega)
    replace f1_2 := gt.cell f1_2 (by omega)
    replace ko1_0 := gt.cell ko1_0 (by omega)
    replace ko1_1 := gt.cell ko1_1 (by omega)
    replace ko1_2 := gt.cell ko1_2 (by omega)
    replace ko3_0 := gt.cell ko3_0 (by omega)
    replace ko3_1 := gt.cell ko3_1 (by omega)
    replace ko3_2 := gt.cell ko3_2 (by omega)
    replace ko4_0 := gt.cell ko4_0 (by omega)
    replace ko4_1 := gt.cell ko4_1 (by omega)
    replace ko4_2 := gt.cell ko4_2 (by omega)
    clear gt
    clear o3
    clear ko3_0
    clear ko3_1
    clear ko3_2
    go_wp2_with fail
    refine (eqU _ _ _ _ _ _ _ _ _ _ _ _ _ _ (JZ.sl1 o4) (JZ.sl1 o1) (JZ.sl2 o4) (JZ.sl2 o1) (by omega) (by omega)).mono ?_
    rintro e u12 ⟨rfl, t12⟩
    have B12 := bnext B11 t12
    replace f0_0 := cell_be t12 f0_0
    replace f0_1 := cell_be t12 f0_1
    replace f0_2 := cell_be t12 f0_2
    replace f1_0 := cell_be t12 f1_0
    replace f1_1 := cell_be t12 f1_1
    replace f1_2 := cell_be t12 f1_2
    replace ko1_0 := cell_be t12 ko1_0
    replace ko1_1 := cell_be t12 ko1_1
    replace ko1_2 := cell_be t12 ko1_2
    replace ko4_0 := cell_be t12 ko4_0
    replace ko4_1 := cell_be t12 ko4_1
    replace ko4_2 := cell_be t12 ko4_2
    have sz12 := t12.size
    replace o1 := o1.below t12
    replace o4 := o4.below t12
    clear t12
    go_wp2_with fail
    refine (markU _ _ _ _ _ _ _ _ _ _ _ _ _ o4 (by omega) (by omega) (by omega) (by omega) (by omega) (by omega)).mono ?_
    rintro e u13 ⟨rfl, no4, gt⟩
    clear o4
    have o4 := no4
    clear no4
    have B13 := below_touch B12 gt (by omega) (by omega)
    have sz13 := gt.size
    replace o1 := o1.touch gt (by omega)
    replace f0_0 := gt.cell f0_0 (by omega)
    replace f0_1 := gt.cell f0_1 (by omega)
    replace f0_2 := gt.cell f0_2 (by omega)
    replace f1_0 := gt.cell f1_0 (by omega)
    replace f1_1 := gt.cell f1_1 (by omega)
    replace f1_2 := gt.cell f1_2 (by omega)
    replace ko1_0 := gt.cell ko1_0 (by omega)
    replace ko1_1 := gt.cell ko1_1 (by omega)
    replace ko1_2 := gt.cell ko1_2 (by omega)
    replace ko4_0 := gt.cell ko4_0 (by omega)
    replace ko4_1 := gt.cell ko4_1 (by omega)
    replace ko4_2 := gt.cell ko4_2 (by omega)
    clear gt
    go_wp2_with fail
    refine (heldU _ _ _ _ _ _ _ _ _ (JZ.sl1 o4) (JZ.sl2 o4) (by omega) (by omega) (by omega) (by omega)).mono ?_
    rintro e u14 ⟨rfl, t14⟩
    have B14 := bnext B13 t14
    replace f0_0 := cell_be t14 f0_0
    replace f0_1 := cell_be t14 f0_1
    replace f0_2 := cell_be t14 f0_2
    replace f1_0 := cell_be t14 f1_0
    replace f1_1 := cell_be t14 f1_1
    replace f1_2 := cell_be t14 f1_2
    replace ko1_0 := cell_be t14 ko1_0
    replace ko1_1 := cell_be t14 ko1_1
    replace ko1_2 := cell_be t14 ko1_2
    replace ko4_0 := cell_be t14 ko4_0
    replace ko4_1 := cell_be t14 ko4_1
    replace ko4_2 := cell_be t14 ko4_2
    have sz14 := t14.size
    replace o1 := o1.below t14
    replace o4 := o4.below t14
    clear t14
    have FK : ∀ w', Below u14.heap.size u14 w' → w'.cell? ⟨w.heap.size, 0, none⟩ = some (.int .i64 a0_0) ∧ w'.cell? ⟨w.heap.size, 1, none⟩ = some (.slice a0_1 len0_1 cap0_1) ∧ w'.cell? ⟨w.heap.size, 2, none⟩ = some (.slice a0_2 len0_2 cap0_2) ∧ w'.cell? ⟨w.heap.size + 1, 0, none⟩ = some (.int .i64 a1_0) ∧ w'.cell? ⟨w.heap.size + 1, 1, none⟩ = some (.slice a1_1 len1_1 cap1_1) ∧ w'.cell? ⟨w.heap.size + 1, 2, none⟩ = some (.slice a1_2 len1_2 cap1_2) := fun w' hb => ⟨cell_be hb f0_0, cell_be hb f0_1, cell_be hb f0_2, cell_be hb f1_0, cell_be hb f1_1, cell_be hb f1_2⟩
    go_wp2_with fail
    go_cut [17, 18] (fun sa sb wx => ∃ (q : Nat) (a' : Option Addr) (c' : Nat) (b' : Option Addr) (d' : Nat), sa = .pointer (some ⟨q, 0, none⟩) ∧ sb = .int .i64 (mrgC a0_0 (List.take len0_1 z0_1) (List.take len0_2 z0_2) a1_0 (List.take len1_1 z1_1) (List.take len1_2 z1_2) a2) ∧ Hid (wx.cell? ⟨q, 0, none⟩ = some (.int .i64 (mrgP a0_0 (List.take len0_1 z0_1) (List.take len0_2 z0_2) a1_0 (List.take len1_1 z1_1) (List.take len1_2 z1_2) a2))) ∧ Hid (wx.cell? ⟨q, 1, none⟩ = some (.slice a' (mrgV a0_0 (List.take len0_1 z0_1) (List.take len0_2 z0_2) a1_0 (List.take len1_1 z1_1) (List.take len1_2 z1_2) a2).length c')) ∧ Hid (wx.cell? ⟨q, 2, none⟩ = some (.slice b' (mrgU a0_0 (List.take len0_1 z0_1) (List.take len0_2 z0_2) a1_0 (List.take len1_1 z1_1) (List.take len1_2 z1_2) a2).length d')) ∧ q < wx.heap.size ∧ Hid (JZ u14.heap.size wx.heap.size wx a' (mrgV a0_0 (List.take len0_1 z0_1) (List.take len0_2 z0_2) a1_0 (List.take len1_1 z1_1) (List.take len1_2 z1_2) a2).length c' (mrgV a0_0 (List.take len0_1 z0_1) (List.take len0_2 z0_2) a1_0 (List.take len1_1 z1_1) (List.take len1_2 z1_2) a2) b' (mrgU a0_0 (List.take len0_1 z0_1) (List.take len0_2 z0_2) a1_0 (List.take len1_1 z1_1) (List.take len1_2 z1_2) a2).length d' (mrgU a0_0 (List.take len0_1 z0_1) (List.take len0_2 z0_2) a1_0 (List.take len1_1 z1_1) (List.take len1_2 z1_2) a2)) ∧ (mrgV a0_0 (List.take len0_1 z0_1) (List.take len0_2 z0_2) a1_0 (List.take len1_1 z1_1) (List.take len1_2 z1_2) a2).length ≤ 100000 ∧ (mrgU a0_0 (List.take len0_1 z0_1) (List.take len0_2 z0_2) a1_0 (List.take len1_1 z1_1) (List.take len1_2 z1_2) a2).length ≤ 100000 ∧ Hid (Below u14.heap.size u14 wx))
    case first =>
      have hm := (Below.refl u14.heap.size u14).drew
      refine region_E (fun w' => w'.cell? ⟨w.heap.size, 0, none⟩ = some (.int .i64 a0_0) ∧ w'.cell? ⟨w.heap.size, 1, none⟩ = some (.slice a0_1 len0_1 cap0_1) ∧ w'.cell? ⟨w.heap.size, 2, none⟩ = some (.slice a0_2 len0_2 cap0_2) ∧ w'.cell? ⟨w.heap.size + 1, 0, none⟩ = some (.int .i64 a1_0) ∧ w'.cell? ⟨w.heap.size + 1, 1, none⟩ = some (.slice a1_1 len1_1 cap1_1) ∧ w'.cell? ⟨w.heap.size + 1, 2, none⟩ = some (.slice a1_2 len1_2 cap1_2)) 100 (by kernel_rfl) (FK _ hm) ?_
      intro hS
      refine anyE_takeH 0 rfl (by kernel_rfl) (fun _ _ _ h => h) hS (by rfl) (v := ?_) ?_ ?_
      rotate_left
      · intro w' hSw; (try dsimp only at hSw); go_simp; (try with_reducible rfl)
      try simp only [Act.put, List.setIfInBounds_toArray, List.set_cons_zero, List.set_cons_succ]
      refine anyE_takeH 2 rfl (by kernel_rfl) (fun _ _ _ h => h) hS (by rfl) (v := ?_) ?_ ?_
      rotate_left
      · intro w' hSw; (try dsimp only at hSw); go_simp; (try with_reducible rfl)
      try simp only [Act.put, List.setIfInBounds_toArray, List.set_cons_zero, List.set_cons_succ]
      refine anyE_takeH 4 rfl (by kernel_rfl) (fun _ _ _ h => h) hS (by rfl) (v := ?_) ?_ ?_
      rotate_left
      · intro w' hSw; (try dsimp only at hSw); go_simp; (try with_reducible rfl)
      try simp only [Act.put, List.setIfInBounds_toArray, List.set_cons_zero, List.set_cons_succ]
      clear hS
      obtain ⟨v0, hv0⟩ : ∃ v, v = u14.drew := ⟨_, rfl⟩
      have zz0 : u14.heap.size ≤ v0.heap.size := by rw [hv0]; simp
      rw [← hv0] at hm ⊢
      clear hv0
      refine anyE_2L 1 9 (by kernel_rfl) rfl rfl (fun K' hK' => ?_) (fun K' hK' => ?_)
      · go_simp
        refine (toU _ _ _ _ _ _ _ _ _ _ ((s0_1.below B14).below hm) ((s0_2.below B14).below hm) (by omega) (by omega)).mono ?_
        rintro e v1 ⟨xx0, yy0, rfl, oo0, lx⟩
        dsimp only
        have zz1 := lx.size
        have hm := bnext hm lx
        clear lx
        refine hK'.out _ _ (FK _ hm) ?_
        clear hK' K'
        try simp only [Act.put, List.setIfInBounds_toArray, List.set_cons_zero, List.set_cons_succ]
        refine anyE_2L 3 9 (by kernel_rfl) rfl rfl (fun K' hK' => ?_) (fun K' hK' => ?_)
        · go_simp
          refine (toU _ _ _ _ _ _ _ _ _ _ ((s1_1.below B14).below hm) ((s1_2.below B14).below hm) (by omega) (by omega)).mono ?_
          rintro e v2 ⟨xx1, yy1, rfl, oo1, lx⟩
          dsimp only
          have zz2 := lx.size
          replace oo0 := oo0.below lx
          have hm := bnext hm lx
          clear lx
          refine hK'.out _ _ (FK _ hm) ?_
          clear hK' K'
          try simp only [Act.put, List.setIfInBounds_toArray, List.set_cons_zero, List.set_cons_succ]
          refine anyE_2L 5 9 (by kernel_rfl) rfl rfl (fun K' hK' => ?_) (fun K' hK' => ?_)
          · go_simp
            refine (implMergeRules _ _ _ _ _ _ _ _ _ _ _ _ _ _ _ _ _ _ _ _ (JZ.sl1 oo0) (JZ.sl2 oo0) (JZ.sl1 oo1) (JZ.sl2 oo1) (by omega) (by omega) (by omega) (by omega)).mono ?_
            rintro e v3 ⟨ra5, rc5, rb5, rd5, rfl, ro, rl, lx⟩
            dsimp only
            have zz3 := lx.size
            clear oo0 oo1
            have hm := bnext hm lx
            clear lx
            refine hK'.out _ _ (FK _ hm) ?_
            clear hK' K'
            try simp only [Act.put, List.setIfInBounds_toArray, List.set_cons_zero, List.set_cons_succ]
            have hS := FK _ hm
            refine anyE_takeH 6 rfl (by kernel_rfl) (fun _ _ _ h => h) hS (by rfl) (v := ?_) ?_ ?_
            rotate_left
            · intro w' hSw; (try dsimp only at hSw); go_simp; (try with_reducible rfl)
            try simp only [Act.put, List.setIfInBounds_toArray, List.set_cons_zero, List.set_cons_succ]
            refine anyE_takeH 7 rfl (by kernel_rfl) (fun _ _ _ h => h) hS (by rfl) (v := ?_) ?_ ?_
            rotate_left
            · intro w' hSw; (try dsimp only at hSw); go_simp; (try with_reducible rfl)
            try simp only [Act.put, List.setIfInBounds_toArray, List.set_cons_zero, List.set_cons_succ]
            refine anyE_takeH 8 rfl (by kernel_rfl) (fun _ _ _ h => h) hS (by rfl) (v := ?_) ?_ ?_
            rotate_left
            · intro w' hSw; (try dsimp only at hSw); go_simp; (try with_reducible rfl)
            try simp only [Act.put, List.setIfInBounds_toArray, List.set_cons_zero, List.set_cons_succ]
            clear hS
            refine anyE_oneL 9 (by kernel_rfl) rfl (fun K' hK' => ?_)
            go_simp
            obtain ⟨v4, hu⟩ : ∃ v, v = v3.alloc (.cells #[.int .i64 0, .slice none 0 0, .slice none 0 0] 52) := ⟨_, rfl⟩
            have lx : Below v3.heap.size v3 v4 := by rw [hu]; exact bl1 _ _
            have zq : ZR v4 v3.heap.size := by rw [hu]; exact heap_alloc_new _ _
            have zz4 : v3.heap.size + 1 ≤ v4.heap.size := by rw [hu]; simp
            rw [← hu]
            clear hu
            replace ro := ro.below lx
            have hq2 : u14.heap.size ≤ v3.heap.size := hm.size
            have hm := bnext hm lx
            clear lx
            refine hK'.out _ _ (FK _ hm) ?_
            clear hK' K'
            try simp only [Act.put, List.setIfInBounds_toArray, List.set_cons_zero, List.set_cons_succ]
            refine anyE_oneL 10 (by kernel_rfl) rfl (fun K' hK' => ?_)
            have z0 := zq.c0
            have x0 := zq.fr 0
            have z1 := zq.c1
            have x1 := zq.fr 1
            have z2 := zq.c2
            have x2 := zq.fr 2
            have hql := zq.lt
            have rj := hide (((ro.touch (touch_cell v4 v3.heap.size 0 (.int .i64 (mrgP a0_0 (List.take len0_1 z0_1) (List.take len0_2 z0_2) a1_0 (List.take len1_1 z1_1) (List.take len1_2 z1_2) a2))) (by omega)).touch (touch_cell _ v3.heap.size 1 (.slice ra5 (mrgV a0_0 (List.take len0_1 z0_1) (List.take len0_2 z0_2) a1_0 (List.take len1_1 z1_1) (List.take len1_2 z1_2) a2).length rc5)) (by omega)).touch (touch_cell _ v3.heap.size 2 (.slice rb5 (mrgU a0_0 (List.take len0_1 z0_1) (List.take len0_2 z0_2) a1_0 (List.take len1_1 z1_1) (List.take len1_2 z1_2) a2).length rd5)) (by omega))
            have hm2 := hide (((hm.setCell (p := ⟨v3.heap.size, 0, none⟩) hq2 (.int .i64 (mrgP a0_0 (List.take len0_1 z0_1) (List.take len0_2 z0_2) a1_0 (List.take len1_1 z1_1) (List.take len1_2 z1_2) a2))).setCell (p := ⟨v3.heap.size, 1, none⟩) hq2 (.slice ra5 (mrgV a0_0 (List.take len0_1 z0_1) (List.take len0_2 z0_2) a1_0 (List.take len1_1 z1_1) (List.take len1_2 z1_2) a2).length rc5)).setCell (p := ⟨v3.heap.size, 2, none⟩) hq2 (.slice rb5 (mrgU a0_0 (List.take len0_1 z0_1) (List.take len0_2 z0_2) a1_0 (List.take len1_1 z1_1) (List.take len1_2 z1_2) a2).length rd5))
            have j0 := hide (cell_set2' (cell_set2' (World.cell?_setCell_same _ _ (.int .i64 (mrgP a0_0 (List.take len0_1 z0_1) (List.take len0_2 z0_2) a1_0 (List.take len1_1 z1_1) (List.take len1_2 z1_2) a2)) z0) (show (1 : Nat) ≠ 0 by omega) (.slice ra5 (mrgV a0_0 (List.take len0_1 z0_1) (List.take len0_2 z0_2) a1_0 (List.take len1_1 z1_1) (List.take len1_2 z1_2) a2).length rc5)) (show (2 : Nat) ≠ 0 by omega) (.slice rb5 (mrgU a0_0 (List.take len0_1 z0_1) (List.take len0_2 z0_2) a1_0 (List.take len1_1 z1_1) (List.take len1_2 z1_2) a2).length rd5))
            have j1 := hide (cell_set2' (World.cell?_setCell_same _ _ (.slice ra5 (mrgV a0_0 (List.take len0_1 z0_1) (List.take len0_2 z0_2) a1_0 (List.take len1_1 z1_1) (List.take len1_2 z1_2) a2).length rc5) (cell_set2' z1 (show (0 : Nat) ≠ 1 by omega) (.int .i64 (mrgP a0_0 (List.take len0_1 z0_1) (List.take len0_2 z0_2) a1_0 (List.take len1_1 z1_1) (List.take len1_2 z1_2) a2)))) (show (2 : Nat) ≠ 1 by omega) (.slice rb5 (mrgU a0_0 (List.take len0_1 z0_1) (List.take len0_2 z0_2) a1_0 (List.take len1_1 z1_1) (List.take len1_2 z1_2) a2).length rd5))
            have j2 := hide (World.cell?_setCell_same _ _ (.slice rb5 (mrgU a0_0 (List.take len0_1 z0_1) (List.take len0_2 z0_2) a1_0 (List.take len1_1 z1_1) (List.take len1_2 z1_2) a2).length rd5) (cell_set2' (cell_set2' z2 (show (0 : Nat) ≠ 2 by omega) (.int .i64 (mrgP a0_0 (List.take len0_1 z0_1) (List.take len0_2 z0_2) a1_0 (List.take len1_1 z1_1) (List.take len1_2 z1_2) a2))) (show (1 : Nat) ≠ 2 by omega) (.slice ra5 (mrgV a0_0 (List.take len0_1 z0_1) (List.take len0_2 z0_2) a1_0 (List.take len1_1 z1_1) (List.take len1_2 z1_2) a2).length rc5)))
            have FF := hide (FK _ hm2.out)
            go_simp
            refine hK'.out _ _ FF.out ?_
            clear hK' K'
            try simp only [Act.put, List.setIfInBounds_toArray, List.set_cons_zero, List.set_cons_succ]
            refine anyE_oneL 11 (by kernel_rfl) rfl (fun K' hK' => ?_)
            go_simp
            refine hK'.out _ _ FF.out (anyE_doneL (by kernel_rfl) ?_)
            clear hK' K'
            try simp only [Act.put, List.setIfInBounds_toArray, List.set_cons_zero, List.set_cons_succ]
            go_wp2_with fail
            go_meet
            exact ⟨v3.heap.size, ra5, rc5, rb5, rd5, rfl, rfl, j0, j1, j2, (by first | omega | (simp; done) | (simp; omega)), hide (rj.out.mono (by omega) (by first | omega | (simp; done) | (simp; omega))), rl.1, rl.2, hm2⟩
          · go_simp
            obtain ⟨v7, hu⟩ : ∃ v, v = v2.alloc (.cells #[.int .i64 0, .slice none 0 0, .slice none 0 0] 52) := ⟨_, rfl⟩
            have lx : Below v2.heap.size v2 v7 := by rw [hu]; exact bl1 _ _
            have zq : ZR v7 v2.heap.size := by rw [hu]; exact heap_alloc_new _ _
            have zz7 : v2.heap.size + 1 ≤ v7.heap.size := by rw [hu]; simp
            rw [← hu]
            clear hu
            replace oo0 := oo0.below lx
            replace oo1 := oo1.below lx
            have hq2 : u14.heap.size ≤ v2.heap.size := hm.size
            have hm := bnext hm lx
            clear lx
            refine hK'.out _ _ (FK _ hm) ?_
            clear hK' K'
            try simp only [Act.put, List.setIfInBounds_toArray, List.set_cons_zero, List.set_cons_succ]
            refine anyE_oneL 5 (by kernel_rfl) rfl (fun K' hK' => ?_)
            go_simp
            refine (implMergeRules _ _ _ _ _ _ _ _ _ _ _ _ _ _ _ _ _ _ _ _ (JZ.sl1 oo0) (JZ.sl2 oo0) (JZ.sl1 oo1) (JZ.sl2 oo1) (by omega) (by omega) (by omega) (by omega)).mono ?_
            rintro e v8 ⟨ra5, rc5, rb5, rd5, rfl, ro, rl, lx⟩
            dsimp only
            have zz8 := lx.size
            clear oo0 oo1
            replace zq := zq.next lx
            have hm := bnext hm lx
            clear lx
            refine hK'.out _ _ (FK _ hm) ?_
            clear hK' K'
            try simp only [Act.put, List.setIfInBounds_toArray, List.set_cons_zero, List.set_cons_succ]
            have hS := FK _ hm
            refine anyE_takeH 6 rfl (by kernel_rfl) (fun _ _ _ h => h) hS (by rfl) (v := ?_) ?_ ?_
            rotate_left
            · intro w' hSw; (try dsimp only at hSw); go_simp; (try with_reducible rfl)
            try simp only [Act.put, List.setIfInBounds_toArray, List.set_cons_zero, List.set_cons_succ]
            refine anyE_takeH 7 rfl (by kernel_rfl) (fun _ _ _ h => h) hS (by rfl) (v := ?_) ?_ ?_
            rotate_left
            · intro w' hSw; (try dsimp only at hSw); go_simp; (try with_reducible rfl)
            try simp only [Act.put, List.setIfInBounds_toArray, List.set_cons_zero, List.set_cons_succ]
            refine anyE_takeH 8 rfl (by kernel_rfl) (fun _ _ _ h => h) hS (by rfl) (v := ?_) ?_ ?_
            rotate_left
            · intro w' hSw; (try dsimp only at hSw); go_simp; (try with_reducible rfl)
            try simp only [Act.put, List.setIfInBounds_toArray, List.set_cons_zero, List.set_cons_succ]
            clear hS
            refine anyE_oneL 10 (by kernel_rfl) rfl (fun K' hK' => ?_)
            have z0 := zq.c0
            have x0 := zq.fr 0
            have z1 := zq.c1
            have x1 := zq.fr 1
            have z2 := zq.c2
            have x2 := zq.fr 2
            have hql := zq.lt
            have rj := hide (((ro.touch (touch_cell v8 v2.heap.size 0 (.int .i64 (mrgP a0_0 (List.take len0_1 z0_1) (List.take len0_2 z0_2) a1_0 (List.take len1_1 z1_1) (List.take len1_2 z1_2) a2))) (by omega)).touch (touch_cell _ v2.heap.size 1 (.slice ra5 (mrgV a0_0 (List.take len0_1 z0_1) (List.take len0_2 z0_2) a1_0 (List.take len1_1 z1_1) (List.take len1_2 z1_2) a2).length rc5)) (by omega)).touch (touch_cell _ v2.heap.size 2 (.slice rb5 (mrgU a0_0 (List.take len0_1 z0_1) (List.take len0_2 z0_2) a1_0 (List.take len1_1 z1_1) (List.take len1_2 z1_2) a2).length rd5)) (by omega))
            have hm2 := hide (((hm.setCell (p := ⟨v2.heap.size, 0, none⟩) hq2 (.int .i64 (mrgP a0_0 (List.take len0_1 z0_1) (List.take len0_2 z0_2) a1_0 (List.take len1_1 z1_1) (List.take len1_2 z1_2) a2))).setCell (p := ⟨v2.heap.size, 1, none⟩) hq2 (.slice ra5 (mrgV a0_0 (List.take len0_1 z0_1) (List.take len0_2 z0_2) a1_0 (List.take len1_1 z1_1) (List.take len1_2 z1_2) a2).length rc5)).setCell (p := ⟨v2.heap.size, 2, none⟩) hq2 (.slice rb5 (mrgU a0_0 (List.take len0_1 z0_1) (List.take len0_2 z0_2) a1_0 (List.take len1_1 z1_1) (List.take len1_2 z1_2) a2).length rd5))
            have j0 := hide (cell_set2' (cell_set2' (World.cell?_setCell_same _ _ (.int .i64 (mrgP a0_0 (List.take len0_1 z0_1) (List.take len0_2 z0_2) a1_0 (List.take len1_1 z1_1) (List.take len1_2 z1_2) a2)) z0) (show (1 : Nat) ≠ 0 by omega) (.slice ra5 (mrgV a0_0 (List.take len0_1 z0_1) (List.take len0_2 z0_2) a1_0 (List.take len1_1 z1_1) (List.take len1_2 z1_2) a2).length rc5)) (show (2 : Nat) ≠ 0 by omega) (.slice rb5 (mrgU a0_0 (List.take len0_1 z0_1) (List.take len0_2 z0_2) a1_0 (List.take len1_1 z1_1) (List.take len1_2 z1_2) a2).length rd5))
            have j1 := hide (cell_set2' (World.cell?_setCell_same _ _ (.slice ra5 (mrgV a0_0 (List.take len0_1 z0_1) (List.take len0_2 z0_2) a1_0 (List.take len1_1 z1_1) (List.take len1_2 z1_2) a2).length rc5) (cell_set2' z1 (show (0 : Nat) ≠ 1 by omega) (.int .i64 (mrgP a0_0 (List.take len0_1 z0_1) (List.take len0_2 z0_2) a1_0 (List.take len1_1 z1_1) (List.take len1_2 z1_2) a2)))) (show (2 : Nat) ≠ 1 by omega) (.slice rb5 (mrgU a0_0 (List.take len0_1 z0_1) (List.take len0_2 z0_2) a1_0 (List.take len1_1 z1_1) (List.take len1_2 z1_2) a2).length rd5))
            have j2 := hide (World.cell?_setCell_same _ _ (.slice rb5 (mrgU a0_0 (List.take len0_1 z0_1) (List.take len0_2 z0_2) a1_0 (List.take len1_1 z1_1) (List.take len1_2 z1_2) a2).length rd5) (cell_set2' (cell_set2' z2 (show (0 : Nat) ≠ 2 by omega) (.int .i64 (mrgP a0_0 (List.take len0_1 z0_1) (List.take len0_2 z0_2) a1_0 (List.take len1_1 z1_1) (List.take len1_2 z1_2) a2))) (show (1 : Nat) ≠ 2 by omega) (.slice ra5 (mrgV a0_0 (List.take len0_1 z0_1) (List.take len0_2 z0_2) a1_0 (List.take len1_1 z1_1) (List.take len1_2 z1_2) a2).length rc5)))
            have FF := hide (FK _ hm2.out)
            go_simp
            refine hK'.out _ _ FF.out ?_
            clear hK' K'
            try simp only [Act.put, List.setIfInBounds_toArray, List.set_cons_zero, List.set_cons_succ]
            refine anyE_oneL 11 (by kernel_rfl) rfl (fun K' hK' => ?_)
            go_simp
            refine hK'.out _ _ FF.out (anyE_doneL (by kernel_rfl) ?_)
            clear hK' K'
            try simp only [Act.put, List.setIfInBounds_toArray, List.set_cons_zero, List.set_cons_succ]
            go_wp2_with fail
            go_meet
            exact ⟨v2.heap.size, ra5, rc5, rb5, rd5, rfl, rfl, j0, j1, j2, (by first | omega | (simp; done) | (simp; omega)), hide (rj.out.mono (by omega) (by first | omega | (simp; done) | (simp; omega))), rl.1, rl.2, hm2⟩
        · go_simp
          obtain ⟨v11, hu⟩ : ∃ v, v = v1.alloc (.cells #[.int .i64 0, .slice none 0 0, .slice none 0 0] 52) := ⟨_, rfl⟩
          have lx : Below v1.heap.size v1 v11 := by rw [hu]; exact bl1 _ _
          have zq : ZR v11 v1.heap.size := by rw [hu]; exact heap_alloc_new _ _
          have zz11 : v1.heap.size + 1 ≤ v11.heap.size := by rw [hu]; simp
          rw [← hu]
          clear hu
          replace oo0 := oo0.below lx
          have hq2 : u14.heap.size ≤ v1.heap.size := hm.size
          have hm := bnext hm lx
          clear lx
          refine hK'.out _ _ (FK _ hm) ?_
          clear hK' K'
          try simp only [Act.put, List.setIfInBounds_toArray, List.set_cons_zero, List.set_cons_succ]
          refine anyE_oneL 3 (by kernel_rfl) rfl (fun K' hK' => ?_)
          go_simp
          refine (toU _ _ _ _ _ _ _ _ _ _ ((s1_1.below B14).below hm) ((s1_2.below B14).below hm) (by omega) (by omega)).mono ?_
          rintro e v12 ⟨xx1, yy1, rfl, oo1, lx⟩
          dsimp only
          have zz12 := lx.size
          replace oo0 := oo0.below lx
          replace zq := zq.next lx
          have hm := bnext hm lx
          clear lx
          refine hK'.out _ _ (FK _ hm) ?_
          clear hK' K'
          try simp only [Act.put, List.setIfInBounds_toArray, List.set_cons_zero, List.set_cons_succ]
          refine anyE_oneL 5 (by kernel_rfl) rfl (fun K' hK' => ?_)
          go_simp
          refine (implMergeRules _ _ _ _ _ _ _ _ _ _ _ _ _ _ _ _ _ _ _ _ (JZ.sl1 oo0) (JZ.sl2 oo0) (JZ.sl1 oo1) (JZ.sl2 oo1) (by omega) (by omega) (by omega) (by omega)).mono ?_
          rintro e v13 ⟨ra5, rc5, rb5, rd5, rfl, ro, rl, lx⟩
          dsimp only
          have zz13 := lx.size
          clear oo0 oo1
          replace zq := zq.next lx
          have hm := bnext hm lx
          clear lx
          refine hK'.out _ _ (FK _ hm) ?_
          clear hK' K'
          try simp only [Act.put, List.setIfInBounds_toArray, List.set_cons_zero, List.set_cons_succ]
          have hS := FK _ hm
          refine anyE_takeH 6 rfl (by kernel_rfl) (fun _ _ _ h => h) hS (by rfl) (v := ?_) ?_ ?_
          rotate_left
          · intro w' hSw; (try dsimp only at hSw); go_simp; (try with_reducible rfl)
          try simp only [Act.put, List.setIfInBounds_toArray, List.set_cons_zero, List.set_cons_succ]
          refine anyE_takeH 7 rfl (by kernel_rfl) (fun _ _ _ h => h) hS (by rfl) (v := ?_) ?_ ?_
          rotate_left
          · intro w' hSw; (try dsimp only at hSw); go_simp; (try with_reducible rfl)
          try simp only [Act.put, List.setIfInBounds_toArray, List.set_cons_zero, List.set_cons_succ]
          refine anyE_takeH 8 rfl (by kernel_rfl) (fun _ _ _ h => h) hS (by rfl) (v := ?_) ?_ ?_
          rotate_left
          · intro w' hSw; (try dsimp only at hSw); go_simp; (try with_reducible rfl)
          try simp only [Act.put, List.setIfInBounds_toArray, List.set_cons_zero, List.set_cons_succ]
          clear hS
          refine anyE_oneL 10 (by kernel_rfl) rfl (fun K' hK' => ?_)
          have z0 := zq.c0
          have x0 := zq.fr 0
          have z1 := zq.c1
          have x1 := zq.fr 1
          have z2 := zq.c2
          have x2 := zq.fr 2
          have hql := zq.lt
          have rj := hide (((ro.touch (touch_cell v13 v1.heap.size 0 (.int .i64 (mrgP a0_0 (List.take len0_1 z0_1) (List.take len0_2 z0_2) a1_0 (List.take len1_1 z1_1) (List.take len1_2 z1_2) a2))) (by omega)).touch (touch_cell _ v1.heap.size 1 (.slice ra5 (mrgV a0_0 (List.take len0_1 z0_1) (List.take len0_2 z0_2) a1_0 (List.take len1_1 z1_1) (List.take len1_2 z1_2) a2).length rc5)) (by omega)).touch (touch_cell _ v1.heap.size 2 (.slice rb5 (mrgU a0_0 (List.take len0_1 z0_1) (List.take len0_2 z0_2) a1_0 (List.take len1_1 z1_1) (List.take len1_2 z1_2) a2).length rd5)) (by omega))
          have hm2 := hide (((hm.setCell (p := ⟨v1.heap.size, 0, none⟩) hq2 (.int .i64 (mrgP a0_0 (List.take len0_1 z0_1) (List.take len0_2 z0_2) a1_0 (List.take len1_1 z1_1) (List.take len1_2 z1_2) a2))).setCell (p := ⟨v1.heap.size, 1, none⟩) hq2 (.slice ra5 (mrgV a0_0 (List.take len0_1 z0_1) (List.take len0_2 z0_2) a1_0 (List.take len1_1 z1_1) (List.take len1_2 z1_2) a2).length rc5)).setCell (p := ⟨v1.heap.size, 2, none⟩) hq2 (.slice rb5 (mrgU a0_0 (List.take len0_1 z0_1) (List.take len0_2 z0_2) a1_0 (List.take len1_1 z1_1) (List.take len1_2 z1_2) a2).length rd5))
          have j0 := hide (cell_set2' (cell_set2' (World.cell?_setCell_same _ _ (.int .i64 (mrgP a0_0 (List.take len0_1 z0_1) (List.take len0_2 z0_2) a1_0 (List.take len1_1 z1_1) (List.take len1_2 z1_2) a2)) z0) (show (1 : Nat) ≠ 0 by omega) (.slice ra5 (mrgV a0_0 (List.take len0_1 z0_1) (List.take len0_2 z0_2) a1_0 (List.take len1_1 z1_1) (List.take len1_2 z1_2) a2).length rc5)) (show (2 : Nat) ≠ 0 by omega) (.slice rb5 (mrgU a0_0 (List.take len0_1 z0_1) (List.take len0_2 z0_2) a1_0 (List.take len1_1 z1_1) (List.take len1_2 z1_2) a2).length rd5))
          have j1 := hide (cell_set2' (World.cell?_setCell_same _ _ (.slice ra5 (mrgV a0_0 (List.take len0_1 z0_1) (List.take len0_2 z0_2) a1_0 (List.take len1_1 z1_1) (List.take len1_2 z1_2) a2).length rc5) (cell_set2' z1 (show (0 : Nat) ≠ 1 by omega) (.int .i64 (mrgP a0_0 (List.take len0_1 z0_1) (List.take len0_2 z0_2) a1_0 (List.take len1_1 z1_1) (List.take len1_2 z1_2) a2)))) (show (2 : Nat) ≠ 1 by omega) (.slice rb5 (mrgU a0_0 (List.take len0_1 z0_1) (List.take len0_2 z0_2) a1_0 (List.take len1_1 z1_1) (List.take len1_2 z1_2) a2).length rd5))
          have j2 := hide (World.cell?_setCell_same _ _ (.slice rb5 (mrgU a0_0 (List.take len0_1 z0_1) (List.take len0_2 z0_2) a1_0 (List.take len1_1 z1_1) (List.take len1_2 z1_2) a2).length rd5) (cell_set2' (cell_set2' z2 (show (0 : Nat) ≠ 2 by omega) (.int .i64 (mrgP a0_0 (List.take len0_1 z0_1) (List.take len0_2 z0_2) a1_0 (List.take len1_1 z1_1) (List.take len1_2 z1_2) a2))) (show (1 : Nat) ≠ 2 by omega) (.slice ra5 (mrgV a0_0 (List.take len0_1 z0_1) (List.take len0_2 z0_2) a1_0 (List.take len1_1 z1_1) (List.take len1_2 z1_2) a2).length rc5)))
          have FF := hide (FK _ hm2.out)
          go_simp
          refine hK'.out _ _ FF.out ?_
          clear hK' K'
          try simp only [Act.put, List.setIfInBounds_toArray, List.set_cons_zero, List.set_cons_succ]
          refine anyE_oneL 11 (by kernel_rfl) rfl (fun K' hK' => ?_)
          go_simp
          refine hK'.out _ _ FF.out (anyE_doneL (by kernel_rfl) ?_)
          clear hK' K'
          try simp only [Act.put, List.setIfInBounds_toArray, List.set_cons_zero, List.set_cons_succ]
          go_wp2_with fail
          go_meet
          exact ⟨v1.heap.size, ra5, rc5, rb5, rd5, rfl, rfl, j0, j1, j2, (by first | omega | (simp; done) | (simp; omega)), hide (rj.out.mono (by omega) (by first | omega | (simp; done) | (simp; omega))), rl.1, rl.2, hm2⟩
      · go_simp
        obtain ⟨v16, hu⟩ : ∃ v, v = v0.alloc (.cells #[.int .i64 0, .slice none 0 0, .slice none 0 0] 52) := ⟨_, rfl⟩
        have lx : Below v0.heap.size v0 v16 := by rw [hu]; exact bl1 _ _
        have zq : ZR v16 v0.heap.size := by rw [hu]; exact heap_alloc_new _ _
        have zz16 : v0.heap.size + 1 ≤ v16.heap.size := by rw [hu]; simp
        rw [← hu]
        clear hu
        have hq2 : u14.heap.size ≤ v0.heap.size := hm.size
        have hm := bnext hm lx
        clear lx
        refine hK'.out _ _ (FK _ hm) ?_
        clear hK' K'
        try simp only [Act.put, List.setIfInBounds_toArray, List.set_cons_zero, List.set_cons_succ]
        refine anyE_oneL 1 (by kernel_rfl) rfl (fun K' hK' => ?_)
        go_simp
        refine (toU _ _ _ _ _ _ _ _ _ _ ((s0_1.below B14).below hm) ((s0_2.below B14).below hm) (by omega) (by omega)).mono ?_
        rintro e v17 ⟨xx0, yy0, rfl, oo0, lx⟩
        dsimp only
        have zz17 := lx.size
        replace zq := zq.next lx
        have hm := bnext hm lx
        clear lx
        refine hK'.out _ _ (FK _ hm) ?_
        clear hK' K'
        try simp only [Act.put, List.setIfInBounds_toArray, List.set_cons_zero, List.set_cons_succ]
        refine anyE_oneL 3 (by kernel_rfl) rfl (fun K' hK' => ?_)
        go_simp
        refine (toU _ _ _ _ _ _ _ _ _ _ ((s1_1.below B14).below hm) ((s1_2.below B14).below hm) (by omega) (by omega)).mono ?_
        rintro e v18 ⟨xx1, yy1, rfl, oo1, lx⟩
        dsimp only
        have zz18 := lx.size
        replace oo0 := oo0.below lx
        replace zq := zq.next lx
        have hm := bnext hm lx
        clear lx
        refine hK'.out _ _ (FK _ hm) ?_
        clear hK' K'
        try simp only [Act.put, List.setIfInBounds_toArray, List.set_cons_zero, List.set_cons_succ]
        refine anyE_oneL 5 (by kernel_rfl) rfl (fun K' hK' => ?_)
        go_simp
        refine (implMergeRules _ _ _ _ _ _ _ _ _ _ _ _ _ _ _ _ _ _ _ _ (JZ.sl1 oo0) (JZ.sl2 oo0) (JZ.sl1 oo1) (JZ.sl2 oo1) (by omega) (by omega) (by omega) (by omega)).mono ?_
        rintro e v19 ⟨ra5, rc5, rb5, rd5, rfl, ro, rl, lx⟩
        dsimp only
        have zz19 := lx.size
        clear oo0 oo1
        replace zq := zq.next lx
        have hm := bnext hm lx
        clear lx
        refine hK'.out _ _ (FK _ hm) ?_
        clear hK' K'
        try simp only [Act.put, List.setIfInBounds_toArray, List.set_cons_zero, List.set_cons_succ]
        have hS := FK _ hm
        refine anyE_takeH 6 rfl (by kernel_rfl) (fun _ _ _ h => h) hS (by rfl) (v := ?_) ?_ ?_
        rotate_left
        · intro w' hSw; (try dsimp only at hSw); go_simp; (try with_reducible rfl)
        try simp only [Act.put, List.setIfInBounds_toArray, List.set_cons_zero, List.set_cons_succ]
        refine anyE_takeH 7 rfl (by kernel_rfl) (fun _ _ _ h => h) hS (by rfl) (v := ?_) ?_ ?_
        rotate_left
        · intro w' hSw; (try dsimp only at hSw); go_simp; (try with_reducible rfl)
        try simp only [Act.put, List.setIfInBounds_toArray, List.set_cons_zero, List.set_cons_succ]
        refine anyE_takeH 8 rfl (by kernel_rfl) (fun _ _ _ h => h) hS (by rfl) (v := ?_) ?_ ?_
        rotate_left
        · intro w' hSw; (try dsimp only at hSw); go_simp; (try with_reducible rfl)
        try simp only [Act.put, List.setIfInBounds_toArray, List.set_cons_zero, List.set_cons_succ]
        clear hS
        refine anyE_oneL 10 (by kernel_rfl) rfl (fun K' hK' => ?_)
        have z0 := zq.c0
        have x0 := zq.fr 0
        have z1 := zq.c1
        have x1 := zq.fr 1
        have z2 := zq.c2
        have x2 := zq.fr 2
        have hql := zq.lt
        have rj := hide (((ro.touch (touch_cell v19 v0.heap.size 0 (.int .i64 (mrgP a0_0 (List.take len0_1 z0_1) (List.take len0_2 z0_2) a1_0 (List.take len1_1 z1_1) (List.take len1_2 z1_2) a2))) (by omega)).touch (touch_cell _ v0.heap.size 1 (.slice ra5 (mrgV a0_0 (List.take len0_1 z0_1) (List.take len0_2 z0_2) a1_0 (List.take len1_1 z1_1) (List.take len1_2 z1_2) a2).length rc5)) (by omega)).touch (touch_cell _ v0.heap.size 2 (.slice rb5 (mrgU a0_0 (List.take len0_1 z0_1) (List.take len0_2 z0_2) a1_0 (List.take len1_1 z1_1) (List.take len1_2 z1_2) a2).length rd5)) (by omega))
        have hm2 := hide (((hm.setCell (p := ⟨v0.heap.size, 0, none⟩) hq2 (.int .i64 (mrgP a0_0 (List.take len0_1 z0_1) (List.take len0_2 z0_2) a1_0 (List.take len1_1 z1_1) (List.take len1_2 z1_2) a2))).setCell (p := ⟨v0.heap.size, 1, none⟩) hq2 (.slice ra5 (mrgV a0_0 (List.take len0_1 z0_1) (List.take len0_2 z0_2) a1_0 (List.take len1_1 z1_1) (List.take len1_2 z1_2) a2).length rc5)).setCell (p := ⟨v0.heap.size, 2, none⟩) hq2 (.slice rb5 (mrgU a0_0 (List.take len0_1 z0_1) (List.take len0_2 z0_2) a1_0 (List.take len1_1 z1_1) (List.take len1_2 z1_2) a2).length rd5))
        have j0 := hide (cell_set2' (cell_set2' (World.cell?_setCell_same _ _ (.int .i64 (mrgP a0_0 (List.take len0_1 z0_1) (List.take len0_2 z0_2) a1_0 (List.take len1_1 z1_1) (List.take len1_2 z1_2) a2)) z0) (show (1 : Nat) ≠ 0 by omega) (.slice ra5 (mrgV a0_0 (List.take len0_1 z0_1) (List.take len0_2 z0_2) a1_0 (List.take len1_1 z1_1) (List.take len1_2 z1_2) a2).length rc5)) (show (2 : Nat) ≠ 0 by omega) (.slice rb5 (mrgU a0_0 (List.take len0_1 z0_1) (List.take len0_2 z0_2) a1_0 (List.take len1_1 z1_1) (List.take len1_2 z1_2) a2).length rd5))
        have j1 := hide (cell_set2' (World.cell?_setCell_same _ _ (.slice ra5 (mrgV a0_0 (List.take len0_1 z0_1) (List.take len0_2 z0_2) a1_0 (List.take len1_1 z1_1) (List.take len1_2 z1_2) a2).length rc5) (cell_set2' z1 (show (0 : Nat) ≠ 1 by omega) (.int .i64 (mrgP a0_0 (List.take len0_1 z0_1) (List.take len0_2 z0_2) a1_0 (List.take len1_1 z1_1) (List.take len1_2 z1_2) a2)))) (show (2 : Nat) ≠ 1 by omega) (.slice rb5 (mrgU a0_0 (List.take len0_1 z0_1) (List.take len0_2 z0_2) a1_0 (List.take len1_1 z1_1) (List.take len1_2 z1_2) a2).length rd5))
        have j2 := hide (World.cell?_setCell_same _ _ (.slice rb5 (mrgU a0_0 (List.take len0_1 z0_1) (List.take len0_2 z0_2) a1_0 (List.take len1_1 z1_1) (List.take len1_2 z1_2) a2).length rd5) (cell_set2' (cell_set2' z2 (show (0 : Nat) ≠ 2 by omega) (.int .i64 (mrgP a0_0 (List.take len0_1 z0_1) (List.take len0_2 z0_2) a1_0 (List.take len1_1 z1_1) (List.take len1_2 z1_2) a2))) (show (1 : Nat) ≠ 2 by omega) (.slice ra5 (mrgV a0_0 (List.take len0_1 z0_1) (List.take len0_2 z0_2) a1_0 (List.take len1_1 z1_1) (List.take len1_2 z1_2) a2).length rc5)))
        have FF := hide (FK _ hm2.out)
        go_simp
        refine hK'.out _ _ FF.out ?_
        clear hK' K'
        try simp only [Act.put, List.setIfInBounds_toArray, List.set_cons_zero, List.set_cons_succ]
        refine anyE_oneL 11 (by kernel_rfl) rfl (fun K' hK' => ?_)
        go_simp
        refine hK'.out _ _ FF.out (anyE_doneL (by kernel_rfl) ?_)
        clear hK' K'
        try simp only [Act.put, List.setIfInBounds_toArray, List.set_cons_zero, List.set_cons_succ]
        go_wp2_with fail
        go_meet
        exact ⟨v0.heap.size, ra5, rc5, rb5, rd5, rfl, rfl, j0, j1, j2, (by first | omega | (simp; done) | (simp; omega)), hide (rj.out.mono (by omega) (by first | omega | (simp; done) | (simp; omega))), rl.1, rl.2, hm2⟩
    case rest =>
      obtain ⟨q15, ra5, rc5, rb5, rd5, rfl, rfl, k0, k1, k2, kq15, ho, l5, m5, hB⟩ := hcut
      obtain ⟨u15, hu⟩ : ∃ u, u = wc := ⟨wc, rfl⟩
      subst hu
      clear FK
      have t15 := hB.out
      have o5 := ho.out
      have ko5_0 := k0.out
      have ko5_1 := k1.out
      have ko5_2 := k2.out
      clear hB ho k0 k1 k2
      have B15 := bnext B14 t15
      have sz15 := t15.size
      replace f0_0 := cell_be t15 f0_0
      replace f0_1 := cell_be t15 f0_1
      replace f0_2 := cell_be t15 f0_2
      replace f1_0 := cell_be t15 f1_0
      replace f1_1 := cell_be t15 f1_1
      replace f1_2 := cell_be t15 f1_2
      replace ko1_0 := cell_be t15 ko1_0
      replace ko1_1 := cell_be t15 ko1_1
      replace ko1_2 := cell_be t15 ko1_2
      replace ko4_0 := cell_be t15 ko4_0
      replace ko4_1 := cell_be t15 ko4_1
      replace ko4_2 := cell_be t15 ko4_2
      replace o1 := o1.below t15
      replace o4 := o4.below t15
      clear t15
      go_wp2_with fail
      refine (eqU _ _ _ _ _ _ _ _ _ _ _ _ _ _ (JZ.sl1 o5) (JZ.sl1 o1) (JZ.sl2 o5) (JZ.sl2 o1) (by omega) (by omega)).mono ?_
      rintro e u16 ⟨rfl, t16⟩
      have B16 := bnext B15 t16
      replace f0_0 := cell_be t16 f0_0
      replace f0_1 := cell_be t16 f0_1
      replace f0_2 := cell_be t16 f0_2
      replace f1_0 := cell_be t16 f1_0
      replace f1_1 := cell_be t16 f1_1
      replace f1_2 := cell_be t16 f1_2
      replace ko1_0 := cell_be t16 ko1_0
      replace ko1_1 := cell_be t16 ko1_1
      replace ko1_2 := cell_be t16 ko1_2
      replace ko4_0 := cell_be t16 ko4_0
      replace ko4_1 := cell_be t16 ko4_1
      replace ko4_2 := cell_be t16 ko4_2
      replace ko5_0 := cell_be t16 ko5_0
      replace ko5_1 := cell_be t16 ko5_1
      replace ko5_2 := cell_be t16 ko5_2
      have sz16 := t16.size
      replace o1 := o1.below t16
      replace o4 := o4.below t16
      replace o5 := o5.below t16
      clear t16
      clear o5
      clear ko5_0
      clear ko5_1
      clear ko5_2
      go_wp2_with fail
      refine (heldU _ _ _ _ _ _ _ _ _ (JZ.sl1 o4) (JZ.sl2 o4) (by omega) (by omega) (by omega) (by omega)).mono ?_
      rintro e u17 ⟨rfl, t17⟩
      have B17 := bnext B16 t17
      replace f0_0 := cell_be t17 f0_0
      replace f0_1 := cell_be t17 f0_1
      replace f0_2 := cell_be t17 f0_2
      replace f1_0 := cell_be t17 f1_0
      replace f1_1 := cell_be t17 f1_1
      replace f1_2 := cell_be t17 f1_2
      replace ko1_0 := cell_be t17 ko1_0
      replace ko1_1 := cell_be t17 ko1_1
      replace ko1_2 := cell_be t17 ko1_2
      replace ko4_0 := cell_be t17 ko4_0
      replace ko4_1 := cell_be t17 ko4_1
      replace ko4_2 := cell_be t17 ko4_2
      have sz17 := t17.size
      replace o1 := o1.below t17
      replace o4 := o4.below t17
      clear t17
      go_wp2
      go_ret
      exact ⟨rfl, B17⟩

end Go.Proofs.Ytkpmonopjkjflaa.fnExactMergeRules

/- Contracts of the draws of numbers: l01From, l01Near, l01Any, DrawInverseOf, DrawPowerOf, DrawIsPrime. -/
import Derived.Test.YtjmhkodbkkdfdaaDr
namespace Go.Proofs.Ytjmhkodbkkdfdaa
open Go.RowKit
set_option linter.unusedVariables false
set_option linter.unusedSimpArgs false
set_option maxRecDepth 100000 in
set_option maxHeartbeats 1600000 in
theorem any_any (g : Nat) (a : Option Addr) (n c : Nat) (w : World) (h : Src w g a n c) :
    Calls Try.prog 106 #[.pointer (some ⟨g, 0, none⟩)] w (Drawn g a n c (fun v => -3 ≤ v ∧ v ≤ 10009) w) := by
  go_enter Try.func106, Try.ntmps106
  go_wp2_with fail
  refine (next_any g a n c 24 _ h (by omega)).mono ?_
  rintro e w1 ⟨r, rfl, ⟨r0, r1⟩, hs, hg⟩
  by_cases hr : r = 0
  · subst hr
    have hlt := hs.lt
    have hl := lit_sl w1 [0, 1, 4, 9, 10006, 10009, -3] (by simp)
    simp only [List.map_cons, List.map_nil, List.length_cons, List.length_nil] at hl
    have h2 := hs.below (bl1 w1 (.cells [Value.int .i64 0, Value.int .i64 1, Value.int .i64 4, Value.int .i64 9, Value.int .i64 10006, Value.int .i64 10009, Value.int .i64 (-3)].toArray 2))
    go_wp2_with fail
    refine (pick_any g a n c _ _ _ [0, 1, 4, 9, 10006, 10009, -3] _ h2 hl (by omega) (by omega) (by simp [blk]; omega)).mono ?_
    rintro e w2 ⟨v, rfl, hv, hs1, hg1⟩
    have hP : Hid (-3 ≤ v ∧ v ≤ 10009) := hide (by simp at hv; omega)
    clear hv
    go_wp2
    go_ret
    exact ⟨v, rfl, hP.out, hs1, grown_trans hg (grown_trans (World.grownBy_alloc _ _ _) hg1)⟩
  · have hr' : (r == 0) = false := by simpa using hr
    go_wp2_with fail
    refine (drawPrime_any g a n c _ hs).mono ?_
    rintro e w2 ⟨v, rfl, hv, hs1, hg1⟩
    have hP : Hid (-3 ≤ v ∧ v ≤ 10009) := hide (by have := primeB_lo hv; omega)
    clear hv
    go_wp2
    go_ret
    exact ⟨v, rfl, hP.out, hs1, grown_trans hg hg1⟩
set_option maxRecDepth 100000 in
set_option maxHeartbeats 1600000 in
theorem near_any (g : Nat) (a : Option Addr) (n c : Nat) (m : Int) (w : World) (h : Src w g a n c) (hm : 0 ≤ m) (hm2 : m ≤ 20000) :
    Calls Try.prog 109 #[.pointer (some ⟨g, 0, none⟩), .int .i64 m] w (Drawn g a n c (fun v => -4611686018427387904 ≤ v ∧ v ≤ 1099511627776) w) := by
  go_enter Try.func109, Try.ntmps109
  go_wp2_with fail
  refine (next_any g a n c 14 _ h (by omega)).mono ?_
  rintro e w1 ⟨r, rfl, ⟨r0, r1⟩, hs, hg⟩
  by_cases hr : r = 0
  · subst hr
    have hlt := hs.lt
    have hl := lit_sl w1 [-1, m + 1, 1099511627776, -4611686018427387904] (by simp)
    simp only [List.map_cons, List.map_nil, List.length_cons, List.length_nil] at hl
    have h2 := hs.below (bl1 w1 (.cells [Value.int .i64 (-1), Value.int .i64 (m + 1), Value.int .i64 1099511627776, Value.int .i64 (-4611686018427387904)].toArray 2))
    go_wp2_with fail
    refine (pick_any g a n c _ _ _ [-1, m + 1, 1099511627776, -4611686018427387904] _ h2 hl (by omega) (by omega) (by simp [blk]; omega)).mono ?_
    rintro e w2 ⟨v, rfl, hv, hs1, hg1⟩
    have hP : Hid (-4611686018427387904 ≤ v ∧ v ≤ 1099511627776) := hide (by simp at hv; omega)
    clear hv
    go_wp2
    go_ret
    exact ⟨v, rfl, hP.out, hs1, grown_trans hg (grown_trans (World.grownBy_alloc _ _ _) hg1)⟩
  · have hr' : (r == 0) = false := by simpa using hr
    go_wp2_with fail
    refine (next_any g a n c (m + 1) _ hs (by omega)).mono ?_
    rintro e w2 ⟨v, rfl, ⟨v0, v1⟩, hs1, hg1⟩
    have hP : Hid (-4611686018427387904 ≤ v ∧ v ≤ 1099511627776) := hide (by omega)
    go_wp2
    go_ret
    exact ⟨v, rfl, hP.out, hs1, grown_trans hg hg1⟩
set_option maxRecDepth 100000 in
set_option maxHeartbeats 3200000 in
theorem from_any (a : Option Addr) (n c : Nat) (w : World) (hb : SB w a n) (hn : n ≤ 4096) :
    Calls Try.prog 93 #[.slice a n c] w fun e w' => e = .returned (.pointer (some ⟨w.heap.size, 0, none⟩)) ∧ Src w' w.heap.size a n c ∧ Below w.heap.size w w' := by
  have hne : 0 < n → ∀ b, blk a = some b → b ≠ w.heap.size := fun h0 b h e => by
    rcases hb with hz | ⟨b', off, rfl, hc⟩
    · omega
    · obtain ⟨x, _, hx⟩ := hc 0 h0
      have : b' < w.heap.size := World.block_lt_of_cell? w _ hx
      simp only [blk, Option.some.injEq] at h
      omega
  go_enter Try.func93, Try.ntmps93
  go_wp2
  go_loopw [4] (fun iv wr => ∃ (k : Nat) (hh : Int), k ≤ n ∧ iv = .int .i64 k ∧ wr.cell? ⟨w.heap.size, 0, none⟩ = some (.slice a n c) ∧ wr.cell? ⟨w.heap.size, 1, none⟩ = some (.int .i64 0) ∧ wr.cell? ⟨w.heap.size, 2, none⟩ = some (.int .u64 hh) ∧
    wr.frozen? ⟨w.heap.size, 1, none⟩ = false ∧ wr.frozen? ⟨w.heap.size, 2, none⟩ = false ∧ Below w.heap.size w wr) (fun iv _ => n - (intOf iv).toNat)
  case atStart => exact ⟨0, _, by omega, rfl, by simp [go_sem], by simp [go_sem], by simp [go_sem]; rfl, by simp [go_sem], by simp [go_sem], bl1 _ _⟩
  case round =>
    obtain ⟨k, hh, hk, rfl, c0, c1, c2, f1, f2, hbr⟩ := hrel
    by_cases hkn : k < n
    · obtain ⟨b, off, rfl, hc⟩ : ∃ b off, a = some ⟨b, off, none⟩ ∧ ∀ j, j < n → ∃ x : Int, (0 ≤ x ∧ x ≤ 255) ∧ w.cell? ⟨b, off + j, none⟩ = some (.int .u8 x) := by
        rcases hb with h0 | h
        · omega
        · exact h
      obtain ⟨x, ⟨x0, x1⟩, hx⟩ := hc k hkn
      have hx2 := cell_be hbr hx
      have hbg := hne (by omega) b rfl
      clear hc hx
      have hkn' : (k : Int) < (n : Int) := by omega
      have hk4 : (k : Int) < 4096 := by omega
      go_wp2
      refine wp_region_still_tail 15 (by kernel_rfl) (by kernel_rfl) ?_
      simp only [List.take_succ_cons, List.take_zero, List.drop_succ_cons, List.drop_zero]
      repeat still_step
      refine wpStill_nil ?_
      go_wp2
      go_roundw
      case rel => exact ⟨k + 1, _, by omega, by go_num, cell_set2' (w := wr.drew) c0 (by simp) _, cell_set2' (w := wr.drew) c1 (by simp) _, World.cell?_setCell_same (w := wr.drew) _ _ c2, by simpa using f1, by simpa using f2, (hbr.drew).setCell (by simp) _⟩
      case measure => simp [intOf]; omega
    · have hkn' : ¬ (k : Int) < (n : Int) := by omega
      go_wp2
      go_ret
      exact ⟨rfl, ⟨c0, ⟨0, by omega, c1⟩, ⟨hh, c2⟩, f1, f2, hb.below hbr, hne, hn⟩, hbr⟩
theorem below_row {B : Nat} {w0 w w' : World} {g : Nat} (hb : Below B w0 w) (hg : w.grownBy w' (some g)) (h1 : B ≤ g) (h2 : B ≤ w.heap.size) : Below B w0 w' := hb.grown hg h2 (fun k hk => by cases hk; exact h1)
set_option maxRecDepth 100000 in
set_option maxHeartbeats 1600000 in
theorem drawInverse_any (a : Option Addr) (n c : Nat) (w : World) (hb : SB w a n) (hn : n ≤ 4096) :
    Calls Try.prog 50 #[.slice a n c] w fun e w' => ∃ p x : Int, e = .returned (.tuple #[.int .i64 p, .int .i64 x]) ∧ (-3 ≤ p ∧ p ≤ 10009) ∧ (-4611686018427387904 ≤ x ∧ x ≤ 1099511627777) ∧ Below w.heap.size w w' := by
  go_enter Try.func50, Try.ntmps50
  go_wp2_with fail
  refine (from_any a n c _ hb hn).mono ?_
  rintro e w1 ⟨rfl, hs1, hb1⟩
  go_wp2_with fail
  refine (any_any _ a n c _ hs1).mono ?_
  rintro e w2 ⟨p, rfl, ⟨p0, p1⟩, hs2, hg2⟩
  have hb2 := below_row hb1 hg2 (Nat.le_refl _) hb1.size
  by_cases hq : p - 2 < 0
  · go_wp2_with fail
    refine (near_any _ a n c 0 _ hs2 (by omega) (by omega)).mono ?_
    rintro e w3 ⟨v, rfl, ⟨v0, v1⟩, hs3, hg3⟩
    have hb3 := below_row hb2 hg3 (Nat.le_refl _) hb2.size
    go_wp2
    go_ret2
    exact ⟨p, 1 + v, rfl, ⟨p0, p1⟩, ⟨by omega, by omega⟩, hb3⟩
  · go_wp2_with fail
    refine (near_any _ a n c (p - 2) _ hs2 (by omega) (by omega)).mono ?_
    rintro e w3 ⟨v, rfl, ⟨v0, v1⟩, hs3, hg3⟩
    have hb3 := below_row hb2 hg3 (Nat.le_refl _) hb2.size
    go_wp2
    go_ret2
    exact ⟨p, 1 + v, rfl, ⟨p0, p1⟩, ⟨by omega, by omega⟩, hb3⟩
set_option maxRecDepth 100000 in
set_option maxHeartbeats 3200000 in
theorem drawPower_any (a : Option Addr) (n c : Nat) (w : World) (hb : SB w a n) (hn : n ≤ 4096) :
    Calls Try.prog 54 #[.slice a n c] w fun e w' => ∃ p x k : Int, e = .returned (.tuple #[.int .i64 p, .int .i64 x, .int .i64 k]) ∧ (-3 ≤ p ∧ p ≤ 10009) ∧ (-4611686018427387904 ≤ x ∧ x ≤ 1099511627776) ∧ (-1 ≤ k ∧ k ≤ 1000000001) ∧ Below w.heap.size w w' := by
  go_enter Try.func54, Try.ntmps54
  go_wp2_with fail
  refine (from_any a n c _ hb hn).mono ?_
  rintro e w1 ⟨rfl, hs1, hb1⟩
  go_wp2_with fail
  refine (any_any _ a n c _ hs1).mono ?_
  rintro e w2 ⟨p, rfl, ⟨p0, p1⟩, hs2, hg2⟩
  have hb2 := below_row hb1 hg2 (Nat.le_refl _) hb1.size
  obtain ⟨q, hq, q0, q1⟩ : ∃ q : Int, (if p - 1 < 0 then 0 else p - 1) = q ∧ 0 ≤ q ∧ q ≤ 20000 := ⟨_, rfl, by split <;> omega, by split <;> omega⟩
  by_cases hp : p - 1 < 0
  all_goals
    first
      | rw [if_pos hp] at hq
      | rw [if_neg hp] at hq
    have Hq := hide hq
    have hq0 : Hid True := hide trivial
    clear hq
    go_wp2_with fail
    refine (near_any _ a n c _ _ hs2 (by omega) (by omega)).mono ?_
    rintro e w3 ⟨v, rfl, ⟨v0, v1⟩, hs3, hg3⟩
    have hb3 := below_row hb2 hg3 (Nat.le_refl _) hb2.size
    go_wp2_with fail
    refine (next_any _ a n c 100 _ hs3 (by omega)).mono ?_
    rintro e w4 ⟨r, rfl, ⟨r0, r1⟩, hs4, hg4⟩
    have hb4 := below_row hb3 hg4 (Nat.le_refl _) hb3.size
    go_wp2_with fail
    refine (next_any _ a n c 10000000 _ hs4 (by omega)).mono ?_
    rintro e w5 ⟨t, rfl, ⟨t0, t1⟩, hs5, hg5⟩
    have hb5 := below_row hb4 hg5 (Nat.le_refl _) hb4.size
    have hlt := hs5.lt
    have hl := lit_sl w5 [0, 1, 2, r, t * 100, -1, 1000000001] (by simp)
    simp only [List.map_cons, List.map_nil, List.length_cons, List.length_nil] at hl
    have hba := bl1 w5 (.cells [Value.int .i64 0, Value.int .i64 1, Value.int .i64 2, Value.int .i64 r, Value.int .i64 (t * 100), Value.int .i64 (-1), Value.int .i64 1000000001].toArray 2)
    go_wp2_with fail
    refine (pick_any _ a n c _ _ _ [0, 1, 2, r, t * 100, -1, 1000000001] _ (hs5.below hba) hl (by omega) (by omega) (by simp [blk]; omega)).mono ?_
    rintro e w6 ⟨k, rfl, hk, hs6, hg6⟩
    have hP : Hid (-1 ≤ k ∧ k ≤ 1000000001) := hide (by simp at hk; omega)
    have hb6 := below_row (hb5.trans (hba.mono hb5.size)) hg6 (Nat.le_refl _) (by have := hb5.size; simp; omega)
    clear hk
    go_wp2
    go_ret3
    exact ⟨p, v, k, rfl, ⟨p0, p1⟩, ⟨v0, v1⟩, hP.out, hb6⟩
set_option maxRecDepth 100000 in
set_option maxHeartbeats 3200000 in
theorem drawIsPrime_any (a : Option Addr) (n c : Nat) (w : World) (hb : SB w a n) (hn : n ≤ 4096) :
    Calls Try.prog 56 #[.slice a n c] w fun e w' => ∃ x : Int, e = .returned (.int .i64 x) ∧ Below w.heap.size w w' := by
  go_enter Try.func56, Try.ntmps56
  go_wp2_with fail
  refine (from_any a n c _ hb hn).mono ?_
  rintro e w1 ⟨rfl, hs1, hb1⟩
  go_wp2_with fail
  refine (next_any _ a n c 200 _ hs1 (by omega)).mono ?_
  rintro e w2 ⟨r, rfl, ⟨r0, r1⟩, hs2, hg2⟩
  have hb2 := below_row hb1 hg2 (Nat.le_refl _) hb1.size
  go_wp2_with fail
  refine (next_any _ a n c 10010 _ hs2 (by omega)).mono ?_
  rintro e w3 ⟨t, rfl, ⟨t0, t1⟩, hs3, hg3⟩
  have hb3 := below_row hb2 hg3 (Nat.le_refl _) hb2.size
  go_wp2_with fail
  refine (drawPrime_any _ a n c _ hs3).mono ?_
  rintro e w4 ⟨u, rfl, hu, hs4, hg4⟩
  have hu' := hide hu
  have hb4 := below_row hb3 hg4 (Nat.le_refl _) hb3.size
  clear hu
  go_wp2_with fail
  refine (any_any _ a n c _ hs4).mono ?_
  rintro e w5 ⟨v, rfl, ⟨v0, v1⟩, hs5, hg5⟩
  have hb5 := below_row hb4 hg5 (Nat.le_refl _) hb4.size
  have hlt := hs5.lt
  have hl := lit_sl w5 [r, t, u, v] (by simp)
  simp only [List.map_cons, List.map_nil, List.length_cons, List.length_nil] at hl
  have hba := bl1 w5 (.cells [Value.int .i64 r, Value.int .i64 t, Value.int .i64 u, Value.int .i64 v].toArray 2)
  go_wp2_with fail
  refine (pick_any _ a n c _ _ _ [r, t, u, v] _ (hs5.below hba) hl (by omega) (by omega) (by simp [blk]; omega)).mono ?_
  rintro e w6 ⟨k, rfl, hk, hs6, hg6⟩
  have hb6 := below_row (hb5.trans (hba.mono hb5.size)) hg6 (Nat.le_refl _) (by have := hb5.size; simp; omega)
  clear hk
  go_wp2
  go_ret
  exact ⟨k, rfl, hb6⟩
end Go.Proofs.Ytjmhkodbkkdfdaa

/- Contracts: the draws of FnPolynomials; likeInts. -/
import Derived.Test.YtjmhkodbkkdfdaaWn
namespace Go.Proofs.Ytjmhkodbkkdfdaa
open Go.RowKit
set_option linter.unusedVariables false
set_option linter.unusedSimpArgs false
set_option maxRecDepth 100000 in
set_option maxHeartbeats 1600000 in
theorem drawDivide_any (a : Option Addr) (n c : Nat) (w : World) (hb : SB w a n) (hn : n ≤ 4096) :
    Calls Try.prog 28 #[.slice a n c] w fun e w' => ∃ (p : Int) (a1 : Option Addr) (c1 : Nat) (xs : List Int) (a2 : Option Addr) (c2 : Nat) (ys : List Int), e = .returned (.tuple #[.int .i64 p, .slice a1 xs.length c1, .slice a2 ys.length c2]) ∧
      SL w' a1 xs.length c1 xs ∧ xs.length ≤ 100 ∧ SL w' a2 ys.length c2 ys ∧ ys.length ≤ 100 ∧ Below w.heap.size w w' := by
  go_enter Try.func28, Try.ntmps28
  go_wp2_with fail
  refine (from_any a n c _ hb hn).mono ?_
  rintro e w1 ⟨rfl, hs1, hb1⟩
  go_wp2_with fail
  refine (two_any _ a n c _ hs1).mono ?_
  rintro e w2 ⟨p, a1, c1, xs, a2, c2, ys, rfl, _, hO1, hL1, hO2, hL2, hs2, hg2⟩
  have hb2 := below_row hb1 hg2 (Nat.le_refl _) hb1.size
  go_wp2
  go_ret3
  exact ⟨p, a1, c1, xs, a2, c2, ys, rfl, hO1.sl, hL1, hO2.sl, hL2, hb2⟩
set_option maxRecDepth 100000 in
set_option maxHeartbeats 1600000 in
theorem drawGcd_any (a : Option Addr) (n c : Nat) (w : World) (hb : SB w a n) (hn : n ≤ 4096) :
    Calls Try.prog 36 #[.slice a n c] w fun e w' => ∃ (p : Int) (a1 : Option Addr) (c1 : Nat) (xs : List Int) (a2 : Option Addr) (c2 : Nat) (ys : List Int), e = .returned (.tuple #[.int .i64 p, .slice a1 xs.length c1, .slice a2 ys.length c2]) ∧
      SL w' a1 xs.length c1 xs ∧ xs.length ≤ 100 ∧ SL w' a2 ys.length c2 ys ∧ ys.length ≤ 100 ∧ Below w.heap.size w w' := by
  go_enter Try.func36, Try.ntmps36
  go_wp2_with fail
  refine (from_any a n c _ hb hn).mono ?_
  rintro e w1 ⟨rfl, hs1, hb1⟩
  go_wp2_with fail
  refine (two_any _ a n c _ hs1).mono ?_
  rintro e w2 ⟨p, a1, c1, xs, a2, c2, ys, rfl, _, hO1, hL1, hO2, hL2, hs2, hg2⟩
  have hb2 := below_row hb1 hg2 (Nat.le_refl _) hb1.size
  go_wp2
  go_ret3
  exact ⟨p, a1, c1, xs, a2, c2, ys, rfl, hO1.sl, hL1, hO2.sl, hL2, hb2⟩
set_option maxRecDepth 100000 in
set_option maxHeartbeats 1600000 in
theorem drawMultiply_any (a : Option Addr) (n c : Nat) (w : World) (hb : SB w a n) (hn : n ≤ 4096) :
    Calls Try.prog 39 #[.slice a n c] w fun e w' => ∃ (p : Int) (a1 : Option Addr) (c1 : Nat) (xs : List Int) (a2 : Option Addr) (c2 : Nat) (ys : List Int), e = .returned (.tuple #[.int .i64 p, .slice a1 xs.length c1, .slice a2 ys.length c2]) ∧
      SL w' a1 xs.length c1 xs ∧ xs.length ≤ 100 ∧ SL w' a2 ys.length c2 ys ∧ ys.length ≤ 100 ∧ Below w.heap.size w w' := by
  go_enter Try.func39, Try.ntmps39
  go_wp2_with fail
  refine (from_any a n c _ hb hn).mono ?_
  rintro e w1 ⟨rfl, hs1, hb1⟩
  go_wp2_with fail
  refine (next_any _ a n c 4 _ hs1 (by omega)).mono ?_
  rintro e w2 ⟨t, rfl, ⟨t0, t1⟩, hs2, hg2⟩
  have hb2 := below_row hb1 hg2 (Nat.le_refl _) hb1.size
  by_cases ht : t = 0
  · subst ht
    go_wp2_with fail
    refine (drawPrime_any _ a n c _ hs2).mono ?_
    rintro e w3 ⟨q, rfl, hq, hs3, hg3⟩
    obtain ⟨q1, q2⟩ := primeB_lo hq
    have hb3 := below_row hb2 hg3 (Nat.le_refl _) hb2.size
    clear hq
    go_wp2_with fail
    refine (drawPoly_any _ a n c q 20 _ hs3 (by omega) (by omega) (by omega)).mono ?_
    rintro e w4 ⟨a4, c4, xs, rfl, hO4, hA4, hL4, hs4, hg4⟩
    have hb4 := below_row hb3 hg4 (Nat.le_refl _) hb3.size
    have hlt := hs3.lt
    clear hA4
    go_wp2_with fail
    refine (drawPoly_any _ a n c q 12 _ hs4 (by omega) (by omega) (by omega)).mono ?_
    rintro e w5 ⟨a5, c5, ys, rfl, hO5, hA5, hL5, hs5, hg5⟩
    have hb5 := below_row hb4 hg5 (Nat.le_refl _) hb4.size
    have hX := hO4.gk hg5 hlt
    clear hA5
    go_wp2
    go_ret3
    exact ⟨q, a4, c4, xs, a5, c5, ys, rfl, hX.sl, by omega, hO5.sl, by omega, hb5⟩
  · have ht' : (t == 0) = false := by simpa using ht
    go_wp2_with fail
    refine (two_any _ a n c _ hs2).mono ?_
    rintro e w3 ⟨p, a1, c1, xs, a2, c2, ys, rfl, _, hO1, hL1, hO2, hL2, hs3, hg3⟩
    have hb3 := below_row hb2 hg3 (Nat.le_refl _) hb2.size
    go_wp2
    go_ret3
    exact ⟨p, a1, c1, xs, a2, c2, ys, rfl, hO1.sl, hL1, hO2.sl, hL2, hb3⟩
set_option maxRecDepth 100000 in
set_option maxHeartbeats 1600000 in
theorem drawAdd_any (a : Option Addr) (n c : Nat) (w : World) (hb : SB w a n) (hn : n ≤ 4096) :
    Calls Try.prog 45 #[.slice a n c] w fun e w' => ∃ (p k : Int) (a1 : Option Addr) (c1 : Nat) (xs : List Int) (a2 : Option Addr) (c2 : Nat) (ys : List Int), e = .returned (.tuple #[.int .i64 p, .slice a1 xs.length c1, .slice a2 ys.length c2, .int .i64 k]) ∧
      SL w' a1 xs.length c1 xs ∧ xs.length ≤ 100 ∧ SL w' a2 ys.length c2 ys ∧ ys.length ≤ 100 ∧ Below w.heap.size w w' := by
  go_enter Try.func45, Try.ntmps45
  go_wp2_with fail
  refine (from_any a n c _ hb hn).mono ?_
  rintro e w1 ⟨rfl, hs1, hb1⟩
  go_wp2_with fail
  refine (two_any _ a n c _ hs1).mono ?_
  rintro e w2 ⟨p, a1, c1, xs, a2, c2, ys, rfl, ⟨p0, p1⟩, hO1, hL1, hO2, hL2, hs2, hg2⟩
  have hb2 := below_row hb1 hg2 (Nat.le_refl _) hb1.size
  have hlt := hs1.lt
  by_cases hq : p - 1 < 0
  all_goals
    go_wp2_with fail
    refine (near_any _ a n c _ _ hs2 (by omega) (by omega)).mono ?_
    rintro e w3 ⟨k, rfl, ⟨k0, k1⟩, hs3, hg3⟩
    have hb3 := below_row hb2 hg3 (Nat.le_refl _) hb2.size
    have hX := hO1.gk hg3 hlt
    have hY := hO2.gk hg3 hlt
    go_wp2
    refine bodyPost_ret (v := .tuple #[.int .i64 p, .slice a1 xs.length c1, .slice a2 ys.length c2, .int .i64 k]) (by simp [results, Try.results45, go_sem]) rfl ?_
    exact ⟨p, k, a1, c1, xs, a2, c2, ys, rfl, hX.sl, hL1, hY.sl, hL2, hb3⟩
set_option maxRecDepth 100000 in
set_option maxHeartbeats 1600000 in
theorem drawPowerPoly_any (a : Option Addr) (n c : Nat) (w : World) (hb : SB w a n) (hn : n ≤ 4096) :
    Calls Try.prog 41 #[.slice a n c] w fun e w' => ∃ (p k : Int) (a1 : Option Addr) (c1 : Nat) (xs : List Int), e = .returned (.tuple #[.int .i64 p, .slice a1 xs.length c1, .int .i64 k]) ∧
      SL w' a1 xs.length c1 xs ∧ xs.length ≤ 100 ∧ Below w.heap.size w w' := by
  go_enter Try.func41, Try.ntmps41
  go_wp2_with fail
  refine (from_any a n c _ hb hn).mono ?_
  rintro e w1 ⟨rfl, hs1, hb1⟩
  go_wp2_with fail
  refine (any_any _ a n c _ hs1).mono ?_
  rintro e w2 ⟨p, rfl, ⟨p0, p1⟩, hs2, hg2⟩
  have hb2 := below_row hb1 hg2 (Nat.le_refl _) hb1.size
  have hl2 := lit_sl w2 [0, 1, 2, 4, 12] (by simp)
  simp only [List.map_cons, List.map_nil, List.length_cons, List.length_nil] at hl2
  have hba := bl1 w2 (.cells [Value.int .i64 0, Value.int .i64 1, Value.int .i64 2, Value.int .i64 4, Value.int .i64 12].toArray 2)
  have hlt := hs2.lt
  by_cases hq : p < 1
  all_goals
    go_wp2_with fail
    refine (pick_any _ a n c _ _ _ [0, 1, 2, 4, 12] _ (hs2.below hba) hl2 (by omega) (by omega) (by simp [blk]; omega)).mono ?_
    rintro e w3 ⟨m, rfl, hm, hs3, hg3⟩
    have hm2 : 0 ≤ m ∧ m ≤ 24 := by simp at hm; omega
    have hb3 := below_row (hb2.trans (hba.mono hb2.size)) hg3 (Nat.le_refl _) (by have := hb2.size; simp; omega)
    clear hm
    go_wp2_with fail
    refine (drawPoly_any _ a n c _ m _ hs3 (by omega) hm2.1 hm2.2).mono ?_
    rintro e w4 ⟨a4, c4, xs, rfl, hO4, hA, hL4, hs4, hg4⟩
    have hb4 := below_row hb3 hg4 (Nat.le_refl _) hb3.size
    have hlt3 := hs3.lt
    have hz4 := hg4.size
    clear hA
    go_wp2_with fail
    refine (bad_any _ w3.heap.size a n c p _ _ xs _ hs4 p0 p1 hO4 hlt3 hz4 (by omega)).mono ?_
    rintro e w5 ⟨a5, c5, ys, rfl, hO5, hL5, hs5, hg5⟩
    have hb5 := below_row hb4 hg5 (Nat.le_refl _) hb4.size
    go_wp2_with fail
    refine (near_any _ a n c 24 _ hs5 (by omega) (by omega)).mono ?_
    rintro e w6 ⟨v, rfl, ⟨v0, v1⟩, hs6, hg6⟩
    have hb6 := below_row hb5 hg6 (Nat.le_refl _) hb5.size
    have hX := hide (hO5.gk hg6 hlt3)
    have hl6 := lit_sl w6 [0, 1, 2, 3, v] (by simp)
    simp only [List.map_cons, List.map_nil, List.length_cons, List.length_nil] at hl6
    have hba6 := bl1 w6 (.cells [Value.int .i64 0, Value.int .i64 1, Value.int .i64 2, Value.int .i64 3, Value.int .i64 v].toArray 2)
    have hX2 := hide (hX.out.below hba6)
    have hlt6 := hs6.lt
    go_wp2_with fail
    refine (pick_any _ a n c _ _ _ [0, 1, 2, 3, v] _ (hs6.below hba6) hl6 (by omega) (by omega) (by simp [blk]; omega)).mono ?_
    rintro e w7 ⟨k, rfl, hk, hs7, hg7⟩
    have hb7 := below_row (hb6.trans (hba6.mono hb6.size)) hg7 (Nat.le_refl _) (by have := hb6.size; simp; omega)
    have hX3 := hX2.out.gk hg7 hlt3
    clear hk
    go_wp2
    go_ret3
    exact ⟨p, k, a5, c5, ys, rfl, hX3.sl, hL5, hb7⟩
set_option maxRecDepth 100000 in
set_option maxHeartbeats 1600000 in
theorem drawMonic_any (a : Option Addr) (n c : Nat) (w : World) (hb : SB w a n) (hn : n ≤ 4096) :
    Calls Try.prog 42 #[.slice a n c] w fun e w' => ∃ (p : Int) (a1 : Option Addr) (c1 : Nat) (xs : List Int), e = .returned (.tuple #[.int .i64 p, .slice a1 xs.length c1]) ∧
      SL w' a1 xs.length c1 xs ∧ xs.length ≤ 100 ∧ Below w.heap.size w w' := by
  go_enter Try.func42, Try.ntmps42
  go_wp2_with fail
  refine (from_any a n c _ hb hn).mono ?_
  rintro e w1 ⟨rfl, hs1, hb1⟩
  go_wp2_with fail
  refine (one_any _ a n c _ hs1).mono ?_
  rintro e w2 ⟨p, a1, c1, xs, rfl, hO1, hL1, hs2, hg2⟩
  have hb2 := below_row hb1 hg2 (Nat.le_refl _) hb1.size
  go_wp2
  go_ret2
  exact ⟨p, a1, c1, xs, rfl, hO1.sl, hL1, hb2⟩
set_option maxRecDepth 100000 in
set_option maxHeartbeats 1600000 in
theorem drawDerivative_any (a : Option Addr) (n c : Nat) (w : World) (hb : SB w a n) (hn : n ≤ 4096) :
    Calls Try.prog 47 #[.slice a n c] w fun e w' => ∃ (p : Int) (a1 : Option Addr) (c1 : Nat) (xs : List Int), e = .returned (.tuple #[.int .i64 p, .slice a1 xs.length c1]) ∧
      SL w' a1 xs.length c1 xs ∧ xs.length ≤ 100 ∧ Below w.heap.size w w' := by
  go_enter Try.func47, Try.ntmps47
  go_wp2_with fail
  refine (from_any a n c _ hb hn).mono ?_
  rintro e w1 ⟨rfl, hs1, hb1⟩
  go_wp2_with fail
  refine (one_any _ a n c _ hs1).mono ?_
  rintro e w2 ⟨p, a1, c1, xs, rfl, hO1, hL1, hs2, hg2⟩
  have hb2 := below_row hb1 hg2 (Nat.le_refl _) hb1.size
  go_wp2
  go_ret2
  exact ⟨p, a1, c1, xs, rfl, hO1.sl, hL1, hb2⟩
set_option maxRecDepth 100000 in
set_option maxHeartbeats 800000 in
theorem likeI (a b : Option Addr) (n c d : Nat) (xs : List Int) (w : World) (h1 : SL w a n c xs) (h2 : SL w b n d xs) (hn : n ≤ 4000000) :
    Calls Try.prog 31 #[.slice a n c, .slice b n d] w fun e w' => e = .returned (.bool true) ∧ Below w.heap.size w w' := by
  by_cases h0 : n = 0
  · subst h0
    go_enter Try.func31, Try.ntmps31
    go_wp2
    refine wp_loop_rounds 1 ?_
    rw [rounds_succ]
    go_wp2
    go_ret
    exact ⟨rfl, Below.refl _ _⟩
  obtain ⟨b1, o1, rfl, hb1, hc1⟩ := h1.at (by omega)
  obtain ⟨b2, o2, rfl, hb2, hc2⟩ := h2.at (by omega)
  clear h1 h2
  go_enter Try.func31, Try.ntmps31
  go_wp2
  go_loopw [5] (fun i wr => ∃ k : Nat, k ≤ n ∧ i = .int .i64 k ∧ Below w.heap.size w wr) (fun i _ => n - (intOf i).toNat)
  case atStart => exact ⟨0, by omega, rfl, Below.refl _ _⟩
  case round =>
    obtain ⟨k, hk, rfl, hbr⟩ := hrel
    by_cases hlt : k < n
    · have e1 : wr.cell? ⟨b1, o1 + k, none⟩ = some (.int .i64 (xs.getD k 0)) := (hbr.cell (p := ⟨b1, o1 + k, none⟩) hb1).trans (hc1 k hlt)
      have e2 : wr.cell? ⟨b2, o2 + k, none⟩ = some (.int .i64 (xs.getD k 0)) := (hbr.cell (p := ⟨b2, o2 + k, none⟩) hb2).trans (hc2 k hlt)
      clear hc1 hc2
      have hlt' : (k : Int) < (n : Int) := by omega
      go_wp2
      go_quiet (fail)
      go_wp2
      go_roundw
      case rel => exact ⟨k + 1, by omega, by go_num, below_drewN hbr _⟩
      case measure => simp [intOf]; omega
    · obtain rfl : k = n := by omega
      go_wp2
      go_ret
      exact ⟨rfl, hbr⟩
end Go.Proofs.Ytjmhkodbkkdfdaa

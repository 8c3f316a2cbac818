/- Contracts: groundOf, plainGround, count, CountPaths, CountLevelPaths, BallotNumber, PathSum (program). -/
import Derived.Test.YtcadiepghhnbeaaXb
import Derived.Test.YtcadiepghhnbeaaXd
namespace Go.Proofs.Ytcadiepghhnbeaa
open Go.RowKit
set_option linter.unusedVariables false
set_option linter.unusedSimpArgs false

theorem SL.lit1 (w : World) (v : Int) : SL (w.alloc (.cells #[.int .i64 v] 2)) (some ⟨w.heap.size, 0, none⟩) 1 1 [v] := by
  refine ⟨rfl, ⟨Nat.le_refl _, fun h => by cases h⟩, .inr ⟨_, _, rfl, fun j hj => ?_⟩⟩
  obtain rfl : j = 0 := by omega
  simp [go_sem]
set_option maxHeartbeats 800000 in
theorem groundOf_any (p : Int) (a : Option Addr) (n c : Nat) (b : Option Addr) (m d : Nat) (w : World) :
    Calls Try.prog 60 #[jac p a n c b m d] w fun e w' => e = .returned (jac p a n c b m d) ∧ Below w.heap.size w w' := by
  go_enter Try.func60, Try.ntmps60
  go_wp2
  refine bodyPost_ret (v := jac p a n c b m d) (by simp [results, Try.results60, go_sem]) rfl ⟨rfl, ?_⟩
  exact bl2 _ _ _
/-- the ground of counts -/
abbrev cntP : Int := 1099511627776
def cntL (m : Nat) (lv : Int) : List Int := List.replicate m lv
theorem cntL_at (m : Nat) (lv : Int) (j : Nat) : (cntL m lv).getD j 0 = if j < m then lv else 0 := by
  unfold cntL
  rw [List.getD_eq_getElem?_getD, List.getElem?_replicate]
  split <;> rfl
theorem cntL_bit (m : Nat) (lv : Int) (h : lv = 0 ∨ lv = 1) : bitL (cntL m lv) := fun j => by
  rw [cntL_at]
  split
  · exact h
  · exact .inl rfl
theorem cnt_gw (m : Nat) (lv : Int) (h : lv = 0 ∨ lv = 1) : GW cntP (cntL m lv) (cntL m 1) := by
  refine ⟨by decide, by decide, fun j => ?_, fun j => ?_⟩
  · rcases cntL_bit m lv h j with e | e <;> rw [e] <;> decide
  · rcases cntL_bit m 1 (.inr rfl) j with e | e <;> rw [e] <;> decide
set_option maxRecDepth 100000 in
set_option maxHeartbeats 1600000 in
theorem plainGround_any (n : Nat) (lv : Int) (w : World) (hn : 1 ≤ n) (hn2 : n ≤ 1000) :
    Calls Try.prog 93 #[.int .i64 n, .int .i64 lv] w fun e w' => ∃ a' b', e = .returned (jac cntP a' n n b' n n) ∧ SL w' a' n n (cntL n lv) ∧ SL w' b' n n (cntL n 1) ∧ Below w.heap.size w w' := by
  have hs1 : SL ((w.alloc (.cells #[.int .i64 0, .slice none 0 0, .slice none 0 0] 78)).alloc (.cells #[.int .i64 lv] 2)) (some ⟨w.heap.size + 1, 0, none⟩) 1 1 [lv] := by simpa using SL.lit1 (w.alloc (.cells #[.int .i64 0, .slice none 0 0, .slice none 0 0] 78)) lv
  go_enter Try.func93, Try.ntmps93
  go_wp2_with fail
  refine (repeat_any lv _ n _ hs1 hn hn2).mono ?_
  rintro e w1 ⟨a1, rfl, o1, t1⟩
  have hb1 := bnext (bl2 w (.cells #[.int .i64 0, .slice none 0 0, .slice none 0 0] 78) (.cells #[.int .i64 lv] 2)) t1
  have r0 : w1.cell? ⟨w.heap.size, 0, none⟩ = some (.int .i64 0) := cell_be t1 (by simp [go_sem])
  have r1 : w1.cell? ⟨w.heap.size, 1, none⟩ = some (.slice none 0 0) := cell_be t1 (by simp [go_sem])
  have r2 : w1.cell? ⟨w.heap.size, 2, none⟩ = some (.slice none 0 0) := cell_be t1 (by simp [go_sem])
  have y0 : w1.frozen? ⟨w.heap.size, 0, none⟩ = false := (t1.frozen (by simp; omega)).trans (by simp [go_sem])
  have y1 : w1.frozen? ⟨w.heap.size, 1, none⟩ = false := (t1.frozen (by simp; omega)).trans (by simp [go_sem])
  have y2 : w1.frozen? ⟨w.heap.size, 2, none⟩ = false := (t1.frozen (by simp; omega)).trans (by simp [go_sem])
  have z1 : w.heap.size + 2 ≤ w1.heap.size := by have := t1.size; simpa using this
  have O1 := hide (o1.mono (B' := w.heap.size + 1) (by simp <;> omega))
  have hs2 := SL.lit1 w1 1
  have hb2 := bl1 w1 (.cells #[.int .i64 1] 2)
  clear hs1 o1 t1
  go_wp2_with fail
  refine (repeat_any 1 _ n _ hs2 hn hn2).mono ?_
  rintro e w2 ⟨a2, rfl, o2, t2⟩
  have t12 := bnext hb2 t2
  have O2 := hide (o2.mono (B' := w.heap.size + 1) (by simp; omega))
  replace O1 := hide (O1.out.below t12)
  replace y0 := fr_be t12 r0 y0
  replace y1 := fr_be t12 r1 y1
  replace y2 := fr_be t12 r2 y2
  replace r0 := cell_be t12 r0
  replace r1 := cell_be t12 r1
  replace r2 := cell_be t12 r2
  have hB := bnext hb1 t12
  clear o2 t2 t12 hb1 hb2 hs2
  go_wp2
  refine bodyPost_ret (v := jac cntP a1 n n a2 n n) (by simp [results, Try.results93, go_sem, r0, r1, r2]) rfl ?_
  have q : ∀ {a : Option Addr} {x : Int}, Own (w.heap.size + 1) w2 a n (List.replicate n x) → SL (((w2.setCell ⟨w.heap.size, 0, none⟩ (.int .i64 cntP)).setCell ⟨w.heap.size, 1, none⟩ (.slice a1 n n)).setCell ⟨w.heap.size, 2, none⟩ (.slice a2 n n)) a n n (cntL n x) := fun h => by
    have := ((OZ.of h (by rw [List.length_replicate])).setLow (x := ⟨w.heap.size, 0, none⟩) (by simp) (.int .i64 cntP)).setLow (x := ⟨w.heap.size, 1, none⟩) (by simp) (.slice a1 n n)
    exact (this.setLow (x := ⟨w.heap.size, 2, none⟩) (by simp) (.slice a2 n n)).sl
  exact ⟨a1, a2, rfl, q O1.out, q O2.out, (((hB.setCell (by simp) _).setCell (by simp) _).setCell (by simp) _)⟩
def cntC (n i k h : Int) : Int := if areB 25 [n, i, k, h] then 0 else 2
def cntV (lv n i k h : Int) : Int := if areB 25 [n, i, k, h] then sumP cntP (cntL (h.toNat + 1) lv) (cntL (h.toNat + 1) 1) (h.toNat + 1) i.toNat n.toNat k.toNat else 0
theorem are4 {n i k h : Int} (H : areB 25 [n, i, k, h] = true) : (0 ≤ n ∧ n ≤ 24) ∧ (0 ≤ i ∧ i ≤ 24) ∧ (0 ≤ k ∧ k ≤ 24) ∧ (0 ≤ h ∧ h ≤ 24) := by
  have := areB_at H 0 (by simp)
  have := areB_at H 1 (by simp)
  have := areB_at H 2 (by simp)
  have := areB_at H 3 (by simp)
  simp at *
  omega
set_option maxRecDepth 100000 in
set_option maxHeartbeats 1600000 in
theorem count_any (n i k h lv : Int) (w : World) (hlv : lv = 0 ∨ lv = 1) :
    Calls Try.prog 71 #[.int .i64 n, .int .i64 i, .int .i64 k, .int .i64 h, .int .i64 lv] w fun e w' => e = .returned (.tuple #[.int .i64 (cntV lv n i k h), .int .i64 (cntC n i k h)]) ∧ Below w.heap.size w w' := by
  have hs : SL (w.alloc (.cells #[.int .i64 n, .int .i64 i, .int .i64 k, .int .i64 h] 2)) (some ⟨w.heap.size, 0, none⟩) 4 4 [n, i, k, h] := by
    refine ⟨rfl, ⟨Nat.le_refl _, fun e => by cases e⟩, .inr ⟨_, _, rfl, fun j hj => ?_⟩⟩
    rcases (show j = 0 ∨ j = 1 ∨ j = 2 ∨ j = 3 by omega) with rfl | rfl | rfl | rfl <;> simp [go_sem]
  have hb0 := bl1 w (.cells #[.int .i64 n, .int .i64 i, .int .i64 k, .int .i64 h] 2)
  cases H : areB 25 [n, i, k, h]
  · have HC := hide (show cntC n i k h = 2 by simp [cntC, H])
    have HV := hide (show cntV lv n i k h = 0 by simp [cntV, H])
    have HH := hide H
    clear H
    go_enter Try.func71, Try.ntmps71
    go_wp2_with fail
    refine (areNumbers_any 25 _ _ _ _ _ hs (by omega)).mono ?_
    rintro e w1 ⟨rfl, rfl⟩
    rw [HH.out]
    go_wp2
    refine bodyPost_ret (v := .tuple #[.int .i64 0, .int .i64 2]) (by simp [results, Try.results71, go_sem]) rfl ?_
    exact ⟨by rw [HC.out, HV.out], hb0⟩
  · obtain ⟨⟨n0, n1⟩, ⟨i0, i1⟩, ⟨k0, k1⟩, h0, h1⟩ := are4 H
    obtain ⟨N, rfl⟩ : ∃ N : Nat, n = N := ⟨n.toNat, by omega⟩
    obtain ⟨I, rfl⟩ : ∃ I : Nat, i = I := ⟨i.toNat, by omega⟩
    obtain ⟨K, rfl⟩ : ∃ K : Nat, k = K := ⟨k.toNat, by omega⟩
    obtain ⟨M, rfl⟩ : ∃ M : Nat, h = M := ⟨h.toNat, by omega⟩
    have HC := hide (show cntC N I K M = 0 by simp [cntC, H])
    have HV := hide (show cntV lv N I K M = sumP cntP (cntL (M + 1) lv) (cntL (M + 1) 1) (M + 1) I N K by simp [cntV, H])
    have HH := hide H
    have v1 : IntKind.i64.wrap ((M : Int) + 1) = ((M + 1 : Nat) : Int) := by rw [show ((M : Int) + 1) = ((M + 1 : Nat) : Int) by omega]; exact IntWalk.i64_in _ (by omega)
    clear H
    go_enter Try.func71, Try.ntmps71
    go_wp2_with fail
    refine (areNumbers_any 25 _ _ _ _ _ hs (by omega)).mono ?_
    rintro e w1 ⟨rfl, rfl⟩
    rw [HH.out]
    go_wp2_with fail
    refine (plainGround_any (M + 1) lv _ (by omega) (by omega)).mono ?_
    rintro e w2 ⟨a1, b1, rfl, s1, s2, t2⟩
    have S1 := hide s1
    have S2 := hide s2
    have hB := bnext hb0 t2
    clear s1 s2 t2 hb0 hs v1
    go_wp2_with fail
    refine (sum_any cntP a1 (M + 1) (M + 1) (cntL (M + 1) lv) b1 (M + 1) (cntL (M + 1) 1) I N K _ S1.out S2.out (by omega) (by omega) (by omega) (by omega) (cnt_gw _ _ hlv)).mono ?_
    rintro e w3 ⟨rfl, t3⟩
    have hB3 := bnext hB t3
    rw [← HV.out]
    clear t3 hB
    go_wp2
    refine bodyPost_ret (v := .tuple #[.int .i64 (cntV lv N I K M), .int .i64 0]) (by simp [results, Try.results71, go_sem]) rfl ?_
    exact ⟨by rw [HC.out], hB3⟩
theorem implCountPaths (n i k h : Int) (w : World) :
    Calls Try.prog 37 #[.int .i64 n, .int .i64 i, .int .i64 k, .int .i64 h] w fun e w' => e = .returned (.tuple #[.int .i64 (cntV 1 n i k h), .int .i64 (cntC n i k h)]) ∧ Below w.heap.size w w' := by
  go_enter Try.func37, Try.ntmps37
  go_wp2_with fail
  refine (count_any n i k h 1 _ (.inr rfl)).mono ?_
  rintro e w1 ⟨rfl, t1⟩
  go_wp2
  refine bodyPost_ret (v := .tuple #[.int .i64 (cntV 1 n i k h), .int .i64 (cntC n i k h)]) (by simp [results, Try.results37, go_sem]) rfl ?_
  exact ⟨rfl, t1⟩
theorem implCountLevelPaths (n i k h : Int) (w : World) :
    Calls Try.prog 39 #[.int .i64 n, .int .i64 i, .int .i64 k, .int .i64 h] w fun e w' => e = .returned (.tuple #[.int .i64 (cntV 0 n i k h), .int .i64 (cntC n i k h)]) ∧ Below w.heap.size w w' := by
  go_enter Try.func39, Try.ntmps39
  go_wp2_with fail
  refine (count_any n i k h 0 _ (.inl rfl)).mono ?_
  rintro e w1 ⟨rfl, t1⟩
  go_wp2
  refine bodyPost_ret (v := .tuple #[.int .i64 (cntV 0 n i k h), .int .i64 (cntC n i k h)]) (by simp [results, Try.results39, go_sem]) rfl ?_
  exact ⟨rfl, t1⟩
theorem implBallotNumber (n k : Int) (w : World) :
    Calls Try.prog 41 #[.int .i64 n, .int .i64 k] w fun e w' => e = .returned (.tuple #[.int .i64 (cntV 0 n 0 k 24), .int .i64 (cntC n 0 k 24)]) ∧ Below w.heap.size w w' := by
  go_enter Try.func41, Try.ntmps41
  go_wp2_with fail
  refine (implCountLevelPaths n 0 k 24 _).mono ?_
  rintro e w1 ⟨rfl, t1⟩
  go_wp2
  refine bodyPost_ret (v := .tuple #[.int .i64 (cntV 0 n 0 k 24), .int .i64 (cntC n 0 k 24)]) (by simp [results, Try.results41, go_sem]) rfl ?_
  exact ⟨rfl, t1⟩
def pthC (p : Int) (xs ys : List Int) (n i k : Int) : Int := if jcd p xs ys n 0 24 = 0 then (if (0 ≤ i ∧ i < (xs.length : Int)) ∧ 0 ≤ k ∧ k < (xs.length : Int) then 0 else 2) else jcd p xs ys n 0 24
def pthV (p : Int) (xs ys : List Int) (n i k : Int) : Int := if pthC p xs ys n i k = 0 then sumP p xs ys xs.length i.toNat n.toNat k.toNat else 0
theorem jac_gw {p : Int} {xs ys : List Int} (h : jacB p xs ys = true) : GW p xs ys := by
  obtain ⟨hpr, _, _, _, h1, h2⟩ := jacB_rng h
  obtain ⟨hp, hp2⟩ := primeB_lo hpr
  have b : ∀ {f : List Int}, areB p f = true → ∀ j, 0 ≤ f.getD j 0 ∧ f.getD j 0 * p ≤ 1152921504606846976 := @fun f hf j => by
    have := getD_rng hf hp j
    refine ⟨this.1, ?_⟩
    have m := Int.mul_le_mul (show f.getD j 0 ≤ 10007 by omega) hp2 (by omega) (by omega)
    omega
  exact ⟨hp, by omega, b h1, b (posB_are h2)⟩
set_option maxRecDepth 100000 in
set_option maxHeartbeats 1600000 in
theorem implPathSum (p : Int) (a : Option Addr) (n c : Nat) (xs : List Int) (b : Option Addr) (m d : Nat) (ys : List Int) (k i l : Int) (w : World) (hs : SL w a n c xs) (ht : SL w b m d ys) (hn : n ≤ 4000000) (hm : m ≤ 4000000) :
    Calls Try.prog 26 #[jac p a n c b m d, .int .i64 k, .int .i64 i, .int .i64 l] w fun e w' => e = .returned (.tuple #[.int .i64 (pthV p xs ys k i l), .int .i64 (pthC p xs ys k i l)]) ∧ Below w.heap.size w w' := by
  have hl := hide hs.len
  have hl2 := hide ht.len
  have hb0 := bl1 w (.cells #[.int .i64 p, .slice a n c, .slice b m d] 45)
  have g1 := hs.below hb0
  have g2 := ht.below hb0
  rcases jcd_cases p xs ys k 0 24 with hj | hj | ⟨hj, hJ, k0, k1⟩
  all_goals try (
    have HC := hide hj
    have HE := hide (show pthC p xs ys k i l = jcd p xs ys k 0 24 by unfold pthC; rw [if_neg (by rw [hj]; decide)])
    rw [hj] at HE
    have HV := hide (show pthV p xs ys k i l = 0 by unfold pthV; rw [if_neg (by rw [HE.out]; decide)])
    clear hj
    go_enter Try.func26, Try.ntmps26
    go_wp2_with fail
    refine (checkJacobi_any p a n c xs b m d ys k 0 24 _ _ g1 g2 hn hm HC.out).mono ?_
    rintro e w1 ⟨rfl, t1⟩
    go_wp2
    refine bodyPost_ret (by simp [results, Try.results26, go_sem]; rfl) rfl ?_
    exact ⟨by rw [HE.out, HV.out], bnext hb0 t1⟩)
  obtain ⟨_, l1, l12, l2, _, _⟩ := jacB_rng hJ
  obtain rfl : m = n := by rw [← hl2.out, ← hl.out]; omega
  rw [hl.out] at l1 l12
  have HC := hide hj
  have HGW := hide (jac_gw hJ)
  have hP := hide (show pthC p xs ys k i l = if (0 ≤ i ∧ i < (m : Int)) ∧ 0 ≤ l ∧ l < (m : Int) then 0 else 2 by unfold pthC; rw [if_pos hj, hl.out])
  obtain ⟨N, rfl⟩ : ∃ N : Nat, k = N := ⟨k.toNat, by omega⟩
  clear hj hJ l2
  by_cases h1 : 0 ≤ i ∧ i < (m : Int)
  rotate_left
  · have HE := hide (show pthC p xs ys N i l = 2 by rw [hP.out, if_neg (fun e => h1 e.1)])
    have HV := hide (show pthV p xs ys N i l = 0 by unfold pthV; rw [if_neg (by rw [HE.out]; decide)])
    have H1 := hide h1
    clear h1
    go_enter Try.func26, Try.ntmps26
    go_wp2_with fail
    refine (checkJacobi_any p a m c xs b m d ys N 0 24 _ _ g1 g2 hm hm HC.out).mono ?_
    rintro e w1 ⟨rfl, t1⟩
    have B1 := bnext hb0 t1
    have e0 : w1.cell? ⟨w.heap.size, 0, none⟩ = some (.int .i64 p) := cell_be t1 (by simp [go_sem])
    have e1 : w1.cell? ⟨w.heap.size, 1, none⟩ = some (.slice a m c) := cell_be t1 (by simp [go_sem])
    have e2 : w1.cell? ⟨w.heap.size, 2, none⟩ = some (.slice b m d) := cell_be t1 (by simp [go_sem])
    clear hb0 t1
    go_wp2_with fail
    refine (groundOf_any p a m c b m d _).mono ?_
    rintro e w2 ⟨rfl, t2⟩
    have B2 := bnext B1 t2
    have ba := bl1 w2 (.cells #[.int .i64 p, .slice a m c, .slice b m d] 78)
    have f0 : (w2.alloc (.cells #[.int .i64 p, .slice a m c, .slice b m d] 78)).cell? ⟨w2.heap.size, 0, none⟩ = some (.int .i64 p) := by simp [go_sem]
    have f1 : (w2.alloc (.cells #[.int .i64 p, .slice a m c, .slice b m d] 78)).cell? ⟨w2.heap.size, 1, none⟩ = some (.slice a m c) := by simp [go_sem]
    have f2 : (w2.alloc (.cells #[.int .i64 p, .slice a m c, .slice b m d] 78)).cell? ⟨w2.heap.size, 2, none⟩ = some (.slice b m d) := by simp [go_sem]
    have B3 := bnext B2 ba
    clear e0 e1 e2 t2 B1 B2 ba
    go_wp2_with fail
    refine (has_f p a m c b m d i _ (by omega) H1.out).mono ?_
    rintro e w3 ⟨rfl, t3⟩
    have B4 := bnext B3 t3
    replace f0 := cell_be t3 f0
    replace f1 := cell_be t3 f1
    replace f2 := cell_be t3 f2
    clear t3 B3
    have B3 := B4
    clear B4
    go_wp2
    refine bodyPost_ret (v := .tuple #[.int .i64 0, .int .i64 2]) (by simp [results, Try.results26, go_sem]) rfl ?_
    exact ⟨by rw [HE.out, HV.out], B3⟩
  obtain ⟨i0, i1⟩ := h1
  by_cases h2 : 0 ≤ l ∧ l < (m : Int)
  rotate_left
  · have HE := hide (show pthC p xs ys N i l = 2 by rw [hP.out, if_neg (fun e => h2 e.2)])
    have HV := hide (show pthV p xs ys N i l = 0 by unfold pthV; rw [if_neg (by rw [HE.out]; decide)])
    have H2 := hide h2
    clear h2
    go_enter Try.func26, Try.ntmps26
    go_wp2_with fail
    refine (checkJacobi_any p a m c xs b m d ys N 0 24 _ _ g1 g2 hm hm HC.out).mono ?_
    rintro e w1 ⟨rfl, t1⟩
    have B1 := bnext hb0 t1
    have e0 : w1.cell? ⟨w.heap.size, 0, none⟩ = some (.int .i64 p) := cell_be t1 (by simp [go_sem])
    have e1 : w1.cell? ⟨w.heap.size, 1, none⟩ = some (.slice a m c) := cell_be t1 (by simp [go_sem])
    have e2 : w1.cell? ⟨w.heap.size, 2, none⟩ = some (.slice b m d) := cell_be t1 (by simp [go_sem])
    clear hb0 t1
    go_wp2_with fail
    refine (groundOf_any p a m c b m d _).mono ?_
    rintro e w2 ⟨rfl, t2⟩
    have B2 := bnext B1 t2
    have ba := bl1 w2 (.cells #[.int .i64 p, .slice a m c, .slice b m d] 78)
    have f0 : (w2.alloc (.cells #[.int .i64 p, .slice a m c, .slice b m d] 78)).cell? ⟨w2.heap.size, 0, none⟩ = some (.int .i64 p) := by simp [go_sem]
    have f1 : (w2.alloc (.cells #[.int .i64 p, .slice a m c, .slice b m d] 78)).cell? ⟨w2.heap.size, 1, none⟩ = some (.slice a m c) := by simp [go_sem]
    have f2 : (w2.alloc (.cells #[.int .i64 p, .slice a m c, .slice b m d] 78)).cell? ⟨w2.heap.size, 2, none⟩ = some (.slice b m d) := by simp [go_sem]
    have B3 := bnext B2 ba
    clear e0 e1 e2 t2 B1 B2 ba
    go_wp2_with fail
    refine (has_t p a m c b m d i _ (by omega) i0 i1).mono ?_
    rintro e w3 ⟨rfl, t3⟩
    have B4 := bnext B3 t3
    replace f0 := cell_be t3 f0
    replace f1 := cell_be t3 f1
    replace f2 := cell_be t3 f2
    clear t3 B3
    have B3 := B4
    clear B4
    go_wp2_with fail
    refine (has_f p a m c b m d l _ (by omega) H2.out).mono ?_
    rintro e w4 ⟨rfl, t3⟩
    have B4 := bnext B3 t3
    replace f0 := cell_be t3 f0
    replace f1 := cell_be t3 f1
    replace f2 := cell_be t3 f2
    clear t3 B3
    have B3 := B4
    clear B4
    go_wp2
    refine bodyPost_ret (v := .tuple #[.int .i64 0, .int .i64 2]) (by simp [results, Try.results26, go_sem]) rfl ?_
    exact ⟨by rw [HE.out, HV.out], B3⟩
  · obtain ⟨l0, l1'⟩ := h2
    have HE := hide (show pthC p xs ys N i l = 0 by rw [hP.out, if_pos ⟨⟨i0, i1⟩, l0, l1'⟩])
    have HV := hide (show pthV p xs ys N i l = sumP p xs ys m i.toNat N l.toNat by unfold pthV; rw [if_pos HE.out, hl.out]; rfl)
    obtain ⟨I, rfl⟩ : ∃ I : Nat, i = I := ⟨i.toNat, by omega⟩
    obtain ⟨K, rfl⟩ : ∃ K : Nat, l = K := ⟨l.toNat, by omega⟩
    simp only [Int.toNat_natCast] at HV
    go_enter Try.func26, Try.ntmps26
    go_wp2_with fail
    refine (checkJacobi_any p a m c xs b m d ys N 0 24 _ _ g1 g2 hm hm HC.out).mono ?_
    rintro e w1 ⟨rfl, t1⟩
    have B1 := bnext hb0 t1
    have e0 : w1.cell? ⟨w.heap.size, 0, none⟩ = some (.int .i64 p) := cell_be t1 (by simp [go_sem])
    have e1 : w1.cell? ⟨w.heap.size, 1, none⟩ = some (.slice a m c) := cell_be t1 (by simp [go_sem])
    have e2 : w1.cell? ⟨w.heap.size, 2, none⟩ = some (.slice b m d) := cell_be t1 (by simp [go_sem])
    clear hb0 t1
    go_wp2_with fail
    refine (groundOf_any p a m c b m d _).mono ?_
    rintro e w2 ⟨rfl, t2⟩
    have B2 := bnext B1 t2
    have ba := bl1 w2 (.cells #[.int .i64 p, .slice a m c, .slice b m d] 78)
    have f0 : (w2.alloc (.cells #[.int .i64 p, .slice a m c, .slice b m d] 78)).cell? ⟨w2.heap.size, 0, none⟩ = some (.int .i64 p) := by simp [go_sem]
    have f1 : (w2.alloc (.cells #[.int .i64 p, .slice a m c, .slice b m d] 78)).cell? ⟨w2.heap.size, 1, none⟩ = some (.slice a m c) := by simp [go_sem]
    have f2 : (w2.alloc (.cells #[.int .i64 p, .slice a m c, .slice b m d] 78)).cell? ⟨w2.heap.size, 2, none⟩ = some (.slice b m d) := by simp [go_sem]
    have B3 := bnext B2 ba
    clear e0 e1 e2 t2 B1 B2 ba
    go_wp2_with fail
    refine (has_t p a m c b m d (I : Int) _ (by omega) i0 i1).mono ?_
    rintro e w3 ⟨rfl, t3⟩
    have B4 := bnext B3 t3
    replace f0 := cell_be t3 f0
    replace f1 := cell_be t3 f1
    replace f2 := cell_be t3 f2
    clear t3 B3
    have B3 := B4
    clear B4
    go_wp2_with fail
    refine (has_t p a m c b m d (K : Int) _ (by omega) l0 l1').mono ?_
    rintro e w4 ⟨rfl, t3⟩
    have B4 := bnext B3 t3
    replace f0 := cell_be t3 f0
    replace f1 := cell_be t3 f1
    replace f2 := cell_be t3 f2
    clear t3 B3
    have B3 := B4
    clear B4
    have S1 := hide (hs.below B3)
    have S2 := hide (ht.below B3)
    clear g1 g2 hs ht
    go_wp2_with fail
    refine (sum_any p a m c xs b d ys I N K _ S1.out S2.out (by omega) (by omega) (by omega) (by omega) HGW.out).mono ?_
    rintro e w5 ⟨rfl, t5⟩
    have B5 := bnext B3 t5
    rw [← HV.out]
    clear t5 B3 f0 f1 f2
    go_wp2
    refine bodyPost_ret (v := .tuple #[.int .i64 (pthV p xs ys N I K), .int .i64 0]) (by simp [results, Try.results26, go_sem]) rfl ?_
    exact ⟨by rw [HE.out], B5⟩
end Go.Proofs.Ytcadiepghhnbeaa

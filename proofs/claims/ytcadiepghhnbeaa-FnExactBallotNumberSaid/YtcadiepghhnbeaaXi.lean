/- Contracts: l09Given, l09Count, CountPaths, CountLevelPaths, BallotNumber (model). -/
import Derived.Test.YtcadiepghhnbeaaXh
namespace Go.Proofs.Ytcadiepghhnbeaa
open Go.RowKit
set_option linter.unusedVariables false
set_option linter.unusedSimpArgs false

theorem are4b (n i k h : Int) : areB 25 [n, i, k, h] = true ↔ (0 ≤ n ∧ n ≤ 24) ∧ (0 ≤ i ∧ i ≤ 24) ∧ (0 ≤ k ∧ k ≤ 24) ∧ (0 ≤ h ∧ h ≤ 24) := by
  refine ⟨are4, fun H => ?_⟩
  simp [areB, okN]
  omega
set_option maxHeartbeats 1600000 in
theorem l09Given_any (n i k h : Int) (w : World) :
    Calls Try.prog 69 #[.int .i64 n, .int .i64 i, .int .i64 k, .int .i64 h] w fun e w' => e = .returned (.bool (areB 25 [n, i, k, h])) ∧ w = w' := by
  by_cases h1 : 0 ≤ n ∧ n ≤ 24
  rotate_left
  · have H := hide (show areB 25 [n, i, k, h] = false by rw [Bool.eq_false_iff]; intro e; exact h1 (are4 e).1)
    have H1 := hide h1
    clear h1
    go_enter Try.func69, Try.ntmps69
    go_wp2_with (go_at_call 72; refine (l01In_no _ _ _ _ H1.out).mono ?_; rintro e w1 ⟨rfl, rfl⟩)
    go_ret
    exact ⟨ret_bool H.out.symm, rfl⟩
  by_cases h2 : 0 ≤ i ∧ i ≤ 24
  rotate_left
  · have H := hide (show areB 25 [n, i, k, h] = false by rw [Bool.eq_false_iff]; intro e; exact h2 (are4 e).2.1)
    have H1 := hide h1
    have H2 := hide h2
    clear h1 h2
    go_enter Try.func69, Try.ntmps69
    go_wp2_with fail
    refine (l01In_yes _ _ _ _ H1.out.1 H1.out.2).mono ?_
    rintro e w1 ⟨rfl, rfl⟩
    go_wp2_with fail
    refine (l01In_no _ _ _ _ H2.out).mono ?_
    rintro e w1 ⟨rfl, rfl⟩
    go_wp2
    go_ret
    exact ⟨ret_bool H.out.symm, rfl⟩
  by_cases h3 : 0 ≤ k ∧ k ≤ 24
  rotate_left
  · have H := hide (show areB 25 [n, i, k, h] = false by rw [Bool.eq_false_iff]; intro e; exact h3 (are4 e).2.2.1)
    have H1 := hide h1
    have H2 := hide h2
    have H3 := hide h3
    clear h1 h2 h3
    go_enter Try.func69, Try.ntmps69
    go_wp2_with fail
    refine (l01In_yes _ _ _ _ H1.out.1 H1.out.2).mono ?_
    rintro e w1 ⟨rfl, rfl⟩
    go_wp2_with fail
    refine (l01In_yes _ _ _ _ H2.out.1 H2.out.2).mono ?_
    rintro e w1 ⟨rfl, rfl⟩
    go_wp2_with fail
    refine (l01In_no _ _ _ _ H3.out).mono ?_
    rintro e w1 ⟨rfl, rfl⟩
    go_wp2
    go_ret
    exact ⟨ret_bool H.out.symm, rfl⟩
  have H1 := hide h1
  have H2 := hide h2
  have H3 := hide h3
  by_cases h4 : 0 ≤ h ∧ h ≤ 24
  · have H := hide (show areB 25 [n, i, k, h] = true from (are4b n i k h).2 ⟨h1, h2, h3, h4⟩)
    have H4 := hide h4
    clear h1 h2 h3 h4
    go_enter Try.func69, Try.ntmps69
    go_wp2_with fail
    refine (l01In_yes _ _ _ _ H1.out.1 H1.out.2).mono ?_
    rintro e w1 ⟨rfl, rfl⟩
    go_wp2_with fail
    refine (l01In_yes _ _ _ _ H2.out.1 H2.out.2).mono ?_
    rintro e w1 ⟨rfl, rfl⟩
    go_wp2_with fail
    refine (l01In_yes _ _ _ _ H3.out.1 H3.out.2).mono ?_
    rintro e w1 ⟨rfl, rfl⟩
    go_wp2_with fail
    refine (l01In_yes _ _ _ _ H4.out.1 H4.out.2).mono ?_
    rintro e w1 ⟨rfl, rfl⟩
    go_wp2
    go_ret
    exact ⟨ret_bool H.out.symm, rfl⟩
  · have H := hide (show areB 25 [n, i, k, h] = false by rw [Bool.eq_false_iff]; intro e; exact h4 (are4 e).2.2.2)
    have H4 := hide h4
    clear h1 h2 h3 h4
    go_enter Try.func69, Try.ntmps69
    go_wp2_with fail
    refine (l01In_yes _ _ _ _ H1.out.1 H1.out.2).mono ?_
    rintro e w1 ⟨rfl, rfl⟩
    go_wp2_with fail
    refine (l01In_yes _ _ _ _ H2.out.1 H2.out.2).mono ?_
    rintro e w1 ⟨rfl, rfl⟩
    go_wp2_with fail
    refine (l01In_yes _ _ _ _ H3.out.1 H3.out.2).mono ?_
    rintro e w1 ⟨rfl, rfl⟩
    go_wp2_with fail
    refine (l01In_no _ _ _ _ H4.out).mono ?_
    rintro e w1 ⟨rfl, rfl⟩
    go_wp2
    go_ret
    exact ⟨ret_bool H.out.symm, rfl⟩
set_option maxRecDepth 100000 in
set_option maxHeartbeats 1600000 in
theorem l09Count_any (N I K M : Nat) (lb : Bool) (w : World) (hN : N ≤ 24) (hI : I ≤ 24) (hK : K ≤ 24) (hM : M ≤ 24) :
    Calls Try.prog 70 #[.int .i64 N, .int .i64 I, .int .i64 K, .int .i64 M, .bool lb] w fun e w' => e = .returned (.int .i64 (sumP cntP (cntL (M + 1) (lvl lb)) (cntL (M + 1) 1) (M + 1) I N K)) ∧ Below w.heap.size w w' := by
  by_cases h : K ≤ M
  · have hk1 : ¬ (M : Int) < (K : Int) := by omega
    have hk2 : (K : Int) < ((M + 1 : Nat) : Int) := by omega
    go_enter Try.func70, Try.ntmps70
    go_wp2_with fail
    refine (l09Counts_any N I M lb _ hN (by omega) (by omega)).mono ?_
    rintro e w2 ⟨a', rfl, o2, t2⟩
    have q := o2.sl
    rw [rowP_len] at q
    obtain ⟨g, o, rfl, hg, hc⟩ := q.at (by omega)
    have ec := hc K (by omega)
    have HV := hide (show sumP cntP (cntL (M + 1) (lvl lb)) (cntL (M + 1) 1) (M + 1) I N K = (rowP cntP (cntL (M + 1) (lvl lb)) (cntL (M + 1) 1) (M + 1) I N).getD K 0 from rfl)
    obtain ⟨V, hV⟩ : ∃ V, (rowP cntP (cntL (M + 1) (lvl lb)) (cntL (M + 1) 1) (M + 1) I N).getD K 0 = V := ⟨_, rfl⟩
    rw [hV] at ec HV
    have hk3 : (K : Int) < (M : Int) + 1 := by omega
    clear q hc o2 hV
    go_wp2
    go_ret
    exact ⟨ret_int HV.out.symm, t2⟩
  · have HV := hide (sumP_out cntP (cntL (M + 1) (lvl lb)) (cntL (M + 1) 1) (M + 1) I N K (.inr (by omega)))
    have hk1 : (M : Int) < (K : Int) := by omega
    go_enter Try.func70, Try.ntmps70
    go_wp2
    go_ret
    exact ⟨ret_int HV.out.symm, Below.refl _ _⟩
set_option maxHeartbeats 1600000 in
theorem specCountPaths (n i k h : Int) (w : World) :
    Calls Try.prog 36 #[.int .i64 n, .int .i64 i, .int .i64 k, .int .i64 h] w fun e w' => e = .returned (.tuple #[.int .i64 (cntV 1 n i k h), .int .i64 (cntC n i k h)]) ∧ Below w.heap.size w w' := by
  cases H : areB 25 [n, i, k, h]
  · have HC := hide (show cntC n i k h = 2 by simp [cntC, H])
    have HV := hide (show cntV 1 n i k h = 0 by simp [cntV, H])
    have HH := hide H
    clear H
    go_enter Try.func36, Try.ntmps36
    go_wp2_with fail
    refine (l09Given_any n i k h _).mono ?_
    rintro e w1 ⟨rfl, rfl⟩
    rw [HH.out]
    go_wp2
    refine bodyPost_ret (v := .tuple #[.int .i64 0, .int .i64 2]) (by simp [results, Try.results36, go_sem]) rfl ?_
    exact ⟨by rw [HC.out, HV.out], Below.refl _ _⟩
  · obtain ⟨⟨n0, n1⟩, ⟨i0, i1⟩, ⟨k0, k1⟩, h0, h1⟩ := are4 H
    obtain ⟨N, rfl⟩ : ∃ N : Nat, n = N := ⟨n.toNat, by omega⟩
    obtain ⟨I, rfl⟩ : ∃ I : Nat, i = I := ⟨i.toNat, by omega⟩
    obtain ⟨K, rfl⟩ : ∃ K : Nat, k = K := ⟨k.toNat, by omega⟩
    obtain ⟨M, rfl⟩ : ∃ M : Nat, h = M := ⟨h.toNat, by omega⟩
    have HC := hide (show cntC N I K M = 0 by simp [cntC, H])
    have HV := hide (show cntV 1 N I K M = sumP cntP (cntL (M + 1) (lvl false)) (cntL (M + 1) 1) (M + 1) I N K by simp [cntV, H, lvl])
    have HH := hide H
    clear H
    go_enter Try.func36, Try.ntmps36
    go_wp2_with fail
    refine (l09Given_any N I K M _).mono ?_
    rintro e w1 ⟨rfl, rfl⟩
    rw [HH.out]
    go_wp2_with fail
    refine (l09Count_any N I K M false _ (by omega) (by omega) (by omega) (by omega)).mono ?_
    rintro e w3 ⟨rfl, t3⟩
    rw [← HV.out]
    go_wp2
    refine bodyPost_ret (v := .tuple #[.int .i64 (cntV 1 N I K M), .int .i64 0]) (by simp [results, Try.results36, go_sem]) rfl ?_
    exact ⟨by rw [HC.out], t3⟩
set_option maxHeartbeats 1600000 in
theorem specCountLevelPaths (n i k h : Int) (w : World) :
    Calls Try.prog 38 #[.int .i64 n, .int .i64 i, .int .i64 k, .int .i64 h] w fun e w' => e = .returned (.tuple #[.int .i64 (cntV 0 n i k h), .int .i64 (cntC n i k h)]) ∧ Below w.heap.size w w' := by
  cases H : areB 25 [n, i, k, h]
  · have HC := hide (show cntC n i k h = 2 by simp [cntC, H])
    have HV := hide (show cntV 0 n i k h = 0 by simp [cntV, H])
    have HH := hide H
    clear H
    go_enter Try.func38, Try.ntmps38
    go_wp2_with fail
    refine (l09Given_any n i k h _).mono ?_
    rintro e w1 ⟨rfl, rfl⟩
    rw [HH.out]
    go_wp2
    refine bodyPost_ret (v := .tuple #[.int .i64 0, .int .i64 2]) (by simp [results, Try.results38, go_sem]) rfl ?_
    exact ⟨by rw [HC.out, HV.out], Below.refl _ _⟩
  · obtain ⟨⟨n0, n1⟩, ⟨i0, i1⟩, ⟨k0, k1⟩, h0, h1⟩ := are4 H
    obtain ⟨N, rfl⟩ : ∃ N : Nat, n = N := ⟨n.toNat, by omega⟩
    obtain ⟨I, rfl⟩ : ∃ I : Nat, i = I := ⟨i.toNat, by omega⟩
    obtain ⟨K, rfl⟩ : ∃ K : Nat, k = K := ⟨k.toNat, by omega⟩
    obtain ⟨M, rfl⟩ : ∃ M : Nat, h = M := ⟨h.toNat, by omega⟩
    have HC := hide (show cntC N I K M = 0 by simp [cntC, H])
    have HV := hide (show cntV 0 N I K M = sumP cntP (cntL (M + 1) (lvl true)) (cntL (M + 1) 1) (M + 1) I N K by simp [cntV, H, lvl])
    have HH := hide H
    clear H
    go_enter Try.func38, Try.ntmps38
    go_wp2_with fail
    refine (l09Given_any N I K M _).mono ?_
    rintro e w1 ⟨rfl, rfl⟩
    rw [HH.out]
    go_wp2_with fail
    refine (l09Count_any N I K M true _ (by omega) (by omega) (by omega) (by omega)).mono ?_
    rintro e w3 ⟨rfl, t3⟩
    rw [← HV.out]
    go_wp2
    refine bodyPost_ret (v := .tuple #[.int .i64 (cntV 0 N I K M), .int .i64 0]) (by simp [results, Try.results38, go_sem]) rfl ?_
    exact ⟨by rw [HC.out], t3⟩
theorem bal4 (n k : Int) : areB 25 [n, 0, k, 24] = true ↔ (0 ≤ n ∧ n ≤ 24) ∧ (0 ≤ k ∧ k ≤ 24) := by
  rw [are4b]; omega
set_option maxHeartbeats 1600000 in
theorem specBallotNumber (n k : Int) (w : World) :
    Calls Try.prog 40 #[.int .i64 n, .int .i64 k] w fun e w' => e = .returned (.tuple #[.int .i64 (cntV 0 n 0 k 24), .int .i64 (cntC n 0 k 24)]) ∧ Below w.heap.size w w' := by
  by_cases h1 : 0 ≤ n ∧ n ≤ 24
  rotate_left
  · have H : areB 25 [n, 0, k, 24] = false := by rw [Bool.eq_false_iff]; intro e; exact h1 ((bal4 n k).1 e).1
    have HC := hide (show cntC n 0 k 24 = 2 by simp [cntC, H])
    have HV := hide (show cntV 0 n 0 k 24 = 0 by simp [cntV, H])
    have H1 := hide h1
    clear H h1
    go_enter Try.func40, Try.ntmps40
    go_wp2_with fail
    refine (l01In_no _ _ _ _ H1.out).mono ?_
    rintro e w1 ⟨rfl, rfl⟩
    go_wp2
    refine bodyPost_ret (v := .tuple #[.int .i64 0, .int .i64 2]) (by simp [results, Try.results40, go_sem]) rfl ?_
    exact ⟨by rw [HC.out, HV.out], Below.refl _ _⟩
  by_cases h2 : 0 ≤ k ∧ k ≤ 24
  rotate_left
  · have H : areB 25 [n, 0, k, 24] = false := by rw [Bool.eq_false_iff]; intro e; exact h2 ((bal4 n k).1 e).2
    have HC := hide (show cntC n 0 k 24 = 2 by simp [cntC, H])
    have HV := hide (show cntV 0 n 0 k 24 = 0 by simp [cntV, H])
    have H1 := hide h1
    have H2 := hide h2
    clear H h1 h2
    go_enter Try.func40, Try.ntmps40
    go_wp2_with fail
    refine (l01In_yes _ _ _ _ H1.out.1 H1.out.2).mono ?_
    rintro e w1 ⟨rfl, rfl⟩
    go_wp2_with fail
    refine (l01In_no _ _ _ _ H2.out).mono ?_
    rintro e w1 ⟨rfl, rfl⟩
    go_wp2
    refine bodyPost_ret (v := .tuple #[.int .i64 0, .int .i64 2]) (by simp [results, Try.results40, go_sem]) rfl ?_
    exact ⟨by rw [HC.out, HV.out], Below.refl _ _⟩
  have H : areB 25 [n, 0, k, 24] = true := (bal4 n k).2 ⟨h1, h2⟩
  have H1 := hide h1
  have H2 := hide h2
  obtain ⟨N, rfl⟩ : ∃ N : Nat, n = N := ⟨n.toNat, by omega⟩
  obtain ⟨K, rfl⟩ : ∃ K : Nat, k = K := ⟨k.toNat, by omega⟩
  have HC := hide (show cntC N 0 K 24 = 0 by simp [cntC, H])
  have HV := hide (show cntV 0 N 0 K 24 = sumP cntP (cntL (24 + 1) (lvl true)) (cntL (24 + 1) 1) (24 + 1) 0 N K by simp [cntV, H, lvl])
  have n1 : N ≤ 24 := by omega
  have k1 : K ≤ 24 := by omega
  clear H h1 h2
  go_enter Try.func40, Try.ntmps40
  go_wp2_with fail
  refine (l01In_yes _ _ _ _ H1.out.1 H1.out.2).mono ?_
  rintro e w1 ⟨rfl, rfl⟩
  go_wp2_with fail
  refine (l01In_yes _ _ _ _ H2.out.1 H2.out.2).mono ?_
  rintro e w1 ⟨rfl, rfl⟩
  go_wp2_with fail
  refine (l09Count_any N 0 K 24 true _ n1 (by omega) k1 (by omega)).mono ?_
  rintro e w3 ⟨rfl, t3⟩
  rw [← HV.out]
  go_wp2
  refine bodyPost_ret (v := .tuple #[.int .i64 (cntV 0 N 0 K 24), .int .i64 0]) (by simp [results, Try.results40, go_sem]) rfl ?_
  exact ⟨by rw [HC.out], t3⟩
end Go.Proofs.Ytcadiepghhnbeaa

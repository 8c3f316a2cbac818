/- Contracts: l02Numbers, l02Are, AreMoments (program and model). -/
import Derived.Test.YtpoabedlcljibaaMo
import Derived.Test.YtpoabedlcljibaaPo
namespace Go.Proofs.Ytpoabedlcljibaa
open Go.RowKit
set_option linter.unusedVariables false
set_option linter.unusedSimpArgs false

def momB (p : Int) (xs : List Int) : Bool := primeB p && decide (1 ≤ xs.length) && decide (xs.length ≤ 24) && areB p xs
theorem momB_rng {p : Int} {xs : List Int} (h : momB p xs = true) : primeB p = true ∧ 1 ≤ xs.length ∧ xs.length ≤ 24 ∧ areB p xs = true := by
  unfold momB at h
  simp only [Bool.and_eq_true, decide_eq_true_eq] at h
  exact ⟨h.1.1.1, h.1.1.2, h.1.2, h.2⟩
set_option maxRecDepth 100000 in
set_option maxHeartbeats 800000 in
theorem l02Numbers_any (p : Int) (a : Option Addr) (n c : Nat) (xs : List Int) (w : World) (hs : SL w a n c xs) (hn : n ≤ 4000000) (hp : -1000000000000 ≤ p) (hp2 : p ≤ 1000000000000) :
    Calls Try.prog 41 #[.int .i64 p, .slice a n c] w fun e w' => e = .returned (.bool (areB p xs)) ∧ w = w' := by
  have hl := hide hs.len
  by_cases h0 : n = 0
  · subst h0
    obtain rfl := hs.empty
    go_enter Try.func41, Try.ntmps41
    go_wp2
    refine wp_loop_rounds 1 ?_
    rw [rounds_succ]
    go_wp2
    go_ret
    exact ⟨rfl, rfl⟩
  obtain ⟨b, off, rfl, hbw, hcell⟩ := hs.at (by omega)
  clear hs
  go_enter Try.func41, Try.ntmps41
  go_wp2
  go_loop [5] (fun i => ∃ k : Nat, k ≤ n ∧ i = .int .i64 k ∧ Hid (areB p (xs.take k) = true)) (fun i => n - (intOf i).toNat)
  case atStart => exact ⟨0, by omega, rfl, by simp [Hid, areB]⟩
  case round =>
    obtain ⟨k, hk, rfl, hR⟩ := hrel
    by_cases hlt : k < n
    · have e1 := hcell k hlt
      have hsn := Lib.hid (areB_snoc p xs k (by rw [hl.out]; exact hlt))
      obtain ⟨x, hx⟩ : ∃ x, x = xs.getD k 0 := ⟨_, rfl⟩
      rw [← hx] at e1
      have Hx := Lib.hid hx
      clear hx hcell
      by_cases hok : 0 ≤ x ∧ x ≤ p - 1
      · go_wp2_with (go_at_call 42; refine (l01In_yes _ _ _ _ hok.1 hok.2).mono ?_; rintro e w' ⟨rfl, rfl⟩)
        go_round
        case rel => exact ⟨k + 1, by omega, by go_num, hide (by rw [hsn.out, hR.out, ← Hx.out]; simp [okN]; omega)⟩
        case measure => simp [intOf]; omega
      · have hF : Hid (areB p xs = false) := hide (areB_false p xs k (by rw [hl.out]; exact hlt) (by rw [← Hx.out]; simp [okN]; omega))
        go_wp2_with (go_at_call 42; refine (l01In_no _ _ _ _ hok).mono ?_; rintro e w' ⟨rfl, rfl⟩)
        go_ret
        exact ⟨ret_bool hF.out.symm, rfl⟩
    · obtain rfl : k = n := by omega
      have hF : Hid (areB p xs = true) := hide (by have := hR.out; rwa [List.take_of_length_le (by rw [hl.out]; omega)] at this)
      go_wp2
      go_ret
      exact ⟨ret_bool hF.out.symm, rfl⟩
set_option maxRecDepth 100000 in
set_option maxHeartbeats 800000 in
theorem l02Are_any (p : Int) (a : Option Addr) (n c : Nat) (xs : List Int) (w : World) (hs : SL w a n c xs) (hn : n ≤ 4000000) :
    Calls Try.prog 28 #[mom p a n c] w fun e w' => e = .returned (.bool (momB p xs)) ∧ Below w.heap.size w w' := by
  have hl := hide hs.len
  have hb0 := bl1 w (.cells #[.int .i64 p, .slice a n c] 24)
  have g1 := hs.below hb0
  cases hp : primeB p
  · have H : Hid (momB p xs = false) := hide (by simp [momB, hp])
    have Hp := hide hp
    clear hp
    go_enter Try.func28, Try.ntmps28
    go_wp2_with fail
    refine (l01Prime_any _ _).mono ?_
    rintro e w1 ⟨rfl, rfl⟩
    rw [Hp.out]
    go_wp2
    go_ret
    exact ⟨ret_bool H.out.symm, hb0⟩
  · have Hp := hide hp
    obtain ⟨hp1, hp2⟩ := primeB_lo hp
    clear hp
    by_cases h1 : (1 : Int) ≤ (n : Int)
    · by_cases h2 : (n : Int) ≤ 24
      · have H : Hid (momB p xs = areB p xs) := hide (by simp [momB, Hp.out, hl.out]; omega)
        go_enter Try.func28, Try.ntmps28
        go_wp2_with fail
        refine (l01Prime_any _ _).mono ?_
        rintro e w1 ⟨rfl, rfl⟩
        rw [Hp.out]
        go_wp2_with fail
        refine (l02Numbers_any _ _ _ _ _ _ g1 hn (by omega) (by omega)).mono ?_
        rintro e w1 ⟨rfl, rfl⟩
        go_wp2
        go_ret
        exact ⟨ret_bool H.out.symm, hb0⟩
      · have H : Hid (momB p xs = false) := hide (by simp [momB, hl.out]; omega)
        go_enter Try.func28, Try.ntmps28
        go_wp2_with fail
        refine (l01Prime_any _ _).mono ?_
        rintro e w1 ⟨rfl, rfl⟩
        rw [Hp.out]
        go_wp2
        go_ret
        exact ⟨ret_bool H.out.symm, hb0⟩
    · have H : Hid (momB p xs = false) := hide (by simp [momB, hl.out]; omega)
      go_enter Try.func28, Try.ntmps28
      go_wp2_with fail
      refine (l01Prime_any _ _).mono ?_
      rintro e w1 ⟨rfl, rfl⟩
      rw [Hp.out]
      go_wp2
      go_ret
      exact ⟨ret_bool H.out.symm, hb0⟩
set_option maxRecDepth 100000 in
set_option maxHeartbeats 800000 in
theorem areMoments_any (p : Int) (a : Option Addr) (n c : Nat) (xs : List Int) (w : World) (hs : SL w a n c xs) (hn : n ≤ 4000000) :
    Calls Try.prog 34 #[mom p a n c] w fun e w' => e = .returned (.bool (momB p xs)) ∧ Below w.heap.size w w' := by
  have hl := hide hs.len
  have hb0 := bl1 w (.cells #[.int .i64 p, .slice a n c] 24)
  have g1 := hs.below hb0
  cases hp : primeB p
  · have H : Hid (momB p xs = false) := hide (by simp [momB, hp])
    have Hp := hide hp
    clear hp
    go_enter Try.func34, Try.ntmps34
    go_wp2_with fail
    refine (isPrime_any _ _).mono ?_
    rintro e w1 ⟨rfl, rfl⟩
    rw [Hp.out]
    go_wp2
    go_ret
    exact ⟨ret_bool H.out.symm, hb0⟩
  · have Hp := hide hp
    obtain ⟨hp1, hp2⟩ := primeB_lo hp
    clear hp
    by_cases h1 : (n : Int) < 1
    · have H : Hid (momB p xs = false) := hide (by simp [momB, hl.out]; omega)
      go_enter Try.func34, Try.ntmps34
      go_wp2_with fail
      refine (isPrime_any _ _).mono ?_
      rintro e w1 ⟨rfl, rfl⟩
      rw [Hp.out]
      go_wp2
      go_ret
      exact ⟨ret_bool H.out.symm, hb0⟩
    · by_cases h2 : 24 < (n : Int)
      · have H : Hid (momB p xs = false) := hide (by simp [momB, hl.out]; omega)
        go_enter Try.func34, Try.ntmps34
        go_wp2_with fail
        refine (isPrime_any _ _).mono ?_
        rintro e w1 ⟨rfl, rfl⟩
        rw [Hp.out]
        go_wp2
        go_ret
        exact ⟨ret_bool H.out.symm, hb0⟩
      · have H : Hid (momB p xs = areB p xs) := hide (by simp [momB, Hp.out, hl.out]; omega)
        go_enter Try.func34, Try.ntmps34
        go_wp2_with fail
        refine (isPrime_any _ _).mono ?_
        rintro e w1 ⟨rfl, rfl⟩
        rw [Hp.out]
        go_wp2_with fail
        refine (areNumbers_any _ _ _ _ _ _ g1 hn).mono ?_
        rintro e w1 ⟨rfl, rfl⟩
        go_wp2
        go_ret
        exact ⟨ret_bool H.out.symm, hb0⟩
end Go.Proofs.Ytpoabedlcljibaa

/- Contracts: checkMoments (program), l08Number (model). -/
import Derived.Test.YtllcgoachgfpjaaSm
import Derived.Test.YtllcgoachgfpjaaAf
namespace Go.Proofs.Ytllcgoachgfpjaa
open Go.RowKit
set_option linter.unusedVariables false
set_option linter.unusedSimpArgs false

/-- The code for moments and a number in lo..hi. -/
def mcd (p : Int) (xs : List Int) (k lo hi : Int) : Int := if momB p xs then (if lo ≤ k ∧ k ≤ hi then 0 else 2) else 1
/-- The code for moments and numbers modulo their prime. -/
def mnd (p : Int) (xs zs : List Int) : Int := if momB p xs then (if areB p zs then 0 else 2) else 1
theorem areB_one (p x : Int) : areB p [x] = decide (0 ≤ x ∧ x < p) := by simp [areB, okN]
theorem areB_two (p x y : Int) : areB p [x, y] = decide ((0 ≤ x ∧ x < p) ∧ (0 ≤ y ∧ y < p)) := by simp [areB, okN]
set_option maxRecDepth 100000 in
set_option maxHeartbeats 800000 in
theorem checkMoments_any (p : Int) (a : Option Addr) (n c : Nat) (xs : List Int) (k lo hi C : Int) (w : World) (hs : SL w a n c xs) (hn : n ≤ 4000000) (hC : mcd p xs k lo hi = C) :
    Calls Try.prog 61 #[mom p a n c, .int .i64 k, .int .i64 lo, .int .i64 hi] w fun e w' => e = .returned (.int .i64 C) ∧ Below w.heap.size w w' := by
  subst hC
  have hb0 := bl1 w (.cells #[.int .i64 p, .slice a n c] 26)
  have g1 := hs.below hb0
  cases hj : momB p xs
  · have H : Hid (mcd p xs k lo hi = 1) := hide (by simp [mcd, hj])
    have Hj := hide hj
    clear hj
    go_enter Try.func61, Try.ntmps61
    go_wp2_with fail
    refine (areMoments_any _ _ _ _ _ _ g1 hn).mono ?_
    rintro e w1 ⟨rfl, hb1⟩
    rw [Hj.out]
    go_wp2
    go_ret
    exact ⟨ret_int H.out.symm, bnext hb0 hb1⟩
  · by_cases h1 : k < lo
    · have H : Hid (mcd p xs k lo hi = 2) := hide (by simp only [mcd, hj, if_true]; rw [if_neg (by omega)])
      have Hj := hide hj
      clear hj
      go_enter Try.func61, Try.ntmps61
      go_wp2_with fail
      refine (areMoments_any _ _ _ _ _ _ g1 hn).mono ?_
      rintro e w1 ⟨rfl, hb1⟩
      rw [Hj.out]
      go_wp2
      go_ret
      exact ⟨ret_int H.out.symm, bnext hb0 hb1⟩
    · by_cases h2 : hi < k
      · have H : Hid (mcd p xs k lo hi = 2) := hide (by simp only [mcd, hj, if_true]; rw [if_neg (by omega)])
        have Hj := hide hj
        clear hj
        go_enter Try.func61, Try.ntmps61
        go_wp2_with fail
        refine (areMoments_any _ _ _ _ _ _ g1 hn).mono ?_
        rintro e w1 ⟨rfl, hb1⟩
        rw [Hj.out]
        go_wp2
        go_ret
        exact ⟨ret_int H.out.symm, bnext hb0 hb1⟩
      · have H : Hid (mcd p xs k lo hi = 0) := hide (by simp only [mcd, hj, if_true]; rw [if_pos (by omega)])
        have Hj := hide hj
        clear hj
        go_enter Try.func61, Try.ntmps61
        go_wp2_with fail
        refine (areMoments_any _ _ _ _ _ _ g1 hn).mono ?_
        rintro e w1 ⟨rfl, hb1⟩
        rw [Hj.out]
        go_wp2
        go_ret
        exact ⟨ret_int H.out.symm, bnext hb0 hb1⟩
set_option maxRecDepth 100000 in
set_option maxHeartbeats 800000 in
theorem l08Number_any (p : Int) (a : Option Addr) (n c : Nat) (xs : List Int) (b : Option Addr) (m d : Nat) (zs : List Int) (C : Int) (w : World) (hs : SL w a n c xs) (ht : SL w b m d zs) (hn : n ≤ 4000000) (hm : m ≤ 4000000) (hC : mnd p xs zs = C) :
    Calls Try.prog 58 #[mom p a n c, .slice b m d] w fun e w' => e = .returned (.int .i64 C) ∧ Below w.heap.size w w' := by
  subst hC
  have hb0 := bl1 w (.cells #[.int .i64 p, .slice a n c] 26)
  have g1 := hs.below hb0
  have g2 := ht.below hb0
  cases hj : momB p xs
  · have H : Hid (mnd p xs zs = 1) := hide (by simp [mnd, hj])
    have Hj := hide hj
    clear hj
    go_enter Try.func58, Try.ntmps58
    go_wp2_with fail
    refine (l02Are_any _ _ _ _ _ _ g1 hn).mono ?_
    rintro e w1 ⟨rfl, hb1⟩
    rw [Hj.out]
    go_wp2
    go_ret
    exact ⟨ret_int H.out.symm, bnext hb0 hb1⟩
  · obtain ⟨hpr, _⟩ := momB_rng hj
    obtain ⟨hp, hp2⟩ := primeB_lo hpr
    clear hpr
    cases hz : areB p zs
    · have H : Hid (mnd p xs zs = 2) := hide (by simp [mnd, hj, hz])
      have Hz := hide hz
      clear hz
      have Hj := hide hj
      clear hj
      go_enter Try.func58, Try.ntmps58
      go_wp2_with fail
      refine (l02Are_any _ _ _ _ _ _ g1 hn).mono ?_
      rintro e w1 ⟨rfl, hb1⟩
      rw [Hj.out]
      have f0 : w1.cell? ⟨w.heap.size, 0, none⟩ = some (.int .i64 p) := cell_be hb1 (by simp [go_sem])
      go_wp2_with fail
      refine (l02Numbers_any p _ _ _ zs _ (g2.below hb1) hm (by omega) (by omega)).mono ?_
      rintro e w1' ⟨rfl, rfl⟩
      rw [Hz.out]
      go_wp2
      go_ret
      exact ⟨ret_int H.out.symm, bnext hb0 hb1⟩
    · have H : Hid (mnd p xs zs = 0) := hide (by simp [mnd, hj, hz])
      have Hz := hide hz
      clear hz
      have Hj := hide hj
      clear hj
      go_enter Try.func58, Try.ntmps58
      go_wp2_with fail
      refine (l02Are_any _ _ _ _ _ _ g1 hn).mono ?_
      rintro e w1 ⟨rfl, hb1⟩
      rw [Hj.out]
      have f0 : w1.cell? ⟨w.heap.size, 0, none⟩ = some (.int .i64 p) := cell_be hb1 (by simp [go_sem])
      go_wp2_with fail
      refine (l02Numbers_any p _ _ _ zs _ (g2.below hb1) hm (by omega) (by omega)).mono ?_
      rintro e w1' ⟨rfl, rfl⟩
      rw [Hz.out]
      go_wp2
      go_ret
      exact ⟨ret_int H.out.symm, bnext hb0 hb1⟩
end Go.Proofs.Ytllcgoachgfpjaa

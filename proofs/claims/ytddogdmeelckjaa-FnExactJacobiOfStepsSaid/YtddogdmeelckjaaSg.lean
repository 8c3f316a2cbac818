/- Contracts: isListFor, l05Given, InverseSeries, SeriesOf (program and model). -/
import Derived.Test.YtddogdmeelckjaaSf
import Derived.Test.YtddogdmeelckjaaIp
import Derived.Test.YtddogdmeelckjaaCh
namespace Go.Proofs.Ytddogdmeelckjaa
open Go.RowKit
set_option linter.unusedVariables false
set_option linter.unusedSimpArgs false

def lisB (p : Int) (xs : List Int) (lo hi : Int) : Bool := primeB p && (decide (lo ≤ xs.length) && decide ((xs.length : Int) ≤ hi)) && areB p xs
theorem lisB_rng {p : Int} {xs : List Int} {lo hi : Int} (h : lisB p xs lo hi = true) : primeB p = true ∧ lo ≤ xs.length ∧ (xs.length : Int) ≤ hi ∧ areB p xs = true := by
  unfold lisB at h
  simp only [Bool.and_eq_true, decide_eq_true_eq] at h
  exact ⟨h.1.1, h.1.2.1, h.1.2.2, h.2⟩
set_option maxRecDepth 100000 in
set_option maxHeartbeats 1600000 in
theorem isListFor_any (p : Int) (a : Option Addr) (n c : Nat) (xs : List Int) (lo hi : Int) (w : World) (hs : SL w a n c xs) (hn : n ≤ 4000000) :
    Calls Try.prog 64 #[.int .i64 p, .slice a n c, .int .i64 lo, .int .i64 hi] w fun e w' => e = .returned (.bool (lisB p xs lo hi)) ∧ w = w' := by
  have hl := hide hs.len
  cases hP : primeB p
  · have HP := hide hP
    have HR := hide (show lisB p xs lo hi = false by simp [lisB, hP])
    clear hP
    go_enter Try.func64, Try.ntmps64
    go_wp2_with fail
    refine (isPrime_any _ _).mono ?_
    rintro e v1 ⟨rfl, rfl⟩
    rw [HP.out]
    go_wp2
    go_ret
    exact ⟨ret_bool HR.out.symm, rfl⟩
  have HP := hide hP
  by_cases q1 : lo ≤ (n : Int)
  rotate_left
  · have HR := hide (show lisB p xs lo hi = false by simp [lisB, hl.out, q1])
    clear hP
    go_enter Try.func64, Try.ntmps64
    go_wp2_with fail
    refine (isPrime_any _ _).mono ?_
    rintro e v1 ⟨rfl, rfl⟩
    rw [HP.out]
    go_wp2
    go_ret
    exact ⟨ret_bool HR.out.symm, rfl⟩
  by_cases q2 : (n : Int) ≤ hi
  rotate_left
  · have HR := hide (show lisB p xs lo hi = false by simp [lisB, hl.out, q2])
    clear hP
    go_enter Try.func64, Try.ntmps64
    go_wp2_with fail
    refine (isPrime_any _ _).mono ?_
    rintro e v1 ⟨rfl, rfl⟩
    rw [HP.out]
    go_wp2
    go_ret
    exact ⟨ret_bool HR.out.symm, rfl⟩
  have HR := hide (show lisB p xs lo hi = areB p xs by simp [lisB, hl.out, q1, q2, hP])
  clear hP
  go_enter Try.func64, Try.ntmps64
  go_wp2_with fail
  refine (isPrime_any _ _).mono ?_
  rintro e v1 ⟨rfl, rfl⟩
  rw [HP.out]
  go_wp2_with fail
  refine (areNumbers_any _ _ _ _ _ _ hs hn).mono ?_
  rintro e v2 ⟨rfl, rfl⟩
  go_wp2
  go_ret
  exact ⟨ret_bool HR.out.symm, rfl⟩
set_option maxRecDepth 100000 in
set_option maxHeartbeats 1600000 in
theorem l05Given_any (p : Int) (a : Option Addr) (n c : Nat) (xs : List Int) (lo : Int) (w : World) (hs : SL w a n c xs) (hn : n ≤ 4000000) :
    Calls Try.prog 63 #[.int .i64 p, .slice a n c, .int .i64 lo] w fun e w' => e = .returned (.bool (lisB p xs lo 24)) ∧ Below w.heap.size w w' := by
  have hl := hide hs.len
  have hbr := Below.refl w.heap.size w
  cases hP : primeB p
  · have HP := hide hP
    have HR := hide (show lisB p xs lo 24 = false by simp [lisB, hP])
    clear hP
    go_enter Try.func63, Try.ntmps63
    go_wp2_with fail
    refine (l01Prime_any _ _).mono ?_
    rintro e v1 ⟨rfl, rfl⟩
    rw [HP.out]
    go_wp2
    go_ret
    exact ⟨ret_bool HR.out.symm, hbr⟩
  have HP := hide hP
  obtain ⟨hp, hp2⟩ := primeB_lo hP
  by_cases q1 : lo ≤ (n : Int) ∧ (n : Int) ≤ 24
  rotate_left
  · have HR := hide (show lisB p xs lo 24 = false by
      have : (decide (lo ≤ (n : Int)) && decide ((n : Int) ≤ 24)) = false := by simp; omega
      simp only [lisB, hl.out, this, Bool.and_false, Bool.false_and])
    clear hP
    go_enter Try.func63, Try.ntmps63
    go_wp2_with fail
    refine (l01Prime_any _ _).mono ?_
    rintro e v1 ⟨rfl, rfl⟩
    rw [HP.out]
    go_wp2_with fail
    refine (l01In_no _ _ _ _ q1).mono ?_
    rintro e v2 ⟨rfl, rfl⟩
    go_wp2
    go_ret
    exact ⟨ret_bool HR.out.symm, hbr⟩
  have HR := hide (show lisB p xs lo 24 = areB p xs by simp [lisB, hl.out, q1.1, q1.2, hP])
  clear hP
  go_enter Try.func63, Try.ntmps63
  go_wp2_with fail
  refine (l01Prime_any _ _).mono ?_
  rintro e v1 ⟨rfl, rfl⟩
  rw [HP.out]
  go_wp2_with fail
  refine (l01In_yes _ _ _ _ q1.1 q1.2).mono ?_
  rintro e v2 ⟨rfl, rfl⟩
  go_wp2_with fail
  refine (l01Points_f _ _ _ _ _ _ hs hn (by omega) (by omega)).mono ?_
  rintro e v3 ⟨rfl, hb3⟩
  go_wp2
  go_ret
  exact ⟨ret_bool HR.out.symm, hb3⟩
def invsC (p : Int) (xs : List Int) : Int := if lisB p xs 1 24 = true then (if xs.getD 0 0 = 0 then 5 else 0) else 2
def invsV (p : Int) (xs : List Int) : List Int := if invsC p xs = 0 then serL p [1] xs xs.length else []
theorem areB_one {p : Int} (hp : 2 ≤ p) : areB p [1] = true := by simp [areB, okN]; omega
set_option maxRecDepth 100000 in
set_option maxHeartbeats 1600000 in
theorem implInverseSeries (p : Int) (a : Option Addr) (n c : Nat) (xs : List Int) (w : World) (hs : SL w a n c xs) (hn : n ≤ 4000000) :
    Calls Try.prog 24 #[.int .i64 p, .slice a n c] w (Res1 w (invsV p xs) (invsC p xs)) := by
  have hl := hide hs.len
  have hbr := Below.refl w.heap.size w
  cases hL : lisB p xs 1 24
  · have HL := hide hL
    have HC := hide (show invsC p xs = 2 by simp [invsC, hL])
    have HV := hide (show invsV p xs = [] by simp [invsV, HC.out])
    clear hL
    go_enter Try.func24, Try.ntmps24
    go_wp2_with fail
    refine (isListFor_any p _ _ _ xs 1 24 _ hs hn).mono ?_
    rintro e v1 ⟨rfl, rfl⟩
    rw [HL.out]
    go_wp2
    go_ret2
    exact Res1.nil HV.out HC.out hbr
  have HL := hide hL
  obtain ⟨hP, hn1, hn2, hA⟩ := lisB_rng hL
  rw [hl.out] at hn1 hn2
  obtain ⟨hp, hp2⟩ := primeB_lo hP
  obtain ⟨b, off, rfl, hbw, hcell⟩ := hs.at (by omega)
  have e0 := hcell 0 (by omega)
  obtain ⟨x, hx⟩ : ∃ x, xs.getD 0 0 = x := ⟨_, rfl⟩
  rw [hx, Nat.add_zero] at e0
  have hpos : 0 < n := by omega
  by_cases hz : x = 0
  · have HC := hide (show invsC p xs = 5 by simp only [invsC, hL, hx, hz, if_true])
    have HV := hide (show invsV p xs = [] by simp [invsV, HC.out])
    subst hz
    clear hL hP hA hcell hx
    go_enter Try.func24, Try.ntmps24
    go_wp2_with fail
    refine (isListFor_any p _ _ _ xs 1 24 _ hs hn).mono ?_
    rintro e v1 ⟨rfl, rfl⟩
    rw [HL.out]
    go_wp2
    go_ret2
    exact Res1.nil HV.out HC.out hbr
  have HC := hide (show invsC p xs = 0 by simp only [invsC, hL, hx, hz, if_true, if_false])
  have HV := hide (show invsV p xs = serL p [1] xs n by simp [invsV, HC.out, hl.out])
  have HA := hide hA
  have hz' : (x == 0) = false := by simpa using hz
  clear hL hP hA hcell hx hz
  go_enter Try.func24, Try.ntmps24
  go_wp2_with fail
  refine (isListFor_any p _ _ _ xs 1 24 _ hs hn).mono ?_
  rintro e v1 ⟨rfl, rfl⟩
  rw [HL.out]
  go_wp2_with fail
  refine (seriesOf_any p _ _ _ [1] _ _ _ xs n _ (litSL _ 1) (hs.below (bl1 _ _)) (by omega) hn (by omega) (by omega) hp hp2 (areB_one hp) HA.out).mono ?_
  rintro e w2 ⟨a', c', rfl, ho, t2⟩
  have B2 := (bl1 w (.cells #[.int .i64 1] 2)).trans (t2.mono (by simp))
  have ho2 := Own.mono (B' := w.heap.size) ho (by simp)
  go_wp2
  go_ret2
  exact Res1.own HC.out (by rw [HV.out, serL_len]) (by rw [HV.out]; exact ho2) (by rw [HV.out, serL_len]; omega) B2
set_option maxRecDepth 100000 in
set_option maxHeartbeats 1600000 in
theorem specInverseSeries (p : Int) (a : Option Addr) (n c : Nat) (xs : List Int) (w : World) (hs : SL w a n c xs) (hn : n ≤ 4000000) :
    Calls Try.prog 23 #[.int .i64 p, .slice a n c] w (Res1 w (invsV p xs) (invsC p xs)) := by
  have hl := hide hs.len
  cases hL : lisB p xs 1 24
  · have HL := hide hL
    have HC := hide (show invsC p xs = 2 by simp [invsC, hL])
    have HV := hide (show invsV p xs = [] by simp [invsV, HC.out])
    clear hL
    go_enter Try.func23, Try.ntmps23
    go_wp2_with fail
    refine (l05Given_any p _ _ _ xs 1 _ hs hn).mono ?_
    rintro e v1 ⟨rfl, t1⟩
    rw [HL.out]
    go_wp2
    go_ret2
    exact Res1.nil HV.out HC.out t1
  have HL := hide hL
  obtain ⟨hP, hn1, hn2, hA⟩ := lisB_rng hL
  rw [hl.out] at hn1 hn2
  obtain ⟨hp, hp2⟩ := primeB_lo hP
  obtain ⟨b, off, rfl, hbw, hcell⟩ := hs.at (by omega)
  have e0 := hcell 0 (by omega)
  obtain ⟨x, hx⟩ : ∃ x, xs.getD 0 0 = x := ⟨_, rfl⟩
  rw [hx, Nat.add_zero] at e0
  have hpos : 0 < n := by omega
  by_cases hz : x = 0
  · have HC := hide (show invsC p xs = 5 by simp only [invsC, hL, hx, hz, if_true])
    have HV := hide (show invsV p xs = [] by simp [invsV, HC.out])
    subst hz
    clear hL hP hA hcell hx
    go_enter Try.func23, Try.ntmps23
    go_wp2_with fail
    refine (l05Given_any p _ _ _ xs 1 _ hs hn).mono ?_
    rintro e v1 ⟨rfl, t1⟩
    rw [HL.out]
    replace e0 := cell_be t1 e0
    go_wp2
    go_ret2
    exact Res1.nil HV.out HC.out t1
  have HC := hide (show invsC p xs = 0 by simp only [invsC, hL, hx, hz, if_true, if_false])
  have HV := hide (show invsV p xs = serL p [1] xs n by simp [invsV, HC.out, hl.out])
  have HA := hide hA
  have hz' : (x == 0) = false := by simpa using hz
  clear hL hP hA hcell hx hz
  go_enter Try.func23, Try.ntmps23
  go_wp2_with fail
  refine (l05Given_any p _ _ _ xs 1 _ hs hn).mono ?_
  rintro e v1 ⟨rfl, t1⟩
  rw [HL.out]
  replace e0 := cell_be t1 e0
  replace hs := hs.below t1
  go_wp2_with fail
  refine (l05Series_any p _ _ _ [1] _ _ _ xs n _ (litSL _ 1) (hs.below (bl1 _ _)) (by omega) hn (by omega) (by omega) hp hp2 (areB_one hp) HA.out).mono ?_
  rintro e w2 ⟨a', c', rfl, ho, t2⟩
  have z1 := t1.size
  have B2 := t1.trans (((bl1 v1 (.cells #[.int .i64 1] 2)).trans (t2.mono (by simp))).mono z1)
  have ho2 := Own.mono (B' := w.heap.size) ho (by simp; omega)
  go_wp2
  go_ret2
  exact Res1.own HC.out (by rw [HV.out, serL_len]) (by rw [HV.out]; exact ho2) (by rw [HV.out, serL_len]; omega) B2
end Go.Proofs.Ytddogdmeelckjaa

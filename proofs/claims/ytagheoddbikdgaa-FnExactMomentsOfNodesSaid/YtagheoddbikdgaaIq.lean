/- Contracts: InterpolatePoly (program and model). -/
import Derived.Test.YtagheoddbikdgaaIp
import Derived.Test.YtagheoddbikdgaaOz
namespace Go.Proofs.Ytagheoddbikdgaa
open Go.RowKit
set_option linter.unusedVariables false
set_option linter.unusedSimpArgs false

theorem areB_wf {p : Int} {xs : List Int} (hp2 : p ≤ 10007) (h : areB p xs = true) : ∀ y ∈ xs, (Lit.int .i64 y).wf = true := by
  intro y hy
  unfold areB at h
  rw [List.all_eq_true] at h
  have := h y hy
  unfold okN at this
  simp at this
  exact WalkArith.wf_i64 (by omega)
set_option maxRecDepth 100000 in
set_option maxHeartbeats 1600000 in
theorem implInterpolatePoly (p : Int) (a1 : Option Addr) (n1 c1 : Nat) (xs : List Int) (a2 : Option Addr) (n2 c2 : Nat) (ys : List Int) (w : World) (h1 : SL w a1 n1 c1 xs) (h2 : SL w a2 n2 c2 ys) (b1 : n1 ≤ 4000000) (b2 : n2 ≤ 4000000) :
    Calls Try.prog 32 #[.int .i64 p, .slice a1 n1 c1, .slice a2 n2 c2] w (Res1 w (itpV p xs ys) (itpC p xs ys)) := by
  have hl1 := hide h1.len
  have hl2 := hide h2.len
  cases hP : primeB p
  · have HP := hide hP
    have HC := hide (show itpC p xs ys = 2 by simp [itpC, hP])
    have HV := hide (show itpV p xs ys = [] by simp [itpV, HC.out])
    clear hP
    have hbr := Below.refl w.heap.size w
    go_enter Try.func32, Try.ntmps32
    go_wp2_with fail
    refine (isPrime_any _ _).mono ?_
    rintro e v1 ⟨rfl, rfl⟩
    rw [HP.out]
    go_wp2
    go_ret2
    exact Res1.nil HV.out HC.out hbr
  have HP := hide hP
  obtain ⟨hp, hp2⟩ := primeB_lo hP
  by_cases q1 : (25 : Int) < (n1 : Int)
  · have c1' : ¬ xs.length ≤ 25 := by rw [hl1.out]; omega
    have HC := hide (show itpC p xs ys = 2 by simp [itpC, c1'])
    have HV := hide (show itpV p xs ys = [] by simp [itpV, HC.out])
    clear hP c1'
    have hbr := Below.refl w.heap.size w
    go_enter Try.func32, Try.ntmps32
    go_wp2_with fail
    refine (isPrime_any _ _).mono ?_
    rintro e v1 ⟨rfl, rfl⟩
    rw [HP.out]
    go_wp2
    go_ret2
    exact Res1.nil HV.out HC.out hbr
  have c1' : xs.length ≤ 25 := by rw [hl1.out]; omega
  by_cases q2 : n1 = n2
  rotate_left
  · have c2' : ¬ ys.length = xs.length := by rw [hl1.out, hl2.out]; omega
    have ob : ((n1 : Int) != (n2 : Int)) = true := by simp; omega
    have HC := hide (show itpC p xs ys = 2 by simp [itpC, c2'])
    have HV := hide (show itpV p xs ys = [] by simp [itpV, HC.out])
    clear hP c1' c2' q2
    have hbr := Below.refl w.heap.size w
    go_enter Try.func32, Try.ntmps32
    go_wp2_with fail
    refine (isPrime_any _ _).mono ?_
    rintro e v1 ⟨rfl, rfl⟩
    rw [HP.out]
    go_wp2
    go_ret2
    exact Res1.nil HV.out HC.out hbr
  subst q2
  have c2' : ys.length = xs.length := by rw [hl1.out, hl2.out]
  cases hX : areB p xs
  · have HX := hide hX
    have HC := hide (show itpC p xs ys = 2 by simp [itpC, hX])
    have HV := hide (show itpV p xs ys = [] by simp [itpV, HC.out])
    clear hP c1' c2' hX
    have hbr := Below.refl w.heap.size w
    go_enter Try.func32, Try.ntmps32
    go_wp2_with fail
    refine (isPrime_any _ _).mono ?_
    rintro e v1 ⟨rfl, rfl⟩
    rw [HP.out]
    go_wp2_with fail
    refine (areNumbers_any _ _ _ _ _ _ h1 b1).mono ?_
    rintro e v2 ⟨rfl, rfl⟩
    rw [HX.out]
    go_wp2
    go_ret2
    exact Res1.nil HV.out HC.out hbr
  have HX := hide hX
  cases hY : areB p ys
  · have HY := hide hY
    have HC := hide (show itpC p xs ys = 2 by simp [itpC, hY])
    have HV := hide (show itpV p xs ys = [] by simp [itpV, HC.out])
    clear hP c1' c2' hX hY
    have hbr := Below.refl w.heap.size w
    go_enter Try.func32, Try.ntmps32
    go_wp2_with fail
    refine (isPrime_any _ _).mono ?_
    rintro e v1 ⟨rfl, rfl⟩
    rw [HP.out]
    go_wp2_with fail
    refine (areNumbers_any _ _ _ _ _ _ h1 b1).mono ?_
    rintro e v2 ⟨rfl, rfl⟩
    rw [HX.out]
    go_wp2_with fail
    refine (areNumbers_any _ _ _ _ _ _ h2 b2).mono ?_
    rintro e v3 ⟨rfl, rfl⟩
    rw [HY.out]
    go_wp2
    go_ret2
    exact Res1.nil HV.out HC.out hbr
  have HY := hide hY
  cases hD : difB xs
  · have HD := hide hD
    have HC := hide (show itpC p xs ys = 2 by simp [itpC, hD])
    have HV := hide (show itpV p xs ys = [] by simp [itpV, HC.out])
    clear hP c1' c2' hX hY hD
    have hbr := Below.refl w.heap.size w
    go_enter Try.func32, Try.ntmps32
    go_wp2_with fail
    refine (isPrime_any _ _).mono ?_
    rintro e v1 ⟨rfl, rfl⟩
    rw [HP.out]
    go_wp2_with fail
    refine (areNumbers_any _ _ _ _ _ _ h1 b1).mono ?_
    rintro e v2 ⟨rfl, rfl⟩
    rw [HX.out]
    go_wp2_with fail
    refine (areNumbers_any _ _ _ _ _ _ h2 b2).mono ?_
    rintro e v3 ⟨rfl, rfl⟩
    rw [HY.out]
    go_wp2_with fail
    refine (areDifferent_any _ _ _ xs _ h1 (by omega) (areB_wf hp2 HX.out)).mono ?_
    rintro e w4 ⟨rfl, t4⟩
    rw [HD.out]
    replace h1 := h1.below t4
    replace h2 := h2.below t4
    have B4 := bnext hbr t4
    have z4 := B4.size
    go_wp2
    go_ret2
    exact Res1.nil HV.out HC.out B4
  have HD := hide hD
  have HC := hide (show itpC p xs ys = 0 by simp [itpC, hP, c1', c2', hX, hY, hD])
  have HV := hide (show itpV p xs ys = (itpF p xs ys n1).1 by simp [itpV, HC.out, hl1.out])
  have hf := itp_f hP xs ys n1 (by omega)
  have hfl := hf.2
  clear hP c1' c2' hX hY hD hf
  have hbr := Below.refl w.heap.size w
  go_enter Try.func32, Try.ntmps32
  go_wp2_with fail
  refine (isPrime_any _ _).mono ?_
  rintro e v1 ⟨rfl, rfl⟩
  rw [HP.out]
  go_wp2_with fail
  refine (areNumbers_any _ _ _ _ _ _ h1 b1).mono ?_
  rintro e v2 ⟨rfl, rfl⟩
  rw [HX.out]
  go_wp2_with fail
  refine (areNumbers_any _ _ _ _ _ _ h2 b2).mono ?_
  rintro e v3 ⟨rfl, rfl⟩
  rw [HY.out]
  go_wp2_with fail
  refine (areDifferent_any _ _ _ xs _ h1 (by omega) (areB_wf hp2 HX.out)).mono ?_
  rintro e w4 ⟨rfl, t4⟩
  rw [HD.out]
  replace h1 := h1.below t4
  replace h2 := h2.below t4
  have B4 := bnext hbr t4
  have z4 := B4.size
  go_wp2_with fail
  refine (interpolate_any p _ _ _ xs _ _ ys _ h1 h2 (by omega) HP.out HX.out HY.out).mono ?_
  rintro e w5 ⟨a', c', rfl, ho, t5⟩
  replace h1 := h1.below t5
  replace h2 := h2.below t5
  have B5 := bnext B4 t5
  have z5 := B5.size
  have ho2 := Own.mono (B' := w.heap.size) ho (by omega)
  go_wp2
  go_ret2
  exact Res1.own HC.out (by rw [HV.out]) (by rw [HV.out]; exact ho2) (by rw [HV.out]; omega) B5
set_option maxRecDepth 100000 in
set_option maxHeartbeats 1600000 in
theorem specInterpolatePoly (p : Int) (a1 : Option Addr) (n1 c1 : Nat) (xs : List Int) (a2 : Option Addr) (n2 c2 : Nat) (ys : List Int) (w : World) (h1 : SL w a1 n1 c1 xs) (h2 : SL w a2 n2 c2 ys) (b1 : n1 ≤ 4000000) (b2 : n2 ≤ 4000000) :
    Calls Try.prog 30 #[.int .i64 p, .slice a1 n1 c1, .slice a2 n2 c2] w (Res1 w (itpV p xs ys) (itpC p xs ys)) := by
  have hl1 := hide h1.len
  have hl2 := hide h2.len
  cases hP : primeB p
  · have HP := hide hP
    have HC := hide (show itpC p xs ys = 2 by simp [itpC, hP])
    have HV := hide (show itpV p xs ys = [] by simp [itpV, HC.out])
    clear hP
    have hbr := Below.refl w.heap.size w
    go_enter Try.func30, Try.ntmps30
    go_wp2_with fail
    refine (l01Prime_any _ _).mono ?_
    rintro e v1 ⟨rfl, rfl⟩
    rw [HP.out]
    go_wp2
    go_ret2
    exact Res1.nil HV.out HC.out hbr
  have HP := hide hP
  obtain ⟨hp, hp2⟩ := primeB_lo hP
  by_cases q1 : (25 : Int) < (n1 : Int)
  · have c1' : ¬ xs.length ≤ 25 := by rw [hl1.out]; omega
    have HC := hide (show itpC p xs ys = 2 by simp [itpC, c1'])
    have HV := hide (show itpV p xs ys = [] by simp [itpV, HC.out])
    clear hP c1'
    have hbr := Below.refl w.heap.size w
    go_enter Try.func30, Try.ntmps30
    go_wp2_with fail
    refine (l01Prime_any _ _).mono ?_
    rintro e v1 ⟨rfl, rfl⟩
    rw [HP.out]
    go_wp2
    go_ret2
    exact Res1.nil HV.out HC.out hbr
  have c1' : xs.length ≤ 25 := by rw [hl1.out]; omega
  by_cases q2 : n1 = n2
  rotate_left
  · have c2' : ¬ ys.length = xs.length := by rw [hl1.out, hl2.out]; omega
    have ob : ((n2 : Int) != (n1 : Int)) = true := by simp; omega
    have HC := hide (show itpC p xs ys = 2 by simp [itpC, c2'])
    have HV := hide (show itpV p xs ys = [] by simp [itpV, HC.out])
    clear hP c1' c2' q2
    have hbr := Below.refl w.heap.size w
    go_enter Try.func30, Try.ntmps30
    go_wp2_with fail
    refine (l01Prime_any _ _).mono ?_
    rintro e v1 ⟨rfl, rfl⟩
    rw [HP.out]
    go_wp2
    go_ret2
    exact Res1.nil HV.out HC.out hbr
  subst q2
  have c2' : ys.length = xs.length := by rw [hl1.out, hl2.out]
  cases hX : areB p xs
  · have HX := hide hX
    have HXD := hide (show (areB p xs && difB xs) = false by simp [hX])
    have HC := hide (show itpC p xs ys = 2 by simp [itpC, hX])
    have HV := hide (show itpV p xs ys = [] by simp [itpV, HC.out])
    clear hP c1' c2' hX
    have hbr := Below.refl w.heap.size w
    go_enter Try.func30, Try.ntmps30
    go_wp2_with fail
    refine (l01Prime_any _ _).mono ?_
    rintro e v1 ⟨rfl, rfl⟩
    rw [HP.out]
    go_wp2_with fail
    refine (l01Points_t _ _ _ _ _ _ h1 b1 (by omega) (by omega)).mono ?_
    rintro e w2 ⟨rfl, t2⟩
    rw [HXD.out]
    replace h1 := h1.below t2
    replace h2 := h2.below t2
    have B2 := bnext hbr t2
    have z2 := B2.size
    go_wp2
    go_ret2
    exact Res1.nil HV.out HC.out B2
  have HX := hide hX
  cases hD : difB xs
  · have HD := hide hD
    have HXD := hide (show (areB p xs && difB xs) = false by simp [hD])
    have HC := hide (show itpC p xs ys = 2 by simp [itpC, hD])
    have HV := hide (show itpV p xs ys = [] by simp [itpV, HC.out])
    clear hP c1' c2' hX hD
    have hbr := Below.refl w.heap.size w
    go_enter Try.func30, Try.ntmps30
    go_wp2_with fail
    refine (l01Prime_any _ _).mono ?_
    rintro e v1 ⟨rfl, rfl⟩
    rw [HP.out]
    go_wp2_with fail
    refine (l01Points_t _ _ _ _ _ _ h1 b1 (by omega) (by omega)).mono ?_
    rintro e w2 ⟨rfl, t2⟩
    rw [HXD.out]
    replace h1 := h1.below t2
    replace h2 := h2.below t2
    have B2 := bnext hbr t2
    have z2 := B2.size
    go_wp2
    go_ret2
    exact Res1.nil HV.out HC.out B2
  have HD := hide hD
  have HXD := hide (show (areB p xs && difB xs) = true by simp [hX, hD])
  cases hY : areB p ys
  · have HY := hide hY
    have HC := hide (show itpC p xs ys = 2 by simp [itpC, hY])
    have HV := hide (show itpV p xs ys = [] by simp [itpV, HC.out])
    clear hP c1' c2' hX hY hD
    have hbr := Below.refl w.heap.size w
    go_enter Try.func30, Try.ntmps30
    go_wp2_with fail
    refine (l01Prime_any _ _).mono ?_
    rintro e v1 ⟨rfl, rfl⟩
    rw [HP.out]
    go_wp2_with fail
    refine (l01Points_t _ _ _ _ _ _ h1 b1 (by omega) (by omega)).mono ?_
    rintro e w2 ⟨rfl, t2⟩
    rw [HXD.out]
    replace h1 := h1.below t2
    replace h2 := h2.below t2
    have B2 := bnext hbr t2
    have z2 := B2.size
    go_wp2_with fail
    refine (l01Points_f _ _ _ _ _ _ h2 b2 (by omega) (by omega)).mono ?_
    rintro e w3 ⟨rfl, t3⟩
    rw [HY.out]
    replace h1 := h1.below t3
    replace h2 := h2.below t3
    have B3 := bnext B2 t3
    have z3 := B3.size
    go_wp2
    go_ret2
    exact Res1.nil HV.out HC.out B3
  have HY := hide hY
  have HC := hide (show itpC p xs ys = 0 by simp [itpC, hP, c1', c2', hX, hY, hD])
  have HV := hide (show itpV p xs ys = (itpF p xs ys n1).1 by simp [itpV, HC.out, hl1.out])
  have hf := itp_f hP xs ys n1 (by omega)
  have hfl := hf.2
  clear hP c1' c2' hX hY hD hf
  have hbr := Below.refl w.heap.size w
  go_enter Try.func30, Try.ntmps30
  go_wp2_with fail
  refine (l01Prime_any _ _).mono ?_
  rintro e v1 ⟨rfl, rfl⟩
  rw [HP.out]
  go_wp2_with fail
  refine (l01Points_t _ _ _ _ _ _ h1 b1 (by omega) (by omega)).mono ?_
  rintro e w2 ⟨rfl, t2⟩
  rw [HXD.out]
  replace h1 := h1.below t2
  replace h2 := h2.below t2
  have B2 := bnext hbr t2
  have z2 := B2.size
  go_wp2_with fail
  refine (l01Points_f _ _ _ _ _ _ h2 b2 (by omega) (by omega)).mono ?_
  rintro e w3 ⟨rfl, t3⟩
  rw [HY.out]
  replace h1 := h1.below t3
  replace h2 := h2.below t3
  have B3 := bnext B2 t3
  have z3 := B3.size
  go_wp2_with fail
  refine (l01Interpolate_any p _ _ _ xs _ _ ys _ h1 h2 (by omega) HP.out HX.out HY.out).mono ?_
  rintro e w4 ⟨a', c', rfl, ho, t4⟩
  replace h1 := h1.below t4
  replace h2 := h2.below t4
  have B4 := bnext B3 t4
  have z4 := B4.size
  have ho2 := Own.mono (B' := w.heap.size) ho (by omega)
  go_wp2
  go_ret2
  exact Res1.own HC.out (by rw [HV.out]) (by rw [HV.out]; exact ho2) (by rw [HV.out]; omega) B4
end Go.Proofs.Ytagheoddbikdgaa

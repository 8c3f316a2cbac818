/- Contracts: evaluateAt, ValueAt (program and model). -/
import Derived.Test.YthdhhghmcnbgmabEv
import Derived.Test.YthdhhghmcnbgmabCh
namespace Go.Proofs.Ythdhhghmcnbgmab
open Go.RowKit
set_option linter.unusedVariables false
set_option linter.unusedSimpArgs false
def valC (p : Int) (f : List Int) (x : Int) : Int := if chk1 p f = 0 then (if 0 ≤ x ∧ x < p then 0 else 2) else chk1 p f
def valV (p : Int) (f : List Int) (x : Int) : Int := if valC p f x = 0 then evM p f x else 0
set_option maxHeartbeats 400000 in
theorem evaluateAt_any (p x : Int) (a1 : Option Addr) (n1 c1 : Nat) (f : List Int) (w : World) (h1 : SL w a1 n1 c1 f) (b1 : n1 ≤ 1000) (hp : 2 ≤ p) (hp2 : p ≤ 10007) (hx0 : 0 ≤ x) (hx1 : x < p) (hf : areB p f = true) :
    Calls Try.prog 32 #[.int .i64 p, .slice a1 n1 c1, .int .i64 x] w fun e w' => e = .returned (.int .i64 (evM p f x)) ∧ Below w.heap.size w w' := by
  have Hf := hide hf
  clear hf
  go_enter Try.func32, Try.ntmps32
  go_wp2_with fail
  refine (numbersModulo_any p _).mono ?_
  rintro e w1 ⟨rfl, hc1, hb1, hs1⟩
  go_wp2_with fail
  refine (evaluate_num p x _ _ _ f _ _ hc1 (h1.below hb1) b1 hp hp2 hx0 hx1 Hf.out).mono ?_
  rintro e w2 ⟨rfl, hb2⟩
  have i0 := num_index (evM p f x)
  go_wp2
  go_ret
  exact ⟨rfl, hb1.trans (hb2.mono (by omega))⟩
set_option maxHeartbeats 800000 in
theorem implValueAt (p : Int) (a1 : Option Addr) (n1 c1 : Nat) (f : List Int) (x : Int) (w : World) (h1 : SL w a1 n1 c1 f) (b1 : n1 ≤ 4000000) :
    Calls Try.prog 16 #[.int .i64 p, .slice a1 n1 c1, .int .i64 x] w fun e w' => e = .returned (.tuple #[.int .i64 (valV p f x), .int .i64 (valC p f x)]) ∧ Below w.heap.size w w' := by
  have hl1 := hide h1.len
  rcases chk1_cases p f with hc | hc | ⟨hc, hf, hpr⟩
  · have HC := hide (show valC p f x = 1 by simp [valC, hc])
    have Hc := hide hc
    clear hc
    go_enter Try.func16, Try.ntmps16
    go_wp2_with (go_at_call 27; refine (check1 p _ _ _ f 1 _ h1 b1 Hc.out).mono ?_; rintro e w1 ⟨rfl, hb1⟩)
    go_ret2
    exact ⟨ret_int2 (by simp [valV, HC.out]) HC.out.symm, hb1⟩
  · have HC := hide (show valC p f x = 2 by simp [valC, hc])
    have Hc := hide hc
    clear hc
    go_enter Try.func16, Try.ntmps16
    go_wp2_with (go_at_call 27; refine (check1 p _ _ _ f 2 _ h1 b1 Hc.out).mono ?_; rintro e w1 ⟨rfl, hb1⟩)
    go_ret2
    exact ⟨ret_int2 (by simp [valV, HC.out]) HC.out.symm, hb1⟩
  · obtain ⟨hp, hp2⟩ := primeB_lo hpr
    have d1 : n1 ≤ 25 := by have := poly_len hf; have := hl1.out; omega
    have Hf := hide (poly_are hf)
    by_cases hx : 0 ≤ x ∧ x < p
    · have HC := hide (show valC p f x = 0 by simp [valC, hc, hx])
      have HV := hide (show valV p f x = evM p f x by simp [valV, HC.out])
      have Hc := hide hc
      clear hc hf hpr
      obtain ⟨hx0, hx1⟩ := hx
      go_enter Try.func16, Try.ntmps16
      go_wp2_with fail
      refine (check1 p _ _ _ f 0 _ h1 b1 Hc.out).mono ?_
      rintro e w1 ⟨rfl, hb1⟩
      go_wp2_with fail
      refine (isNumber_yes _ _ _ hx0 hx1).mono ?_
      rintro e w2 ⟨rfl, rfl⟩
      go_wp2_with fail
      refine (evaluateAt_any p x _ _ _ f _ (h1.below hb1) (by omega) hp hp2 hx0 hx1 Hf.out).mono ?_
      rintro e w3 ⟨rfl, hb3⟩
      go_wp2
      go_ret2
      exact ⟨ret_int2 HV.out.symm HC.out.symm, hb1.trans (hb3.mono hb1.size)⟩
    · have HC := hide (show valC p f x = 2 by simp [valC, hc, hx])
      have Hc := hide hc
      have Hx := hide hx
      clear hc hf hpr hx
      go_enter Try.func16, Try.ntmps16
      go_wp2_with fail
      refine (check1 p _ _ _ f 0 _ h1 b1 Hc.out).mono ?_
      rintro e w1 ⟨rfl, hb1⟩
      go_wp2_with fail
      refine (isNumber_no _ _ _ Hx.out).mono ?_
      rintro e w2 ⟨rfl, rfl⟩
      go_wp2
      go_ret2
      exact ⟨ret_int2 (by simp [valV, HC.out]) HC.out.symm, hb1⟩
set_option maxHeartbeats 800000 in
theorem specValueAt (p : Int) (a1 : Option Addr) (n1 c1 : Nat) (f : List Int) (x : Int) (w : World) (h1 : SL w a1 n1 c1 f) (b1 : n1 ≤ 4000000) :
    Calls Try.prog 15 #[.int .i64 p, .slice a1 n1 c1, .int .i64 x] w fun e w' => e = .returned (.tuple #[.int .i64 (valV p f x), .int .i64 (valC p f x)]) ∧ Below w.heap.size w w' := by
  have hl1 := hide h1.len
  rcases chk1_cases p f with hc | hc | ⟨hc, hf, hpr⟩
  · have HC := hide (show valC p f x = 1 by simp [valC, hc])
    have Hc := hide hc
    clear hc
    go_enter Try.func15, Try.ntmps15
    go_wp2_with (go_at_call 25; refine (code1 p _ _ _ f 1 _ h1 b1 Hc.out).mono ?_; rintro e w1 ⟨rfl, hb1⟩)
    go_ret2
    exact ⟨ret_int2 (by simp [valV, HC.out]) HC.out.symm, hb1⟩
  · have HC := hide (show valC p f x = 2 by simp [valC, hc])
    have Hc := hide hc
    clear hc
    go_enter Try.func15, Try.ntmps15
    go_wp2_with (go_at_call 25; refine (code1 p _ _ _ f 2 _ h1 b1 Hc.out).mono ?_; rintro e w1 ⟨rfl, hb1⟩)
    go_ret2
    exact ⟨ret_int2 (by simp [valV, HC.out]) HC.out.symm, hb1⟩
  · obtain ⟨hp, hp2⟩ := primeB_lo hpr
    have d1 : n1 ≤ 25 := by have := poly_len hf; have := hl1.out; omega
    have Hf := hide (poly_are hf)
    by_cases hx : 0 ≤ x ∧ x < p
    · have HC := hide (show valC p f x = 0 by simp [valC, hc, hx])
      have HV := hide (show valV p f x = evM p f x by simp [valV, HC.out])
      have Hc := hide hc
      clear hc hf hpr
      obtain ⟨hx0, hx1⟩ := hx
      go_enter Try.func15, Try.ntmps15
      go_wp2_with fail
      refine (code1 p _ _ _ f 0 _ h1 b1 Hc.out).mono ?_
      rintro e w1 ⟨rfl, hb1⟩
      go_wp2_with fail
      refine (l01In_yes _ _ _ _ hx0 (by omega)).mono ?_
      rintro e w2 ⟨rfl, rfl⟩
      go_wp2_with fail
      refine (l01At_any p x _ _ _ f _ (h1.below hb1) (by omega) hp hp2 hx0 hx1 Hf.out).mono ?_
      rintro e w3 ⟨rfl, rfl⟩
      go_wp2
      go_ret2
      exact ⟨ret_int2 HV.out.symm HC.out.symm, hb1⟩
    · have HC := hide (show valC p f x = 2 by simp [valC, hc, hx])
      have Hc := hide hc
      have Hx := hide hx
      clear hc hf hpr hx
      go_enter Try.func15, Try.ntmps15
      go_wp2_with fail
      refine (code1 p _ _ _ f 0 _ h1 b1 Hc.out).mono ?_
      rintro e w1 ⟨rfl, hb1⟩
      go_wp2_with fail
      refine (l01In_no _ _ _ _ (fun h => Hx.out ⟨h.1, by omega⟩)).mono ?_
      rintro e w2 ⟨rfl, rfl⟩
      go_wp2
      go_ret2
      exact ⟨ret_int2 (by simp [valV, HC.out]) HC.out.symm, hb1⟩
end Go.Proofs.Ythdhhghmcnbgmab

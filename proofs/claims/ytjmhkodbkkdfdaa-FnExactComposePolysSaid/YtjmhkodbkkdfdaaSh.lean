/- Contracts: ShiftPoly, ComposePolys (program and model). -/
import Derived.Test.YtjmhkodbkkdfdaaCs
import Derived.Test.YtjmhkodbkkdfdaaVa
import Derived.Test.YtjmhkodbkkdfdaaOz
namespace Go.Proofs.Ytjmhkodbkkdfdaa
open Go.RowKit
set_option linter.unusedVariables false
set_option linter.unusedSimpArgs false
def shfV (p : Int) (f : List Int) (c : Int) : List Int := if valC p f c = 0 then comM p f [c, 1] else []
theorem lin_poly {p c : Int} (hp : 2 ≤ p) (h0 : 0 ≤ c) (h1 : c < p) : polyB p [c, 1] = true := by
  simp [polyB, areB, okN, lastZ, h0, h1]; omega
theorem comM_len {p : Int} {f g : List Int} (hp : primeB p = true) (hf : polyB p f = true) (hg : polyB p g = true) (hd : (f.length - 1) * (g.length - 1) ≤ 24) : (comM p f g).length ≤ 25 :=
  poly_len (horP_poly hp hf hg hd f.length (Nat.le_refl _)).1
set_option maxRecDepth 100000 in
set_option maxHeartbeats 1600000 in
theorem implShiftPoly (p : Int) (a1 : Option Addr) (n1 c1 : Nat) (f : List Int) (x : Int) (w : World) (h1 : SL w a1 n1 c1 f) (b1 : n1 ≤ 4000000) :
    Calls Try.prog 17 #[.int .i64 p, .slice a1 n1 c1, .int .i64 x] w (Res1 w (shfV p f x) (valC p f x)) := by
  have hl1 := hide h1.len
  rcases chk1_cases p f with hc | hc | ⟨hc, hf, hpr⟩
  · have HC := hide (show valC p f x = 1 by simp [valC, hc])
    have HV := hide (show shfV p f x = [] by simp [shfV, HC.out])
    have Hc := hide hc
    clear hc
    go_enter Try.func17, Try.ntmps17
    go_wp2_with (go_at_call 79; refine (check1 p _ _ _ f 1 _ h1 b1 Hc.out).mono ?_; rintro e w1 ⟨rfl, hb1⟩)
    go_ret2
    exact Res1.nil HV.out HC.out hb1
  · have HC := hide (show valC p f x = 2 by simp [valC, hc])
    have HV := hide (show shfV p f x = [] by simp [shfV, HC.out])
    have Hc := hide hc
    clear hc
    go_enter Try.func17, Try.ntmps17
    go_wp2_with (go_at_call 79; refine (check1 p _ _ _ f 2 _ h1 b1 Hc.out).mono ?_; rintro e w1 ⟨rfl, hb1⟩)
    go_ret2
    exact Res1.nil HV.out HC.out hb1
  · obtain ⟨hp, hp2⟩ := primeB_lo hpr
    have d1 : n1 ≤ 25 := by have := poly_len hf; have := hl1.out; omega
    by_cases hx : 0 ≤ x ∧ x < p
    · have HC := hide (show valC p f x = 0 by simp [valC, hc, hx])
      have HV := hide (show shfV p f x = comM p f [x, 1] by simp [shfV, HC.out])
      have Hc := hide hc
      have HF := hide hf
      have HPR := hide hpr
      obtain ⟨hx0, hx1⟩ := hx
      have HG := hide (lin_poly hp hx0 hx1)
      have HD : Hid ((f.length - 1) * ([x, 1].length - 1) ≤ 24) := hide (by simp; have := hl1.out; omega)
      clear hc hf hpr
      go_enter Try.func17, Try.ntmps17
      go_wp2_with fail
      refine (check1 p _ _ _ f 0 _ h1 b1 Hc.out).mono ?_
      rintro e w1 ⟨rfl, hb1⟩
      go_wp2_with fail
      refine (isNumber_yes _ _ _ hx0 hx1).mono ?_
      rintro e w2 ⟨rfl, rfl⟩
      go_wp2_with fail
      refine (polysModulo_any p _).mono ?_
      rintro e w3 ⟨rfl, hc3, hb3, hs3⟩
      have hB3 := bnext hb1 hb3
      have hb4 := bl1 w3 (.cells #[.int .i64 x, .int .i64 1] 2)
      go_wp2_with fail
      refine (evaluate_poly p _ _ _ f _ _ _ [x, 1] _ _ (cell_al hc3 _) (((h1.below hb1).below hb3).below hb4) (litSL2 _ x 1) HPR.out HF.out HG.out HD.out).mono ?_
      rintro e w5 ⟨a', c', rfl, ho, hb5⟩
      have hB5 := bnext (bnext hB3 hb4) hb5
      have hz := (bnext hB3 hb4).size
      go_wp2
      go_ret2
      exact Res1.own HC.out (by rw [HV.out]) (by rw [HV.out]; exact ho.mono (by simp at hz ⊢; omega)) (by rw [HV.out]; exact Nat.le_trans (comM_len HPR.out HF.out HG.out HD.out) (by omega)) hB5
    · have HC := hide (show valC p f x = 2 by simp [valC, hc, hx])
      have HV := hide (show shfV p f x = [] by simp [shfV, HC.out])
      have Hc := hide hc
      have Hx := hide hx
      clear hc hf hpr hx
      go_enter Try.func17, Try.ntmps17
      go_wp2_with fail
      refine (check1 p _ _ _ f 0 _ h1 b1 Hc.out).mono ?_
      rintro e w1 ⟨rfl, hb1⟩
      go_wp2_with fail
      refine (isNumber_no _ _ _ Hx.out).mono ?_
      rintro e w2 ⟨rfl, rfl⟩
      go_wp2
      go_ret2
      exact Res1.nil HV.out HC.out hb1
set_option maxRecDepth 100000 in
set_option maxHeartbeats 1600000 in
theorem specShiftPoly (p : Int) (a1 : Option Addr) (n1 c1 : Nat) (f : List Int) (x : Int) (w : World) (h1 : SL w a1 n1 c1 f) (b1 : n1 ≤ 4000000) :
    Calls Try.prog 15 #[.int .i64 p, .slice a1 n1 c1, .int .i64 x] w (Res1 w (shfV p f x) (valC p f x)) := by
  have hl1 := hide h1.len
  rcases chk1_cases p f with hc | hc | ⟨hc, hf, hpr⟩
  · have HC := hide (show valC p f x = 1 by simp [valC, hc])
    have HV := hide (show shfV p f x = [] by simp [shfV, HC.out])
    have Hc := hide hc
    clear hc
    go_enter Try.func15, Try.ntmps15
    go_wp2_with (go_at_call 76; refine (code1 p _ _ _ f 1 _ h1 b1 Hc.out).mono ?_; rintro e w1 ⟨rfl, hb1⟩)
    go_ret2
    exact Res1.nil HV.out HC.out hb1
  · have HC := hide (show valC p f x = 2 by simp [valC, hc])
    have HV := hide (show shfV p f x = [] by simp [shfV, HC.out])
    have Hc := hide hc
    clear hc
    go_enter Try.func15, Try.ntmps15
    go_wp2_with (go_at_call 76; refine (code1 p _ _ _ f 2 _ h1 b1 Hc.out).mono ?_; rintro e w1 ⟨rfl, hb1⟩)
    go_ret2
    exact Res1.nil HV.out HC.out hb1
  · obtain ⟨hp, hp2⟩ := primeB_lo hpr
    have d1 : n1 ≤ 25 := by have := poly_len hf; have := hl1.out; omega
    by_cases hx : 0 ≤ x ∧ x < p
    · have HC := hide (show valC p f x = 0 by simp [valC, hc, hx])
      have HV := hide (show shfV p f x = comM p f [x, 1] by simp [shfV, HC.out])
      have Hc := hide hc
      have HF := hide hf
      have HPR := hide hpr
      obtain ⟨hx0, hx1⟩ := hx
      have HG := hide (lin_poly hp hx0 hx1)
      have HD : Hid ((f.length - 1) * ([x, 1].length - 1) ≤ 24) := hide (by simp; have := hl1.out; omega)
      clear hc hf hpr
      go_enter Try.func15, Try.ntmps15
      go_wp2_with fail
      refine (code1 p _ _ _ f 0 _ h1 b1 Hc.out).mono ?_
      rintro e w1 ⟨rfl, hb1⟩
      go_wp2_with fail
      refine (l01In_yes _ _ _ _ hx0 (by omega)).mono ?_
      rintro e w2 ⟨rfl, rfl⟩
      have hb4 := bl1 w1 (.cells #[.int .i64 x, .int .i64 1] 2)
      go_wp2_with fail
      refine (l01Compose_any p _ _ _ f _ _ _ [x, 1] _ ((h1.below hb1).below hb4) (litSL2 _ x 1) HPR.out HF.out HG.out HD.out).mono ?_
      rintro e w5 ⟨a', c', rfl, ho, hb5⟩
      have hB5 := bnext (bnext hb1 hb4) hb5
      have hz := (bnext hb1 hb4).size
      go_wp2
      go_ret2
      exact Res1.own HC.out (by rw [HV.out]) (by rw [HV.out]; exact ho.mono (by simp at hz ⊢; omega)) (by rw [HV.out]; exact Nat.le_trans (comM_len HPR.out HF.out HG.out HD.out) (by omega)) hB5
    · have HC := hide (show valC p f x = 2 by simp [valC, hc, hx])
      have HV := hide (show shfV p f x = [] by simp [shfV, HC.out])
      have Hc := hide hc
      have Hx := hide hx
      clear hc hf hpr hx
      go_enter Try.func15, Try.ntmps15
      go_wp2_with fail
      refine (code1 p _ _ _ f 0 _ h1 b1 Hc.out).mono ?_
      rintro e w1 ⟨rfl, hb1⟩
      go_wp2_with fail
      refine (l01In_no _ _ _ _ (fun h => Hx.out ⟨h.1, by omega⟩)).mono ?_
      rintro e w2 ⟨rfl, rfl⟩
      go_wp2
      go_ret2
      exact Res1.nil HV.out HC.out hb1
def cmpC (p : Int) (f g : List Int) : Int := if chk2 p f g = 0 then (if (f.length - 1) * (g.length - 1) ≤ 24 then 0 else 3) else chk2 p f g
def cmpV (p : Int) (f g : List Int) : List Int := if cmpC p f g = 0 then comM p f g else []
theorem deg_mul (a b : Nat) (h1 : a ≤ 25) (h2 : b ≤ 25) : (-30 ≤ ((a : Int) - 1) * ((b : Int) - 1) ∧ ((a : Int) - 1) * ((b : Int) - 1) ≤ 600) ∧ (24 < ((a : Int) - 1) * ((b : Int) - 1) ↔ ¬ (a - 1) * (b - 1) ≤ 24) := by
  cases a with
  | zero =>
    refine ⟨⟨by omega, by omega⟩, ?_⟩
    simp; omega
  | succ a =>
    cases b with
    | zero =>
      refine ⟨⟨by omega, by omega⟩, ?_⟩
      constructor <;> intro h <;> first | omega | (simp at h; try omega)
    | succ b =>
      have e : (((a + 1 : Nat) : Int) - 1) * (((b + 1 : Nat) : Int) - 1) = ((a * b : Nat) : Int) := by
        rw [show (((a + 1 : Nat) : Int) - 1) = (a : Int) by omega, show (((b + 1 : Nat) : Int) - 1) = (b : Int) by omega]; simp
      have h : a * b ≤ 24 * 24 := Nat.mul_le_mul (by omega) (by omega)
      rw [e, Nat.add_sub_cancel, Nat.add_sub_cancel]
      omega
set_option maxRecDepth 100000 in
set_option maxHeartbeats 1600000 in
theorem implComposePolys (p : Int) (a1 : Option Addr) (n1 c1 : Nat) (f : List Int) (a2 : Option Addr) (n2 c2 : Nat) (g : List Int) (w : World) (h1 : SL w a1 n1 c1 f) (h2 : SL w a2 n2 c2 g) (b1 : n1 ≤ 4000000) (b2 : n2 ≤ 4000000) :
    Calls Try.prog 22 #[.int .i64 p, .slice a1 n1 c1, .slice a2 n2 c2] w (Res1 w (cmpV p f g) (cmpC p f g)) := by
  have hl1 := hide h1.len
  have hl2 := hide h2.len
  rcases chk2_cases p f g with hc | hc | ⟨hc, hf, hg, hpr⟩
  · have HC := hide (show cmpC p f g = 1 by simp [cmpC, hc])
    have HV := hide (show cmpV p f g = [] by simp [cmpV, HC.out])
    have Hc := hide hc
    clear hc
    go_enter Try.func22, Try.ntmps22
    go_wp2_with (go_at_call 79; refine (check2 p _ _ _ f _ _ _ g 1 _ h1 h2 b1 b2 Hc.out).mono ?_; rintro e w1 ⟨rfl, hb1⟩)
    go_ret2
    exact Res1.nil HV.out HC.out hb1
  · have HC := hide (show cmpC p f g = 2 by simp [cmpC, hc])
    have HV := hide (show cmpV p f g = [] by simp [cmpV, HC.out])
    have Hc := hide hc
    clear hc
    go_enter Try.func22, Try.ntmps22
    go_wp2_with (go_at_call 79; refine (check2 p _ _ _ f _ _ _ g 2 _ h1 h2 b1 b2 Hc.out).mono ?_; rintro e w1 ⟨rfl, hb1⟩)
    go_ret2
    exact Res1.nil HV.out HC.out hb1
  · obtain ⟨hp, hp2⟩ := primeB_lo hpr
    have d1 : n1 ≤ 25 := by have := poly_len hf; have := hl1.out; omega
    have d2 : n2 ≤ 25 := by have := poly_len hg; have := hl2.out; omega
    obtain ⟨⟨m1, m2⟩, hm⟩ := deg_mul n1 n2 d1 d2
    by_cases hd : (n1 - 1) * (n2 - 1) ≤ 24
    · have HD : Hid ((f.length - 1) * (g.length - 1) ≤ 24) := hide (by rw [hl1.out, hl2.out]; exact hd)
      have HC := hide (show cmpC p f g = 0 by simp [cmpC, hc, HD.out])
      have HV := hide (show cmpV p f g = comM p f g by simp [cmpV, HC.out])
      have Hc := hide hc
      have HF := hide hf
      have HG := hide hg
      have HPR := hide hpr
      have hnd : ¬ 24 < ((n1 : Int) - 1) * ((n2 : Int) - 1) := fun h => hm.1 h hd
      clear hc hf hg hpr hm hd
      go_enter Try.func22, Try.ntmps22
      go_wp2_with fail
      refine (check2 p _ _ _ f _ _ _ g 0 _ h1 h2 b1 b2 Hc.out).mono ?_
      rintro e w1 ⟨rfl, hb1⟩
      go_wp2_with (first | (go_at_call 83; refine (degree_any _ _ _ _ (by omega)).mono ?_; rintro e w' ⟨rfl, rfl⟩) | fail)
      all_goals first | (refine (polysModulo_any p _).mono ?_) | skip
      rintro e w3 ⟨rfl, hc3, hb3, hs3⟩
      have hB3 := bnext hb1 hb3
      go_wp2_with fail
      refine (evaluate_poly p _ _ _ f _ _ _ g _ _ hc3 ((h1.below hb1).below hb3) ((h2.below hb1).below hb3) HPR.out HF.out HG.out HD.out).mono ?_
      rintro e w5 ⟨a', c', rfl, ho, hb5⟩
      have hB5 := bnext hB3 hb5
      have hz := hB3.size
      go_wp2
      go_ret2
      exact Res1.own HC.out (by rw [HV.out]) (by rw [HV.out]; exact ho.mono (by omega)) (by rw [HV.out]; exact Nat.le_trans (comM_len HPR.out HF.out HG.out HD.out) (by omega)) hB5
    · have HC := hide (show cmpC p f g = 3 by simp only [cmpC, hc, if_true]; rw [hl1.out, hl2.out, if_neg hd])
      have HV := hide (show cmpV p f g = [] by simp [cmpV, HC.out])
      have Hc := hide hc
      have hnd : 24 < ((n1 : Int) - 1) * ((n2 : Int) - 1) := hm.2 hd
      clear hc hf hg hpr hm hd
      go_enter Try.func22, Try.ntmps22
      go_wp2_with fail
      refine (check2 p _ _ _ f _ _ _ g 0 _ h1 h2 b1 b2 Hc.out).mono ?_
      rintro e w1 ⟨rfl, hb1⟩
      go_wp2_with (go_at_call 83; refine (degree_any _ _ _ _ (by omega)).mono ?_; rintro e w' ⟨rfl, rfl⟩)
      go_ret2
      exact Res1.nil HV.out HC.out hb1
set_option maxRecDepth 100000 in
set_option maxHeartbeats 1600000 in
theorem specComposePolys (p : Int) (a1 : Option Addr) (n1 c1 : Nat) (f : List Int) (a2 : Option Addr) (n2 c2 : Nat) (g : List Int) (w : World) (h1 : SL w a1 n1 c1 f) (h2 : SL w a2 n2 c2 g) (b1 : n1 ≤ 4000000) (b2 : n2 ≤ 4000000) :
    Calls Try.prog 21 #[.int .i64 p, .slice a1 n1 c1, .slice a2 n2 c2] w (Res1 w (cmpV p f g) (cmpC p f g)) := by
  have hl1 := hide h1.len
  have hl2 := hide h2.len
  rcases chk2_cases p f g with hc | hc | ⟨hc, hf, hg, hpr⟩
  · have HC := hide (show cmpC p f g = 1 by simp [cmpC, hc])
    have HV := hide (show cmpV p f g = [] by simp [cmpV, HC.out])
    have Hc := hide hc
    clear hc
    go_enter Try.func21, Try.ntmps21
    go_wp2_with (go_at_call 76; refine (code2 p _ _ _ f _ _ _ g 1 _ h1 h2 b1 b2 Hc.out).mono ?_; rintro e w1 ⟨rfl, hb1⟩)
    go_ret2
    exact Res1.nil HV.out HC.out hb1
  · have HC := hide (show cmpC p f g = 2 by simp [cmpC, hc])
    have HV := hide (show cmpV p f g = [] by simp [cmpV, HC.out])
    have Hc := hide hc
    clear hc
    go_enter Try.func21, Try.ntmps21
    go_wp2_with (go_at_call 76; refine (code2 p _ _ _ f _ _ _ g 2 _ h1 h2 b1 b2 Hc.out).mono ?_; rintro e w1 ⟨rfl, hb1⟩)
    go_ret2
    exact Res1.nil HV.out HC.out hb1
  · obtain ⟨hp, hp2⟩ := primeB_lo hpr
    have d1 : n1 ≤ 25 := by have := poly_len hf; have := hl1.out; omega
    have d2 : n2 ≤ 25 := by have := poly_len hg; have := hl2.out; omega
    by_cases hd : (n1 - 1) * (n2 - 1) ≤ 24
    · have HD : Hid ((f.length - 1) * (g.length - 1) ≤ 24) := hide (by rw [hl1.out, hl2.out]; exact hd)
      have HC := hide (show cmpC p f g = 0 by simp [cmpC, hc, HD.out])
      have HV := hide (show cmpV p f g = comM p f g by simp [cmpV, HC.out])
      have Hc := hide hc
      have HF := hide hf
      have HG := hide hg
      have HPR := hide hpr
      obtain ⟨⟨m1, m2⟩, hm⟩ := deg_mul n1 n2 d1 d2
      have hnd : ¬ 24 < ((n1 : Int) - 1) * ((n2 : Int) - 1) := fun h => hm.1 h hd
      have hz : wrap64 0 = 0 := by first | kernel_rfl | exact IntWalk.i64_in 0 (by omega) | simp [wrap64]
      clear hc hf hg hpr hm hd
      by_cases hA : (n1 : Int) - 1 < 0 <;> by_cases hB : (n2 : Int) - 1 < 0
      all_goals
        go_enter Try.func21, Try.ntmps21
        go_wp2_with fail
        refine (code2 p _ _ _ f _ _ _ g 0 _ h1 h2 b1 b2 Hc.out).mono ?_
        rintro e w1 ⟨rfl, hb1⟩
        go_wp2_with fail
        refine (l01Compose_any p _ _ _ f _ _ _ g _ (h1.below hb1) (h2.below hb1) HPR.out HF.out HG.out HD.out).mono ?_
        rintro e w5 ⟨a', c', rfl, ho, hb5⟩
        have hB5 := bnext hb1 hb5
        have hzz := hb1.size
        go_wp2
        go_ret2
        exact Res1.own HC.out (by rw [HV.out]) (by rw [HV.out]; exact ho.mono (by omega)) (by rw [HV.out]; exact Nat.le_trans (comM_len HPR.out HF.out HG.out HD.out) (by omega)) hB5
    · have HC := hide (show cmpC p f g = 3 by simp only [cmpC, hc, if_true]; rw [hl1.out, hl2.out, if_neg hd])
      have HV := hide (show cmpV p f g = [] by simp [cmpV, HC.out])
      have Hc := hide hc
      obtain ⟨⟨m1, m2⟩, hm⟩ := deg_mul n1 n2 d1 d2
      have hnd : 24 < ((n1 : Int) - 1) * ((n2 : Int) - 1) := hm.2 hd
      have hA : ¬ (n1 : Int) - 1 < 0 := fun h => hd (by rw [show n1 - 1 = 0 by omega]; simp)
      have hB : ¬ (n2 : Int) - 1 < 0 := fun h => hd (by rw [show n2 - 1 = 0 by omega]; simp)
      clear hc hf hg hpr hm hd
      go_enter Try.func21, Try.ntmps21
      go_wp2_with fail
      refine (code2 p _ _ _ f _ _ _ g 0 _ h1 h2 b1 b2 Hc.out).mono ?_
      rintro e w1 ⟨rfl, hb1⟩
      go_wp2
      go_ret2
      exact Res1.nil HV.out HC.out hb1
end Go.Proofs.Ytjmhkodbkkdfdaa

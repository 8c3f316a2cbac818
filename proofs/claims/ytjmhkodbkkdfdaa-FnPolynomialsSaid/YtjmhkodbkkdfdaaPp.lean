/- Contracts: the generic power at polynomials, PowerPoly (program and model). -/
import Derived.Test.YtjmhkodbkkdfdaaEp
import Derived.Test.YtjmhkodbkkdfdaaCs
import Derived.Test.YtjmhkodbkkdfdaaPa
import Derived.Test.YtjmhkodbkkdfdaaVa
namespace Go.Proofs.Ytjmhkodbkkdfdaa
open Go.RowKit
set_option linter.unusedVariables false
set_option linter.unusedSimpArgs false
/-- What the loop keeps of lengths: x of the length a, r of the length b, k left. -/
def PB (a b k : Nat) : Prop := a ≤ 60 ∧ b + (a - 1) * k ≤ 25
theorem PB.odd {a b k : Nat} (h : PB a b (2 * k + 1)) : PB (mlen a a) (mlen b a) k := by
  obtain ⟨h1, h2⟩ := h
  have e : (a - 1) * (2 * k + 1) = 2 * ((a - 1) * k) + (a - 1) := by rw [Nat.mul_add, Nat.mul_one, Nat.mul_left_comm]
  have e3 : (2 * (a - 1)) * k = 2 * ((a - 1) * k) := Nat.mul_assoc _ _ _
  refine ⟨?_, ?_⟩
  · unfold mlen; split <;> omega
  · unfold mlen
    by_cases ha : a = 0
    · subst ha; simp
    · rw [if_neg (show ¬ (a = 0 ∨ a = 0) by omega), show a + a - 1 - 1 = 2 * (a - 1) by omega, e3]
      split <;> omega
theorem PB.even {a b k : Nat} (hk : 0 < k) (h : PB a b (2 * k)) : PB (mlen a a) b k := by
  obtain ⟨h1, h2⟩ := h
  have e : (a - 1) * (2 * k) = 2 * ((a - 1) * k) := Nat.mul_left_comm _ _ _
  have e3 : (2 * (a - 1)) * k = 2 * ((a - 1) * k) := Nat.mul_assoc _ _ _
  have e4 : (a - 1) * 1 ≤ (a - 1) * k := Nat.mul_le_mul_left _ hk
  refine ⟨?_, ?_⟩
  · unfold mlen; split <;> omega
  · unfold mlen
    by_cases ha : a = 0
    · subst ha; simp; omega
    · rw [if_neg (show ¬ (a = 0 ∨ a = 0) by omega), show a + a - 1 - 1 = 2 * (a - 1) by omega, e3]
      omega
theorem PB.le {a b k : Nat} (h : PB a b k) : a ≤ 60 ∧ b ≤ 25 := ⟨h.1, by have := h.2; omega⟩
set_option maxRecDepth 100000 in
set_option maxHeartbeats 3200000 in
theorem power_poly (p k : Int) (a2 : Option Addr) (n2 c2 : Nat) (f : List Int) (b : Nat) (w : World) (hc : w.cell? ⟨b, 0, none⟩ = some (.int .i64 p)) (h2 : SL w a2 n2 c2 f)
    (hp : 2 ≤ p) (hp2 : p ≤ 10007) (hf : areB p f = true) (hk : 0 ≤ k) (hk2 : k ≤ 24) (hd : (f.length - 1) * k.toNat ≤ 24) (hl : f.length ≤ 25) :
    Calls Try.prog 85 #[.agg #[.func (.func 134) #[] #[], clo 135 b, clo 136 b], .slice a2 n2 c2, .int .i64 k] w
      fun e w' => ∃ a' c', e = .returned (.slice a' (pwL p f k.toNat).length c') ∧ Own w.heap.size w' a' c' (pwL p f k.toNat) ∧ Below w.heap.size w w' := by
  have hl2 := hide h2.len
  have Hf := hide hf
  have ci1 : CInv (w.alloc (.cells #[.func (.func 134) #[] #[], clo 135 b, clo 136 b] 79)) w.heap.size b := ⟨by simp [go_sem], by simp [go_sem], by simp [go_sem]⟩
  have hPB : PB f.length 1 k.toNat := ⟨by omega, by omega⟩
  have e1 : trimL [1] = [1] := trimL_self (by simp)
  have E1 := hide e1
  clear hf e1
  go_enter Try.func85, Try.ntmps85
  go_wp2_with fail
  refine (polyConst 1 _).mono ?_
  rintro e w1 ⟨a0, c0, rfl, ho0, hb1⟩
  rw [E1.out] at ho0 ⊢
  have hO0 : Hid (Own w.heap.size w1 a0 c0 [1]) := hide (ho0.mono (by simp))
  have hB1 : Below w.heap.size w w1 := (bl1 _ _).trans (hb1.mono (by simp))
  have ci2 := ci1.below hb1
  have hX : Hid (SL w1 a2 n2 c2 f) := hide ((h2.below (bl1 _ _)).below hb1)
  have hV0 : Hid (mulM p [1] (pwL p f k.toNat) = pwL p f k.toNat) := hide (mulM_one hp (pwL_areB hp f _))
  clear ci1 ho0 hb1
  go_wp2
  go_loopw [1, 2, 7] (fun xv kv rv wr => ∃ (kk : Int) (ax : Option Addr) (cx : Nat) (x : List Int) (ar : Option Addr) (cr : Nat) (r : List Int), kv = .int .i64 kk ∧ (0 ≤ kk ∧ kk ≤ 24) ∧ xv = .slice ax x.length cx ∧ rv = .slice ar r.length cr ∧
    Hid (SL wr ax x.length cx x) ∧ Hid (Own w.heap.size wr ar cr r) ∧ Hid (areB p x = true) ∧ Hid (areB p r = true) ∧ PB x.length r.length kk.toNat ∧ Hid (mulM p r (pwL p x kk.toNat) = pwL p f k.toNat) ∧ CInv wr w.heap.size b ∧ Below w.heap.size w wr) (fun _ kv _ _ => (intOf kv).toNat)
  case atStart => exact ⟨k, a2, c2, f, a0, c0, [1], rfl, ⟨hk, hk2⟩, by rw [hl2.out], rfl, by rw [hl2.out]; exact hX, hO0, Hf, hide (by simp [areB, okN]; omega), hPB, hV0, ci2, hB1⟩
  case round =>
    obtain ⟨kk, ax, cx, x, ar, cr, r, rfl, ⟨hk0, hk1⟩, rfl, rfl, hX', hR, Hx, Hr, hpb, hval, ci, hBr⟩ := hrel
    clear hO0 ci2 hB1 hX hV0
    have hP : ∀ w', Below wr.heap.size wr w' → w'.cell? ⟨b, 0, none⟩ = some (.int .i64 p) := fun w' hb =>
      ((hBr.trans (hb.mono hBr.size)).cell (World.block_lt_of_cell? w _ hc)).trans hc
    obtain ⟨q1, q2⟩ := hpb.le
    have hbs := hBr.size
    obtain ⟨c0', c1', c2'⟩ := ci
    by_cases hpos : 0 < kk
    · by_cases hodd : kk % 2 = 1
      · obtain ⟨j, hj⟩ : ∃ j, kk.toNat = 2 * j + 1 := ⟨kk.toNat / 2, by omega⟩
        have hj2 : (kk / 2).toNat = j := by omega
        rw [hj] at hpb hval
        have Hj2 := hide hj2
        have ob : (kk % 2 == 1) = true := by simpa using hodd
        have hv2 : Hid (mulM p (mulM p r x) (pwL p (mulM p x x) j) = pwL p f k.toNat) := hide ((pwL_odd hp r x j).trans hval.out)
        have hpb2 := hpb.odd
        clear hodd hval hpb hj hj2
        go_wp2_with fail
        refine (polyMul p b _ _ _ r _ _ _ x _ (hP _ (Below.refl _ _)) hR.out.sl hX'.out (by omega) (by omega) hp hp2 Hr.out Hx.out).mono ?_
        rintro e w2 ⟨a3, c3, rfl, ho3, hb3⟩
        replace c0' := cell_be hb3 c0'
        replace c1' := cell_be hb3 c1'
        replace c2' := cell_be hb3 c2'
        go_wp2_with fail
        refine (polyMul p b _ _ _ x _ _ _ x _ (hP _ hb3) (hX'.out.below hb3) (hX'.out.below hb3) (by omega) (by omega) hp hp2 Hx.out Hx.out).mono ?_
        rintro e w4 ⟨a4, c4, rfl, ho4, hb4⟩
        replace c0' := cell_be hb4 c0'
        replace c1' := cell_be hb4 c1'
        replace c2' := cell_be hb4 c2'
        go_wp2
        go_roundw
        case rel => exact ⟨kk / 2, a4, c4, mulM p x x, a3, c3, mulM p r x, rfl, ⟨by omega, by omega⟩, rfl, rfl, hide ho4.sl, hide ((ho3.below hb4).mono (by omega)), hide (mulM_areB hp _ _), hide (mulM_areB hp _ _), by rw [mulM_mlen, mulM_mlen, Hj2.out]; exact hpb2, by rw [Hj2.out]; exact hv2, ⟨c0', c1', c2'⟩, hBr.trans ((bnext hb3 hb4).mono hbs)⟩
        case measure => simp [intOf]; omega
      · obtain ⟨j, hj⟩ : ∃ j, kk.toNat = 2 * j := ⟨kk.toNat / 2, by omega⟩
        have hj2 : (kk / 2).toNat = j := by omega
        rw [hj] at hpb hval
        have Hj2 := hide hj2
        have ob : (kk % 2 == 1) = false := by simpa using hodd
        have hv2 : Hid (mulM p r (pwL p (mulM p x x) j) = pwL p f k.toNat) := hide ((pwL_even hp r x j).trans hval.out)
        have hpb2 := hpb.even (by omega)
        clear hodd hval hpb hj hj2
        go_wp2_with fail
        refine (polyMul p b _ _ _ x _ _ _ x _ (hP _ (Below.refl _ _)) (hX'.out) (hX'.out) (by omega) (by omega) hp hp2 Hx.out Hx.out).mono ?_
        rintro e w4 ⟨a4, c4, rfl, ho4, hb4⟩
        replace c0' := cell_be hb4 c0'
        replace c1' := cell_be hb4 c1'
        replace c2' := cell_be hb4 c2'
        go_wp2
        go_roundw
        case rel => exact ⟨kk / 2, a4, c4, mulM p x x, ar, cr, r, rfl, ⟨by omega, by omega⟩, rfl, rfl, hide ho4.sl, hide (hR.out.below hb4), hide (mulM_areB hp _ _), Hr, by rw [mulM_mlen, Hj2.out]; exact hpb2, by rw [Hj2.out]; exact hv2, ⟨c0', c1', c2'⟩, hBr.trans (hb4.mono hbs)⟩
        case measure => simp [intOf]; omega
    · have hv : Hid (r = pwL p f k.toNat) := hide (by
        have := hval.out
        rw [show kk.toNat = 0 by omega] at this
        rwa [pwL, mulM_comm hp, mulM_one hp Hr.out] at this)
      clear hval
      go_wp2
      go_ret
      exact ⟨ar, cr, by rw [← hv.out]; rfl, by rw [← hv.out]; exact hR.out, hBr⟩
def pwrC (p : Int) (f : List Int) (k : Int) : Int := if chk1 p f = 0 then (if 0 ≤ k ∧ k ≤ 24 then (if (f.length - 1) * k.toNat ≤ 24 then 0 else 3) else 2) else chk1 p f
def pwrV (p : Int) (f : List Int) (k : Int) : List Int := if pwrC p f k = 0 then pwL p f k.toNat else []
theorem deg_pow (a : Nat) (k : Int) (h1 : a ≤ 25) (h2 : 0 ≤ k) (h3 : k ≤ 24) : (-30 ≤ ((a : Int) - 1) * k ∧ ((a : Int) - 1) * k ≤ 600) ∧ (24 < ((a : Int) - 1) * k ↔ ¬ (a - 1) * k.toNat ≤ 24) := by
  obtain ⟨j, rfl⟩ := Int.eq_ofNat_of_zero_le h2
  cases a with
  | zero =>
    refine ⟨⟨by omega, by omega⟩, ?_⟩
    constructor <;> intro h <;> first | omega | (simp at h; try omega)
  | succ a =>
    have e : (((a + 1 : Nat) : Int) - 1) * (j : Int) = ((a * j : Nat) : Int) := by
      rw [show (((a + 1 : Nat) : Int) - 1) = (a : Int) by omega]; simp
    have h : a * j ≤ 24 * 24 := Nat.mul_le_mul (by omega) (by omega)
    rw [e, Nat.add_sub_cancel, Int.toNat_natCast]
    omega
theorem pwL_le {p : Int} {f : List Int} {k : Nat} (h : (f.length - 1) * k ≤ 24) : (pwL p f k).length ≤ 25 := by
  have := pwL_len p f k
  rw [Nat.mul_comm] at this
  omega
set_option maxRecDepth 100000 in
set_option maxHeartbeats 1600000 in
theorem implPowerPoly (p : Int) (a1 : Option Addr) (n1 c1 : Nat) (f : List Int) (k : Int) (w : World) (h1 : SL w a1 n1 c1 f) (b1 : n1 ≤ 4000000) :
    Calls Try.prog 24 #[.int .i64 p, .slice a1 n1 c1, .int .i64 k] w (Res1 w (pwrV p f k) (pwrC p f k)) := by
  have hl1 := hide h1.len
  rcases chk1_cases p f with hc | hc | ⟨hc, hf, hpr⟩
  · have HC := hide (show pwrC p f k = 1 by simp [pwrC, hc])
    have HV := hide (show pwrV p f k = [] by simp [pwrV, HC.out])
    have Hc := hide hc
    clear hc
    go_enter Try.func24, Try.ntmps24
    go_wp2_with (go_at_call 79; refine (check1 p _ _ _ f 1 _ h1 b1 Hc.out).mono ?_; rintro e w1 ⟨rfl, hb1⟩)
    go_ret2
    exact Res1.nil HV.out HC.out hb1
  · have HC := hide (show pwrC p f k = 2 by simp [pwrC, hc])
    have HV := hide (show pwrV p f k = [] by simp [pwrV, HC.out])
    have Hc := hide hc
    clear hc
    go_enter Try.func24, Try.ntmps24
    go_wp2_with (go_at_call 79; refine (check1 p _ _ _ f 2 _ h1 b1 Hc.out).mono ?_; rintro e w1 ⟨rfl, hb1⟩)
    go_ret2
    exact Res1.nil HV.out HC.out hb1
  · obtain ⟨hp, hp2⟩ := primeB_lo hpr
    have d1 : n1 ≤ 25 := by have := poly_len hf; have := hl1.out; omega
    have Hc := hide hc
    by_cases hk : 0 ≤ k ∧ k ≤ 24
    · have HF := hide (poly_are hf)
      have HL := hide (poly_len hf)
      have hk' := hk
      obtain ⟨hk0, hk1⟩ := hk
      obtain ⟨⟨m1, m2⟩, hm⟩ := deg_pow n1 k d1 hk0 hk1
      by_cases hd : (n1 - 1) * k.toNat ≤ 24
      · have HD : Hid ((f.length - 1) * k.toNat ≤ 24) := hide (by rw [hl1.out]; exact hd)
        have HC := hide (show pwrC p f k = 0 by simp [pwrC, hc, HD.out, hk0, hk1])
        have HV := hide (show pwrV p f k = pwL p f k.toNat by simp [pwrV, HC.out])
        have hnd : ¬ 24 < ((n1 : Int) - 1) * k := fun h => hm.1 h hd
        clear hc hf hpr hm hd hk'
        go_enter Try.func24, Try.ntmps24
        go_wp2_with fail
        refine (check1 p _ _ _ f 0 _ h1 b1 Hc.out).mono ?_
        rintro e w1 ⟨rfl, hb1⟩
        go_wp2_with fail
        refine (degree_any _ _ _ _ (by omega)).mono ?_
        rintro e w2 ⟨rfl, rfl⟩
        go_wp2_with fail
        refine (polysModulo_any p _).mono ?_
        rintro e w3 ⟨rfl, hc3, hb3, hs3⟩
        have hB3 := bnext hb1 hb3
        go_wp2_with fail
        refine (power_poly p k _ _ _ f _ _ hc3 ((h1.below hb1).below hb3) hp hp2 HF.out hk0 hk1 HD.out HL.out).mono ?_
        rintro e w5 ⟨a', c', rfl, ho, hb5⟩
        have hB5 := bnext hB3 hb5
        have hz := hB3.size
        go_wp2
        go_ret2
        exact Res1.own HC.out (by rw [HV.out]) (by rw [HV.out]; exact ho.mono (by omega)) (by rw [HV.out]; exact Nat.le_trans (pwL_le HD.out) (by omega)) hB5
      · have HC := hide (show pwrC p f k = 3 by simp only [pwrC, hc, if_true, if_pos hk']; rw [hl1.out, if_neg hd])
        have HV := hide (show pwrV p f k = [] by simp [pwrV, HC.out])
        have hnd : 24 < ((n1 : Int) - 1) * k := hm.2 hd
        clear hc hf hpr hm hd hk'
        go_enter Try.func24, Try.ntmps24
        go_wp2_with fail
        refine (check1 p _ _ _ f 0 _ h1 b1 Hc.out).mono ?_
        rintro e w1 ⟨rfl, hb1⟩
        go_wp2_with fail
        refine (degree_any _ _ _ _ (by omega)).mono ?_
        rintro e w2 ⟨rfl, rfl⟩
        go_wp2
        go_ret2
        exact Res1.nil HV.out HC.out hb1
    · have HC := hide (show pwrC p f k = 2 by simp only [pwrC, hc, if_true, if_neg hk])
      have HV := hide (show pwrV p f k = [] by simp [pwrV, HC.out])
      clear hc hf hpr
      by_cases hk0 : k < 0
      · clear hk
        go_enter Try.func24, Try.ntmps24
        go_wp2_with fail
        refine (check1 p _ _ _ f 0 _ h1 b1 Hc.out).mono ?_
        rintro e w1 ⟨rfl, hb1⟩
        go_wp2
        go_ret2
        exact Res1.nil HV.out HC.out hb1
      · have hk1 : 24 < k := by omega
        clear hk
        go_enter Try.func24, Try.ntmps24
        go_wp2_with fail
        refine (check1 p _ _ _ f 0 _ h1 b1 Hc.out).mono ?_
        rintro e w1 ⟨rfl, hb1⟩
        go_wp2
        go_ret2
        exact Res1.nil HV.out HC.out hb1
theorem pwL_poly {p : Int} {f : List Int} (hp : primeB p = true) (hf : polyB p f = true) (k n : Nat) (hk : k ≤ n) (hd : (f.length - 1) * n ≤ 24) : polyB p (pwL p f k) = true := by
  have hl := primeB_lo hp
  have hle : (f.length - 1) * k ≤ (f.length - 1) * n := Nat.mul_le_mul_left _ hk
  induction k with
  | zero => simp [pwL, polyB, areB, okN, lastZ]; omega
  | succ k ih =>
    have hle2 : (f.length - 1) * k ≤ (f.length - 1) * n := Nat.mul_le_mul_left _ (by omega)
    have ih := ih (by omega) hle2
    have ht := mulM_trim hp ih hf
    have := polyB_trim (p := p) (xs := mulM p (pwL p f k) f) (pwL_le (k := k + 1) (by omega)) (fun j hj => areB_at (mulM_areB hl.1 _ _) j hj)
    rw [ht] at this
    exact this
set_option maxRecDepth 100000 in
set_option maxHeartbeats 1600000 in
theorem specPowerPoly (p : Int) (a1 : Option Addr) (n1 c1 : Nat) (f : List Int) (k : Int) (w : World) (h1 : SL w a1 n1 c1 f) (b1 : n1 ≤ 4000000) :
    Calls Try.prog 23 #[.int .i64 p, .slice a1 n1 c1, .int .i64 k] w (Res1 w (pwrV p f k) (pwrC p f k)) := by
  have hl1 := hide h1.len
  rcases chk1_cases p f with hc | hc | ⟨hc, hf, hpr⟩
  · have HC := hide (show pwrC p f k = 1 by simp [pwrC, hc])
    have HV := hide (show pwrV p f k = [] by simp [pwrV, HC.out])
    have Hc := hide hc
    clear hc
    go_enter Try.func23, Try.ntmps23
    go_wp2_with (go_at_call 76; refine (code1 p _ _ _ f 1 _ h1 b1 Hc.out).mono ?_; rintro e w1 ⟨rfl, hb1⟩)
    go_ret2
    exact Res1.nil HV.out HC.out hb1
  · have HC := hide (show pwrC p f k = 2 by simp [pwrC, hc])
    have HV := hide (show pwrV p f k = [] by simp [pwrV, HC.out])
    have Hc := hide hc
    clear hc
    go_enter Try.func23, Try.ntmps23
    go_wp2_with (go_at_call 76; refine (code1 p _ _ _ f 2 _ h1 b1 Hc.out).mono ?_; rintro e w1 ⟨rfl, hb1⟩)
    go_ret2
    exact Res1.nil HV.out HC.out hb1
  · obtain ⟨hp, hp2⟩ := primeB_lo hpr
    have d1 : n1 ≤ 25 := by have := poly_len hf; have := hl1.out; omega
    have Hc := hide hc
    by_cases hk : 0 ≤ k ∧ k ≤ 24
    · have HP := hide hf
      have HF := hide (poly_are hf)
      have HL := hide (poly_len hf)
      have HPR := hide hpr
      have hk' := hk
      obtain ⟨hk0, hk1⟩ := hk
      obtain ⟨⟨m1, m2⟩, hm⟩ := deg_pow n1 k d1 hk0 hk1
      have hz : wrap64 0 = 0 := by first | kernel_rfl | exact IntWalk.i64_in 0 (by omega) | simp [wrap64]
      by_cases hd : (n1 - 1) * k.toNat ≤ 24
      · have HD : Hid ((f.length - 1) * k.toNat ≤ 24) := hide (by rw [hl1.out]; exact hd)
        have HC := hide (show pwrC p f k = 0 by simp [pwrC, hc, HD.out, hk0, hk1])
        have HV := hide (show pwrV p f k = pwL p f k.toNat by simp [pwrV, HC.out])
        have hnd : ¬ 24 < ((n1 : Int) - 1) * k := fun h => hm.1 h hd
        have hO0 : Own w.heap.size (w.alloc (.cells #[.int .i64 1] 2)) (some ⟨w.heap.size, 0, none⟩) 1 [1] := litOwn w _ (Nat.le_refl _) 1
        clear hc hf hpr hm hd hk'
        by_cases hA : (n1 : Int) - 1 < 0
        all_goals
          go_enter Try.func23, Try.ntmps23
          go_wp2_with fail
          refine (code1 p _ _ _ f 0 _ h1 b1 Hc.out).mono ?_
          rintro e w1 ⟨rfl, hb1⟩
          have hO1 : Hid (Own w.heap.size (w1.alloc (.cells #[.int .i64 1] 2)) (some ⟨w1.heap.size, 0, none⟩) 1 (pwL p f 0)) := hide (litOwn w1 _ hb1.size 1)
          have hB1 := bnext hb1 (bl1 w1 (.cells #[.int .i64 1] 2))
          clear hO0
          go_wp2_with fail
          refine (l01In_yes _ _ _ _ hk0 hk1).mono ?_
          rintro e w2 ⟨rfl, rfl⟩
          go_wp2
          go_loopw [2, 9] (fun kv rv wr => ∃ (kk : Int) (ar : Option Addr) (cr : Nat), kv = .int .i64 kk ∧ (0 ≤ kk ∧ kk ≤ k) ∧ rv = .slice ar (pwL p f (k - kk).toNat).length cr ∧
            Hid (Own w.heap.size wr ar cr (pwL p f (k - kk).toNat)) ∧ Below w.heap.size w wr) (fun kv _ _ => (intOf kv).toNat)
          case atStart => exact ⟨k, some ⟨w1.heap.size, 0, none⟩, 1, rfl, ⟨hk0, by omega⟩, by rw [show (k - k).toNat = 0 by omega]; rfl, by rw [show (k - k).toNat = 0 by omega]; exact hO1, hB1⟩
          case round =>
            obtain ⟨kk, ar, cr, rfl, ⟨hq0, hq1⟩, rfl, hR, hBr⟩ := hrel
            clear hO1 hB1
            by_cases hpos : 0 < kk
            · have hst : Hid (pwL p f (k - (kk - 1)).toNat = mulM p (pwL p f (k - kk).toNat) f) := hide (by rw [show (k - (kk - 1)).toNat = (k - kk).toNat + 1 by omega]; rfl)
              have hpp := pwL_poly HPR.out HP.out (k - kk).toNat k.toNat (by omega) HD.out
              have hr1 := poly_len hpp
              have Hr := hide (poly_are hpp)
              have Ht := hide (mulM_trim HPR.out hpp HP.out)
              obtain ⟨r, hr⟩ : ∃ r, pwL p f (k - kk).toNat = r := ⟨_, rfl⟩
              rw [hr] at hst hr1 Hr Ht hR ⊢
              clear hr hpp
              have hbs := hBr.size
              go_wp2_with fail
              refine (l01TimesP p _ _ _ r _ _ _ f _ hR.out.sl (h1.below hBr) (by omega) (by omega) hp hp2 Hr.out HF.out Ht.out).mono ?_
              rintro e w4 ⟨a4, c4, rfl, ho4, hb4⟩
              go_wp2
              go_roundw
              case rel => exact ⟨kk - 1, a4, c4, rfl, ⟨by omega, by omega⟩, by rw [hst.out], by rw [hst.out]; exact hide (ho4.mono hbs), hBr.trans (hb4.mono hbs)⟩
              case measure => simp [intOf]; omega
            · have he : Hid ((k - kk).toNat = k.toNat) := hide (by omega)
              rw [he.out] at hR ⊢
              go_wp2
              go_ret2
              exact Res1.own HC.out (by rw [HV.out]) (by rw [HV.out]; exact hR.out) (by rw [HV.out]; exact Nat.le_trans (pwL_le HD.out) (by omega)) hBr
      · have HC := hide (show pwrC p f k = 3 by simp only [pwrC, hc, if_true, if_pos hk']; rw [hl1.out, if_neg hd])
        have HV := hide (show pwrV p f k = [] by simp [pwrV, HC.out])
        have hnd : 24 < ((n1 : Int) - 1) * k := hm.2 hd
        have hA : ¬ (n1 : Int) - 1 < 0 := fun h => hd (by rw [show n1 - 1 = 0 by omega]; simp)
        clear hc hf hpr hm hd hk'
        go_enter Try.func23, Try.ntmps23
        go_wp2_with fail
        refine (code1 p _ _ _ f 0 _ h1 b1 Hc.out).mono ?_
        rintro e w1 ⟨rfl, hb1⟩
        go_wp2_with fail
        refine (l01In_yes _ _ _ _ hk0 hk1).mono ?_
        rintro e w2 ⟨rfl, rfl⟩
        go_wp2
        go_ret2
        exact Res1.nil HV.out HC.out hb1
    · have HC := hide (show pwrC p f k = 2 by simp only [pwrC, hc, if_true, if_neg hk])
      have HV := hide (show pwrV p f k = [] by simp [pwrV, HC.out])
      clear hc hf hpr
      go_enter Try.func23, Try.ntmps23
      go_wp2_with fail
      refine (code1 p _ _ _ f 0 _ h1 b1 Hc.out).mono ?_
      rintro e w1 ⟨rfl, hb1⟩
      go_wp2_with fail
      refine (l01In_no _ _ _ _ hk).mono ?_
      rintro e w2 ⟨rfl, rfl⟩
      go_wp2
      go_ret2
      exact Res1.nil HV.out HC.out hb1
end Go.Proofs.Ytjmhkodbkkdfdaa

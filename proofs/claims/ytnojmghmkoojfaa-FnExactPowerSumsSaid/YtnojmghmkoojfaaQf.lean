/- Contracts: powerSums (program), PowerSums (program and model). -/
import Derived.Test.YtnojmghmkoojfaaQa
import Derived.Test.YtnojmghmkoojfaaDe
namespace Go.Proofs.Ytnojmghmkoojfaa
open Go.RowKit
set_option linter.unusedVariables false
set_option linter.unusedSimpArgs false

/-- The products that the series of power sums begins with. -/
def psF (p : Int) (f : List Int) : List Int := tab f.length (fun k => (((f.length : Int) - 1 - k) * (revL f).getD k 0) % p)
def psS (p : Int) (f : List Int) : Nat → Int := serS p (psF p f) (revL f)
def psL (p : Int) (f : List Int) (n : Nat) : List Int := serL p (psF p f) (revL f) n
theorem psF_are {p : Int} (hp : 2 ≤ p) (f : List Int) : areB p (psF p f) = true := tab_are' fun _ _ => modb hp
theorem psF_at (p : Int) (f : List Int) (k : Nat) : (psF p f).getD k 0 = if k < f.length then (((f.length : Int) - 1 - k) * (revL f).getD k 0) % p else 0 := by
  unfold psF
  by_cases h : k < f.length
  · rw [tab_at _ _ _ h, if_pos h]
  · rw [if_neg h, getD_far (by rw [tab_len]; omega)]
theorem revL_at (f : List Int) (k : Nat) (h : k < f.length) : (revL f).getD k 0 = f.getD (f.length - 1 - k) 0 := by
  unfold revL
  rw [tab_at _ _ _ h]
theorem psS_zero {p : Int} (hp : primeB p = true) {f : List Int} (hf : polyB p f = true) (h0 : f.length ≠ 0) : psS p f 0 = ((f.length : Int) - 1) % p := by
  obtain ⟨h2, _⟩ := primeB_lo hp
  have hA : (revL f).getD 0 0 = f.getD (f.length - 1) 0 := by rw [revL_at f 0 (by omega)]; rfl
  have hl : f.getD (f.length - 1) 0 ≠ 0 := poly_last hf rfl (by omega)
  have hr := getD_rng (poly_are hf) h2 (f.length - 1)
  have hi := invM_mul hp (show 0 < f.getD (f.length - 1) 0 by omega) hr.2
  unfold psS
  rw [serS_eq]
  show (psF p f).getD 0 0 * invM p ((revL f).getD 0 0) % p = _
  rw [psF_at, if_pos (by omega), hA]
  generalize f.getD (f.length - 1) 0 = a at *
  generalize invM p a = q at *
  generalize (f.length : Int) - 1 = d
  rw [Int.mul_emod, Int.emod_emod, ← Int.mul_emod, show (d - ((0 : Nat) : Int)) * a * q = d * (a * q) by grind, Int.mul_emod, hi, Int.mul_one, Int.emod_emod]
/-- A power sum by the ones ahead of it, the way the model goes. -/
theorem psS_next {p : Int} (hp : primeB p = true) {f : List Int} (hf : polyB p f = true) (h0 : f.length ≠ 0) (k m : Nat) (t : Int) (hk : 1 ≤ k) (hm : m ≤ k - 1) (hm2 : m = k - 1 ∨ f.length ≤ m + 1)
    (hs : t % p = (-(invM p ((revL f).getD 0 0) * sm m (fun a => (revL f).getD (a + 1) 0 * psS p f (k - (a + 1))))) % p) :
    (t - (k : Int) % p * ((revL f).getD k 0 * invM p ((revL f).getD 0 0) % p)) % p = psS p f k := by
  obtain ⟨h2, _⟩ := primeB_lo hp
  have z := psS_zero hp hf h0
  have hsm : sm (k - 1) (fun a => (revL f).getD (a + 1) 0 * psS p f (k - (a + 1))) = sm m (fun a => (revL f).getD (a + 1) 0 * psS p f (k - (a + 1))) := by
    rcases hm2 with h | h
    · rw [h]
    · exact sm_ext _ m (k - 1) hm (fun a h3 h4 => by rw [getD_far (by rw [revL_len]; omega), Int.zero_mul])
  rw [← hsm] at hs
  have e := serS_eq p (psF p f) (revL f) k
  have eT := serT_sm p (psF p f) (revL f) (psS p f) k k
  obtain ⟨j, rfl⟩ : ∃ j, k = j + 1 := ⟨k - 1, by omega⟩
  rw [Nat.add_sub_cancel] at hs
  rw [sm, Nat.sub_self, z] at eT
  have hF := psF_at p f (j + 1)
  change psS p f (j + 1) = _ at e
  rw [e]
  change serT p (psF p f) (revL f) (psS p f) (j + 1) (j + 1) % p = _ at eT
  change _ = serT p (psF p f) (revL f) (psS p f) (j + 1) (j + 1) * invM p ((revL f).getD 0 0) % p
  have hA : ((revL f).getD (j + 1) 0 = 0 ∧ (psF p f).getD (j + 1) 0 = 0) ∨ (psF p f).getD (j + 1) 0 = (((f.length : Int) - 1 - ((j + 1 : Nat) : Int)) * (revL f).getD (j + 1) 0) % p := by
    by_cases h : j + 1 < f.length
    · exact .inr (by rw [hF, if_pos h])
    · exact .inl ⟨getD_far (by rw [revL_len]; omega), by rw [hF, if_neg h]⟩
  generalize sm j (fun a => (revL f).getD (a + 1) 0 * psS p f (j + 1 - (a + 1))) = s at *
  generalize serT p (psF p f) (revL f) (psS p f) (j + 1) (j + 1) = T at *
  generalize (revL f).getD (j + 1) 0 = a at *
  generalize invM p ((revL f).getD 0 0) = q at *
  generalize (psF p f).getD (j + 1) 0 = F at *
  generalize ((j + 1 : Nat) : Int) = K at *
  generalize (f.length : Int) - 1 = d at *
  have l1 : (t - K % p * (a * q % p)) % p = (-(q * s) - K * (a * q)) % p := by
    rw [Int.sub_emod, ← Int.mul_emod K (a * q) p, hs, ← Int.sub_emod]
  have l2 : T * q % p = (F - (s + a * d)) * q % p := by
    rw [Int.mul_emod, eT, ← Int.mul_emod]
    rw [Int.mul_emod, Int.sub_emod, Int.add_emod, Int.mul_emod a, Int.emod_emod, ← Int.mul_emod a, ← Int.add_emod, ← Int.sub_emod, ← Int.mul_emod]
  rw [l1, l2]
  rcases hA with ⟨ha, hF0⟩ | hF0
  · rw [ha, hF0]
    congr 1
    grind
  · have l3 : (F - (s + a * d)) * q % p = ((d - K) * a - (s + a * d)) * q % p := by
      rw [hF0, Int.mul_emod, Int.sub_emod, Int.emod_emod, ← Int.sub_emod, ← Int.mul_emod]
    rw [l3]
    congr 1
    grind
def psC (p : Int) (f : List Int) (n : Int) : Int := if chk1 p f = 0 then (if 0 ≤ n ∧ n ≤ 24 then (if f.isEmpty then 5 else 0) else 2) else chk1 p f
def psV (p : Int) (f : List Int) (n : Int) : List Int := if psC p f n = 0 then psL p f (n.toNat + 1) else []
/-- The row of products when the first k are done. -/
def psR (p : Int) (f : List Int) (k : Nat) : Nat → Int := fun j => if j < k then (((f.length : Int) - 1 - j) * (revL f).getD j 0) % p else 0
theorem psR_set (p : Int) (f : List Int) (n k : Nat) : (tab n (psR p f k)).set k ((((f.length : Int) - 1 - k) * (revL f).getD k 0) % p) = tab n (psR p f (k + 1)) := by
  rw [tab_set]
  apply tab_congr
  intro j _
  unfold psR
  by_cases e : j = k
  · subst e; simp
  · rw [if_neg e]
    by_cases h : j < k
    · rw [if_pos h, if_pos (by omega)]
    · rw [if_neg h, if_neg (by omega)]
theorem psR_zero (p : Int) (f : List Int) (n : Nat) : List.replicate n (0 : Int) = tab n (psR p f 0) := by
  apply ext_tab
  · rw [List.length_replicate, tab_len]
  · intro j hj
    rw [List.length_replicate] at hj
    rw [tab_at _ _ _ hj]
    simp [psR, hj]
theorem psR_done (p : Int) (f : List Int) (n : Nat) (h : f.length = n) : tab n (psR p f n) = psF p f := by
  subst h
  exact tab_congr fun j hj => if_pos hj
set_option maxRecDepth 100000 in
set_option maxHeartbeats 3200000 in
theorem powerSums_any (p : Int) (a1 : Option Addr) (n1 c1 : Nat) (f : List Int) (N : Nat) (w : World) (h1 : SL w a1 n1 c1 f) (hpr : primeB p = true) (hf : polyB p f = true) (h0 : n1 ≠ 0) (hN : N ≤ 24) :
    Calls Try.prog 73 #[.int .i64 p, .slice a1 n1 c1, .int .i64 N] w fun e w' => ∃ a' c', e = .returned (.slice a' (N + 1) c') ∧ Own w.heap.size w' a' c' (psL p f (N + 1)) ∧ Below w.heap.size w w' := by
  have hl1 := hide h1.len
  obtain ⟨hp, hp2⟩ := primeB_lo hpr
  have d1 : n1 ≤ 25 := by have := poly_len hf; have := hl1.out; omega
  have hRA := revL_are (poly_are hf)
  have HRA := hide hRA
  have HFA := hide (psF_are hp f)
  have HZ := hide (psR_zero p f n1)
  clear hpr hf hRA
  go_enter Try.func73, Try.ntmps73
  go_wp2_with fail
  refine (reversed_any a1 n1 c1 f _ h1 (by omega)).mono ?_
  rintro e w1 ⟨a2, c2, rfl, ho1, hb1⟩
  have hrl : Hid ((revL f).length = n1) := hide (by rw [revL_len, hl1.out])
  have s1 := ho1.sl
  rw [hrl.out] at s1
  obtain ⟨bg, og, rfl, hbg, hcg⟩ := s1.at (by omega)
  have Hcg := hide hcg
  have hz1 := hb1.size
  clear hcg
  go_wp2_with (at_make; refine wp_make rfl _ _ rfl _ _ n1 rfl rfl rfl rfl (by omega) ?_; intro w2 hrow hb hsz)
  have hR0 : Hid (RowI w2 w1.heap.size (tab n1 (psR p f 0))) := hide (by have := hrow.out; rwa [HZ.out] at this)
  have hB2 := hb
  clear hrow hb
  go_loopw [18] (fun kv wr => ∃ k : Nat, k ≤ n1 ∧ kv = .int .i64 k ∧ Hid (RowI wr w1.heap.size (tab n1 (psR p f k))) ∧ Below w1.heap.size w1 wr ∧ w1.heap.size < wr.heap.size) (fun kv _ => n1 - (intOf kv).toNat)
  case atStart => exact ⟨0, by omega, rfl, hR0, hB2, hsz⟩
  case round =>
    obtain ⟨k, hk, rfl, hR, hBr, hsr⟩ := hrel
    clear hR0 hB2 hsz
    by_cases hlt : k < n1
    · have hlt' : (k : Int) < (n1 : Int) := by omega
      have e1 := cell_be hBr (Hcg.out k hlt)
      have r1 := getD_rng HRA.out hp k
      have hfr := hR.out.free k
      have hset := hR.out.set k ((((f.length : Int) - 1 - k) * (revL f).getD k 0) % p)
      rw [psR_set, hl1.out] at hset
      obtain ⟨x, hx⟩ : ∃ x, (revL f).getD k 0 = x := ⟨_, rfl⟩
      rw [hx] at e1 r1 hset
      have Hset := hide hset
      have hcw := hR.out.cell k (by rw [tab_len]; exact hlt)
      obtain ⟨old, hold⟩ : ∃ old, (tab n1 (psR p f k)).getD k 0 = old := ⟨_, rfl⟩
      rw [hold] at hcw
      obtain ⟨m1, m2⟩ := mul25 (k := (n1 : Int) - 1 - (k : Int)) r1.1 r1.2 hp2 (by omega) (by omega)
      have v1 : IntKind.i64.wrap ((n1 : Int) - 1 - (k : Int)) = (n1 : Int) - 1 - (k : Int) := IntWalk.i64_in _ (by omega)
      have v2 : IntKind.i64.wrap (((n1 : Int) - 1 - (k : Int)) * x) = ((n1 : Int) - 1 - (k : Int)) * x := IntWalk.i64_in _ (by omega)
      have v3 : (((n1 : Int) - 1 - (k : Int)) * x).tmod p = (((n1 : Int) - 1 - (k : Int)) * x) % p := Int.tmod_eq_emod_of_nonneg m1
      have v4 := modb (x := ((n1 : Int) - 1 - (k : Int)) * x) hp
      have v5 : IntKind.i64.wrap ((((n1 : Int) - 1 - (k : Int)) * x) % p) = (((n1 : Int) - 1 - (k : Int)) * x) % p := IntWalk.i64_in _ (by omega)
      have hp0 : ¬ p = 0 := by omega
      have hBn := hBr.setCell (p := ⟨w1.heap.size, k, none⟩) (by simp) (.int .i64 ((((n1 : Int) - 1 - (k : Int)) * x) % p))
      have hsn : w1.heap.size < (wr.setCell ⟨w1.heap.size, k, none⟩ (.int .i64 ((((n1 : Int) - 1 - (k : Int)) * x) % p))).heap.size := by simpa using hsr
      clear hset hx hold hR
      go_wp2_with fail
      refine (degree_any _ n1 _ _ (by omega)).mono ?_
      rintro e w3 ⟨rfl, rfl⟩
      go_wp2
      go_roundw
      case rel => exact ⟨k + 1, by omega, by go_num, Hset, hBn, hsn⟩
      case measure => simp [intOf]; omega
    · obtain rfl : k = n1 := by omega
      have hsF : SL wr (some ⟨w1.heap.size, 0, none⟩) k k (psF p f) := by
        have := hR.out.slN (n := k) (tab_len _ _)
        rwa [psR_done p f k hl1.out] at this
      have sR : SL wr (some ⟨bg, og, none⟩) k c2 (revL f) := s1.below hBr
      have hBw := hb1.trans (hBr.mono hz1)
      have v1 : IntKind.i64.wrap ((N : Int) + 1) = (N : Int) + 1 := IntWalk.i64_in _ (by omega)
      have hzr := hBw.size
      clear hR
      go_wp2_with fail
      rw [show (N : Int) + 1 = ((N + 1 : Nat) : Int) by omega]
      refine (seriesOf_any p _ _ _ (psF p f) _ _ _ (revL f) (N + 1) _ hsF sR (by omega) (by omega) (by omega) (by omega) hp hp2 HFA.out HRA.out).mono ?_
      rintro e w4 ⟨a4, c4, rfl, ho4, hb4⟩
      have hB4 := bnext hBw hb4
      go_wp2
      go_ret
      exact ⟨a4, c4, rfl, ho4.mono hzr, hB4⟩
set_option maxRecDepth 100000 in
set_option maxHeartbeats 1600000 in
theorem implPowerSums (p : Int) (a1 : Option Addr) (n1 c1 : Nat) (f : List Int) (x : Int) (w : World) (h1 : SL w a1 n1 c1 f) (b1 : n1 ≤ 4000000) :
    Calls Try.prog 28 #[.int .i64 p, .slice a1 n1 c1, .int .i64 x] w (Res1 w (psV p f x) (psC p f x)) := by
  have hl1 := hide h1.len
  rcases chk1_cases p f with hc | hc | ⟨hc, hf, hpr⟩
  · have HC := hide (show psC p f x = 1 by simp [psC, hc])
    have HV := hide (show psV p f x = [] by simp [psV, HC.out])
    have Hc := hide hc
    clear hc
    go_enter Try.func28, Try.ntmps28
    go_wp2_with (go_at_call 63; refine (check1 p _ _ _ f 1 _ h1 b1 Hc.out).mono ?_; rintro e w1 ⟨rfl, hb1⟩)
    go_ret2
    exact Res1.nil HV.out HC.out hb1
  · have HC := hide (show psC p f x = 2 by simp [psC, hc])
    have HV := hide (show psV p f x = [] by simp [psV, HC.out])
    have Hc := hide hc
    clear hc
    go_enter Try.func28, Try.ntmps28
    go_wp2_with (go_at_call 63; refine (check1 p _ _ _ f 2 _ h1 b1 Hc.out).mono ?_; rintro e w1 ⟨rfl, hb1⟩)
    go_ret2
    exact Res1.nil HV.out HC.out hb1
  obtain ⟨hp, hp2⟩ := primeB_lo hpr
  have Hc := hide hc
  by_cases hk : 0 ≤ x ∧ x ≤ 24
  rotate_left
  · have HC := hide (show psC p f x = 2 by simp [psC, hc, hk])
    have HV := hide (show psV p f x = [] by simp [psV, HC.out])
    clear hc hf hpr
    by_cases hk0 : x < 0
    · go_enter Try.func28, Try.ntmps28
      go_wp2_with fail
      refine (check1 p _ _ _ f 0 _ h1 b1 Hc.out).mono ?_
      rintro e w1 ⟨rfl, hb1⟩
      go_wp2
      go_ret2
      exact Res1.nil HV.out HC.out hb1
    · have hk1 : 24 < x := by omega
      go_enter Try.func28, Try.ntmps28
      go_wp2_with fail
      refine (check1 p _ _ _ f 0 _ h1 b1 Hc.out).mono ?_
      rintro e w1 ⟨rfl, hb1⟩
      go_wp2
      go_ret2
      exact Res1.nil HV.out HC.out hb1
  obtain ⟨hk0, hk1⟩ := hk
  obtain ⟨N, rfl⟩ : ∃ N : Nat, x = N := ⟨x.toNat, by omega⟩
  by_cases h0 : n1 = 0
  · have HC := hide (show psC p f N = 5 by simp only [psC, hc, hk0, hk1, and_self, if_true]; rw [isEmpty_len hl1.out]; simp [h0])
    have HV := hide (show psV p f N = [] by simp [psV, HC.out])
    subst h0
    have hk2 : ¬ (N : Int) < 0 := by omega
    have hk3 : ¬ (24 : Int) < (N : Int) := by omega
    clear hc hf hpr
    go_enter Try.func28, Try.ntmps28
    go_wp2_with fail
    refine (check1 p _ _ _ f 0 _ h1 b1 Hc.out).mono ?_
    rintro e w1 ⟨rfl, hb1⟩
    go_wp2
    go_ret2
    exact Res1.nil HV.out HC.out hb1
  · have HC := hide (show psC p f N = 0 by simp only [psC, hc, hk0, hk1, and_self, if_true]; rw [isEmpty_len hl1.out]; simp [h0])
    have HV := hide (show psV p f N = psL p f (N + 1) by simp [psV, HC.out])
    have h0b : ((n1 : Int) == 0) = false := by simpa using h0
    have HF := hide hf
    have HP := hide hpr
    have hk2 : ¬ (N : Int) < 0 := by omega
    have hk3 : ¬ (24 : Int) < (N : Int) := by omega
    have hln : Hid ((psL p f (N + 1)).length = N + 1) := hide (serL_len _ _ _ _)
    clear hc hf hpr
    go_enter Try.func28, Try.ntmps28
    go_wp2_with fail
    refine (check1 p _ _ _ f 0 _ h1 b1 Hc.out).mono ?_
    rintro e w1 ⟨rfl, hb1⟩
    have s1 := h1.below hb1
    go_wp2_with fail
    refine (powerSums_any p _ _ _ f N _ s1 HP.out HF.out h0 (by omega)).mono ?_
    rintro e w2 ⟨a', c', rfl, ho, hb2⟩
    have hB2 := bnext hb1 hb2
    have hz := hb1.size
    go_wp2
    go_ret2
    exact Res1.own HC.out (by rw [HV.out, hln.out]) (by rw [HV.out]; exact ho.mono hz) (by rw [HV.out, hln.out]; omega) hB2
theorem ps_step {p t q A s S : Int} (h : t % p = (-(q * S)) % p) : (t - A * q % p * s) % p % p = (-(q * (S + A * s))) % p := by
  have e : (t - A * q % p * s) % p = (t - A * q * s) % p := by
    rw [Int.sub_emod, Int.mul_emod, Int.emod_emod, ← Int.mul_emod, ← Int.sub_emod]
  rw [e, Int.emod_emod, Int.sub_emod, h, ← Int.sub_emod]
  congr 1
  grind
theorem modS {p x : Int} (h0 : 0 ≤ x) (h1 : x < p) : x % p = x := Int.emod_eq_of_lt h0 h1
set_option maxRecDepth 100000 in
set_option maxHeartbeats 6400000 in
theorem specPowerSums_good (p : Int) (a1 : Option Addr) (n1 c1 : Nat) (f : List Int) (N : Nat) (w : World) (h1 : SL w a1 n1 c1 f) (hc : chk1 p f = 0) (hpr : primeB p = true) (hf : polyB p f = true) (h0 : n1 ≠ 0) (hN : N ≤ 24) (d1 : n1 ≤ 25) :
    Calls Try.prog 27 #[.int .i64 p, .slice a1 n1 c1, .int .i64 N] w (Res1 w (psL p f (N + 1)) 0) := by
  have hl1 := hide h1.len
  obtain ⟨hp, hp2⟩ := primeB_lo hpr
  have hfl : f.length ≠ 0 := by have := hl1.out; omega
  have Hc := hide hc
  have Hz := hide (show nz1 p f = 0 by unfold nz1; rw [hc, isEmpty_len hl1.out]; simp [h0])
  have Hf := hide (poly_are hf)
  have HRA := hide (revL_are (poly_are hf))
  have HZ0 := hide (psS_zero hpr hf hfl)
  have HNX := hide (fun k m t hk hm hm2 hs => psS_next hpr hf hfl k m t hk hm hm2 hs)
  obtain ⟨b, off, rfl, hbw, hcell⟩ := h1.at (by omega)
  have Hcg := hide hcell
  obtain ⟨D, hD⟩ : ∃ D, n1 - 1 = D := ⟨_, rfl⟩
  have hd1 : D + 1 ≤ n1 := by omega
  have hd2 : n1 ≤ D + 1 := by omega
  obtain ⟨ad, had⟩ : ∃ ad, f.getD D 0 = ad := ⟨_, rfl⟩
  have hrd : Hid ((revL f).getD 0 0 = ad) := hide (by rw [revL_at f 0 (by omega), hl1.out, hD]; exact had)
  have e0 := hcell (D) (by omega)
  have r0 := getD_rng (poly_are hf) hp (D)
  rw [had] at e0 r0
  have hq0 := powM_rng (p := p) (x := ad) (k := p - 2) hp
  obtain ⟨q, hqd⟩ : ∃ q, invM p ad = q := ⟨_, rfl⟩
  have hq1 : 0 ≤ q ∧ q < p := by rw [← hqd]; exact hq0
  have HQ := hide hqd
  have HQ2 : Hid (invM p ((revL f).getD 0 0) = q) := hide (by rw [hrd.out, hqd])
  have v0 : IntKind.i64.wrap ((n1 : Int) - 1) = (D : Int) := by rw [show (n1 : Int) - 1 = (D : Int) by omega]; exact IntWalk.i64_in _ (by omega)
  have g0 : (0 : Int) ≤ (D : Int) := by omega
  have g1 : (D : Int) < (n1 : Int) := by omega
  have v2 : ((D : Int)).tmod p = ((D : Int)) % p := Int.tmod_eq_emod_of_nonneg g0
  have hz1 : Hid ((((D : Int)) % p) = psS p f 0) := hide (by rw [HZ0.out, hl1.out, show (n1 : Int) - 1 = (D : Int) by omega])
  obtain ⟨s0, hs0⟩ : ∃ s0, ((D : Int)) % p = s0 := ⟨_, rfl⟩
  have rs0 : 0 ≤ s0 ∧ s0 < p := by rw [← hs0]; exact modb hp
  rw [hs0] at v2 hz1
  have v3 : IntKind.i64.wrap s0 = s0 := IntWalk.i64_in _ (by omega)
  have hp0 : ¬ p = 0 := by omega
  have hn1 : D < n1 := by omega
  have hL1 : Hid ([s0] = psL p f 1) := hide (by unfold psL; rw [serL_tab]; show _ = [psS p f 0]; rw [← hz1.out])
  clear hc hpr hf hcell had hqd hq0 hs0 hfl hD
  go_enter Try.func27, Try.ntmps27
  go_wp2_with fail
  refine (code1 p _ _ _ f 0 _ h1 (by omega) Hc.out).mono ?_
  rintro e w1 ⟨rfl, hb1⟩
  go_wp2_with fail
  refine (l01In_yes _ _ _ _ (by omega) (by omega)).mono ?_
  rintro e w2 ⟨rfl, rfl⟩
  have s1 := h1.below hb1
  go_wp2_with fail
  refine (nzs1 p _ _ _ f 0 _ s1 (by omega) Hz.out).mono ?_
  rintro e w2 ⟨rfl, hb2⟩
  have hB2 := bnext hb1 hb2
  have e2 := cell_be hB2 e0
  have hz2 := hB2.size
  have hbd := (Below.refl w2.heap.size w2).drew
  have hba := hbd.alloc hbd.size (.cells #[.int .i64 s0] 2)
  have F2 : ∀ w', Below w2.heap.size w2 w' → w'.cell? ⟨b, off + (D), none⟩ = some (.int .i64 ad) := fun w' h => cell_be h e2
  have hown0 : Own w2.heap.size (w2.drew.alloc (.cells #[.int .i64 s0] 2)) (some ⟨w2.drew.heap.size, 0, none⟩) 1 [s0] := litOwn w2.drew w2.heap.size hbd.size s0
  have HO := hide (hown0.mono hz2)
  have hBa := hB2.trans (hba.mono hz2)
  clear hown0
  go_upto_region 9 with fail
  go_cut [10, 11] (fun ov qv wx => qv = .int .i64 q ∧ ∃ a' c', ov = .slice a' 1 c' ∧ Hid (Own w.heap.size wx a' c' [s0]) ∧ Below w.heap.size w wx)
  case first =>
    go_region_held3 (fun w' => w'.cell? ⟨b, off + (D), none⟩ = some (.int .i64 ad))
      (first | exact F2 _ hbd | exact F2 _ hba | exact F2 _ (by assumption))
      (first
      | (go_at_call 72; refine (l01Inverse_any p ad _ hp hp2 r0.1 r0.2).mono ?_; rintro e w3 ⟨rfl, rfl⟩))
    all_goals
      (try rw [HQ.out])
      go_wp2_with fail
      go_meet
      exact ⟨rfl, _, _, rfl, HO, hBa⟩
  case rest =>
  obtain ⟨rfl, a0, c0, rfl, hO0, hB0⟩ := hcut
  clear F2 hbd hba HO hBa e2 s1 hb1 hb2 hB2 e0 r0 v0 v2 v3 g1 rs0 hz2
  go_wp2
  go_loopw [10, 12] (fun ov kv wr => ∃ (k : Nat) (a' : Option Addr) (c' : Nat) (zs : List Int), 1 ≤ k ∧ k ≤ N + 1 ∧ kv = .int .i64 k ∧ ov = .slice a' k c' ∧ Hid (zs = psL p f k) ∧ Hid (zs.length = k) ∧ Hid (Own w.heap.size wr a' c' zs) ∧ Below w.heap.size w wr) (fun _ kv _ => N + 1 - (intOf kv).toNat)
  case atStart => exact ⟨1, a0, c0, [s0], by omega, by omega, rfl, rfl, hL1, hide rfl, hO0, hB0⟩
  case round =>
    obtain ⟨k, a', c', zs, hk1, hk, rfl, rfl, hZ, hzl, hO, hBr⟩ := hrel
    clear hO0 hB0
    by_cases hlt : k ≤ N
    · have hlt' : (k : Int) ≤ (N : Int) := by omega
      have hbs := hBr.size
      have hcg2 : ∀ j, j < n1 → wr.cell? ⟨b, off + j, none⟩ = some (.int .i64 (f.getD j 0)) := fun j hj => cell_be hBr (Hcg.out j hj)
      have Hcg2 := hide hcg2
      have hbgr : b < wr.heap.size := Nat.lt_of_lt_of_le hbw hbs
      have hT0 : Hid ((0 : Int) % p = (-(q * sm 0 (fun a => (revL f).getD (a + 1) 0 * psS p f (k - (a + 1))))) % p) := hide (by simp [sm])
      clear hcg2
      go_wp2
      obtain ⟨wo, hwo⟩ : ∃ wo : World, wo = wr := ⟨_, rfl⟩
      subst hwo
      have hbo := Below.refl wo.heap.size wo
      go_loopw [13, 14] (fun sv iv wr => ∃ (i : Nat) (t : Int), i + 1 ≤ k ∧ i + 1 ≤ n1 ∧ iv = .int .i64 ((i : Int) + 1) ∧ sv = .int .i64 t ∧ 0 ≤ t ∧ t < p ∧ Hid (t % p = (-(q * sm i (fun a => (revL f).getD (a + 1) 0 * psS p f (k - (a + 1))))) % p) ∧ Below wo.heap.size wo wr) (fun _ iv _ => k + 1 - (intOf iv).toNat)
      case atStart => exact ⟨0, 0, by omega, by omega, by simp, rfl, by omega, by omega, hT0, hbo⟩
      case round =>
        obtain ⟨i, t, hik, hin, rfl, rfl, ht0, ht1, hT, hbx⟩ := hrel
        clear hbo hT0
        have hOx := hO.out.below hbx
        have hBx := bthen hBr hbx hbs
        by_cases hgo : i + 1 < k ∧ i + 1 < n1
        · have e1 := cell_be hbx (Hcg2.out (D - (i + 1)) (by omega))
          obtain ⟨GB, hGa, hGB, hGl, hGc⟩ := hOx.blkG (by rw [hzl.out]; omega)
          subst hGa
          have e2 := hOx.cellG (k - (i + 1)) (by rw [hzl.out]; omega)
          have r1 := getD_rng HRA.out hp (i + 1)
          have r2 := serS_rng hp (psF p f) (revL f) (k - (i + 1))
          have hAf : Hid (f.getD (D - (i + 1)) 0 = (revL f).getD (i + 1) 0) := hide (by rw [revL_at f (i + 1) (by rw [hl1.out]; omega), hl1.out, show n1 - 1 - (i + 1) = D - (i + 1) by omega])
          have hS : Hid (zs.getD (k - (i + 1)) 0 = psS p f (k - (i + 1))) := hide (by rw [hZ.out]; unfold psL; rw [serL_tab, tab_at _ _ _ (by omega)]; rfl)
          have hst := ps_step (A := (revL f).getD (i + 1) 0) (s := psS p f (k - (i + 1))) hT.out
          have hsm : Hid (sm (i + 1) (fun a => (revL f).getD (a + 1) 0 * psS p f (k - (a + 1))) = sm i (fun a => (revL f).getD (a + 1) 0 * psS p f (k - (a + 1))) + (revL f).getD (i + 1) 0 * psS p f (k - (i + 1))) := hide rfl
          rw [← hsm.out] at hst
          have Hst := hide hst
          change 0 ≤ psS p f (k - (i + 1)) ∧ psS p f (k - (i + 1)) < p at r2
          rw [hAf.out] at e1
          rw [hS.out] at e2
          obtain ⟨x, hx⟩ : ∃ x, (revL f).getD (i + 1) 0 = x := ⟨_, rfl⟩
          obtain ⟨y, hy⟩ : ∃ y, psS p f (k - (i + 1)) = y := ⟨_, rfl⟩
          rw [hx] at e1 r1 Hst
          rw [hy] at e2 r2 Hst
          obtain ⟨m1, m2⟩ := mulb r1.1 r1.2 hq1.1 hq1.2 hp2
          have r3 := modb (x := x * q) hp
          have v1 : IntKind.i64.wrap (x * q) = x * q := IntWalk.i64_in _ (by omega)
          have v2 : (x * q).tmod p = x * q % p := Int.tmod_eq_emod_of_nonneg m1
          obtain ⟨u, hu⟩ : ∃ u, x * q % p = u := ⟨_, rfl⟩
          rw [hu] at r3 v2 Hst
          have v3 : IntKind.i64.wrap u = u := IntWalk.i64_in _ (by omega)
          obtain ⟨m3, m4⟩ := mulb r3.1 r3.2 r2.1 r2.2 hp2
          have bb1 : -9223372036854775808 ≤ t - u * y := by omega
          have bb2 : t - u * y ≤ 9223372036854775807 := by omega
          have v4 : IntKind.i64.wrap (u * y) = u * y := IntWalk.i64_in _ (by omega)
          have v5 : IntKind.i64.wrap (t - u * y) = t - u * y := IntWalk.i64_in _ (by omega)
          have v6 : IntKind.i64.wrap ((k : Int) - ((i : Int) + 1)) = (k : Int) - ((i : Int) + 1) := IntWalk.i64_in _ (by omega)
          have v7 : ((k : Int) - ((i : Int) + 1)).toNat = k - (i + 1) := by omega
          have v8 : IntKind.i64.wrap ((D : Int) - ((i : Int) + 1)) = (D : Int) - ((i : Int) + 1) := IntWalk.i64_in _ (by omega)
          have v9 : ((D : Int) - ((i : Int) + 1)).toNat = D - (i + 1) := by omega
          have g2 : (i : Int) + 1 < (k : Int) := by omega
          have g3 : (i : Int) + 1 ≤ (D : Int) := by omega
          have g4 : (k : Int) - ((i : Int) + 1) < (k : Int) := by omega
          have g5 : (0 : Int) ≤ (k : Int) - ((i : Int) + 1) := by omega
          have g6 : (D : Int) - ((i : Int) + 1) < (n1 : Int) := by omega
          have g7 : (0 : Int) ≤ (D : Int) - ((i : Int) + 1) := by omega
          have hrr := modb (x := t - u * y) hp
          clear hx hy hu hS hAf hgo hOx hst hsm
          go_wp2
          go_quiet (first
            | (go_at_call 60; refine Calls.quiet_of_same (still_of (l01Mod_any p (t - u * y) _ hp hp2 bb1 bb2))))
          clear v1 v2 v3 v4 v5 v6 v7 v8 v9 bb1 bb2 m1 m2 m3 m4
          go_wp2
          go_roundw
          case rel => exact ⟨i + 1, _, by omega, by omega, by go_num, rfl, hrr.1, hrr.2, Hst, below_drewN hbx _⟩
          case measure => simp [intOf]; omega
        · have hnx := HNX.out k i t hk1 (by omega) (by rw [hl1.out]; omega) (by rw [HQ2.out]; exact hT.out)
          rw [HQ2.out] at hnx
          have Hnx := hide hnx
          have hgo2 : ¬ ((i : Int) + 1 < (k : Int) ∧ (i : Int) + 1 ≤ (D : Int)) := by omega
          have htt : Hid (t % p = t) := hide (modS ht0 ht1)
          have hlt2 : ¬ n1 ≤ k → True := fun _ => trivial
          clear hnx hgo hlt2
          by_cases hgk : (i : Int) + 1 < (k : Int)
          have hgn : ¬ (i : Int) + 1 ≤ (D : Int) := fun h => hgo2 ⟨hgk, h⟩
          clear hgo2
          go_upto_if 86 with fail
          rotate_left
          clear hgo2
          go_upto_if 86 with fail
          all_goals
            go_cut [13] (fun sv wx => sv = .int .i64 (psS p f k) ∧ Below wo.heap.size wo wx)
            case first =>
              by_cases hkd : k < n1
              · (try (exfalso; omega))
                all_goals
                  have e1 := cell_be hbx (Hcg2.out (D - k) (by omega))
                  have r1 := getD_rng HRA.out hp k
                  have hAf : Hid (f.getD (D - k) 0 = (revL f).getD k 0) := hide (by rw [revL_at f k (by rw [hl1.out]; omega), hl1.out, show n1 - 1 - k = D - k by omega])
                  rw [hAf.out] at e1
                  obtain ⟨x, hx⟩ : ∃ x, (revL f).getD k 0 = x := ⟨_, rfl⟩
                  rw [hx] at e1 r1 Hnx
                  obtain ⟨m1, m2⟩ := mulb r1.1 r1.2 hq1.1 hq1.2 hp2
                  have r3 := modb (x := x * q) hp
                  have v1 : IntKind.i64.wrap (x * q) = x * q := IntWalk.i64_in _ (by omega)
                  have v2 : (x * q).tmod p = x * q % p := Int.tmod_eq_emod_of_nonneg m1
                  obtain ⟨u, hu⟩ : ∃ u, x * q % p = u := ⟨_, rfl⟩
                  rw [hu] at r3 v2 Hnx
                  have v3 : IntKind.i64.wrap u = u := IntWalk.i64_in _ (by omega)
                  have r4 := modb (x := (k : Int)) hp
                  have v6 : ((k : Int)).tmod p = (k : Int) % p := Int.tmod_eq_emod_of_nonneg (by omega)
                  obtain ⟨kk, hkk⟩ : ∃ kk, (k : Int) % p = kk := ⟨_, rfl⟩
                  rw [hkk] at r4 v6 Hnx
                  have v7 : IntKind.i64.wrap kk = kk := IntWalk.i64_in _ (by omega)
                  obtain ⟨m3, m4⟩ := mulb r4.1 r4.2 r3.1 r3.2 hp2
                  have bb1 : -9223372036854775808 ≤ t - kk * u := by omega
                  have bb2 : t - kk * u ≤ 9223372036854775807 := by omega
                  have v4 : IntKind.i64.wrap (kk * u) = kk * u := IntWalk.i64_in _ (by omega)
                  have v5 : IntKind.i64.wrap (t - kk * u) = t - kk * u := IntWalk.i64_in _ (by omega)
                  have v8 : IntKind.i64.wrap ((D : Int) - (k : Int)) = (D : Int) - (k : Int) := IntWalk.i64_in _ (by omega)
                  have v9 : ((D : Int) - (k : Int)).toNat = D - k := by omega
                  have g3 : (k : Int) ≤ (D : Int) := by omega
                  have g6 : (D : Int) - (k : Int) < (n1 : Int) := by omega
                  have g7 : (0 : Int) ≤ (D : Int) - (k : Int) := by omega
                  have g8 : D - k < n1 := by omega
                  clear hx hu hkk hAf hOx
                  go_wp2
                  go_quiet (first
                    | (go_at_call 60; refine Calls.quiet_of_same (still_of (l01Mod_any p (t - kk * u) _ hp hp2 bb1 bb2))))
                  go_wp2_with fail
                  go_meet
                  exact ⟨by rw [← Hnx.out], below_drewN hbx _⟩
              · have g3 : ¬ (k : Int) ≤ (D : Int) := by omega
                have hA0 : (revL f).getD k 0 = 0 := getD_far (by rw [revL_len, hl1.out]; omega)
                have hfin : Hid (t = psS p f k) := hide (by
                  have := Hnx.out
                  rw [hA0, Int.zero_mul, Int.zero_emod, Int.mul_zero, Int.sub_zero, htt.out] at this
                  exact this)
                clear hA0
                go_wp2_with fail
                go_meet
                exact ⟨by rw [hfin.out], hbx⟩
            case rest =>
            obtain ⟨rfl, hbx2⟩ := hcut
            have hOx2 := hO.out.below hbx2
            have hBx2 := bthen hBr hbx2 hbs
            have hstz : Hid (psL p f (k + 1) = zs ++ [psS p f k]) := hide (by rw [hZ.out]; unfold psL; rw [serL_tab, serL_tab]; exact (tab_snoc k _).symm)
            obtain ⟨z, hz⟩ : ∃ z, psS p f k = z := ⟨_, rfl⟩
            rw [hz] at hstz
            rw [hz]
            have hbs2 := hBx2.size
            have hOa := hide (hOx2.below (bl1 wc (.cells #[.int .i64 z] 2)))
            clear hOx hBx hbx hbx2 hOx2 hz Hnx hT htt
            go_wp2_with (at_builtin; refine wp_append rfl _ _ rfl w.heap.size _ k _ zs rfl hzl.out.symm hOa.out _ 1 1 [z] rfl (litSL wc z) (by omega) (by simp; omega) ?_; intro ad' cap' w1 hown hb)
            have hown' := hide hown
            have hB1 := (hBx2.alloc hbs2 (.cells #[.int .i64 z] 2)).trans hb
            have hl2' : Hid ((zs ++ [z]).length = k + 1) := hide (by rw [List.length_append, hzl.out]; rfl)
            have hst' := hide hstz.out.symm
            clear hown hb hOa hstz
            go_wp2
            go_roundw
            case rel => exact ⟨k + 1, ad', cap', zs ++ [z], by omega, by omega, by go_num, by rw [hzl.out], hst', hl2', hown', hB1⟩
            case measure => simp [intOf]; omega
    · have hkn : k = N + 1 := by omega
      subst hkn
      have hlt' : ¬ ((N + 1 : Nat) : Int) ≤ (N : Int) := by omega
      have hfl := hide (show (psL p f (N + 1)).length = N + 1 from serL_len _ _ _ _)
      go_wp2
      go_ret2
      exact Res1.own rfl (by rw [hfl.out]) (by rw [← hZ.out]; exact hO.out) (by rw [hfl.out]; omega) hBr
set_option maxRecDepth 100000 in
set_option maxHeartbeats 1600000 in
theorem specPowerSums (p : Int) (a1 : Option Addr) (n1 c1 : Nat) (f : List Int) (x : Int) (w : World) (h1 : SL w a1 n1 c1 f) (b1 : n1 ≤ 4000000) :
    Calls Try.prog 27 #[.int .i64 p, .slice a1 n1 c1, .int .i64 x] w (Res1 w (psV p f x) (psC p f x)) := by
  have hl1 := hide h1.len
  rcases chk1_cases p f with hc | hc | ⟨hc, hf, hpr⟩
  · have HC := hide (show psC p f x = 1 by simp [psC, hc])
    have HV := hide (show psV p f x = [] by simp [psV, HC.out])
    have Hc := hide hc
    clear hc
    go_enter Try.func27, Try.ntmps27
    go_wp2_with (go_at_call 58; refine (code1 p _ _ _ f 1 _ h1 b1 Hc.out).mono ?_; rintro e w1 ⟨rfl, hb1⟩)
    go_ret2
    exact Res1.nil HV.out HC.out hb1
  · have HC := hide (show psC p f x = 2 by simp [psC, hc])
    have HV := hide (show psV p f x = [] by simp [psV, HC.out])
    have Hc := hide hc
    clear hc
    go_enter Try.func27, Try.ntmps27
    go_wp2_with (go_at_call 58; refine (code1 p _ _ _ f 2 _ h1 b1 Hc.out).mono ?_; rintro e w1 ⟨rfl, hb1⟩)
    go_ret2
    exact Res1.nil HV.out HC.out hb1
  have Hc := hide hc
  by_cases hk : 0 ≤ x ∧ x ≤ 24
  rotate_left
  · have HC := hide (show psC p f x = 2 by simp [psC, hc, hk])
    have HV := hide (show psV p f x = [] by simp [psV, HC.out])
    have HK := hide hk
    clear hc hf hpr hk
    go_enter Try.func27, Try.ntmps27
    go_wp2_with fail
    refine (code1 p _ _ _ f 0 _ h1 b1 Hc.out).mono ?_
    rintro e w1 ⟨rfl, hb1⟩
    go_wp2_with fail
    refine (l01In_no _ _ _ _ HK.out).mono ?_
    rintro e w2 ⟨rfl, rfl⟩
    go_wp2
    go_ret2
    exact Res1.nil HV.out HC.out hb1
  obtain ⟨hk0, hk1⟩ := hk
  obtain ⟨N, rfl⟩ : ∃ N : Nat, x = N := ⟨x.toNat, by omega⟩
  by_cases h0 : n1 = 0
  · have HC := hide (show psC p f N = 5 by simp only [psC, hc, hk0, hk1, and_self, if_true]; rw [isEmpty_len hl1.out]; simp [h0])
    have HV := hide (show psV p f N = [] by simp [psV, HC.out])
    have Hz := hide (show nz1 p f = 5 by unfold nz1; rw [hc, isEmpty_len hl1.out]; simp [h0])
    subst h0
    clear hc hf hpr
    go_enter Try.func27, Try.ntmps27
    go_wp2_with fail
    refine (code1 p _ _ _ f 0 _ h1 b1 Hc.out).mono ?_
    rintro e w1 ⟨rfl, hb1⟩
    go_wp2_with fail
    refine (l01In_yes _ _ _ _ hk0 hk1).mono ?_
    rintro e w2 ⟨rfl, rfl⟩
    have s1 := h1.below hb1
    go_wp2_with fail
    refine (nzs1 p _ _ _ f 5 _ s1 b1 Hz.out).mono ?_
    rintro e w2 ⟨rfl, hb2⟩
    have hB2 := bnext hb1 hb2
    go_wp2
    go_ret2
    exact Res1.nil HV.out HC.out hB2
  · have HC : psC p f N = 0 := by simp only [psC, hc, hk0, hk1, and_self, if_true]; rw [isEmpty_len hl1.out]; simp [h0]
    have HV : psV p f N = psL p f (N + 1) := by simp [psV, HC]
    rw [HC, HV]
    exact specPowerSums_good p a1 n1 c1 f N w h1 hc hpr hf h0 (by omega) (by have := poly_len hf; have := hl1.out; omega)
end Go.Proofs.Ytnojmghmkoojfaa

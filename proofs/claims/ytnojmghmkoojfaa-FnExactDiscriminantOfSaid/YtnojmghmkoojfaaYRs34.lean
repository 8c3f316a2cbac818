/- Merged texts. -/
import Derived.Test.YtnojmghmkoojfaaYRs32
import Derived.Test.YtnojmghmkoojfaaYRs33
/- Contracts: ResultantOf, DiscriminantOf (program and model). -/
namespace Go.Proofs.Ytnojmghmkoojfaa
open Go.RowKit
set_option linter.unusedVariables false
set_option linter.unusedSimpArgs false

def resV (p : Int) (f g : List Int) : Int := if nz2 p f g = 0 then sylM p (f.length - 1) (g.length - 1) (revL f) (revL g) else 0
theorem sylM_rng {p : Int} (hp : 2 ≤ p) (n m : Nat) (A B : List Int) : 0 ≤ sylM p n m A B ∧ sylM p n m A B < p := detL_rng hp _ _ _ _ (by omega) (by omega)
set_option maxRecDepth 100000 in
set_option maxHeartbeats 1600000 in
theorem implResultantOf (p : Int) (a1 : Option Addr) (n1 c1 : Nat) (f : List Int) (a2 : Option Addr) (n2 c2 : Nat) (g : List Int) (w : World) (h1 : SL w a1 n1 c1 f) (h2 : SL w a2 n2 c2 g) (b1 : n1 ≤ 4000000) (b2 : n2 ≤ 4000000) :
    Calls Try.prog 34 #[.int .i64 p, .slice a1 n1 c1, .slice a2 n2 c2] w fun e w' => e = .returned (.tuple #[.int .i64 (resV p f g), .int .i64 (nz2 p f g)]) ∧ Below w.heap.size w w' := by
  have hl1 := hide h1.len
  have hl2 := hide h2.len
  rcases nz2_cases p f g with (hc | hc | hc) | ⟨hc, hf, hg, hpr, h0, h00⟩
  · have HV := hide (show resV p f g = 0 by simp [resV, hc])
    have Hc := hide hc
    clear hc
    go_enter Try.func34, Try.ntmps34
    go_wp2_with fail
    refine (nzi2 p _ _ _ f _ _ _ g 1 _ h1 h2 b1 b2 Hc.out).mono ?_
    rintro e w1 ⟨rfl, hb1⟩
    go_wp2
    rw [HV.out, Hc.out]
    go_ret2
    exact ⟨rfl, hb1⟩
  · have HV := hide (show resV p f g = 0 by simp [resV, hc])
    have Hc := hide hc
    clear hc
    go_enter Try.func34, Try.ntmps34
    go_wp2_with fail
    refine (nzi2 p _ _ _ f _ _ _ g 2 _ h1 h2 b1 b2 Hc.out).mono ?_
    rintro e w1 ⟨rfl, hb1⟩
    go_wp2
    rw [HV.out, Hc.out]
    go_ret2
    exact ⟨rfl, hb1⟩
  · have HV := hide (show resV p f g = 0 by simp [resV, hc])
    have Hc := hide hc
    clear hc
    go_enter Try.func34, Try.ntmps34
    go_wp2_with fail
    refine (nzi2 p _ _ _ f _ _ _ g 5 _ h1 h2 b1 b2 Hc.out).mono ?_
    rintro e w1 ⟨rfl, hb1⟩
    go_wp2
    rw [HV.out, Hc.out]
    go_ret2
    exact ⟨rfl, hb1⟩
  obtain ⟨hp, hp2⟩ := primeB_lo hpr
  have d1 : n1 ≤ 25 := by have := poly_len hf; have := hl1.out; omega
  have d2 : n2 ≤ 25 := by have := poly_len hg; have := hl2.out; omega
  have e1 : 1 ≤ n1 := by have := hl1.out; omega
  have e2 : 1 ≤ n2 := by have := hl2.out; omega
  have Hf := hide (poly_are hf)
  have Hg := hide (poly_are hg)
  have Hc := hide hc
  obtain ⟨v, hv⟩ : ∃ v, sylM p (n1 - 1) (n2 - 1) (revL f) (revL g) = v := ⟨_, rfl⟩
  have HV := hide (show resV p f g = v by simp only [resV, hc, if_true]; rw [hl1.out, hl2.out, hv])
  have Hv := hide hv
  clear hc hf hg hpr h0 h00 hv
  go_enter Try.func34, Try.ntmps34
  go_wp2_with fail
  refine (nzi2 p _ _ _ f _ _ _ g 0 _ h1 h2 b1 b2 Hc.out).mono ?_
  rintro e w1 ⟨rfl, hb1⟩
  have s1 := h1.below hb1
  have s2 := h2.below hb1
  go_wp2_with fail
  refine (resultant_any p _ _ _ f _ _ _ g _ s1 s2 e1 e2 (by omega) (by omega) hp hp2 Hf.out Hg.out).mono ?_
  rintro e w2 ⟨rfl, hb2⟩
  have hB := bnext hb1 hb2
  rw [Hv.out]
  go_wp2
  rw [Hc.out, HV.out]
  go_ret2
  exact ⟨rfl, hB⟩
set_option maxRecDepth 100000 in
set_option maxHeartbeats 1600000 in
theorem specResultantOf (p : Int) (a1 : Option Addr) (n1 c1 : Nat) (f : List Int) (a2 : Option Addr) (n2 c2 : Nat) (g : List Int) (w : World) (h1 : SL w a1 n1 c1 f) (h2 : SL w a2 n2 c2 g) (b1 : n1 ≤ 4000000) (b2 : n2 ≤ 4000000) :
    Calls Try.prog 33 #[.int .i64 p, .slice a1 n1 c1, .slice a2 n2 c2] w fun e w' => e = .returned (.tuple #[.int .i64 (resV p f g), .int .i64 (nz2 p f g)]) ∧ Below w.heap.size w w' := by
  have hl1 := hide h1.len
  have hl2 := hide h2.len
  rcases nz2_cases p f g with (hc | hc | hc) | ⟨hc, hf, hg, hpr, h0, h00⟩
  · have HV := hide (show resV p f g = 0 by simp [resV, hc])
    have Hc := hide hc
    clear hc
    go_enter Try.func33, Try.ntmps33
    go_wp2_with fail
    refine (nzs2 p _ _ _ f _ _ _ g 1 _ h1 h2 b1 b2 Hc.out).mono ?_
    rintro e w1 ⟨rfl, hb1⟩
    go_wp2
    rw [HV.out, Hc.out]
    go_ret2
    exact ⟨rfl, hb1⟩
  · have HV := hide (show resV p f g = 0 by simp [resV, hc])
    have Hc := hide hc
    clear hc
    go_enter Try.func33, Try.ntmps33
    go_wp2_with fail
    refine (nzs2 p _ _ _ f _ _ _ g 2 _ h1 h2 b1 b2 Hc.out).mono ?_
    rintro e w1 ⟨rfl, hb1⟩
    go_wp2
    rw [HV.out, Hc.out]
    go_ret2
    exact ⟨rfl, hb1⟩
  · have HV := hide (show resV p f g = 0 by simp [resV, hc])
    have Hc := hide hc
    clear hc
    go_enter Try.func33, Try.ntmps33
    go_wp2_with fail
    refine (nzs2 p _ _ _ f _ _ _ g 5 _ h1 h2 b1 b2 Hc.out).mono ?_
    rintro e w1 ⟨rfl, hb1⟩
    go_wp2
    rw [HV.out, Hc.out]
    go_ret2
    exact ⟨rfl, hb1⟩
  obtain ⟨hp, hp2⟩ := primeB_lo hpr
  have d1 : n1 ≤ 25 := by have := poly_len hf; have := hl1.out; omega
  have d2 : n2 ≤ 25 := by have := poly_len hg; have := hl2.out; omega
  have e1 : 1 ≤ n1 := by have := hl1.out; omega
  have e2 : 1 ≤ n2 := by have := hl2.out; omega
  have Hf := hide (poly_are hf)
  have Hg := hide (poly_are hg)
  have Hc := hide hc
  obtain ⟨v, hv⟩ : ∃ v, sylM p (n1 - 1) (n2 - 1) (revL f) (revL g) = v := ⟨_, rfl⟩
  have HV := hide (show resV p f g = v by simp only [resV, hc, if_true]; rw [hl1.out, hl2.out, hv])
  have Hv := hide hv
  clear hc hf hg hpr h0 h00 hv
  go_enter Try.func33, Try.ntmps33
  go_wp2_with fail
  refine (nzs2 p _ _ _ f _ _ _ g 0 _ h1 h2 b1 b2 Hc.out).mono ?_
  rintro e w1 ⟨rfl, hb1⟩
  have s1 := h1.below hb1
  have s2 := h2.below hb1
  go_wp2_with fail
  refine (l06Sylvester_any p _ _ _ f _ _ _ g _ s1 s2 e1 e2 (by omega) (by omega) hp hp2 Hf.out Hg.out).mono ?_
  rintro e w2 ⟨rfl, hb2⟩
  have hB := bnext hb1 hb2
  rw [Hv.out]
  go_wp2
  rw [Hc.out, HV.out]
  go_ret2
  exact ⟨rfl, hB⟩
end Go.Proofs.Ytnojmghmkoojfaa
/- Contracts: DiscriminantOf (program and model). -/
namespace Go.Proofs.Ytnojmghmkoojfaa
open Go.RowKit
set_option linter.unusedVariables false
set_option linter.unusedSimpArgs false

/-- The derivative with as many numbers as the degree. -/
def dscW (p : Int) (f : List Int) : List Int := tab (f.length - 1) (fun j => (derM p f).getD j 0)
def dscD (p : Int) (f : List Int) : Int := sylM p (f.length - 1) (f.length - 1 - 1) (revL f) (revL (dscW p f)) * invM p (f.getD (f.length - 1) 0) % p
def dscB (n : Nat) : Bool := n * (n - 1) / 2 % 2 == 1
def dscC (p : Int) (f : List Int) : Int := if nz1 p f = 0 then (if f.length = 1 then 5 else 0) else nz1 p f
def dscV (p : Int) (f : List Int) : Int := if dscC p f = 0 then (if dscB (f.length - 1) then opp p (dscD p f) else dscD p f) else 0
theorem derM_up (p : Int) (f : List Int) : (derM p f).length ≤ f.length - 1 := by
  unfold derM
  exact Nat.le_trans (trimL_le _) (by rw [tab_len]; exact Nat.le_refl _)
set_option maxRecDepth 100000 in
set_option maxHeartbeats 6400000 in
theorem implDiscriminantOf (p : Int) (a1 : Option Addr) (n1 c1 : Nat) (f : List Int) (w : World) (h1 : SL w a1 n1 c1 f) (b1 : n1 ≤ 4000000) :
    Calls Try.prog 36 #[.int .i64 p, .slice a1 n1 c1] w fun e w' => e = .returned (.tuple #[.int .i64 (dscV p f), .int .i64 (dscC p f)]) ∧ Below w.heap.size w w' := by
  have hl1 := hide h1.len
  rcases nz1_cases p f with (hc | hc | hc) | ⟨hc, hf, hpr, h0⟩
  · have HC := hide (show dscC p f = 1 by simp [dscC, hc])
    have HV := hide (show dscV p f = 0 by simp [dscV, HC.out])
    have Hc := hide hc
    clear hc
    go_enter Try.func36, Try.ntmps36
    go_wp2_with fail
    refine (nzi1 p _ _ _ f 1 _ h1 b1 Hc.out).mono ?_
    rintro e w1 ⟨rfl, hb1⟩
    go_wp2
    rw [HV.out, HC.out]
    go_ret2
    exact ⟨rfl, hb1⟩
  · have HC := hide (show dscC p f = 2 by simp [dscC, hc])
    have HV := hide (show dscV p f = 0 by simp [dscV, HC.out])
    have Hc := hide hc
    clear hc
    go_enter Try.func36, Try.ntmps36
    go_wp2_with fail
    refine (nzi1 p _ _ _ f 2 _ h1 b1 Hc.out).mono ?_
    rintro e w1 ⟨rfl, hb1⟩
    go_wp2
    rw [HV.out, HC.out]
    go_ret2
    exact ⟨rfl, hb1⟩
  · have HC := hide (show dscC p f = 5 by simp [dscC, hc])
    have HV := hide (show dscV p f = 0 by simp [dscV, HC.out])
    have Hc := hide hc
    clear hc
    go_enter Try.func36, Try.ntmps36
    go_wp2_with fail
    refine (nzi1 p _ _ _ f 5 _ h1 b1 Hc.out).mono ?_
    rintro e w1 ⟨rfl, hb1⟩
    go_wp2
    rw [HV.out, HC.out]
    go_ret2
    exact ⟨rfl, hb1⟩
  obtain ⟨hp, hp2⟩ := primeB_lo hpr
  have d1 : n1 ≤ 25 := by have := poly_len hf; have := hl1.out; omega
  have Hc := hide hc
  have Hf := hide (poly_are hf)
  by_cases hD1 : n1 = 1
  · have HC := hide (show dscC p f = 5 by simp only [dscC, hc, if_true]; rw [hl1.out, if_pos hD1])
    have HV := hide (show dscV p f = 0 by simp [dscV, HC.out])
    subst hD1
    clear hc hf hpr h0
    go_enter Try.func36, Try.ntmps36
    go_wp2_with fail
    refine (nzi1 p _ _ _ f 0 _ h1 b1 Hc.out).mono ?_
    rintro e w1 ⟨rfl, hb1⟩
    go_wp2_with fail
    refine (degree_any _ _ _ _ (by omega)).mono ?_
    rintro e w2 ⟨rfl, rfl⟩
    go_wp2
    rw [HV.out, HC.out]
    go_ret2
    exact ⟨rfl, hb1⟩
  obtain ⟨D, hD⟩ : ∃ D, n1 - 1 = D := ⟨_, rfl⟩
  have HC := hide (show dscC p f = 0 by simp only [dscC, hc, if_true]; rw [hl1.out, if_neg hD1])
  have HFD := hide (show f.length - 1 = D by rw [hl1.out, hD])
  have hd1 : 1 ≤ D := by have := hl1.out; omega
  have hd2 : D + 1 ≤ n1 := by omega
  have hd3 : n1 ≤ D + 1 := by omega
  obtain ⟨W, hW⟩ : ∃ W, dscW p f = W := ⟨_, rfl⟩
  have HW := hide (show W = tab D (fun j => (derM p f).getD j 0) by rw [← hW]; unfold dscW; rw [HFD.out])
  have HWa := hide (show areB p W = true by rw [HW.out]; exact tab_are' fun j _ => getD_rng (poly_are (derM_poly hp hf)) hp j)
  have hdu := derM_up p f
  rw [HFD.out] at hdu
  obtain ⟨b, off, rfl, hbw, hcell⟩ := h1.at (by omega)
  have e0 := hcell D (by omega)
  have r0 := getD_rng (poly_are hf) hp D
  obtain ⟨a, ha⟩ : ∃ a, f.getD D 0 = a := ⟨_, rfl⟩
  rw [ha] at e0 r0
  have Ha := hide ha
  obtain ⟨R, hR⟩ : ∃ R, sylM p D (D - 1) (revL f) (revL W) = R := ⟨_, rfl⟩
  have HR := hide (show sylM p (n1 - 1) (D - 1) (revL f) (revL W) = R by rw [hD]; exact hR)
  have rR : 0 ≤ R ∧ R < p := by rw [← hR]; exact sylM_rng hp _ _ _ _
  have rq := powM_rng (p := p) (x := a) (k := p - 2) hp
  obtain ⟨q, hq⟩ : ∃ q, invM p a = q := ⟨_, rfl⟩
  have HQ := hide hq
  change 0 ≤ invM p a ∧ invM p a < p at rq
  rw [hq] at rq
  obtain ⟨m1, m2⟩ := mulb rR.1 rR.2 rq.1 rq.2 hp2
  have v1 : IntKind.i64.wrap (R * q) = R * q := IntWalk.i64_in _ (by omega)
  have v2 : (R * q).tmod p = R * q % p := Int.tmod_eq_emod_of_nonneg m1
  have rd := modb (x := R * q) hp
  obtain ⟨d0, hd0⟩ : ∃ d0, R * q % p = d0 := ⟨_, rfl⟩
  rw [hd0] at v2 rd
  have v3 : IntKind.i64.wrap d0 = d0 := IntWalk.i64_in _ (by omega)
  have HDD := hide (show dscD p f = d0 by unfold dscD; rw [HFD.out, hW, ha, hR, hq, hd0])
  have hp0 : ¬ p = 0 := by omega
  obtain ⟨E, hE⟩ : ∃ E, D - 1 = E := ⟨_, rfl⟩
  obtain ⟨M, hM⟩ : ∃ M, D * E = M := ⟨_, rfl⟩
  have hMb : M ≤ 625 := by rw [← hM]; exact Nat.mul_le_mul (show D ≤ 25 by omega) (show E ≤ 25 by omega)
  obtain ⟨H, hH⟩ : ∃ H, M / 2 = H := ⟨_, rfl⟩
  obtain ⟨B, hB⟩ : ∃ B, H % 2 = B := ⟨_, rfl⟩
  have v4 : IntKind.i64.wrap ((D : Int) - 1) = (E : Int) := by rw [show (D : Int) - 1 = (E : Int) by omega]; exact IntWalk.i64_in _ (by omega)
  have v5 : IntKind.i64.wrap ((D : Int) * (E : Int)) = (M : Int) := by rw [show (D : Int) * (E : Int) = (M : Int) by rw [← hM]; simp]; exact IntWalk.i64_in _ (by omega)
  have v6 : ((M : Int)).tdiv 2 = (H : Int) := by rw [← hH]; rfl
  have v7 : ((H : Int)).tmod 2 = (B : Int) := by rw [← hB]; rfl
  have v8 : IntKind.i64.wrap (H : Int) = (H : Int) := IntWalk.i64_in _ (by omega)
  have v9 : IntKind.i64.wrap (B : Int) = (B : Int) := IntWalk.i64_in _ (by omega)
  have hOb : dscB D = decide (B = 1) := by unfold dscB; rw [hE, hM, hH, hB]; cases h : decide (B = 1) <;> simp at h ⊢ <;> omega
  have u1 : IntKind.i64.wrap ((n1 : Int) - 1) = (D : Int) := by rw [show (n1 : Int) - 1 = (D : Int) by omega]; exact IntWalk.i64_in _ (by omega)
  have u2 : (n1 : Int) - 1 = (D : Int) := by omega
  have g1 : (D : Int) < (n1 : Int) := by omega
  have g2 : (0 : Int) ≤ (D : Int) := by omega
  have g3 : ((D : Int) == 0) = false := by simp; omega
  have Hu2 := hide u2
  have Hof := hide hf
  have Hpr := hide hpr
  obtain ⟨dd1, dd2⟩ := der_zero hpr hf
  have DD1 := hide dd1
  have DD2 := hide dd2
  have HV1 := hide (show B = 1 → dscV p f = opp p d0 from fun h => by unfold dscV; rw [HC.out, if_pos rfl, HFD.out, hOb, HDD.out]; simp [h])
  have HV2 := hide (show ¬ B = 1 → dscV p f = d0 from fun h => by unfold dscV; rw [HC.out, if_pos rfl, HFD.out, hOb, HDD.out]; simp [h])
  clear hc hf hpr h0 hcell ha hR hq hd0 hE hM hH hB hOb hW hD u2 hD1
  clear u1
  have hk0 : Hid (min (derM p f).length D = min (derM p f).length (List.replicate D (0 : Int)).length) := hide (by rw [List.length_replicate])
  go_enter Try.func36, Try.ntmps36
  go_wp2_with fail
  refine (nzi1 p _ _ _ f 0 _ h1 b1 Hc.out).mono ?_
  rintro e w1 ⟨rfl, hb1⟩
  go_wp2_with fail
  refine (degree_any _ _ _ _ (by omega)).mono ?_
  rintro e w2 ⟨rfl, rfl⟩
  rw [Hu2.out]
  have s1 := h1.below hb1
  go_wp2_with (at_make; refine wp_make rfl _ _ rfl _ _ D rfl rfl rfl rfl (by omega) ?_; intro w2 hrow hb hsz)
  refine (implDerivativeOf p _ _ _ f _ (s1.below hb) (by omega)).mono ?_
  rintro e w3 ⟨a3, c3, rfl, ho, _, hb3⟩
  rw [DD1.out, DD2.out] at *
  have s3 := ho.sl
  have hR3 := hide (hrow.out.next hb3)
  have hB3 := (bnext hb1 hb).trans (hb3.mono (bnext hb1 hb).size)
  have hz1 := hb1.size
  clear hrow
  go_upto_region 10 with (with_reducible refine wp_copyT rfl _ _ rfl w1.heap.size _ _ (List.replicate D 0) rfl hR3.out (by simp) _ _ _ _ (derM p f) rfl s3 hk0.out w1.heap.size (Nat.le_refl _) ?_; intro w4 hrow4 hb4)
  have hR4 : RowI w4 w1.heap.size W := by
    have t := hrow4.out
    rwa [pad_tabT (derM p f) D _ rfl, ← HW.out] at t
  have sW : SL w4 (some ⟨w1.heap.size, 0, none⟩) D D W := hR4.slN (by rw [HW.out, tab_len])
  have hB4 := hB3.trans (hb4.mono hz1)
  have s4 := h1.below hB4
  have e4 := cell_be hB4 e0
  have hbd := (Below.refl w4.heap.size w4).drew
  have F4 : ∀ w', Below w4.heap.size w4 w' → w'.cell? ⟨b, off + D, none⟩ = some (.int .i64 a) := fun w' h => cell_be h e4
  have hzz := hB4.size
  clear hR3 hR4 hrow4 hb4 hb3 ho s3 hk0
  try simp only [Act.put, List.setIfInBounds_toArray, List.set_cons_zero, List.set_cons_succ]
  go_cut [11] (fun dv wx => dv = .int .i64 d0 ∧ Below w.heap.size w wx)
  case first =>
    go_region_held3 (fun w' => w'.cell? ⟨b, off + D, none⟩ = some (.int .i64 a))
      (first | exact F4 _ (by assumption))
      (first
      | (go_at_call 81; refine (resultant_any p _ _ _ f _ _ _ W _ (s4.below hbd) (sW.below hbd) (by omega) (by omega) (by omega) (by omega) hp hp2 Hf.out HWa.out).mono ?_; rintro e w5 ⟨rfl, hb5⟩; have hm5 := bnext hbd hb5; rw [HR.out])
      | (go_at_call 83; refine (inverse_any p a _ hp hp2 r0.1 r0.2).mono ?_; rintro e w6 ⟨rfl, hb6⟩; have hfin := bnext hm5 hb6; rw [HQ.out])
      | (go_at_call 83; refine (inverse_any p a _ hp hp2 r0.1 r0.2).mono ?_; rintro e w6 ⟨rfl, hb6⟩; have hm6 := bnext hbd hb6; rw [HQ.out])
      | (go_at_call 81; refine (resultant_any p _ _ _ f _ _ _ W _ (s4.below hm6) (sW.below hm6) (by omega) (by omega) (by omega) (by omega) hp hp2 Hf.out HWa.out).mono ?_; rintro e w5 ⟨rfl, hb5⟩; have hfin := bnext hm6 hb5; rw [HR.out]))
    all_goals
      go_wp2_with fail
      go_meet
      exact ⟨rfl, hB4.trans (hfin.mono hzz)⟩
  case rest =>
    obtain ⟨rfl, hBc⟩ := hcut
    clear F4 hbd e4 s4 sW v1 v2
    by_cases hq : B = 1
    · have hq' : ((B : Int) == 1) = true := by simp; omega
      have HV := hide (HV1.out hq)
      clear hq
      go_wp2_with fail
      refine (opposite_any p d0 _ hp hp2 rd.1 rd.2).mono ?_
      rintro e w7 ⟨rfl, rfl⟩
      obtain ⟨y, hy⟩ : ∃ y, opp p d0 = y := ⟨_, rfl⟩
      have Hy := hide hy
      rw [hy]
      clear hy
      go_wp2
      rw [HC.out, HV.out, Hy.out]
      go_ret2
      exact ⟨rfl, hBc⟩
    · have hq' : ((B : Int) == 1) = false := by simp; omega
      have HV := hide (HV2.out hq)
      clear hq
      go_wp2
      rw [HC.out, HV.out]
      go_ret2
      exact ⟨rfl, hBc⟩
set_option maxRecDepth 100000 in
set_option maxHeartbeats 6400000 in
theorem specDiscriminantOf (p : Int) (a1 : Option Addr) (n1 c1 : Nat) (f : List Int) (w : World) (h1 : SL w a1 n1 c1 f) (b1 : n1 ≤ 4000000) :
    Calls Try.prog 35 #[.int .i64 p, .slice a1 n1 c1] w fun e w' => e = .returned (.tuple #[.int .i64 (dscV p f), .int .i64 (dscC p f)]) ∧ Below w.heap.size w w' := by
  have hl1 := hide h1.len
  rcases nz1_cases p f with (hc | hc | hc) | ⟨hc, hf, hpr, h0⟩
  · have HC := hide (show dscC p f = 1 by simp [dscC, hc])
    have HV := hide (show dscV p f = 0 by simp [dscV, HC.out])
    have Hc := hide hc
    clear hc
    go_enter Try.func35, Try.ntmps35
    go_wp2_with fail
    refine (nzs1 p _ _ _ f 1 _ h1 b1 Hc.out).mono ?_
    rintro e w1 ⟨rfl, hb1⟩
    go_wp2
    rw [HV.out, HC.out]
    go_ret2
    exact ⟨rfl, hb1⟩
  · have HC := hide (show dscC p f = 2 by simp [dscC, hc])
    have HV := hide (show dscV p f = 0 by simp [dscV, HC.out])
    have Hc := hide hc
    clear hc
    go_enter Try.func35, Try.ntmps35
    go_wp2_with fail
    refine (nzs1 p _ _ _ f 2 _ h1 b1 Hc.out).mono ?_
    rintro e w1 ⟨rfl, hb1⟩
    go_wp2
    rw [HV.out, HC.out]
    go_ret2
    exact ⟨rfl, hb1⟩
  · have HC := hide (show dscC p f = 5 by simp [dscC, hc])
    have HV := hide (show dscV p f = 0 by simp [dscV, HC.out])
    have Hc := hide hc
    clear hc
    go_enter Try.func35, Try.ntmps35
    go_wp2_with fail
    refine (nzs1 p _ _ _ f 5 _ h1 b1 Hc.out).mono ?_
    rintro e w1 ⟨rfl, hb1⟩
    go_wp2
    rw [HV.out, HC.out]
    go_ret2
    exact ⟨rfl, hb1⟩
  obtain ⟨hp, hp2⟩ := primeB_lo hpr
  have d1 : n1 ≤ 25 := by have := poly_len hf; have := hl1.out; omega
  have Hc := hide hc
  have Hf := hide (poly_are hf)
  by_cases hD1 : n1 = 1
  · have HC := hide (show dscC p f = 5 by simp only [dscC, hc, if_true]; rw [hl1.out, if_pos hD1])
    have HV := hide (show dscV p f = 0 by simp [dscV, HC.out])
    subst hD1
    clear hc hf hpr h0
    go_enter Try.func35, Try.ntmps35
    go_wp2_with fail
    refine (nzs1 p _ _ _ f 0 _ h1 b1 Hc.out).mono ?_
    rintro e w1 ⟨rfl, hb1⟩
    go_wp2
    rw [HV.out, HC.out]
    go_ret2
    exact ⟨rfl, hb1⟩
  obtain ⟨D, hD⟩ : ∃ D, n1 - 1 = D := ⟨_, rfl⟩
  have HC := hide (show dscC p f = 0 by simp only [dscC, hc, if_true]; rw [hl1.out, if_neg hD1])
  have HFD := hide (show f.length - 1 = D by rw [hl1.out, hD])
  have hd1 : 1 ≤ D := by have := hl1.out; omega
  have hd2 : D + 1 ≤ n1 := by omega
  have hd3 : n1 ≤ D + 1 := by omega
  obtain ⟨W, hW⟩ : ∃ W, dscW p f = W := ⟨_, rfl⟩
  have HW := hide (show W = tab D (fun j => (derM p f).getD j 0) by rw [← hW]; unfold dscW; rw [HFD.out])
  have HWa := hide (show areB p W = true by rw [HW.out]; exact tab_are' fun j _ => getD_rng (poly_are (derM_poly hp hf)) hp j)
  have hdu := derM_up p f
  rw [HFD.out] at hdu
  obtain ⟨b, off, rfl, hbw, hcell⟩ := h1.at (by omega)
  have e0 := hcell D (by omega)
  have r0 := getD_rng (poly_are hf) hp D
  obtain ⟨a, ha⟩ : ∃ a, f.getD D 0 = a := ⟨_, rfl⟩
  rw [ha] at e0 r0
  have Ha := hide ha
  obtain ⟨R, hR⟩ : ∃ R, sylM p D (D - 1) (revL f) (revL W) = R := ⟨_, rfl⟩
  have HR := hide (show sylM p (n1 - 1) (D - 1) (revL f) (revL W) = R by rw [hD]; exact hR)
  have rR : 0 ≤ R ∧ R < p := by rw [← hR]; exact sylM_rng hp _ _ _ _
  have rq := powM_rng (p := p) (x := a) (k := p - 2) hp
  obtain ⟨q, hq⟩ : ∃ q, invM p a = q := ⟨_, rfl⟩
  have HQ := hide hq
  change 0 ≤ invM p a ∧ invM p a < p at rq
  rw [hq] at rq
  obtain ⟨m1, m2⟩ := mulb rR.1 rR.2 rq.1 rq.2 hp2
  have v1 : IntKind.i64.wrap (R * q) = R * q := IntWalk.i64_in _ (by omega)
  have v2 : (R * q).tmod p = R * q % p := Int.tmod_eq_emod_of_nonneg m1
  have rd := modb (x := R * q) hp
  obtain ⟨d0, hd0⟩ : ∃ d0, R * q % p = d0 := ⟨_, rfl⟩
  rw [hd0] at v2 rd
  have v3 : IntKind.i64.wrap d0 = d0 := IntWalk.i64_in _ (by omega)
  have HDD := hide (show dscD p f = d0 by unfold dscD; rw [HFD.out, hW, ha, hR, hq, hd0])
  have hp0 : ¬ p = 0 := by omega
  obtain ⟨E, hE⟩ : ∃ E, D - 1 = E := ⟨_, rfl⟩
  obtain ⟨M, hM⟩ : ∃ M, D * E = M := ⟨_, rfl⟩
  have hMb : M ≤ 625 := by rw [← hM]; exact Nat.mul_le_mul (show D ≤ 25 by omega) (show E ≤ 25 by omega)
  obtain ⟨H, hH⟩ : ∃ H, M / 2 = H := ⟨_, rfl⟩
  obtain ⟨B, hB⟩ : ∃ B, H % 2 = B := ⟨_, rfl⟩
  have v4 : IntKind.i64.wrap ((D : Int) - 1) = (E : Int) := by rw [show (D : Int) - 1 = (E : Int) by omega]; exact IntWalk.i64_in _ (by omega)
  have v5 : IntKind.i64.wrap ((D : Int) * (E : Int)) = (M : Int) := by rw [show (D : Int) * (E : Int) = (M : Int) by rw [← hM]; simp]; exact IntWalk.i64_in _ (by omega)
  have v6 : ((M : Int)).tdiv 2 = (H : Int) := by rw [← hH]; rfl
  have v7 : ((H : Int)).tmod 2 = (B : Int) := by rw [← hB]; rfl
  have v8 : IntKind.i64.wrap (H : Int) = (H : Int) := IntWalk.i64_in _ (by omega)
  have v9 : IntKind.i64.wrap (B : Int) = (B : Int) := IntWalk.i64_in _ (by omega)
  have hOb : dscB D = decide (B = 1) := by unfold dscB; rw [hE, hM, hH, hB]; cases h : decide (B = 1) <;> simp at h ⊢ <;> omega
  have u1 : IntKind.i64.wrap ((n1 : Int) - 1) = (D : Int) := by rw [show (n1 : Int) - 1 = (D : Int) by omega]; exact IntWalk.i64_in _ (by omega)
  have u2 : (n1 : Int) - 1 = (D : Int) := by omega
  have g1 : (D : Int) < (n1 : Int) := by omega
  have g2 : (0 : Int) ≤ (D : Int) := by omega
  have g3 : ((D : Int) == 0) = false := by simp; omega
  have Hu2 := hide u2
  have Hof := hide hf
  have Hpr := hide hpr
  have HV1 := hide (show B = 1 → dscV p f = opp p d0 from fun h => by unfold dscV; rw [HC.out, if_pos rfl, HFD.out, hOb, HDD.out]; simp [h])
  have HV2 := hide (show ¬ B = 1 → dscV p f = d0 from fun h => by unfold dscV; rw [HC.out, if_pos rfl, HFD.out, hOb, HDD.out]; simp [h])
  clear hc hf hpr h0 hcell ha hR hq hd0 hE hM hH hB hOb hW hD u2 hD1
  have hZ0 : Hid (List.replicate D (0 : Int) = tab D (cpH (derM p f) 0)) := hide (by
    apply ext_tab
    · rw [List.length_replicate, tab_len]
    · intro j hj
      rw [List.length_replicate] at hj
      rw [tab_at _ _ _ hj]
      simp [cpH, hj])
  have hkk : ¬ (n1 : Int) = 1 := by omega
  go_enter Try.func35, Try.ntmps35
  go_wp2_with fail
  refine (nzs1 p _ _ _ f 0 _ h1 b1 Hc.out).mono ?_
  rintro e w1 ⟨rfl, hb1⟩
  have s1 := h1.below hb1
  have hz1 := hb1.size
  go_wp2_with (at_make; refine wp_make rfl _ _ rfl _ _ D rfl rfl rfl rfl (by omega) ?_; intro w2 hrow hb hsz)
  refine (l01Derive_any p _ _ _ f _ (s1.below hb) (by omega) hp hp2 Hf.out).mono ?_
  rintro e w3 ⟨a3, c3, rfl, ho, hb3⟩
  have s3 := ho.sl
  have hR3 : Hid (RowI w3 w1.heap.size (tab D (cpH (derM p f) 0))) := hide (by have := hrow.out.next hb3; rwa [hZ0.out] at this)
  have hB3 : Below w1.heap.size w1 w3 := hb.trans (hb3.mono hb.size)
  have hsz3 : w1.heap.size < w3.heap.size := Nat.lt_of_lt_of_le hsz hb3.size
  have hDl := hide (derM_poly hp Hof.out)
  obtain ⟨K, hK⟩ : ∃ K, (derM p f).length = K := ⟨_, rfl⟩
  rw [hK] at s3 hdu ⊢
  have HK := hide hK
  have hcell3 : ∀ j, j < K → ∃ b3 o3, a3 = some ⟨b3, o3, none⟩ ∧ b3 < w3.heap.size ∧ w3.cell? ⟨b3, o3 + j, none⟩ = some (.int .i64 ((derM p f).getD j 0)) ∧ b3 ≠ w1.heap.size := fun j hj => by
    obtain ⟨b3, o3, h, h2, h3⟩ := s3.at (by omega)
    refine ⟨b3, o3, h, h2, h3 j hj, ?_⟩
    have := own_blk_ge ho b3 (by rw [h]; rfl)
    omega
  have Hc3 := hide hcell3
  clear hrow hZ0 hK ho s3 hcell3 hb hb3 hsz
  go_wp2
  go_loopw [10] (fun iv wr => ∃ i : Nat, i ≤ K ∧ iv = .int .i64 i ∧ Hid (RowI wr w1.heap.size (tab D (cpH (derM p f) i))) ∧ Below w1.heap.size w1 wr ∧ Hid (Touch w1.heap.size (w1.heap.size + 1) w3 wr)) (fun iv _ => K - (intOf iv).toNat)
  case atStart => exact ⟨0, by omega, rfl, hR3, hB3, hide (Touch.refl _ _ _)⟩
  case round =>
    obtain ⟨i, hi, rfl, hR, hBr, hT⟩ := hrel
    clear hR3 hB3
    by_cases hlt : i < K
    · have hlt' : (i : Int) < (K : Int) := by omega
      obtain ⟨b3, o3, rfl, hb3, hc3, hne⟩ := Hc3.out i hlt
      have e1 := hT.out.cell hc3 (by omega)
      have hfr := hR.out.free i
      have hcw := hR.out.cell i (by rw [tab_len]; omega)
      have hset := hR.out.set i ((derM p f).getD i 0)
      rw [cpH_step] at hset
      obtain ⟨old, hold⟩ : ∃ old, (tab D (cpH (derM p f) i)).getD i 0 = old := ⟨_, rfl⟩
      rw [hold] at hcw
      obtain ⟨x, hx⟩ : ∃ x, (derM p f).getD i 0 = x := ⟨_, rfl⟩
      rw [hx] at e1 hset
      have Hset := hide hset
      have q1 : (i : Int) < (D : Int) := by omega
      have q2 : (0 : Int) ≤ (i : Int) := by omega
      have vi : IntKind.i64.wrap ((i : Int) + 1) = (i : Int) + 1 := IntWalk.i64_in _ (by omega)
      have hBn := hBr.setCell (p := ⟨w1.heap.size, i, none⟩) (by simp) (.int .i64 x)
      have hTn := hide (hT.out.set (x := ⟨w1.heap.size, i, none⟩) (by simp) (by simp) (.int .i64 x))
      clear hset hx hold hR hT hc3
      go_wp2
      go_roundw
      case rel => exact ⟨i + 1, by omega, by go_num, Hset, hBn, hTn⟩
      case measure => simp [intOf]; omega
    · have hiK : i = K := by omega
      have hlt' : ¬ (i : Int) < (K : Int) := by omega
      have hRW : RowI wr w1.heap.size W := by
        have t := hR.out
        have e : tab D (cpH (derM p f) i) = W := by
          rw [HW.out]
          apply tab_congr
          intro j hj
          unfold cpH
          by_cases h : j < i
          · rw [if_pos h]
          · rw [if_neg h, getD_far (by have := HK.out; omega)]
        rwa [e] at t
      have sW : SL wr (some ⟨w1.heap.size, 0, none⟩) D D W := hRW.slN (by rw [HW.out, tab_len])
      have hB4 := hb1.trans (hBr.mono hz1)
      have s4 := h1.below hB4
      have e4 := cell_be hB4 e0
      have hbd := (Below.refl wr.heap.size wr).drew
      have F4 : ∀ w', Below wr.heap.size wr w' → w'.cell? ⟨b, off + D, none⟩ = some (.int .i64 a) := fun w' h => cell_be h e4
      have hzz := hB4.size
      clear hR hRW hT hiK
      go_upto_region 13 with fail
      go_cut [11] (fun dv wx => dv = .int .i64 d0 ∧ Below w.heap.size w wx)
      case first =>
        go_region_held3 (fun w' => w'.cell? ⟨b, off + D, none⟩ = some (.int .i64 a))
          (first | exact F4 _ (by assumption))
          (first
          | (go_at_call 80; refine (l06Sylvester_any p _ _ _ f _ _ _ W _ (s4.below hbd) (sW.below hbd) (by omega) (by omega) (by omega) (by omega) hp hp2 Hf.out HWa.out).mono ?_; rintro e w5 ⟨rfl, hb5⟩; have hm5 := bnext hbd hb5; rw [HR.out])
          | (go_at_call 72; refine (l01Inverse_any p a _ hp hp2 r0.1 r0.2).mono ?_; rintro e w6 ⟨rfl, rfl⟩; have hfin := hm5; rw [HQ.out])
          | (go_at_call 72; refine (l01Inverse_any p a _ hp hp2 r0.1 r0.2).mono ?_; rintro e w6 ⟨rfl, rfl⟩; have hm6 := hbd; rw [HQ.out])
          | (go_at_call 80; refine (l06Sylvester_any p _ _ _ f _ _ _ W _ (s4.below hm6) (sW.below hm6) (by omega) (by omega) (by omega) (by omega) hp hp2 Hf.out HWa.out).mono ?_; rintro e w5 ⟨rfl, hb5⟩; have hfin := bnext hm6 hb5; rw [HR.out]))
        all_goals
          go_wp2_with fail
          go_meet
          exact ⟨rfl, hB4.trans (hfin.mono hzz)⟩
      case rest =>
        obtain ⟨rfl, hBc⟩ := hcut
        clear F4 hbd e4 s4 sW v1 v2
        by_cases hq : B = 1
        · have hq' : ((B : Int) == 1) = true := by simp; omega
          have HV := hide (HV1.out hq)
          clear hq
          have oa := Lib.hid (opp_neg p d0)
          have vn : IntKind.i64.wrap (-d0) = -d0 := IntWalk.i64_in _ (by omega)
          go_wp2_with fail
          refine (l01Mod_any p (-d0) _ hp hp2 (by omega) (by omega)).mono ?_
          rintro e w7 ⟨rfl, rfl⟩
          rw [oa.out]
          obtain ⟨y, hy⟩ : ∃ y, opp p d0 = y := ⟨_, rfl⟩
          have Hy := hide hy
          rw [hy]
          clear hy
          go_wp2
          rw [HC.out, HV.out, Hy.out]
          go_ret2
          exact ⟨rfl, hBc⟩
        · have hq' : ((B : Int) == 1) = false := by simp; omega
          have HV := hide (HV2.out hq)
          clear hq
          go_wp2
          rw [HC.out, HV.out]
          go_ret2
          exact ⟨rfl, hBc⟩
end Go.Proofs.Ytnojmghmkoojfaa
